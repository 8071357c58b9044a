/- Pieces of a text (ossuarylaw7.pieces): a contract. -/
import Derived.Test.YtncehpbghnokpaaDoorKEnc
namespace Go.Proofs.YtncehpbghnokpaaDoor
open Go.RowKit
set_option linter.unusedVariables false
set_option linter.unusedSimpArgs false
def pcs (t : ByteArray) (m j : Nat) : List ByteArray := (List.range j).map fun i => t.extract (m * i) (m * i + m)
theorem pcs_len (t : ByteArray) (m j : Nat) : (pcs t m j).length = j := by simp [pcs]
theorem pcs_snoc (t : ByteArray) (m j : Nat) : pcs t m (j + 1) = pcs t m j ++ [t.extract (m * j) (m * j + m)] := by
  unfold pcs
  rw [List.range_succ, List.map_append]
  rfl
theorem run_slice_lh {P : Program} (w : World) (t : TypeId) (s : ByteArray) (ht : P.underlying t = some .string) (lo hi : Nat) (H : Int) (hH : H = (hi : Int)) (h1 : lo ≤ hi) (h2 : hi ≤ s.size) :
    (Instr.slice t (.string s) (some (.int .i64 (lo : Int))) (some (.int .i64 H)) none).run P w = .ok (.string (s.extract lo hi)) w := by
  subst hH
  have e1 : (lo : Int) ≤ hi := by omega
  have e2 : (hi : Int) ≤ s.size := by omega
  simp [Instr.slice, run_underlying ht, Instr.sliceBounds, run_sliceBound, sliced, e1, e2, h1, h2]
def pcm (t : ByteArray) (k : Nat) : Nat := min (t.size / k) 60
set_option maxRecDepth 100000 in
set_option maxHeartbeats 2000000 in
theorem pieces_any (t : ByteArray) (k : Nat) (w : World) (h1 : 1 ≤ k) (h2 : k ≤ 4) (ht : t.size ≤ 140737488351232) :
    Calls Tryd.prog 13 #[.string t, .int .i64 k] w fun e w' => ∃ v, e = .returned v ∧ OwnL w' w.heap.size 9 v ((pcs t (pcm t k) k).map Value.string) ∧ Below w.heap.size w w' := by
  have hk0 : ¬ (k : Int) = 0 := by omega
  have hk1 : (0 : Int) < k := by omega
  obtain ⟨q, eq0⟩ : ∃ q : Nat, q = t.size / k := ⟨_, rfl⟩
  have hq : (t.size : Int) / (k : Int) = (q : Int) := by rw [eq0]; rfl
  have hqk : q * k ≤ t.size := by rw [eq0]; exact Nat.div_mul_le_self _ _
  have hqt : q ≤ 140737488351232 := by have := Nat.div_le_self t.size k; omega
  by_cases hs : q ≤ 60
  · have em : pcm t k = q := by unfold pcm; rw [← eq0]; exact Nat.min_eq_left hs
    rw [em]
    have HQ := hide hqk
    have hs' : (q : Int) ≤ 60 := by omega
    clear eq0 em hqk
    go_enter Tryd.func13, Tryd.ntmps13
    go_wp2
    go_loopw [6, 7] (fun ov iv wr => ∃ j : Nat, j ≤ k ∧ iv = .int .i64 j ∧ Hid (OwnL wr w.heap.size 9 ov ((pcs t q j).map Value.string)) ∧ Hid (Below w.heap.size w wr)) (fun _ iv _ => k - (intOf iv).toNat)
    case atStart => exact ⟨0, by omega, rfl, hide (OwnL.nil _ _ _), hide (Below.refl _ _)⟩
    case round =>
      obtain ⟨j, hj, rfl, HO, HW⟩ := hrel
      obtain ⟨pv, cv, ev⟩ := (unhide HO).form
      rw [List.length_map, pcs_len] at ev
      subst ev
      have hszW := (unhide HW).size
      by_cases hlt : j < k
      · have hlt' : (j : Int) < k := by omega
        obtain ⟨lo, elo⟩ : ∃ lo : Nat, lo = q * j := ⟨_, rfl⟩
        have hlo : (q : Int) * (j : Int) = (lo : Int) := by rw [elo]; simp
        have hhi : lo + q ≤ t.size := by
          rw [elo]
          have a1 : q * j + q = q * (j + 1) := by rw [Nat.mul_add, Nat.mul_one]
          have a2 : q * (j + 1) ≤ q * k := Nat.mul_le_mul_left _ hlt
          have a3 := unhide HQ
          omega
        have ELO := hide elo
        clear elo
        have hsl := fun w => run_slice_lh (P := Tryd.prog) w 9 t Tryd.underlying9 lo (lo + q) ((lo : Int) + (q : Int)) (by omega) (by omega) hhi
        go_wp2_with (at_builtin; refine wpList_push wr (by rfl) (.tmp 18) (.tmp 29) 24 (by rfl) w.heap.size 9 (.string ByteArray.empty) 16 Tryd.underlying24 Tryd.infoText rfl _ _ (by rfl) (unhide HO) _ (by rfl) (by rfl) (by simp [pcs_len]; omega) (by omega) hszW ?_; intro v1 wa O1 P1; have HBa := hide (P1.below (unhide HO) (unhide HW) (Nat.le_refl _) hszW); have HO1 := hide O1; clear O1 P1 HO HW)
        go_roundw
        case rel =>
          refine ⟨j + 1, by omega, by go_num, hide ?_, HBa⟩
          have := unhide HO1
          rw [pcs_snoc, List.map_append, ← unhide ELO]
          exact this
        case measure => simp [intOf]; omega
      · have hlt' : ¬ (j : Int) < k := by omega
        obtain rfl : j = k := by omega
        go_wp2
        go_ret
        exact ⟨_, rfl, unhide HO, unhide HW⟩
  · have em : pcm t k = 60 := by unfold pcm; rw [← eq0]; exact Nat.min_eq_right (by omega)
    rw [em]
    have HQ : Hid (60 * k ≤ t.size) := hide (by have : 60 * k ≤ q * k := Nat.mul_le_mul_right _ (by omega); omega)
    have hs' : ¬ (q : Int) ≤ 60 := by omega
    clear eq0 em hqk
    go_enter Tryd.func13, Tryd.ntmps13
    go_wp2
    go_loopw [6, 7] (fun ov iv wr => ∃ j : Nat, j ≤ k ∧ iv = .int .i64 j ∧ Hid (OwnL wr w.heap.size 9 ov ((pcs t 60 j).map Value.string)) ∧ Hid (Below w.heap.size w wr)) (fun _ iv _ => k - (intOf iv).toNat)
    case atStart => exact ⟨0, by omega, rfl, hide (OwnL.nil _ _ _), hide (Below.refl _ _)⟩
    case round =>
      obtain ⟨j, hj, rfl, HO, HW⟩ := hrel
      obtain ⟨pv, cv, ev⟩ := (unhide HO).form
      rw [List.length_map, pcs_len] at ev
      subst ev
      have hszW := (unhide HW).size
      by_cases hlt : j < k
      · have hlt' : (j : Int) < k := by omega
        obtain ⟨lo, elo⟩ : ∃ lo : Nat, lo = 60 * j := ⟨_, rfl⟩
        have hlo : (60 : Int) * (j : Int) = (lo : Int) := by rw [elo]; simp
        have hhi : lo + 60 ≤ t.size := by
          rw [elo]
          have a1 : 60 * j + 60 = 60 * (j + 1) := by rw [Nat.mul_add, Nat.mul_one]
          have a2 : 60 * (j + 1) ≤ 60 * k := Nat.mul_le_mul_left _ hlt
          have a3 := unhide HQ
          omega
        have ELO := hide elo
        clear elo
        have hsl := fun w => run_slice_lh (P := Tryd.prog) w 9 t Tryd.underlying9 lo (lo + 60) ((lo : Int) + 60) (by omega) (by omega) hhi
        go_wp2_with (at_builtin; refine wpList_push wr (by rfl) (.tmp 18) (.tmp 29) 24 (by rfl) w.heap.size 9 (.string ByteArray.empty) 16 Tryd.underlying24 Tryd.infoText rfl _ _ (by rfl) (unhide HO) _ (by rfl) (by rfl) (by simp [pcs_len]; omega) (by omega) hszW ?_; intro v1 wa O1 P1; have HBa := hide (P1.below (unhide HO) (unhide HW) (Nat.le_refl _) hszW); have HO1 := hide O1; clear O1 P1 HO HW)
        go_roundw
        case rel =>
          refine ⟨j + 1, by omega, by go_num, hide ?_, HBa⟩
          have := unhide HO1
          rw [pcs_snoc, List.map_append, ← unhide ELO]
          exact this
        case measure => simp [intOf]; omega
      · have hlt' : ¬ (j : Int) < k := by omega
        obtain rfl : j = k := by omega
        go_wp2
        go_ret
        exact ⟨_, rfl, unhide HO, unhide HW⟩
end Go.Proofs.YtncehpbghnokpaaDoor
