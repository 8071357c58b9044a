/- The program's frames: read. -/
import Derived.Test.YtmphbajnadbggaaFramePut
import Derived.Test.YtmphbajnadbggaaPieces
namespace Go.Proofs.Ytmphbajnadbggaa
open Go.RowKit
set_option linter.unusedVariables false
set_option linter.unusedSimpArgs false
/-- a row of c numbers of which the first k were read -/
def rdL (t : ByteArray) (c k : Nat) : List Int := getPath t k ++ List.replicate (c - k) 0
theorem rdL_len (t : ByteArray) (c k : Nat) (h : k ≤ c) : (rdL t c k).length = c := by rw [rdL, List.length_append, getPath_len, List.length_replicate]; omega
theorem rdL_zero (t : ByteArray) (c : Nat) : rdL t c 0 = List.replicate c 0 := by simp [rdL, getPath]
theorem rdL_end (t : ByteArray) (c : Nat) : rdL t c c = getPath t c := by simp [rdL]
theorem rdL_set (t : ByteArray) (c k : Nat) (h : k < c) : (rdL t c k).set k ((fourAt t k : Nat) : Int) = rdL t c (k + 1) := by
  have e : c - k = (c - (k + 1)) + 1 := by omega
  unfold rdL
  rw [e, List.replicate_succ, List.set_append_right _ _ (by rw [getPath_len]; exact Nat.le_refl _), getPath_len, Nat.sub_self, List.set_cons_zero, getPath_succ, List.append_assoc]
  rfl
theorem slice4r (t : ByteArray) (k : Nat) (h : t.size = 64) (hk : k < 3) (w : World) : (Instr.slice 9 (.string t) (some (.int .i64 (36 + (k : Int) * 4))) (some (.int .i64 (36 + (k : Int) * 4 + 4))) none).run Try.prog w = .ok (.string (t.extract (36 + 4 * k) (40 + 4 * k))) w := by
  rw [Int.mul_comm]
  exact slice4 t k h hk w
set_option maxRecDepth 100000 in
set_option maxHeartbeats 2000000 in
theorem frRead_yes (t : ByteArray) (c : Nat) (w : World) (h64 : t.size = 64) (hc : (byts t).getD 3 0 = c) (hc3 : c ≤ 3) :
    Calls Try.prog 43 #[.string t] w fun e w' => e = .returned (.tuple #[.string (t.extract 4 36), .slice (some ⟨w.heap.size, 0, none⟩) c c, .nilIface]) ∧ OwnL w' w.heap.size 3 (.slice (some ⟨w.heap.size, 0, none⟩) c c) ((getPath t c).map (Value.int .i64)) ∧ Below w.heap.size w w' := by
  have hsl0 : ∀ w, (Instr.slice 9 (.string t) (some (.int .i64 4)) (some (.int .i64 36)) none).run Try.prog w = .ok (.string (t.extract 4 36)) w := fun w => run_slice_lh w 9 t Try.underlying9 4 36 36 rfl (by decide) (by omega)
  have h3 : 3 < t.size := by omega
  have ecI : (((t[3]'h3).toNat : Nat) : Int) = (c : Int) := by rw [← hc, byts_get t 3 h3]
  have hwc : wrap64 (c : Int) = (c : Int) := by unfold wrap64; omega
  have hmk := fun w => run_make_row' (P := Try.prog) 22 3 (.int .i64 0) 8 Try.underlying22 Try.infoInt rfl .i64 .i64 c (by omega) (by omega) w
  have t64 : ((t.size : Int) != 64) = false := by rw [h64]; rfl
  have tc3 : ¬ ((3 : Int) < c) := by omega
  have HO := hide (own_mkI w w.heap.size c 3 (Nat.le_refl _) (by unfold maxLen; omega))
  have HB := hide (below_alloc w (.cells (madeCells #[.int .i64 0] c) 3))
  have H64 := hide h64
  have HC := hide hc
  clear hc
  go_enter Try.func43, Try.ntmps43
  go_wp2
  clear hmk
  go_loopw [25] (fun iv wr => ∃ k : Nat, k ≤ c ∧ iv = .int .i64 k ∧ Hid (OwnL wr w.heap.size 3 (.slice (some ⟨w.heap.size, 0, none⟩) c c) ((rdL t c k).map (Value.int .i64))) ∧ Hid (Below w.heap.size w wr)) (fun iv _ => c - (intOf iv).toNat)
  case atStart => exact ⟨0, by omega, rfl, hide (by rw [rdL_zero]; exact unhide HO), HB⟩
  case round =>
    clear HO HB
    obtain ⟨k, hk, rfl, HO, HB⟩ := hrel
    by_cases hlt : k < c
    · have hlt' : (k : Int) < c := by omega
      have c1 := own_cell (unhide HO) k (by rw [rdL_len t c k (by omega)]; exact hlt)
      have f1 := own_free (unhide HO) k
      obtain ⟨y, ey⟩ : ∃ y, y = (rdL t c k).getD k 0 := ⟨_, rfl⟩
      rw [← ey] at c1
      clear ey
      have hs4 := slice4r t k h64 (by omega)
      have hz4 := ext4_size t k h64 (by omega)
      obtain ⟨s4, es4⟩ : ∃ s4, s4 = t.extract (36 + 4 * k) (40 + 4 * k) := ⟨_, rfl⟩
      rw [← es4] at hs4 hz4
      obtain ⟨z, ez⟩ : ∃ z, z = numL (byts s4) := ⟨_, rfl⟩
      have ef : fourAt t k = z := by rw [ez, es4]; rfl
      have HP := own_put (unhide HO) k (.int .i64 (z : Int))
      rw [← List.map_set, ← ef, rdL_set t c k hlt, ef] at HP
      have HP' := hide HP
      clear es4 ef HP HO
      go_wp2_with fail
      refine (litNumber_any s4 (by omega) _).mono ?_
      rintro e w1 ⟨rfl, hw1⟩
      subst hw1
      rw [← ez]
      clear ez
      go_wp2
      refine ⟨⟨k + 1, by omega, by go_num, HP', hide ((unhide HB).setCell (Nat.le_refl _) _)⟩, by simp [intOf]; omega⟩
    · obtain rfl : k = c := by omega
      rw [rdL_end] at HO
      go_wp2
      exact bodyPost_ret (v := .tuple #[.string (t.extract 4 36), .slice (some ⟨w.heap.size, 0, none⟩) k k, .nilIface]) (by simp [results, Try.results43, go_sem] <;> rfl) rfl ⟨rfl, unhide HO, unhide HB⟩
set_option maxRecDepth 100000 in
set_option maxHeartbeats 2000000 in
theorem frRead_no (t : ByteArray) (w : World) (h : ¬ (t.size = 64 ∧ (byts t).getD 3 0 ≤ 3)) :
    Calls Try.prog 43 #[.string t] w fun e w' => ∃ r, e = .returned (.tuple #[.string ByteArray.empty, .slice none 0 0, refV r (errN 1400)]) ∧ w' = w := by
  by_cases h64 : t.size = 64
  · have h3 : 3 < t.size := by omega
    obtain ⟨c, hc⟩ : ∃ c, c = (byts t).getD 3 0 := ⟨_, rfl⟩
    have ecI : (((t[3]'h3).toNat : Nat) : Int) = (c : Int) := by rw [hc, byts_get t 3 h3]
    have hcb : c < 256 := by rw [hc, byts_get t 3 h3]; exact UInt8.toNat_lt _
    have hwc : wrap64 (c : Int) = (c : Int) := by unfold wrap64; omega
    have tc3 : (3 : Int) < c := by omega
    have t64 : ((t.size : Int) != 64) = false := by rw [h64]; rfl
    clear h hc
    go_enter Try.func43, Try.ntmps43
    go_wp2_with (go_at_call 62; refine (refusalOf_err _ _ _ _).mono ?_; rintro e w' ⟨rfl, hw'⟩; rw [hw']; clear hw' w')
    exact bodyPost_ret (v := .tuple #[.string ⟨#[]⟩, .slice none 0 0, refV ⟨#[112, 97, 116, 104]⟩ (.iface 24 (.int .i64 1400))]) (by simp [results, Try.results43, go_sem]) rfl ⟨_, rfl, rfl⟩
  · have t64 : ((t.size : Int) != 64) = true := by simp; omega
    clear h h64
    go_enter Try.func43, Try.ntmps43
    go_wp2_with (go_at_call 62; refine (refusalOf_err _ _ _ _).mono ?_; rintro e w' ⟨rfl, hw'⟩; rw [hw']; clear hw' w')
    exact bodyPost_ret (v := .tuple #[.string ⟨#[]⟩, .slice none 0 0, refV ⟨#[115, 101, 99, 116, 111, 114]⟩ (.iface 24 (.int .i64 1400))]) (by simp [results, Try.results43, go_sem]) rfl ⟨_, rfl, rfl⟩
end Go.Proofs.Ytmphbajnadbggaa
