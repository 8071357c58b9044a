/- The document's own leaves (ossuaryref1). -/
import Derived.Test.YtmphbajnadbggabTreeRef2
import Derived.Test.YtmphbajnadbggabPieces2
namespace Go.Proofs.Ytmphbajnadbggab
open Go.RowKit
set_option linter.unusedVariables false
set_option linter.unusedSimpArgs false
/-- the i-th block of a text -/
def blk (s : ByteArray) (i : Nat) : ByteArray := s.extract (8 * i) (min (8 * i + 8) s.size)
def leavesTo (s : ByteArray) (j : Nat) : List Nat := (List.range j).map fun i => Seal.of (byts (blk s i))
/-- the leaves of a text -/
def leavesL (s : ByteArray) : List Nat := leavesTo s ((s.size + 7) / 8)
theorem leavesTo_len (s : ByteArray) (j : Nat) : (leavesTo s j).length = j := by simp [leavesTo]
theorem leavesTo_snoc (s : ByteArray) (j : Nat) : leavesTo s (j + 1) = leavesTo s j ++ [Seal.of (byts (blk s j))] := by
  unfold leavesTo
  rw [List.range_succ, List.map_append]
  rfl
set_option maxRecDepth 100000 in
set_option maxHeartbeats 2000000 in
theorem refLeaves_any (s : ByteArray) (w : World) (hs : s.size ≤ 140737488351232) : Calls Try.prog 8 #[.string s] w fun e w' => ∃ v, e = .returned v ∧ OwnL w' w.heap.size 3 v ((nint (leavesL s)).map (Value.int .i64)) ∧ Below w.heap.size w w' := by
  go_enter Try.func8, Try.ntmps8
  go_wp2
  go_loopw [3, 4] (fun ov iv wr => ∃ j lo : Nat, lo = 8 * j ∧ j ≤ (s.size + 7) / 8 ∧ iv = .int .i64 lo ∧ Hid (OwnL wr w.heap.size 3 ov ((nint (leavesTo s j)).map (Value.int .i64))) ∧ Hid (Below w.heap.size w wr)) (fun _ iv _ => s.size - (intOf iv).toNat)
  case atStart => exact ⟨0, 0, rfl, by omega, rfl, hide (OwnL.nil _ _ _), hide (Below.refl _ _)⟩
  case round =>
    obtain ⟨j, lo, hlo, hj, rfl, HO, HW⟩ := hrel
    obtain ⟨pv, cv, ev⟩ := (unhide HO).form
    rw [List.length_map, nint_len, leavesTo_len] at ev
    subst ev
    have hszW := (unhide HW).size
    have HLO := hide hlo
    clear hlo
    by_cases hlt : lo < s.size
    · have hlt' : (lo : Int) < s.size := by omega
      obtain ⟨hi, ehi⟩ : ∃ hi : Nat, hi = min (lo + 8) s.size := ⟨_, rfl⟩
      have h1 : lo ≤ hi := by omega
      have h2 : hi ≤ s.size := by omega
      have hmin := fun w => run_min_of (P := Try.prog) #[3, 3] 3 ((lo : Int) + 8) (s.size : Int) hi (by split <;> omega) w
      have hsl := fun w => run_slice_lh (P := Try.prog) w 9 s Try.underlying9 lo hi (hi : Int) rfl h1 h2
      obtain ⟨x, ex⟩ : ∃ x, x = s.extract lo hi := ⟨_, rfl⟩
      rw [← ex] at hsl
      have hxs : x.size ≤ 140737488351232 := by rw [ex, ByteArray.size_extract]; omega
      have eblk : x = blk s j := by rw [ex, ehi]; unfold blk; rw [← unhide HLO]
      have EB := hide eblk
      obtain ⟨y, ey⟩ : ∃ y, y = Seal.of (byts x) := ⟨_, rfl⟩
      have EY := hide ey
      have hjs : 8 * j < s.size := by have := unhide HLO; omega
      clear ex ehi eblk ey
      go_wp2_with fail
      refine (refOf_any x _ hxs).mono ?_
      rintro e w1 ⟨rfl, rfl⟩
      rw [← unhide EY]
      go_wp2_with (at_builtin; refine wpList_push w1 (by rfl) (.tmp 11) (.tmp 21) 26 (by rfl) w.heap.size 3 (.int .i64 0) 8 Try.underlying26 Try.infoInt rfl _ _ (by rfl) (unhide HO) _ (by rfl) (by rfl) (by simp [nint_len, leavesTo_len]; omega) (by omega) hszW ?_; intro v1 wa O1 P1; have HBa := hide (P1.below (unhide HO) (unhide HW) (Nat.le_refl _) hszW); have HO1 := hide O1; clear O1 P1 HO HW)
      go_roundw
      case rel =>
        refine ⟨j + 1, lo + 8, by have := unhide HLO; omega, by omega, by go_num, hide ?_, HBa⟩
        have := unhide HO1
        rw [leavesTo_snoc, ← unhide EB, ← unhide EY]
        simpa [nint] using this
      case measure => simp [intOf]; omega
    · have hlt' : ¬ (lo : Int) < s.size := by omega
      have hje : j = (s.size + 7) / 8 := by have := unhide HLO; omega
      have HJE := hide hje
      clear hje
      go_wp2
      go_ret
      refine ⟨_, rfl, ?_, unhide HW⟩
      have e : leavesL s = leavesTo s j := by unfold leavesL; rw [← unhide HJE]
      rw [e]
      exact unhide HO
end Go.Proofs.Ytmphbajnadbggab
