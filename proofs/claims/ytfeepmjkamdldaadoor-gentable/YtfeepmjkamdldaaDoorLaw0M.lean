/- What the statements need of ossuarylaw0 on matrices: contracts, one a function. -/
import Derived.Test.YtfeepmjkamdldaaDoorLaw0
import Derived.Test.YtfeepmjkamdldaaDoorMat
namespace Go.Proofs.YtfeepmjkamdldaaDoor
open Go.RowKit
set_option linter.unusedVariables false
set_option linter.unusedSimpArgs false
set_option maxRecDepth 100000 in
theorem sameMatrix_len (a a' : Option Addr) (n n' ca cb : Nat) (w : World) (h : n ≠ n') :
   Calls Tryd.prog 11 #[.agg #[.slice a n ca], .agg #[.slice a' n' cb]] w fun e w' => e = .returned (.bool false) ∧ Below w.heap.size w w' := by
  have ht : ((n : Int) != (n' : Int)) = true := by simp; omega
  go_enter Tryd.func11, Tryd.ntmps11
  go_wp2
  go_ret
  exact ⟨rfl, below_two _ _ _⟩
set_option maxRecDepth 100000 in
theorem sameMatrix_none (a a' : Option Addr) (ca cb : Nat) (w : World) :
   Calls Tryd.prog 11 #[.agg #[.slice a 0 ca], .agg #[.slice a' 0 cb]] w fun e w' => e = .returned (.bool true) ∧ Below w.heap.size w w' := by
  go_enter Tryd.func11, Tryd.ntmps11
  go_wp2
  go_rounds 1
  go_ret
  exact ⟨rfl, below_two _ _ _⟩
set_option maxRecDepth 100000 in
set_option maxHeartbeats 1000000 in
theorem sameMatrix_some (b off b' off' ca cb n : Nat) (A B : List (List Int)) (w : World) (hA : A.length = n) (hB : B.length = n) (hn : n ≤ maxLen)
   (hc : ∀ i, i < n → ∃ u, w.cell? ⟨b, off + i, none⟩ = some u ∧ RowV w u (A.getD i [])) (hd : ∀ i, i < n → ∃ u, w.cell? ⟨b', off' + i, none⟩ = some u ∧ RowV w u (B.getD i [])) :
   Calls Tryd.prog 11 #[.agg #[.slice (some ⟨b, off, none⟩) n ca], .agg #[.slice (some ⟨b', off', none⟩) n cb]] w fun e w' => e = .returned (.bool (A == B)) ∧ Below w.heap.size w w' := by
  have HC := hide hc
  have HD := hide hd
  clear hc hd
  unfold maxLen at hn
  have hbox := below_two w (.cells #[.slice (some ⟨b, off, none⟩) n ca] 26) (.cells #[.slice (some ⟨b', off', none⟩) n cb] 26)
  go_enter Tryd.func11, Tryd.ntmps11
  go_wp2
  obtain ⟨W, eW⟩ : ∃ W, W = (w.alloc (.cells #[.slice (some ⟨b, off, none⟩) n ca] 26)).alloc (.cells #[.slice (some ⟨b', off', none⟩) n cb] 26) := ⟨_, rfl⟩
  have cb1 : W.cell? ⟨w.heap.size, 0, none⟩ = some (.slice (some ⟨b, off, none⟩) n ca) := by rw [eW]; simp [go_sem]
  have cb2 : W.cell? ⟨w.heap.size + 1, 0, none⟩ = some (.slice (some ⟨b', off', none⟩) n cb) := by rw [eW]; simp [go_sem]
  rw [← eW] at hbox ⊢
  clear eW
  have HB := hide hbox
  clear hbox
  go_loopw [5] (fun i wr => ∃ k : Nat, k ≤ n ∧ i = .int .i64 k ∧ Hid (A.take k = B.take k) ∧ Hid (∃ m, wr = W.drewN m)) (fun i _ => n - (intOf i).toNat)
  case atStart => exact ⟨0, by omega, rfl, rfl, ⟨0, rfl⟩⟩
  case round =>
    obtain ⟨k, hk, rfl, he, HW⟩ := hrel
    have hbw : Below W.heap.size W wr := by obtain ⟨m, e⟩ := unhide HW; rw [e]; exact below_drewN _ _ _
    have HBW := hide (bt (unhide HB) hbw)
    have cb1' : wr.cell? ⟨w.heap.size, 0, none⟩ = some (.slice (some ⟨b, off, none⟩) n ca) := (hbw.cell (cell_lt cb1)).trans cb1
    have cb2' : wr.cell? ⟨w.heap.size + 1, 0, none⟩ = some (.slice (some ⟨b', off', none⟩) n cb) := (hbw.cell (cell_lt cb2)).trans cb2
    clear cb1 cb2 hbw
    by_cases hlt : k < n
    · have hlt' : (k : Int) < n := by omega
      obtain ⟨u, hu, x, nx, cx, rfl, hnx, hx⟩ := unhide HC k hlt
      obtain ⟨v, hv, y, ny, cy, rfl, hny, hy⟩ := unhide HD k hlt
      have h1 := ((unhide HBW).cell (cell_lt hu)).trans hu
      have h2 := ((unhide HBW).cell (cell_lt hv)).trans hv
      obtain ⟨ra, ea⟩ : ∃ r, r = A.getD k [] := ⟨_, rfl⟩
      obtain ⟨rb, eb⟩ : ∃ r, r = B.getD k [] := ⟨_, rfl⟩
      rw [← ea] at hx
      rw [← eb] at hy
      have EA := hide ea
      have EB := hide eb
      have HX := hide (hx.below (unhide HBW))
      have HY := hide (hy.below (unhide HBW))
      have HN := hide hnx
      clear hu hv hx hy hnx hny ea eb
      go_wp2
      go_quiet ((go_at_call 31; exact Calls.quiet_of (sameInts_any _ _ _ _ _ _ _ _ _ ((unhide HX).below (below_drewN _ _ _)) ((unhide HY).below (below_drewN _ _ _)) (unhide HN))))
      go_wp2
      · have hq : (!ra == rb) = true := by assumption
        have HR : (A == B) = false := by
          rw [beq_eq_false_iff_ne]
          intro e
          rw [unhide EA, unhide EB, e] at hq
          simp at hq
        go_ret
        exact ⟨ret_bool HR.symm, bt (unhide HBW) (below_drewN _ _ _)⟩
      · have hq : (!ra == rb) = false := by assumption
        go_roundw
        case rel =>
          refine ⟨k + 1, by omega, by go_num, take_snoc_eq (by omega) (by omega) (unhide he) ?_, ?_⟩
          · have : ra = rb := by simpa using hq
            rw [unhide EA, unhide EB] at this
            simpa [List.getD, List.getElem?_eq_getElem (show k < A.length by omega), List.getElem?_eq_getElem (show k < B.length by omega)] using this
          · obtain ⟨m, e⟩ := unhide HW
            exact ⟨m + nq, by rw [e]; simp⟩
        case measure => simp [intOf]; omega
    · have hlt' : ¬ (k : Int) < n := by omega
      obtain rfl : k = n := by omega
      have HR : Hid ((A == B) = true) := hide (by rw [beq_iff_eq]; exact take_eq_len hA hB (unhide he))
      go_wp2
      go_ret
      exact ⟨ret_bool (unhide HR).symm, unhide HBW⟩
theorem sameMatrix_any (v v' : Value) (A B : List (List Int)) (w : World) (hA : MatV w v A) (hB : MatV w v' B) :
   Calls Tryd.prog 11 #[v, v'] w fun e w' => e = .returned (.bool (A == B)) ∧ Below w.heap.size w w' := by
  obtain ⟨a, n, ca, rfl, RA⟩ := hA
  obtain ⟨a', n', cb, rfl, RB⟩ := hB
  have lA : A.length = n := by obtain ⟨_, h, _⟩ := RA; exact h
  have lB : B.length = n' := by obtain ⟨_, h, _⟩ := RB; exact h
  have hn : n ≤ maxLen := by obtain ⟨_, _, h, _⟩ := RA; exact h
  by_cases hl : n = n'
  · subst hl
    by_cases h0 : n = 0
    · subst h0
      refine (sameMatrix_none a a' ca cb w).mono ?_
      rintro e w' ⟨rfl, hb⟩
      rw [List.length_eq_zero_iff.1 lA, List.length_eq_zero_iff.1 lB]
      exact ⟨rfl, hb⟩
    · rcases RA.two with h | ⟨b, off, rfl, hc⟩
      · exact absurd h h0
      · rcases RB.two with h | ⟨b', off', rfl, hd⟩
        · exact absurd h h0
        · exact sameMatrix_some b off b' off' ca cb n A B w lA lB hn hc hd
  · refine (sameMatrix_len a a' n n' ca cb w hl).mono ?_
    rintro e w' ⟨rfl, hb⟩
    exact ⟨ret_bool (beq_len_ne (by omega)).symm, hb⟩
end Go.Proofs.YtfeepmjkamdldaaDoor
