/- The program's path of a block, with the shard's behind it. -/
import Derived.Test.YtmphbajnadbggabConcatI
import Derived.Test.YtmphbajnadbggabProofMath3
import Derived.Test.YtmphbajnadbggabProofWalk
namespace Go.Proofs.Ytmphbajnadbggab
open Go.RowKit
set_option linter.unusedVariables false
set_option linter.unusedSimpArgs false
set_option maxRecDepth 100000 in
set_option maxHeartbeats 2000000 in
theorem pathUp_any (a : Option Addr) (n c : Nat) (l : List Nat) (b : Nat) (pa : Option Addr) (pn pc : Nat) (p : List Int) (w : World) (hI : Ints w a n c (nint l)) (hP : Ints w pa pn pc p) (hb : b < n) (hn : n ≤ 64) (hm : Tree.May l) (hp : pn ≤ 64) :
    Calls Try.prog 21 #[.slice a n c, .int .i64 b, .slice pa pn pc] w fun e w' => ∃ v, e = .returned v ∧ OwnL w' w.heap.size 3 v ((nint (Tree.path l b) ++ p).map (Value.int .i64)) ∧ Below w.heap.size w w' := by
  have hl : l.length = n := by rw [← nint_len]; exact hI.1
  have hpl := hP.1
  have H := hide (proofPath_any a n c (nint l) (b : Int) w hI (by omega))
  have HP := hide hP
  have ePP := pathP_nint (l := l) (i := b) (by omega) (by omega) (by omega) hm
  rw [ePP] at H
  obtain ⟨P, eP⟩ : ∃ P, P = nint (Tree.path l b) := ⟨_, rfl⟩
  rw [← eP] at H ⊢
  have hPl : P.length < 64 := by
    rw [eP, nint_len, Tree.path_len n l b hl (by omega)]
    have := Tree.depth_le n b (by omega) hb
    omega
  clear hI hP ePP eP hm hl
  go_enter Try.func21, Try.ntmps21
  go_wp2_with fail
  refine (unhide H).mono ?_
  rintro e w1 ⟨v1, rfl, O1, b1⟩
  obtain ⟨p1, c1, e1, S1⟩ := O1.ints
  obtain ⟨m, em⟩ : ∃ m, m = P.length := ⟨_, rfl⟩
  rw [← em] at e1 S1
  subst e1
  have HS := hide S1
  have HP1 := hide ((unhide HP).below b1)
  have HB1 := hide b1
  have EM := hide em
  clear b1 O1 S1 em
  go_wp2_with fail
  have hA := below_alloc w1 (.cells #[.slice p1 m c1, .slice pa pn pc] 26)
  have hrow := heap_alloc_new w1 (.cells #[.slice p1 m c1, .slice pa pn pc] 26)
  refine (concatI_any w1.heap.size 0 2 2 (fun i => if i = 0 then p1 else pa) (fun i => if i = 0 then c1 else pc) [P, p] _ rfl (by decide) ?_ ?_ ?_).mono ?_
  · intro i hi
    have : i = 0 ∨ i = 1 := by omega
    rcases this with rfl | rfl
    · rw [cell_of_row _ _ (0 + 0) _ _ _ hrow, show ([P, p].getD 0 []).length = m from (unhide EM).symm]; rfl
    · rw [cell_of_row _ _ (0 + 1) _ _ _ hrow, show ([P, p].getD 1 []).length = pn from hpl]; rfl
  · intro i hi
    have : i = 0 ∨ i = 1 := by omega
    rcases this with rfl | rfl
    · rw [show ([P, p].getD 0 []).length = m from (unhide EM).symm]; exact (unhide HS).below hA
    · rw [show ([P, p].getD 1 []).length = pn from hpl]; exact (unhide HP1).below hA
  · simp only [List.flatten_cons, List.flatten_nil, List.append_nil, List.length_append]; omega
  · rintro e w2 ⟨v2, rfl, O2, b2⟩
    have HO2 := hide O2
    have HB2 := hide (bt (unhide HB1) (bt hA b2))
    clear O2 b2 hA hrow
    go_wp2
    go_ret
    refine ⟨_, rfl, ?_, unhide HB2⟩
    have h := (unhide HO2).mono (B' := w.heap.size) (by have := (unhide HB1).size; simp; omega)
    simpa using h
end Go.Proofs.Ytmphbajnadbggab
