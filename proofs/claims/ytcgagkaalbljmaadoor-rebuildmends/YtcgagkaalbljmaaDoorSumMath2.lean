/- Shards of one length, enough of them there: something is decoded. -/
import Derived.Test.YtcgagkaalbljmaaDoorSumMath
namespace Go.Proofs.YtcgagkaalbljmaaDoor
open Go.RowKit
set_option linter.unusedVariables false
set_option linter.unusedSimpArgs false
open Vec (alikeTo numsTo May)
theorem had_size {xs : List ByteArray} {bs : List Bool} {z : Nat} (hx : ∀ i, i < bs.length → (xs.getD i ByteArray.empty).size = z) : ∀ i, i < (hadL bs xs bs.length).length → ((hadL bs xs bs.length).getD i ByteArray.empty).size = z := fun i hi => by
  rw [hadL_len] at hi
  have e : (hadL bs xs bs.length).getD i ByteArray.empty = xs.getD ((rowsL bs bs.length)[i]) ByteArray.empty := by simp [hadL, List.getD, List.getElem?_eq_getElem hi]
  rw [e]
  exact hx _ (List.mem_range.1 (List.mem_filter.1 (List.getElem_mem hi)).1)
theorem decForm_all {d p z : Nat} {xs : List ByteArray} {bs : List Bool} (h1 : 1 ≤ d) (h2 : d ≤ 4) (h3 : p ≤ 2) (hl : bs.length = d + p) (hlx : xs.length = d + p) (h4 : z ≤ 4096) (hx : ∀ i, i < d + p → (xs.getD i ByteArray.empty).size = z) : DecForm d p xs bs := by
  have hs := had_size (xs := xs) (bs := bs) (z := z) (fun i hi => hx i (by omega))
  refine ⟨by unfold ShpMay; omega, by rw [hlx]; simp, by rw [hl, hlx], fun i hi => ?_⟩
  rw [hs i hi, hs 0 (by omega)]
  exact ⟨rfl, h4⟩
/-- what is decoded of shards of one length -/
theorem dec_ok {d p z : Nat} {xs : List ByteArray} {bs : List Bool} {r : List ByteArray × Int} (h1 : 1 ≤ d) (h2 : d ≤ 4) (h3 : p ≤ 2) (hl : bs.length = d + p) (hlx : xs.length = d + p) (h4 : z ≤ 4096) (hx : ∀ i, i < d + p → (xs.getD i ByteArray.empty).size = z)
    (hd : d ≤ (rowsL bs bs.length).length) (hr : decR d p xs bs r) : ∃ P, r = (P, 0) ∧ P.length = d ∧ ∀ i, i < d → (P.getD i ByteArray.empty).size = z := by
  have hf := decForm_all h1 h2 h3 hl hlx h4 hx
  have hs := had_size (xs := xs) (bs := bs) (z := z) (fun i hi => hx i (by omega))
  rcases hr with ⟨hno, _⟩ | ⟨_, hfew, _⟩ | ⟨_, _, N, hN, rfl⟩
  · exact absurd hf hno
  · omega
  · rw [Int.toNat_natCast]
    refine ⟨_, rfl, backTo_len _ _ _, fun i hi => ?_⟩
    have hh : 0 < (hadL bs xs bs.length).length := by rw [hadL_len]; omega
    have e0 : (((hadL bs xs bs.length).take d).getD 0 ByteArray.empty) = (hadL bs xs bs.length).getD 0 ByteArray.empty := by
      simp [List.getD, List.getElem?_take, show 0 < d by omega]
    have e : (backTo N ((hadL bs xs bs.length).take d) d).getD i ByteArray.empty = Vec.out (N.getD i []) ((hadL bs xs bs.length).take d) := by simp [backTo, List.getD, hi]
    rw [e, out_len, e0, hs 0 hh]
end Go.Proofs.YtcgagkaalbljmaaDoor
