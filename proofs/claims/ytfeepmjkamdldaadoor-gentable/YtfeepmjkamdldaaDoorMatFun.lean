/- What the calls over matrices answer, as functions of plain lists; the document's own calls answer so. -/
import Derived.Test.YtfeepmjkamdldaaDoorRefMat7
import Derived.Test.YtfeepmjkamdldaaDoorMatMath
import Derived.Test.YtfeepmjkamdldaaDoorCopyMat
import Derived.Test.YtfeepmjkamdldaaDoorLaw0M
import Derived.Test.YtfeepmjkamdldaaDoorSpoil
namespace Go.Proofs.YtfeepmjkamdldaaDoor
open Go.RowKit
set_option linter.unusedVariables false
set_option linter.unusedSimpArgs false
instance mmayDec (M : List (List Int)) : Decidable (MMay M) := by unfold MMay rowMay byteI; exact inferInstance
instance mulMayDec (A B : List (List Int)) : Decidable (MulMay A B) := by unfold MulMay; exact inferInstance
instance pickMayDec (M : List (List Int)) (rs : List Int) : Decidable (PickMay M rs) := by unfold PickMay; exact inferInstance
/-- the product, the error's number -/
def mulF (A B : List (List Int)) : List (List Int) × Int := if MulMay A B then (mulM A B, 0) else ([], 300)
def pickF (M : List (List Int)) (rs : List Int) : List (List Int) × Int := if PickMay M rs then (pickM M rs, 0) else ([], 300)
def idF (k : Int) : List (List Int) × Int := if 1 ≤ k ∧ k ≤ 12 then (idM k.toNat, 0) else ([], 300)
theorem rows_le {M : List (List Int)} (h : MMay M) : M.length ≤ maxLen ∧ ∀ j, (M.getD j []).length ≤ maxLen :=
  ⟨Nat.le_trans h.2.1 (by decide), fun j => Nat.le_trans (mrow_le h j) (by decide)⟩
theorem nil_le : ([] : List (List Int)).length ≤ maxLen ∧ ∀ j, (([] : List (List Int)).getD j []).length ≤ maxLen := ⟨by decide, fun j => by simp⟩
theorem pickM_len (M : List (List Int)) (rs : List Int) : (pickM M rs).length = rs.length := by simp [pickM]
theorem pickM_row {M : List (List Int)} {rs : List Int} {j : Nat} (h : j < rs.length) : (pickM M rs).getD j [] = M.getD (rs.getD j 0).toNat [] := by
  simp [pickM, List.getD, List.getElem?_eq_getElem h]
theorem pickM_may {M : List (List Int)} {rs : List Int} (h : PickMay M rs) : MMay (pickM M rs) := by
  obtain ⟨hm, h1, h2, h3⟩ := h
  have hrow : ∀ j, j < rs.length → rowMay (M.getD 0 []).length ((pickM M rs).getD j []) := fun j hj => by
    rw [pickM_row hj]
    have := h3 j hj
    exact hm.2.2.2.2 _ (by omega)
  have h0 : ((pickM M rs).getD 0 []).length = (M.getD 0 []).length := (hrow 0 h1).1
  refine ⟨by rw [pickM_len]; exact h1, by rw [pickM_len]; exact h2, by rw [h0]; exact hm.2.2.1, by rw [h0]; exact hm.2.2.2.1, fun i hi => ?_⟩
  rw [h0]
  exact hrow i (by rwa [pickM_len] at hi)
theorem mulF_le (A B : List (List Int)) : (mulF A B).1.length ≤ maxLen ∧ ∀ j, ((mulF A B).1.getD j []).length ≤ maxLen := by
  unfold mulF
  split
  · next h => exact rows_le (mulM_may h.1 h.2.1)
  · exact nil_le
theorem pickF_le (M : List (List Int)) (rs : List Int) : (pickF M rs).1.length ≤ maxLen ∧ ∀ j, ((pickF M rs).1.getD j []).length ≤ maxLen := by
  unfold pickF
  split
  · next h => exact rows_le (pickM_may h)
  · exact nil_le
theorem idF_le (k : Int) : (idF k).1.length ≤ maxLen ∧ ∀ j, ((idF k).1.getD j []).length ≤ maxLen := by
  unfold idF
  split
  · next h => exact rows_le (idM_may (by omega) (by omega))
  · exact nil_le
/-- a matrix of the call's own can be read -/
theorem OwnM.matV {w : World} {B : Nat} {T E : TypeId} {u : Value} {M : List (List Int)} (h : OwnM w B T E u M) (hM : M.length ≤ maxLen ∧ ∀ j, (M.getD j []).length ≤ maxLen) : MatV w (.agg #[u]) M := by
  obtain ⟨a, cap, rfl, hr⟩ := h.rows hM.1 hM.2
  exact ⟨a, _, cap, rfl, hr⟩
theorem OwnM.mono {w : World} {B B' : Nat} {T E : TypeId} {u : Value} {M : List (List Int)} (h : OwnM w B T E u M) (hB : B' ≤ B) : OwnM w B' T E u M := by
  obtain ⟨us, h⟩ := h; exact ⟨us, h.mono hB⟩
theorem OwnM.form {w : World} {B : Nat} {T E : TypeId} {u : Value} {M : List (List Int)} (h : OwnM w B T E u M) : ∃ p n c, u = .slice p n c ∧ n = M.length := by
  obtain ⟨us, h⟩ := h
  obtain ⟨a, cap, e⟩ := h.outer.form
  exact ⟨a, _, cap, e, h.len⟩
theorem refMul_fun (a b : Value) (A B : List (List Int)) (w : World) (ha : MatV w a A) (hb : MatV w b B) :
    Calls Tryd.prog 30 #[a, b] w fun e w' => ∃ u, e = .returned (.tuple #[.agg #[u], .int .i64 (mulF A B).2]) ∧ OwnM w' w.heap.size 38 3 u (mulF A B).1 ∧ Below w.heap.size w w' := by
  refine (refMulMatrix_any a b A B w ha hb).mono ?_
  rintro e w' ⟨⟨hm, u, rfl, ho⟩ | ⟨hm, rfl⟩, hB⟩
  · simp only [mulF, if_pos hm]; exact ⟨u, rfl, ho, hB⟩
  · simp only [mulF, if_neg hm]; exact ⟨_, rfl, OwnM.nil _ _ _ _, hB⟩
theorem refIdentity_fun (k : Int) (w : World) :
    Calls Tryd.prog 51 #[.int .i64 k] w fun e w' => ∃ u, e = .returned (.tuple #[.agg #[u], .int .i64 (idF k).2]) ∧ OwnM w' w.heap.size 38 3 u (idF k).1 ∧ Below w.heap.size w w' := by
  by_cases h : 1 ≤ k ∧ k ≤ 12
  · obtain ⟨n, rfl⟩ : ∃ n : Nat, k = n := ⟨k.toNat, by omega⟩
    refine (refIdentity_yes n w (by omega) (by omega)).mono ?_
    rintro e w' ⟨u, rfl, ho, hB⟩
    simp only [idF, if_pos h, Int.toNat_natCast]
    exact ⟨u, rfl, ho.mono (by omega), hB⟩
  · refine (refIdentity_no k w (by omega)).mono ?_
    rintro e w' ⟨rfl, hB⟩
    simp only [idF, if_neg h]
    exact ⟨_, rfl, OwnM.nil _ _ _ _, hB⟩
theorem refMay_fun (v : Value) (M : List (List Int)) (w : World) (h : MatV w v M) : Calls Tryd.prog 50 #[v] w fun e w' => e = .returned (.bool (decide (MMay M))) ∧ Below w.heap.size w w' := by
  refine (refMay_any v M w h).mono ?_
  rintro e w' ⟨⟨hm, rfl⟩ | ⟨hm, rfl⟩, hB⟩
  · rw [decide_eq_true hm]; exact ⟨rfl, hB⟩
  · rw [decide_eq_false hm]; exact ⟨rfl, hB⟩
end Go.Proofs.YtfeepmjkamdldaaDoor
