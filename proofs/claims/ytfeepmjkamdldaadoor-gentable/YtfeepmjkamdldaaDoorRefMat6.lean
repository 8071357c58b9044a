/- The document's own choice of rows (ossuaryref1.Pick): a contract. -/
import Derived.Test.YtfeepmjkamdldaaDoorRefMat5
namespace Go.Proofs.YtfeepmjkamdldaaDoor
open Go.RowKit
set_option linter.unusedVariables false
set_option linter.unusedSimpArgs false
/-- may these rows be picked? -/
def PickMay (M : List (List Int)) (rs : List Int) : Prop := MMay M ∧ 1 ≤ rs.length ∧ rs.length ≤ 12 ∧ ∀ i, i < rs.length → 0 ≤ rs.getD i 0 ∧ rs.getD i 0 < M.length
def pickM (M : List (List Int)) (rs : List Int) : List (List Int) := rs.map fun r => M.getD r.toNat []
theorem mat_rows {p : Option Addr} {n c : Nat} {M : List (List Int)} {w : World} (h : MatV w (.agg #[.slice p n c]) M) (hm : MMay M) :
    M.length = n ∧ 1 ≤ n ∧ n ≤ 12 ∧ ∃ b o, p = some ⟨b, o, none⟩ ∧ ∀ i, i < n → ∃ u, w.cell? ⟨b, o + i, none⟩ = some u ∧ RowV w u (M.getD i []) := by
  obtain ⟨a, n', c', e, R⟩ := h
  simp only [Value.agg.injEq, Array.mk.injEq, List.cons.injEq, Value.slice.injEq, and_true] at e
  obtain ⟨rfl, rfl, rfl⟩ := e
  have hl : M.length = n := by obtain ⟨_, h, _⟩ := R; exact h
  have h1 := hm.1
  have h2 := hm.2.1
  refine ⟨hl, by omega, by omega, ?_⟩
  rcases R.two with h0 | ⟨b, off, rfl, hc⟩
  · omega
  · exact ⟨b, off, rfl, hc⟩
theorem mrow_le {M : List (List Int)} (hm : MMay M) (i : Nat) : (M.getD i []).length ≤ 12 := by
  by_cases h : i < M.length
  · rw [(hm.2.2.2.2 i h).1]; exact hm.2.2.2.1
  · simp [List.getD, List.getElem?_eq_none (Nat.le_of_not_lt h)]
theorem pick_snoc (M : List (List Int)) (rs : List Int) (k : Nat) (h : k < rs.length) : pickM M (rs.take (k + 1)) = pickM M (rs.take k) ++ [M.getD (rs.getD k 0).toNat []] := by
  unfold pickM
  rw [List.take_succ_eq_append_getElem h, List.map_append]
  simp [List.getD, List.getElem?_eq_getElem h]
attribute [local go_sem ↓] Go.wp_at_zero Go.wp_at_succ
end Go.Proofs.YtfeepmjkamdldaaDoor
