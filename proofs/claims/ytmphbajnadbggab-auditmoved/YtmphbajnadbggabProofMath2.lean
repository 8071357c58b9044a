/- What Check says of paths that are right, and of such as are not. -/
import Derived.Test.YtmphbajnadbggabProofMath3
import Derived.Test.YtmphbajnadbggabTreeTurnedWalk
namespace Go.Proofs.Ytmphbajnadbggab
open Go.RowKit
set_option linter.unusedVariables false
set_option linter.unusedSimpArgs false
theorem turn2 (y k : Nat) (hy : y < 2147483647) (hk : k ≤ 65535) : ∃ z : Nat, z < 2147483647 ∧ y ≠ z ∧ (wrap64 (wrap64 ((y : Int) + 1) + (k : Int))).tmod 2147483647 = (z : Int) ∧ ((y : Int) + 1 + (k : Int)) % 2147483647 = (z : Int) := by
  have e1 : wrap64 ((y : Int) + 1) = (y : Int) + 1 := by unfold wrap64; omega
  have e2 : wrap64 ((y : Int) + 1 + (k : Int)) = (y : Int) + 1 + (k : Int) := by unfold wrap64; omega
  have h0 : 0 ≤ (y : Int) + 1 + (k : Int) := by omega
  refine ⟨(y + 1 + k) % 2147483647, by omega, by omega, ?_, by omega⟩
  rw [e1, e2, Int.tmod_eq_emod_of_nonneg h0]
  omega
/-- all but the first -/
theorem Ints.tail {w : World} {b o n cap : Nat} {l : List Nat} (h : Ints w (some ⟨b, o, none⟩) n cap (nint l)) (h0 : 0 < n) : Ints w (if cap = 1 then some ⟨b, o, none⟩ else some ⟨b, o + 1, none⟩) (n - 1) (cap - 1) (nint (l.drop 1)) := by
  have hc := (h.cap h0).1
  have e : nint (l.drop 1) = (nint l).drop 1 := by unfold nint; rw [List.map_drop]
  have hl := h.1
  by_cases h1 : n = 1
  · refine ⟨by rw [nint_len, List.length_drop]; rw [nint_len] at hl; omega, .inr (.inl ⟨by omega, ?_⟩)⟩
    split <;> exact ⟨_, rfl⟩
  · rw [if_neg (by omega), e]
    exact h.rest (by omega)
end Go.Proofs.Ytmphbajnadbggab
