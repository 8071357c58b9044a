/- The document's own disks (ossuaryref13): state, peek, Read. -/
import Derived.Test.YtpmbmhjhclekeabDskRef
namespace Go.Proofs.Ytpmbmhjhclekeab
open Go.RowKit
set_option linter.unusedVariables false
set_option linter.unusedSimpArgs false
attribute [local go_sem ↓] Go.wp_at_zero Go.wp_at_succ
theorem may_live {d : Dsk} (h : stateD d = 0) : d.lost = false ∧ 1 ≤ d.secs.length ∧ d.secs.length ≤ 72 ∧ d.cache.length ≤ 256 ∧ (∀ i, i < d.secs.length → (d.secs.getD i ByteArray.empty).size = 64) ∧
    ∀ i, i < d.cache.length → 0 ≤ (d.cache.getD i wr0).1 ∧ (d.cache.getD i wr0).1 < d.secs.length ∧ (d.cache.getD i wr0).2.size = 64 := by
  unfold stateD at h
  by_cases hM : MayD d
  · rw [if_pos hM] at h
    cases hl : d.lost with
    | true => rw [if_pos hl] at h; omega
    | false => exact ⟨rfl, (mayD_live hl).1 hM⟩
  · rw [if_neg hM] at h; omega
theorem stateD_cases (d : Dsk) : stateD d = 0 ∨ stateD d = 1301 ∨ stateD d = 1300 := by
  unfold stateD
  split
  · split
    · exact .inr (.inl rfl)
    · exact .inl rfl
  · exact .inr (.inr rfl)
theorem ne_zero {x : Int} (h : x ≠ 0) : (x != 0) = true := by simpa using h
end Go.Proofs.Ytpmbmhjhclekeab
