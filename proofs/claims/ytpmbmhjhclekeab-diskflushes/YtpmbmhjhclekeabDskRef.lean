/- The document's own disks (ossuaryref13): DiskMay, state, peek, Read. -/
import Derived.Test.YtpmbmhjhclekeabDskMem
import Derived.Deep.Cut
import Derived.Deep.CutBlock
import Derived.Deep.CutRange
namespace Go.Proofs.Ytpmbmhjhclekeab
open Go.RowKit
set_option linter.unusedVariables false
set_option linter.unusedSimpArgs false
attribute [local go_sem ↓] Go.wp_at_zero Go.wp_at_succ
theorem mayD_false {d : Dsk} {e : Ending} (h : ¬ MayD d) (he : e = .returned (.bool false)) : e = .returned (.bool (decide (MayD d))) := by rw [decide_eq_false h]; exact he
theorem mayD_true {d : Dsk} {e : Ending} (h : MayD d) (he : e = .returned (.bool true)) : e = .returned (.bool (decide (MayD d))) := by rw [decide_eq_true h]; exact he
theorem ne_64 {n : Nat} (h : n ≠ 64) : ((n : Int) != 64) = true := by simp; omega
theorem eq_64 {n : Nat} (h : n = 64) : ((n : Int) != 64) = false := by subst h; rfl
theorem mayD_lost {d : Dsk} (h : d.lost = true) : MayD d ↔ (d.secs.length = 0 ∧ d.cache.length = 0) := by unfold MayD; rw [if_pos h]
theorem mayD_live {d : Dsk} (h : d.lost = false) : MayD d ↔ (1 ≤ d.secs.length ∧ d.secs.length ≤ 72 ∧ d.cache.length ≤ 256 ∧ (∀ i, i < d.secs.length → (d.secs.getD i ByteArray.empty).size = 64) ∧
  ∀ i, i < d.cache.length → 0 ≤ (d.cache.getD i wr0).1 ∧ (d.cache.getD i wr0).1 < d.secs.length ∧ (d.cache.getD i wr0).2.size = 64) := by unfold MayD; rw [if_neg (by rw [h]; decide)]
end Go.Proofs.Ytpmbmhjhclekeab
