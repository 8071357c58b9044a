/- SealNumbers: seals, pairs are numbers that may be; numbers that differ by Prime are one. -/
import Derived.Test.YtcciobilcgahaaaAwake9
import Derived.Laws.BitsAllLaws
namespace Go.Proofs.Ytcciobilcgahaaa
open Go.RowKit
set_option linter.unusedVariables false
set_option linter.unusedSimpArgs false
theorem md_add (x : Int) : Seal.md (x + 2147483647) = Seal.md x := by unfold Seal.md; omega
theorem pair_add (x b : Int) : Seal.pair (x + 2147483647) b = Seal.pair x b := by unfold Seal.pair; rw [md_add]
theorem wf_small {x : Int} (h1 : -9223372036854775808 ≤ x) (h2 : x < 9223372036854775808) : (Lit.int .i64 x).wf = true := by
  have e1 : IntKind.i64.min = -9223372036854775808 := by decide
  have e2 : IntKind.i64.max = 9223372036854775807 := by decide
  show (decide (IntKind.i64.min ≤ x) && decide (x ≤ IntKind.i64.max)) = true
  rw [e1, e2]
  simp
  omega
end Go.Proofs.Ytcciobilcgahaaa
