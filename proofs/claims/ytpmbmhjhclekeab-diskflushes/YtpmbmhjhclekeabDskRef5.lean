/- The document's own disks (ossuaryref13): lasts, Flush, Crash. -/
import Derived.Test.YtpmbmhjhclekeabDskRef4
import Derived.Laws.BitsAllLaws
namespace Go.Proofs.Ytpmbmhjhclekeab
open Go.RowKit
set_option linter.unusedVariables false
set_option linter.unusedSimpArgs false
attribute [local go_sem ↓] Go.wp_at_zero Go.wp_at_succ
theorem and_15 (n : Int) : bits .and .i64 n 15 = n % 16 := and_mask_i64 n 4 15 (by decide) (by decide)
end Go.Proofs.Ytpmbmhjhclekeab
