/- The document's own disks (ossuaryref13): Crash, Flush, Lose. -/
import Derived.Test.YtpmbmhjhclekeabDskRef5
namespace Go.Proofs.Ytpmbmhjhclekeab
open Go.RowKit
set_option linter.unusedVariables false
set_option linter.unusedSimpArgs false
attribute [local go_sem ↓] Go.wp_at_zero Go.wp_at_succ
end Go.Proofs.Ytpmbmhjhclekeab
