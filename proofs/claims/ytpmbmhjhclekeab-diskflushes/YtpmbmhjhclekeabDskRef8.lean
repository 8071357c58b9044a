/- The document's own disks (ossuaryref13): zeros, NewDisk. -/
import Derived.Test.YtpmbmhjhclekeabDskRef7
import Derived.Test.YtpmbmhjhclekeabZeros
namespace Go.Proofs.Ytpmbmhjhclekeab
open Go.RowKit
set_option linter.unusedVariables false
set_option linter.unusedSimpArgs false
attribute [local go_sem ↓] Go.wp_at_zero Go.wp_at_succ
def newD (n : Int) : Dsk × Int := if 1 ≤ n ∧ n ≤ 72 then (⟨false, List.replicate n.toNat (zerosB 64), []⟩, 0) else (dsk0, 1300)
end Go.Proofs.Ytpmbmhjhclekeab
