/- A slice of bools that lies in memory. -/
import Derived.Test.YtcgagkaalbljmaaDoorKCore
namespace Go.Proofs.YtcgagkaalbljmaaDoor
open Go.RowKit
set_option linter.unusedVariables false
/-- a slice of bools reads bs -/
def Bools (w : World) (a : Option Addr) (n cap : Nat) (bs : List Bool) : Prop := bs.length = n ∧ IsRow w a n cap (fun i => .bool (bs.getD i false))
theorem Bools.below {w w' : World} {a : Option Addr} {n cap : Nat} {bs : List Bool} (h : Bools w a n cap bs) (hb : Below w.heap.size w w') : Bools w' a n cap bs := ⟨h.1, h.2.below hb⟩
end Go.Proofs.YtcgagkaalbljmaaDoor
