/- Opening a slice of bools that came in. -/
import Derived.Test.YtcgagkaalbljmaaDoorOpenC
import Derived.Test.YtcgagkaalbljmaaDoorBools
namespace Go.Proofs.YtcgagkaalbljmaaDoor
open Go.ChangeShapes Go.WideShapes Go.ChangeAt Go.RowKit
set_option linter.unusedVariables false
section
variable {H : Type} {enc : TypeId × Value → H} {P : Program}
def GotBools (w : World) (cs : List Value) : Prop := ∃ a n cap bs, cs = [.slice a n cap] ∧ Bools w a n cap bs ∧ cap * 1 ≤ reachBytes ∧ n ≤ cap
theorem opens_bools {t e : TypeId} (ht : P.underlying t = some (.slice e)) (he : P.underlying e = some .bool) (hc : P.cellsOf e = 1) (hb : P.bytesOf e = 1) : Opens enc P t GotBools := by
  refine (opens_slice ht (opens_bool he)).mono ?_
  rintro w cs ⟨a, n, cap, rfl, hs, hbd⟩
  rw [hc] at hs
  rw [hb] at hbd
  obtain ⟨f, hr, hl, hm, hR⟩ := hs.row
  obtain ⟨xs, hxl, hx⟩ := list_of (α := Bool) (p := fun i z => f i = .bool z) false (fun i hi => by
    obtain ⟨z, h1⟩ := hR i hi
    exact ⟨z, by simpa using h1⟩)
  exact ⟨a, n, cap, xs, rfl, ⟨hxl, hr.congr' (fun i hi => hx i hi)⟩, hbd, hl⟩
end
end Go.Proofs.YtcgagkaalbljmaaDoor
