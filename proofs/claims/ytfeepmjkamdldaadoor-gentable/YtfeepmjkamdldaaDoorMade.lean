/- The variable of package gen, as the program's text lays it: every shape within the limits has its matrix. -/
import Derived.Test.YtfeepmjkamdldaaDoorGrow
namespace Go.Proofs.YtfeepmjkamdldaaDoor
open Go.RowKit
def Made (w : World) : Prop := ∀ i, i < 12 → w.cell? ⟨0, i, none⟩ = some (.bool true)
theorem Made.up {w w' : World} (h : Made w) (hb : Below w.heap.size w w') : Made w' := fun i hi => (hb.cell (cell_lt (h i hi))).trans (h i hi)
theorem Made.grown {w : World} (h : Made w) (x : GrownW w) : Made x.val := h.up x.prop
theorem Made.pos {w : World} (h : Made w) : 0 < w.heap.size := cell_lt (h 0 (by decide))
end Go.Proofs.YtfeepmjkamdldaaDoor
