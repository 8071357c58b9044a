/- The document's own Pick (ossuaryref1): the rows that it picks. -/
import Derived.Test.YtfeepmjkamdldaaDoorRefMat6
import Derived.Test.YtfeepmjkamdldaaDoorHoist
namespace Go.Proofs.YtfeepmjkamdldaaDoor
open Go.RowKit
set_option linter.unusedVariables false
set_option linter.unusedSimpArgs false
theorem pick_len {M : List (List Int)} {rs : List Int} (h : rs.length < 1 ∨ 12 < rs.length) : ¬ PickMay M rs := fun hm => by obtain ⟨_, h1, h2, _⟩ := hm; omega
/-- what Pick answers: the rows, the error's number -/
def pickR (M : List (List Int)) (rs : List Int) (r : List (List Int) × Int) : Prop := (PickMay M rs ∧ r = (pickM M rs, 0)) ∨ (¬ PickMay M rs ∧ r = ([], 300))
end Go.Proofs.YtfeepmjkamdldaaDoor
