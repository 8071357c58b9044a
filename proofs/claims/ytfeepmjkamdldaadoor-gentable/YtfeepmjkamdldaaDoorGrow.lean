/- A region that leaves its order open, whose operations read and whose calls leave what lay below as it was: one walk, in the order of the text. -/
import Derived.Test.YtfeepmjkamdldaaDoorMem
import Derived.Deep.QuietTactic
import Derived.BigQuiet
namespace Go.Proofs.YtfeepmjkamdldaaDoor
open Go.RowKit
set_option linter.unusedVariables false
/-- what is shown once behind several ways: kept from the walk -/
structure Later (X : Prop) : Prop where
  get : X
/-- a world in which all that W holds is as it was -/
structure GrownW (W : World) where
  val : World
  prop : Below W.heap.size W val
instance (W : World) : Nonempty (GrownW W) := ⟨⟨W, Below.refl _ _⟩⟩
theorem grown_cell {W : World} {p : Addr} {v : Value} (h : W.cell? p = some v) : ∀ x : GrownW W, x.val.cell? p = some v := fun x => (x.prop.cell (cell_lt h)).trans h
theorem grown_below {W w' : World} (h : ∃ x : GrownW W, w' = x.val) : Below W.heap.size W w' := by obtain ⟨x, rfl⟩ := h; exact x.prop
theorem wp_region_grows {P : Program} {id : Nat} {Q : Exit → Act → World → Prop} {a : Act} {W : World} {l : List Oper} (hm : P.follows .mixedOrders = true) (hB : Region.lexB .any l.toArray = true)
    (h : wpQuiet P l.toArray (fun w' => ∃ x : GrownW W, w' = x.val) (fun a' => ∀ w', (∃ x : GrownW W, w' = x.val) → Q .normal a' w') l a) : (Code.region id l.toArray true).wp P Q a W :=
  wp_region_quiet (C := fun w' => ∃ x : GrownW W, w' = x.val) hm hB ⟨⟨_, (Below.refl _ _).drew⟩, rfl⟩ (by simpa using h)
theorem Calls.grows {P : Program} {f : FuncId} {args : Array Value} {W : World} {x : GrownW W} {v : Value} (h : Calls P f args x.val fun e w' => e = .returned v ∧ Below x.val.heap.size x.val w') :
    Calls P f args x.val fun e w'' => e = .returned v ∧ ∃ y : GrownW W, w'' = y.val :=
  h.mono fun _ w' ⟨he, hb⟩ => ⟨he, ⟨w', bt x.prop hb⟩, rfl⟩
end Go.Proofs.YtfeepmjkamdldaaDoor
