/- Questions (ossuaryref1.AskMay): a contract. -/
import Derived.Test.YtmphbajnadbggabProofRef2
import Derived.Test.YtmphbajnadbggabRecMem
namespace Go.Proofs.Ytmphbajnadbggab
open Go.RowKit
set_option linter.unusedVariables false
set_option linter.unusedSimpArgs false
def BkOk (x : Int) : Prop := 0 ≤ x ∧ x < 4
instance bkDec (x : Int) : Decidable (BkOk x) := by unfold BkOk; exact inferInstance
/-- a question that may be -/
def AskM (q : Int) (bs : List Int) : Prop := Sl q ∧ 1 ≤ bs.length ∧ bs.length ≤ 64 ∧ ∀ b ∈ bs, BkOk b
instance askDec (q : Int) (bs : List Int) : Decidable (AskM q bs) := by unfold AskM; exact inferInstance
theorem ask_false {q : Int} {bs : List Int} {e : Ending} (h : ¬ AskM q bs) (he : e = .returned (.bool false)) : e = .returned (.bool (decide (AskM q bs))) := by rw [decide_eq_false h]; exact he
/-- the two cells of a box, of a question's -/
theorem ask_box (w : World) (q : Int) (a : Option Addr) (n c : Nat) (T : TypeId) : (w.alloc (.cells #[.int .i64 q, .slice a n c] T)).cell? ⟨w.heap.size, 0, none⟩ = some (.int .i64 q) ∧ (w.alloc (.cells #[.int .i64 q, .slice a n c] T)).cell? ⟨w.heap.size, 1, none⟩ = some (.slice a n c) :=
  ⟨by rw [cell_of_row _ _ 0 _ _ _ (heap_alloc_new w _)]; rfl, by rw [cell_of_row _ _ 1 _ _ _ (heap_alloc_new w _)]; rfl⟩
end Go.Proofs.Ytmphbajnadbggab
