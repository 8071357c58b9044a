/- CopyAnswers, SpoilAnswers (ossuarylaw0): contracts. -/
import Derived.Test.YtmphbajnadbggabAnsLaw
import Derived.Test.YtmphbajnadbggabAuditRef3
namespace Go.Proofs.Ytmphbajnadbggab
open Go.RowKit
set_option linter.unusedVariables false
set_option linter.unusedSimpArgs false
attribute [local go_sem ↓] Go.wp_at_zero Go.wp_at_succ
def copyPost (zs : List Ans) (w : World) (e : Ending) (w' : World) : Prop := ∃ v us, e = .returned v ∧ AnsO w' w.heap.size 36 3 v us zs ∧ Below w.heap.size w w'
theorem free_of_row {w : World} {b : Nat} {C : Array Value} {T : TypeId} (h : w.heap[b]? = some (.cells C T (0, 0))) (i : Nat) : w.frozen? ⟨b, i, none⟩ = false := by
  unfold World.frozen?
  simp [h]
theorem three_set {w : World} {b : Nat} {x y z y' : Value} {T : TypeId} (h : w.heap[b]? = some (.cells #[x, y, z] T (0, 0))) : (w.setCell ⟨b, 1, none⟩ y').heap[b]? = some (.cells #[x, y', z] T (0, 0)) := by
  rw [heap_setCell_same w b 1 _ T y' h]
  rfl
theorem AnsO.set {w0 w : World} {B : Nat} {T E : TypeId} {v : Value} {us : List Value} {zs : List Ans} (h0 : AnsO w0 B T E v us zs) (h : AnsO w B T E v us zs) {a : Addr} (ha : w0.heap.size ≤ a.block) (x : Value) : AnsO (w.setCell a x) B T E v us zs := by
  refine ⟨h.len, ownsRow_setCell_other h.outer (fun e => ?_) x, fun j y hy => ownsRow_setCell_other (h.row j y hy) (fun e => ?_) x, h.apart⟩
  · have := (World.ownsRow.lt h0.outer _ e).2
    omega
  · have := ((h0.row j y hy).lt e).2
    omega
end Go.Proofs.Ytmphbajnadbggab
