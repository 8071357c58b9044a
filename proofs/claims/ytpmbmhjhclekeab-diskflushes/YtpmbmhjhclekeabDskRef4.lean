/- The document's own disks (ossuaryref13): Write, Lose. -/
import Derived.Test.YtpmbmhjhclekeabDskRef3
namespace Go.Proofs.Ytpmbmhjhclekeab
open Go.RowKit
set_option linter.unusedVariables false
set_option linter.unusedSimpArgs false
attribute [local go_sem ↓] Go.wp_at_zero Go.wp_at_succ
theorem DskO.setBelow {w : World} {B : Nat} {S E : TypeId} {v : Value} {d : Dsk} (h : DskO w B S E v d) {a : Addr} (ha : a.block < B) (x : Value) : DskO (w.setCell a x) B S E v d := by
  obtain ⟨va, vc, e, h1, h2⟩ := h
  refine ⟨va, vc, e, h1.setBelow ha x, ownsRow_setCell_other h2 (fun e => ?_) x⟩
  have h9 : B ≤ a.block := (World.ownsRow.lt h2 _ e).1
  omega
theorem DskO.put {w : World} {B r : Nat} {S E : TypeId} {v : Value} {d : Dsk} (h : DskO w B S E v d) (hr : r < B) (x y z : Value) : DskO (((w.setCell ⟨r, 0, none⟩ x).setCell ⟨r, 1, none⟩ y).setCell ⟨r, 2, none⟩ z) B S E v d :=
  ((h.setBelow (a := ⟨r, 0, none⟩) hr x).setBelow (a := ⟨r, 1, none⟩) hr y).setBelow (a := ⟨r, 2, none⟩) hr z
theorem below_put {B r : Nat} {w0 w : World} (h : Below B w0 w) (hr : B ≤ r) (x y z : Value) : Below B w0 (((w.setCell ⟨r, 0, none⟩ x).setCell ⟨r, 1, none⟩ y).setCell ⟨r, 2, none⟩ z) :=
  ((h.setCell (p := ⟨r, 0, none⟩) hr x).setCell (p := ⟨r, 1, none⟩) hr y).setCell (p := ⟨r, 2, none⟩) hr z
/-- a disk and an error -/
def dskPost (r : Dsk × Int) (w : World) (e : Ending) (w' : World) : Prop := ∃ v, e = .returned (.tuple #[v, .int .i64 r.2]) ∧ DskO w' w.heap.size 9 48 v r.1 ∧ Below w.heap.size w w'
theorem size_64 {n : Nat} (h : n ≠ 64) : ((n : Int) != 64) = true := ne_64 h
end Go.Proofs.Ytpmbmhjhclekeab
