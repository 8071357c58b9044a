/- Bytes in a block of one's own. -/
import Derived.Test.YtpmbmhjhclekeaaDskLoop
namespace Go.Proofs.Ytpmbmhjhclekeaa
open Go.RowKit
set_option linter.unusedVariables false
set_option linter.unusedSimpArgs false
attribute [local go_sem ↓] Go.wp_at_zero Go.wp_at_succ
/-- bytes in a block of one's own -/
def BVar (w : World) (g : Nat) (ws : List Nat) : Prop := w.heap[g]? = some (.cells (ws.map fun b : Nat => Value.int .u8 (b : Int)).toArray 5 (0, 0))
theorem BVar.below {w w' : World} {g : Nat} {ws : List Nat} (h : BVar w g ws) (hb : Below w.heap.size w w') : BVar w' g ws := (hb.block _ (lt_of_block h)).trans h
theorem BVar.putOther {w : World} {B' g k : Nat} {ws : List Nat} {e : Dsk} (h : BVar w g ws) (h' : DVar w B' k e) (hne : g ≠ k) (x y z : Value) : BVar (((w.setCell ⟨k, 0, none⟩ x).setCell ⟨k, 1, none⟩ y).setCell ⟨k, 2, none⟩ z) g ws :=
  (heap_put3 w k x y z g hne).trans h
theorem BVar.cell {w : World} {g : Nat} {ws : List Nat} (h : BVar w g ws) (j : Nat) (hj : j < ws.length) : w.cell? ⟨g, j, none⟩ = some (.int .u8 ((ws.getD j 0 : Nat) : Int)) := by
  rw [cell_of_row _ _ j _ _ _ h]
  simp [List.getD, hj]
theorem BVar.set {w : World} {g : Nat} {ws : List Nat} (h : BVar w g ws) (j b : Nat) : BVar (w.setCell ⟨g, j, none⟩ (.int .u8 (b : Int))) g (ws.set j b) := by
  have := block_setCell (o := j) h (.int .u8 (b : Int))
  rw [← List.map_set (f := fun b : Nat => Value.int .u8 (b : Int))] at this
  exact this
theorem BVar.noStr {w : World} {g : Nat} {ws : List Nat} (h : BVar w g ws) (o : Nat) (s : ByteArray) : w.cell? ⟨g, o, none⟩ ≠ some (.string s) := by
  rw [cell_of_row _ _ o _ _ _ h]
  simp only [List.getElem?_toArray, List.getElem?_map]
  cases ws[o]? <;> simp
/-- a byte elsewhere is put anew -/
theorem DVar.setOther {w : World} {B g k : Nat} {d : Dsk} {ws : List Nat} (h : DVar w B g d) (h' : BVar w k ws) (j : Nat) (x : Value) : DVar (w.setCell ⟨k, j, none⟩ x) B g d := by
  obtain ⟨⟨a1, a2, a3, a4, hb, hS, hC⟩, hl⟩ := h
  have hne : g ≠ k := by
    rintro rfl
    have := h'.symm.trans hb
    simp only [Option.some.injEq, Obj.cells.injEq] at this
    have h0 := congrArg (fun a : Array Value => a[0]?) this.1
    simp only [List.getElem?_toArray, List.getElem?_map] at h0
    cases e : ws[0]? <;> simp [e] at h0
  have hk : ∀ b o, b ≠ k → (w.setCell ⟨k, j, none⟩ x).cell? ⟨b, o, none⟩ = w.cell? ⟨b, o, none⟩ := fun b o hbk => by
    unfold World.cell?
    simp only [Below.heap_setCell w ⟨k, j, none⟩ x b hbk]
  refine ⟨⟨a1, a2, a3, a4, (Below.heap_setCell w ⟨k, j, none⟩ x g hne).trans hb, ⟨hS.1, ?_⟩, hC.1, ?_⟩, hl.1, by simpa using hl.2⟩
  · rcases hS.2 with h | h | ⟨h1, h2, b, off, e, hc⟩
    · exact .inl h
    · exact .inr (.inl h)
    · have hbk : b ≠ k := by
        rintro rfl
        exact h'.noStr _ _ (hc 0 h1)
      exact .inr (.inr ⟨h1, h2, b, off, e, fun i hi => by rw [hk b _ hbk]; exact hc i hi⟩)
  · have hw := hC
    rcases hC.2 with h | h | ⟨h1, h2, b, off, e, hc⟩
    · exact .inl h
    · exact .inr (.inl h)
    · have hbk : b ≠ k := by
        rintro rfl
        obtain ⟨b', o', e', -, ht⟩ := hw.at h1
        have := (ht 0 h1).2
        rw [e] at e'
        simp only [Option.some.injEq, Addr.mk.injEq, and_true] at e'
        obtain ⟨rfl, rfl⟩ := e'
        exact h'.noStr _ _ this
      exact .inr (.inr ⟨h1, h2, b, off, e, fun i hi => by rw [hk b _ hbk]; exact hc i hi⟩)
end Go.Proofs.Ytpmbmhjhclekeaa
