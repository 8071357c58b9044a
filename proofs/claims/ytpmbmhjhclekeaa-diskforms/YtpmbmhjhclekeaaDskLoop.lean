/- Disks in boxes that are put anew. -/
import Derived.Test.YtpmbmhjhclekeaaAwake13
import Derived.Test.YtpmbmhjhclekeaaDskMath
namespace Go.Proofs.Ytpmbmhjhclekeaa
open Go.RowKit
set_option linter.unusedVariables false
set_option linter.unusedSimpArgs false
attribute [local go_sem ↓] Go.wp_at_zero Go.wp_at_succ
theorem heap_put3 (w : World) (g : Nat) (x y z : Value) (k : Nat) (h : k ≠ g) : (((w.setCell ⟨g, 0, none⟩ x).setCell ⟨g, 1, none⟩ y).setCell ⟨g, 2, none⟩ z).heap[k]? = w.heap[k]? := by
  rw [Below.heap_setCell _ ⟨g, 2, none⟩ z k h, Below.heap_setCell _ ⟨g, 1, none⟩ y k h, Below.heap_setCell _ ⟨g, 0, none⟩ x k h]
theorem cell_put3 (w : World) (g : Nat) (x y z : Value) (b o : Nat) (h : b ≠ g) : (((w.setCell ⟨g, 0, none⟩ x).setCell ⟨g, 1, none⟩ y).setCell ⟨g, 2, none⟩ z).cell? ⟨b, o, none⟩ = w.cell? ⟨b, o, none⟩ := by
  unfold World.cell?
  simp only [heap_put3 w g x y z b h]
/-- a disk's box holds no text and no number -/
theorem dsk_kind {w : World} {g : Nat} {l : Bool} {a a' : Option Addr} {m c m' c' : Nat} {T : TypeId} (hb : w.heap[g]? = some (.cells #[.bool l, .slice a m c, .slice a' m' c'] T (0, 0))) (o : Nat) (s : ByteArray) : w.cell? ⟨g, o, none⟩ ≠ some (.string s) := by
  unfold World.cell?
  simp only [hb]
  match o with
  | 0 => simp
  | 1 => simp
  | 2 => simp
  | n + 3 => simp
theorem Strs.put {w : World} {g : Nat} {l : Bool} {a a' : Option Addr} {m c m' c' : Nat} {T : TypeId} {sa : Option Addr} {n sc : Nat} {ss : List ByteArray} (h : Strs w sa n sc ss) (hb : w.heap[g]? = some (.cells #[.bool l, .slice a m c, .slice a' m' c'] T (0, 0))) (x y z : Value) :
    Strs (((w.setCell ⟨g, 0, none⟩ x).setCell ⟨g, 1, none⟩ y).setCell ⟨g, 2, none⟩ z) sa n sc ss := by
  refine ⟨h.1, ?_⟩
  rcases h.2 with h | h | ⟨h1, h2, b, off, e, hc⟩
  · exact .inl h
  · exact .inr (.inl h)
  · have hne : b ≠ g := by
      rintro rfl
      exact dsk_kind hb _ _ (hc 0 h1)
    exact .inr (.inr ⟨h1, h2, b, off, e, fun i hi => by rw [cell_put3 w g x y z b _ hne]; exact hc i hi⟩)
theorem WrV.put {w : World} {g : Nat} {l : Bool} {a a' : Option Addr} {m c m' c' : Nat} {T : TypeId} {sa : Option Addr} {n sc : Nat} {ss : List (Int × ByteArray)} (h : WrV w sa n sc ss) (hb : w.heap[g]? = some (.cells #[.bool l, .slice a m c, .slice a' m' c'] T (0, 0))) (x y z : Value) :
    WrV (((w.setCell ⟨g, 0, none⟩ x).setCell ⟨g, 1, none⟩ y).setCell ⟨g, 2, none⟩ z) sa n sc ss := by
  refine ⟨h.1, ?_⟩
  have hw := h
  rcases h.2 with h | h | ⟨h1, h2, b, off, e, hc⟩
  · exact .inl h
  · exact .inr (.inl h)
  · have hne : b ≠ g := by
      rintro rfl
      obtain ⟨b', o', e', -, ht⟩ := hw.at h1
      have := (ht 0 h1).2
      rw [e] at e'
      simp only [Option.some.injEq, Addr.mk.injEq, and_true] at e'
      obtain ⟨rfl, rfl⟩ := e'
      exact dsk_kind hb _ _ this
    exact .inr (.inr ⟨h1, h2, b, off, e, fun i hi => by rw [cell_put3 w g x y z b _ hne]; exact hc i hi⟩)
/-- the box is put anew -/
theorem DVar.put {w : World} {B g : Nat} {d e : Dsk} (h : DVar w B g d) {sa ca : Option Addr} {sc cc : Nat} (hS : Strs w sa e.secs.length sc e.secs) (hC : WrV w ca e.cache.length cc e.cache) :
    DVar (((w.setCell ⟨g, 0, none⟩ (.bool e.lost)).setCell ⟨g, 1, none⟩ (.slice sa e.secs.length sc)).setCell ⟨g, 2, none⟩ (.slice ca e.cache.length cc)) B g e := by
  obtain ⟨⟨a1, a2, a3, a4, hb, -, -⟩, hl⟩ := h
  exact ⟨⟨sa, sc, ca, cc, dsk_put hb, hS.put hb _ _ _, hC.put hb _ _ _⟩, hl.1, by simpa using hl.2⟩
/-- another box is put anew -/
theorem DVar.putOther {w : World} {B B' g k : Nat} {d e : Dsk} (h : DVar w B g d) (h' : DVar w B' k e) (hne : g ≠ k) (x y z : Value) :
    DVar (((w.setCell ⟨k, 0, none⟩ x).setCell ⟨k, 1, none⟩ y).setCell ⟨k, 2, none⟩ z) B g d := by
  obtain ⟨⟨a1, a2, a3, a4, hb, hS, hC⟩, hl⟩ := h
  obtain ⟨⟨b1, b2, b3, b4, hb', -, -⟩, -⟩ := h'
  exact ⟨⟨a1, a2, a3, a4, (heap_put3 w k x y z g hne).trans hb, hS.put hb' _ _ _, hC.put hb' _ _ _⟩, hl.1, by simpa using hl.2⟩
/-- a box that lies behind -/
theorem DVar.above {w : World} {B B' g : Nat} {d : Dsk} (h : DVar w B g d) (hB : B' ≤ B) : DVar w B' g d := ⟨h.box, Nat.le_trans hB h.lt.1, h.lt.2⟩
end Go.Proofs.Ytpmbmhjhclekeaa
