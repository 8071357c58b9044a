/- Slices of bools of the call's own. -/
import Derived.Test.YtcgagkaalbljmaaDoorBools
import Derived.Test.YtcgagkaalbljmaaDoorKMatRef
import Derived.Deep.DrawnRows
namespace Go.Proofs.YtcgagkaalbljmaaDoor
open Go.RowKit
set_option linter.unusedVariables false
set_option linter.unusedSimpArgs false
theorem Tryd.infoBool : (Tryd.prog.info? 4).map (fun i => (i.zero, i.size, i.bytes)) = some (some (.bool false), 1, 1) := by kernel_rfl
theorem own_bools (w : World) (B n : Nat) (E : TypeId) (h : B ≤ w.heap.size) (hn : n ≤ maxLen) : OwnL (w.alloc (.cells (madeCells #[.bool false] n) E)) B E (.slice (some ⟨w.heap.size, 0, none⟩) n n) ((List.replicate n false).map Value.bool) := by
  have := World.ownsRow_lit (e := E) (size := 1) w (madeCells #[.bool false] n) n h hn (by rw [size_madeCells]; omega)
  rw [toList_madeCells_one] at this
  unfold OwnL
  simpa using this
theorem own_bcell {w : World} {B E g n cap : Nat} {xs : List Bool} (h : OwnL w B E (.slice (some ⟨g, 0, none⟩) n cap) (xs.map Value.bool)) (k : Nat) (hk : k < xs.length) : w.cell? ⟨g, k, none⟩ = some (.bool (xs.getD k false)) := by
  obtain ⟨g1, cap1, e, hb, _, _, hc⟩ := own_form (n := (xs.map Value.bool).length) h (by simp; omega)
  simp only [Value.slice.injEq, Option.some.injEq, Addr.mk.injEq, and_true, true_and] at e
  obtain ⟨rfl, _⟩ := e
  refine hc k _ ?_
  simp [List.getElem?_eq_getElem hk]
end Go.Proofs.YtcgagkaalbljmaaDoor
