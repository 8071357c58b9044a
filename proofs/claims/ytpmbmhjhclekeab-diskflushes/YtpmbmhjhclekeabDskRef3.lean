/- The document's own disks (ossuaryref13): CopyDisk. -/
import Derived.Test.YtpmbmhjhclekeabDskRef2
import Derived.Test.YtpmbmhjhclekeabAppRec
namespace Go.Proofs.Ytpmbmhjhclekeab
open Go.RowKit
set_option linter.unusedVariables false
set_option linter.unusedSimpArgs false
attribute [local go_sem ↓] Go.wp_at_zero Go.wp_at_succ
theorem Try.infoWr : (Try.prog.info? 48).map (fun i => (i.zero, i.size, i.bytes)) = some (some (.agg #[.int .i64 0, .string ByteArray.empty]), 2, 24) := by kernel_rfl
theorem wrCells_one (l : List (Int × ByteArray)) : ∀ u ∈ wrCells l, u.oneCell' = true := by
  intro u hu
  unfold wrCells at hu
  obtain ⟨p, _, h⟩ := List.mem_flatMap.1 hu
  simp at h
  rcases h with rfl | rfl <;> rfl
theorem dsk_set1 {w : World} {b : Nat} {x y z y' : Value} {T : TypeId} (h : w.heap[b]? = some (.cells #[x, y, z] T (0, 0))) : (w.setCell ⟨b, 1, none⟩ y').heap[b]? = some (.cells #[x, y', z] T (0, 0)) := by
  rw [heap_setCell_same w b 1 _ T y' h]; rfl
theorem dsk_set2 {w : World} {b : Nat} {x y z z' : Value} {T : TypeId} (h : w.heap[b]? = some (.cells #[x, y, z] T (0, 0))) : (w.setCell ⟨b, 2, none⟩ z').heap[b]? = some (.cells #[x, y, z'] T (0, 0)) := by
  rw [heap_setCell_same w b 2 _ T z' h]; rfl
theorem dsk_put {w : World} {b : Nat} {x y z x' y' z' : Value} {T : TypeId} (h : w.heap[b]? = some (.cells #[x, y, z] T (0, 0))) : (((w.setCell ⟨b, 0, none⟩ x').setCell ⟨b, 1, none⟩ y').setCell ⟨b, 2, none⟩ z').heap[b]? = some (.cells #[x', y', z'] T (0, 0)) := by
  rw [heap_setCell_same _ b 2 _ T z' (heap_setCell_same _ b 1 _ T y' (heap_setCell_same w b 0 _ T x' h))]
  rfl
theorem dsk_free {w : World} {b : Nat} {C : Array Value} {T : TypeId} (h : w.heap[b]? = some (.cells C T (0, 0))) (i : Nat) : w.frozen? ⟨b, i, none⟩ = false := by
  unfold World.frozen?; simp [h]
end Go.Proofs.Ytpmbmhjhclekeab
