/- Bytes 0 by the document (ossuaryref13): zeros. -/
import Derived.Test.YtpmbmhjhclekeabKMatRef
import Derived.Laws.BytesArg
namespace Go.Proofs.Ytpmbmhjhclekeab
open Go.RowKit
set_option linter.unusedVariables false
set_option linter.unusedSimpArgs false
attribute [local go_sem ↓] Go.wp_at_zero Go.wp_at_succ
def zerosB (k : Nat) : ByteArray := strOfNums (List.replicate k 0)
theorem zerosB_size (k : Nat) : (zerosB k).size = k := by rw [zerosB, strOfNums_size, List.length_replicate]
theorem Try.infoByte8 : (Try.prog.info? 5).map (fun i => (i.zero, i.size, i.bytes)) = some (some (.int .u8 0), 1, 1) := by kernel_rfl
theorem own_mk8 (w : World) (B n : Nat) (E : TypeId) (h : B ≤ w.heap.size) (hn : n ≤ maxLen) : OwnL (w.alloc (.cells (madeCells #[.int .u8 0] n) E)) B E (.slice (some ⟨w.heap.size, 0, none⟩) n n) ((List.replicate n (0 : Int)).map (Value.int .u8)) := by
  have := World.ownsRow_lit (e := E) (size := 1) w (madeCells #[.int .u8 0] n) n h hn (by rw [size_madeCells]; omega)
  rw [toList_madeCells_one] at this
  unfold OwnL
  simpa using this
end Go.Proofs.Ytpmbmhjhclekeab
