/- Bytes 0 by the document (ossuaryref13): zeros. -/
import Derived.Test.YtmphbajnadbggaaKMatRef
import Derived.Laws.BytesArg
namespace Go.Proofs.Ytmphbajnadbggaa
open Go.RowKit
set_option linter.unusedVariables false
set_option linter.unusedSimpArgs false
attribute [local go_sem ↓] Go.wp_at_zero Go.wp_at_succ
def zerosB (k : Nat) : ByteArray := strOfNums (List.replicate k 0)
theorem zerosB_size (k : Nat) : (zerosB k).size = k := by rw [zerosB, strOfNums_size, List.length_replicate]
theorem Try.infoByte8 : (Try.prog.info? 5).map (fun i => (i.zero, i.size, i.bytes)) = some (some (.int .u8 0), 1, 1) := by kernel_rfl
theorem own_mk8 (w : World) (B n : Nat) (E : TypeId) (h : B ≤ w.heap.size) (hn : n ≤ maxLen) : OwnL (w.alloc (.cells (madeCells #[.int .u8 0] n) E)) B E (.slice (some ⟨w.heap.size, 0, none⟩) n n) ((List.replicate n (0 : Int)).map (Value.int .u8)) := by
  have := World.ownsRow_lit (e := E) (size := 1) w (madeCells #[.int .u8 0] n) n h hn (by rw [size_madeCells]; omega)
  rw [toList_madeCells_one] at this
  unfold OwnL
  simpa using this
set_option maxRecDepth 100000 in
set_option maxHeartbeats 1000000 in
theorem zeros_any (k : Nat) (hk : k ≤ 4096) (w : World) : Calls Try.prog 42 #[.int .i64 k] w fun e w' => e = .returned (.string (zerosB k)) ∧ Below w.heap.size w w' := by
  have hmk := fun w => run_make_row' (P := Try.prog) 41 5 (.int .u8 0) 1 Try.underlying41 Try.infoByte8 rfl .i64 .i64 k (by omega) (by omega) w
  have HO := own_mk8 w w.heap.size k 5 (Nat.le_refl _) (by unfold maxLen; omega)
  have HB := hide (below_alloc w (.cells (madeCells #[.int .u8 0] k) 5))
  have hcell : ∀ j, j < k → (w.alloc (.cells (madeCells #[.int .u8 0] k) 5)).cell? ⟨w.heap.size, 0 + j, none⟩ = some (.int .u8 ((List.replicate k (0 : Int)).getD j 0)) := fun j hj => by
    rw [Nat.zero_add, World.ownsRow.cellAt (own_row' HO) j (by simpa using hj), List.getElem?_map, List.getElem?_eq_getElem (by simpa using hj)]
    simp [List.getD, hj]
  have hcb := run_convert_bytes_arg (P := Try.prog) (w.alloc (.cells (madeCells #[.int .u8 0] k) 5)) 41 5 Try.underlying41 Try.underlying5 w.heap.size 0 k k (List.replicate k 0) (by simp) hcell 9 Try.underlying9
  obtain ⟨t, et⟩ : ∃ t, t = strOfNums (List.replicate k 0) := ⟨_, rfl⟩
  rw [← et] at hcb
  have ET := hide et
  clear hcell HO et
  go_enter Try.func42, Try.ntmps42
  go_wp2
  go_ret
  exact ⟨by rw [zerosB, ← unhide ET]; rfl, unhide HB⟩
end Go.Proofs.Ytmphbajnadbggaa
