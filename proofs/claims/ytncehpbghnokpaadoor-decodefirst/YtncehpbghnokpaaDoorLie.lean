/- Other bytes, as many (ossuarylaw7.lie): a contract. -/
import Derived.Test.YtncehpbghnokpaaDoorPieces
import Derived.Test.YtncehpbghnokpaaDoorKVec
import Derived.Laws.IdiomStrings
namespace Go.Proofs.YtncehpbghnokpaaDoor
open Go.RowKit
set_option linter.unusedVariables false
set_option linter.unusedSimpArgs false
/-- n bytes from the block's first cell on; none of its cells is frozen -/
def ByteRow (w : World) (g n : Nat) (T : TypeId) (xs : List Int) : Prop := xs.length = n ∧ ∃ C : Array Value, w.heap[g]? = some (.cells C T (C.size, C.size + 1)) ∧ n ≤ C.size ∧ ∀ j, j < n → C[j]? = some (.int .u8 (xs.getD j 0))
theorem ByteRow.cell {w : World} {g n : Nat} {T : TypeId} {xs : List Int} (h : ByteRow w g n T xs) {j : Nat} (hj : j < n) : w.cell? ⟨g, j, none⟩ = some (.int .u8 (xs.getD j 0)) := by
  obtain ⟨_, C, hh, _, hc⟩ := h
  rw [cell_of_row _ _ j _ _ _ hh, hc j hj]
theorem ByteRow.free {w : World} {g n : Nat} {T : TypeId} {xs : List Int} (h : ByteRow w g n T xs) {j : Nat} (hj : j < n) : w.frozen? ⟨g, j, none⟩ = false := by
  obtain ⟨_, C, hh, hn, _⟩ := h
  simp only [World.frozen?, hh]
  simp; omega
theorem bytes_row (w : World) (s : ByteArray) (cap : Nat) (T : TypeId) : ByteRow (w.alloc (.cells (bytesRow s cap) T ((bytesRow s cap).size, (bytesRow s cap).size + 1))) w.heap.size s.size T (s.data.toList.map fun b => (b.toNat : Int)) := by
  refine ⟨by rw [List.length_map, Array.length_toList]; rfl, _, heap_alloc_new w _, by unfold bytesRow; rw [Array.size_append, Array.size_map]; exact Nat.le_add_right _ _, fun j hj => ?_⟩
  rw [bytesRow_at s cap j hj]
  have hj' : j < s.data.size := hj
  simp [List.getD, Array.getElem?_eq_getElem hj']
theorem ByteRow.set {w : World} {g n : Nat} {T : TypeId} {xs : List Int} (h : ByteRow w g n T xs) (j : Nat) (x : Int) : ByteRow (w.setCell ⟨g, j, none⟩ (.int .u8 x)) g n T (xs.set j x) := by
  obtain ⟨hl, C, hh, hn, hc⟩ := h
  refine ⟨by simpa using hl, C.setIfInBounds j (.int .u8 x), ?_, by simpa using hn, fun i hi => ?_⟩
  · simp [World.setCell, hh, Array.getElem?_modify]
  · by_cases e : j = i
    · subst e
      have : j < C.size := by omega
      simp [this, List.getD, hl, hi]
    · rw [Array.getElem?_setIfInBounds_ne e, hc i hi]
      simp [List.getD, List.getElem?_set, e]
set_option maxRecDepth 100000 in
set_option maxHeartbeats 2000000 in
theorem lie_any (s o : ByteArray) (w : World) (hs : s.size ≤ 4096) (ho : o.size ≤ 140737488351232) :
    Calls Tryd.prog 15 #[.string s, .string o] w fun e w' => ∃ x : ByteArray, x.size = s.size ∧ e = .returned (.string x) ∧ Below w.heap.size w w' := by
  have hcv := run_bytes_of_string (P := Tryd.prog) w 9 36 5 s Tryd.underlying9 Tryd.underlying36 Tryd.underlying5
  obtain ⟨cap, ec⟩ : ∃ cap, cap = grownCap w s.size 0 5 := ⟨_, rfl⟩
  rw [← ec] at hcv
  clear ec
  have R0 : Hid (ByteRow (w.alloc (.cells (bytesRow s cap) 5 ((bytesRow s cap).size, (bytesRow s cap).size + 1))).drew w.heap.size s.size 5 (s.data.toList.map fun b => (b.toNat : Int))) := hide (bytes_row w s cap 5)
  have B0 : Hid (Below w.heap.size w (w.alloc (.cells (bytesRow s cap) 5 ((bytesRow s cap).size, (bytesRow s cap).size + 1))).drew) := hide (by go_grown)
  go_enter Tryd.func15, Tryd.ntmps15
  go_wp2
  clear hcv
  go_loopw [6] (fun iv wr => ∃ k : Nat, k ≤ s.size ∧ iv = .int .i64 k ∧ Hid (∃ xs, ByteRow wr w.heap.size s.size 5 xs) ∧ Hid (Below w.heap.size w wr)) (fun iv _ => s.size - (intOf iv).toNat)
  case atStart => exact ⟨0, by omega, rfl, hide ⟨_, unhide R0⟩, B0⟩
  case round =>
    obtain ⟨k, hk, rfl, HX, HW⟩ := hrel
    obtain ⟨xs, hX⟩ := unhide HX
    by_cases hlt : k < s.size ∧ k < o.size
    · obtain ⟨h1, h2⟩ := hlt
      have h1' : (k : Int) < s.size := by omega
      have h2' : (k : Int) < o.size := by omega
      have c1 := hX.cell h1
      have f1 := hX.free h1
      obtain ⟨y, ey⟩ : ∃ y, y = xs.getD k 0 := ⟨_, rfl⟩
      rw [← ey] at c1
      clear ey
      have HX2 := hide hX
      clear hX HX
      go_wp2
      go_roundw
      case rel => exact ⟨k + 1, by omega, by go_num, hide ⟨_, (unhide HX2).set k _⟩, hide ((unhide HW).setCell (Nat.le_refl _) _)⟩
      case measure => simp [intOf]; omega
    · have hcase : (¬ (k : Int) < s.size) ∨ ((k : Int) < s.size ∧ ¬ (k : Int) < o.size) := by omega
      have hl := hX.1
      have hcb := run_convert_bytes_arg (P := Tryd.prog) wr 36 5 Tryd.underlying36 Tryd.underlying5 w.heap.size 0 s.size cap xs hl (fun j hj => by rw [Nat.zero_add]; exact hX.cell hj) 9 Tryd.underlying9
      have hz : (strOfNums xs).size = s.size := by rw [strOfNums_size, hl]
      obtain ⟨x, ex⟩ : ∃ x, x = strOfNums xs := ⟨_, rfl⟩
      rw [← ex] at hcb hz
      have HZ := hide hz
      clear hX HX hlt hz ex hl
      rcases hcase with hc | ⟨hc, hc'⟩
      · go_wp2
        go_ret
        exact ⟨x, unhide HZ, rfl, unhide HW⟩
      · go_wp2
        go_ret
        exact ⟨x, unhide HZ, rfl, unhide HW⟩
end Go.Proofs.YtncehpbghnokpaaDoor
