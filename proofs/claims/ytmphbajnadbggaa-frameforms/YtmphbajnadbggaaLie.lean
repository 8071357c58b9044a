/- Other bytes, as many (ossuarylaw7.lie): a contract. -/
import Derived.Test.YtmphbajnadbggaaPieces
import Derived.Test.YtmphbajnadbggaaKVec
import Derived.Laws.IdiomStrings
namespace Go.Proofs.Ytmphbajnadbggaa
open Go.RowKit
set_option linter.unusedVariables false
set_option linter.unusedSimpArgs false
/-- n bytes from the block's first cell on; none of its cells is frozen -/
def ByteRow (w : World) (g n : Nat) (T : TypeId) (xs : List Int) : Prop := xs.length = n ∧ ∃ C : Array Value, w.heap[g]? = some (.cells C T (C.size, C.size + 1)) ∧ n ≤ C.size ∧ ∀ j, j < n → C[j]? = some (.int .u8 (xs.getD j 0))
theorem ByteRow.cell {w : World} {g n : Nat} {T : TypeId} {xs : List Int} (h : ByteRow w g n T xs) {j : Nat} (hj : j < n) : w.cell? ⟨g, j, none⟩ = some (.int .u8 (xs.getD j 0)) := by
  obtain ⟨_, C, hh, _, hc⟩ := h
  rw [cell_of_row _ _ j _ _ _ hh, hc j hj]
theorem ByteRow.free {w : World} {g n : Nat} {T : TypeId} {xs : List Int} (h : ByteRow w g n T xs) {j : Nat} (hj : j < n) : w.frozen? ⟨g, j, none⟩ = false := by
  obtain ⟨_, C, hh, hn, _⟩ := h
  simp only [World.frozen?, hh]
  simp; omega
theorem bytes_row (w : World) (s : ByteArray) (cap : Nat) (T : TypeId) : ByteRow (w.alloc (.cells (bytesRow s cap) T ((bytesRow s cap).size, (bytesRow s cap).size + 1))) w.heap.size s.size T (s.data.toList.map fun b => (b.toNat : Int)) := by
  refine ⟨by rw [List.length_map, Array.length_toList]; rfl, _, heap_alloc_new w _, by unfold bytesRow; rw [Array.size_append, Array.size_map]; exact Nat.le_add_right _ _, fun j hj => ?_⟩
  rw [bytesRow_at s cap j hj]
  have hj' : j < s.data.size := hj
  simp [List.getD, Array.getElem?_eq_getElem hj']
theorem ByteRow.set {w : World} {g n : Nat} {T : TypeId} {xs : List Int} (h : ByteRow w g n T xs) (j : Nat) (x : Int) : ByteRow (w.setCell ⟨g, j, none⟩ (.int .u8 x)) g n T (xs.set j x) := by
  obtain ⟨hl, C, hh, hn, hc⟩ := h
  refine ⟨by simpa using hl, C.setIfInBounds j (.int .u8 x), ?_, by simpa using hn, fun i hi => ?_⟩
  · simp [World.setCell, hh, Array.getElem?_modify]
  · by_cases e : j = i
    · subst e
      have : j < C.size := by omega
      simp [this, List.getD, hl, hi]
    · rw [Array.getElem?_setIfInBounds_ne e, hc i hi]
      simp [List.getD, List.getElem?_set, e]
end Go.Proofs.Ytmphbajnadbggaa
