/- Pieces of a text (ossuarylaw7.pieces): a contract. -/
import Derived.Test.YtmphbajnadbggabKEnc
namespace Go.Proofs.Ytmphbajnadbggab
open Go.RowKit
set_option linter.unusedVariables false
set_option linter.unusedSimpArgs false
def pcs (t : ByteArray) (m j : Nat) : List ByteArray := (List.range j).map fun i => t.extract (m * i) (m * i + m)
theorem pcs_len (t : ByteArray) (m j : Nat) : (pcs t m j).length = j := by simp [pcs]
theorem pcs_snoc (t : ByteArray) (m j : Nat) : pcs t m (j + 1) = pcs t m j ++ [t.extract (m * j) (m * j + m)] := by
  unfold pcs
  rw [List.range_succ, List.map_append]
  rfl
theorem run_slice_lh {P : Program} (w : World) (t : TypeId) (s : ByteArray) (ht : P.underlying t = some .string) (lo hi : Nat) (H : Int) (hH : H = (hi : Int)) (h1 : lo ≤ hi) (h2 : hi ≤ s.size) :
    (Instr.slice t (.string s) (some (.int .i64 (lo : Int))) (some (.int .i64 H)) none).run P w = .ok (.string (s.extract lo hi)) w := by
  subst hH
  have e1 : (lo : Int) ≤ hi := by omega
  have e2 : (hi : Int) ≤ s.size := by omega
  simp [Instr.slice, run_underlying ht, Instr.sliceBounds, run_sliceBound, sliced, e1, e2, h1, h2]
theorem run_min_of {P : Program} (ts : Array TypeId) (t : TypeId) (a b : Int) (m : Nat) (h : (if b < a then b else a) = (m : Int)) (w : World) : (Builtin.min_ ts t #[.int .i64 a, .int .i64 b]).run P w = .ok (.int .i64 (m : Int)) w := by
  have h2 : (Builtin.min_ ts t #[.int .i64 a, .int .i64 b]).run P w = .ok (.int .i64 (if b < a then b else a)) w := run_min_int2 w ts t .i64 .i64 a b
  rw [h2, h]
theorem run_slice_0h {P : Program} (w : World) (t : TypeId) (s : ByteArray) (ht : P.underlying t = some .string) (hi : Nat) (H : Int) (hH : H = (hi : Int)) (h2 : hi ≤ s.size) :
    (Instr.slice t (.string s) none (some (.int .i64 H)) none).run P w = .ok (.string (s.extract 0 hi)) w := by
  subst hH
  have e2 : (hi : Int) ≤ s.size := by omega
  simp [Instr.slice, run_underlying ht, Instr.sliceBounds, run_sliceBound, sliced, e2, h2]
theorem int_lit (w : World) (xs : List Int) (T : TypeId) (H : Nat) (C : Array Value) (n : Nat) (hH : w.heap.size = H) (hC : C = (xs.map (Value.int .i64)).toArray) (hl : xs.length = n) : Ints (w.alloc (.cells C T)) (some ⟨H, 0, none⟩) n n xs := by
  subst hC hl hH
  refine ⟨rfl, ?_⟩
  by_cases h : xs.length = 0
  · exact .inr (.inl ⟨h, _, rfl⟩)
  · refine .inr (.inr ⟨by omega, Nat.le_refl _, _, _, rfl, fun i hi => ?_⟩)
    rw [Nat.zero_add, cell_of_row _ _ i _ T (0, 0) (heap_alloc_new w _)]
    simp [List.getElem?_eq_getElem hi]
def pcm (t : ByteArray) (k : Nat) : Nat := min (t.size / k) 60
end Go.Proofs.Ytmphbajnadbggab
