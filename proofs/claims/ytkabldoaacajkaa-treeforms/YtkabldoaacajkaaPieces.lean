/- Pieces of a text (ossuarylaw7.pieces): a contract. -/
import Derived.Test.YtkabldoaacajkaaKEnc
namespace Go.Proofs.Ytkabldoaacajkaa
open Go.RowKit
set_option linter.unusedVariables false
set_option linter.unusedSimpArgs false
def pcs (t : ByteArray) (m j : Nat) : List ByteArray := (List.range j).map fun i => t.extract (m * i) (m * i + m)
theorem pcs_len (t : ByteArray) (m j : Nat) : (pcs t m j).length = j := by simp [pcs]
theorem pcs_snoc (t : ByteArray) (m j : Nat) : pcs t m (j + 1) = pcs t m j ++ [t.extract (m * j) (m * j + m)] := by
  unfold pcs
  rw [List.range_succ, List.map_append]
  rfl
theorem run_slice_lh {P : Program} (w : World) (t : TypeId) (s : ByteArray) (ht : P.underlying t = some .string) (lo hi : Nat) (H : Int) (hH : H = (hi : Int)) (h1 : lo ≤ hi) (h2 : hi ≤ s.size) :
    (Instr.slice t (.string s) (some (.int .i64 (lo : Int))) (some (.int .i64 H)) none).run P w = .ok (.string (s.extract lo hi)) w := by
  subst hH
  have e1 : (lo : Int) ≤ hi := by omega
  have e2 : (hi : Int) ≤ s.size := by omega
  simp [Instr.slice, run_underlying ht, Instr.sliceBounds, run_sliceBound, sliced, e1, e2, h1, h2]
def pcm (t : ByteArray) (k : Nat) : Nat := min (t.size / k) 60
end Go.Proofs.Ytkabldoaacajkaa
