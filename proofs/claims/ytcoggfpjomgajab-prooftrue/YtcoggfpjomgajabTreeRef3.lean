/- The document's own leaves (ossuaryref1). -/
import Derived.Test.YtcoggfpjomgajabTreeRef2
import Derived.Test.YtcoggfpjomgajabPieces2
namespace Go.Proofs.Ytcoggfpjomgajab
open Go.RowKit
set_option linter.unusedVariables false
set_option linter.unusedSimpArgs false
/-- the i-th block of a text -/
def blk (s : ByteArray) (i : Nat) : ByteArray := s.extract (8 * i) (min (8 * i + 8) s.size)
def leavesTo (s : ByteArray) (j : Nat) : List Nat := (List.range j).map fun i => Seal.of (byts (blk s i))
/-- the leaves of a text -/
def leavesL (s : ByteArray) : List Nat := leavesTo s ((s.size + 7) / 8)
theorem leavesTo_len (s : ByteArray) (j : Nat) : (leavesTo s j).length = j := by simp [leavesTo]
theorem leavesTo_snoc (s : ByteArray) (j : Nat) : leavesTo s (j + 1) = leavesTo s j ++ [Seal.of (byts (blk s j))] := by
  unfold leavesTo
  rw [List.range_succ, List.map_append]
  rfl
end Go.Proofs.Ytcoggfpjomgajab
