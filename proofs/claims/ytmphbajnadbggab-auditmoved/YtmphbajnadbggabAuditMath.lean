/- Answers at another block, at another place: by numbers. -/
import Derived.Test.YtmphbajnadbggabAuditRef4
import Derived.Test.YtmphbajnadbggabAuditText
import Derived.Test.YtmphbajnadbggabProofMath2
namespace Go.Proofs.Ytmphbajnadbggab
open Go.RowKit
set_option linter.unusedVariables false
set_option linter.unusedSimpArgs false
/-- the leaves of a shard, as numbers of its first byte -/
def lvs (b : Nat) : List Nat := leavesL (textS b)
def otherOk (l : List Nat) : Bool := (List.range 4).all fun c => Tree.climb 4 ((c + 1) % 4) (l.getD c 0) (Tree.path l c) != Tree.root l
set_option maxRecDepth 100000 in
theorem blocks_apart : (List.range 256).all (fun b => otherOk (lvs b)) = true := by decide +kernel
end Go.Proofs.Ytmphbajnadbggab
