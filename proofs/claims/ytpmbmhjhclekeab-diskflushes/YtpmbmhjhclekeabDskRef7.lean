/- The document's own disks (ossuaryref13): Rot. -/
import Derived.Test.YtpmbmhjhclekeabDskRef6
import Derived.Test.YtpmbmhjhclekeabLie
import Derived.Laws.BitsAllLaws
namespace Go.Proofs.Ytpmbmhjhclekeab
open Go.RowKit
set_option linter.unusedVariables false
set_option linter.unusedSimpArgs false
attribute [local go_sem ↓] Go.wp_at_zero Go.wp_at_succ
/-- the bytes of a text -/
def bI (s : ByteArray) : List Int := s.data.toList.map fun b => (b.toNat : Int)
theorem bI_len (s : ByteArray) : (bI s).length = s.size := by simp [bI]
/-- a text of which byte k is turned by y -/
def rotS (s : ByteArray) (k : Nat) (y : Int) : ByteArray := strOfNums ((bI s).set k (bits .xor .u8 ((bI s).getD k 0) y))
theorem rotS_size (s : ByteArray) (k : Nat) (y : Int) : (rotS s k y).size = s.size := by rw [rotS, strOfNums_size, List.length_set, bI_len]
def rotD (d : Dsk) (at_ pl by_ : Int) : Dsk × Int :=
  if stateD d = 0 then (if 0 ≤ at_ ∧ at_ < d.secs.length ∧ 0 ≤ pl ∧ pl < 64 ∧ 1 ≤ by_ ∧ by_ ≤ 255 then (⟨d.lost, d.secs.set at_.toNat (rotS (d.secs.getD at_.toNat ByteArray.empty) pl.toNat by_), d.cache⟩, 0) else (dsk0, 1300)) else (dsk0, stateD d)
end Go.Proofs.Ytpmbmhjhclekeab
