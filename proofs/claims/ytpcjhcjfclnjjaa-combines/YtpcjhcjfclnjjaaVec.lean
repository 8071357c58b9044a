/- Rows of bytes in plain numbers: what Combine tells. -/
import Derived.Test.YtpcjhcjfclnjjaaGf
import Derived.Laws.BytesArg
namespace Go.Proofs.Ytpcjhcjfclnjjaa.Vec
def byteAt (s : ByteArray) (j : Nat) : Nat := (s.data.toList.getD j 0).toNat
def row (ss : List ByteArray) (k : Nat) : ByteArray := ss.getD k ByteArray.empty
/-- the sum of the first k rows' bytes at j, each times its number -/
def cmb (cs : List Int) (ss : List ByteArray) : Nat → Nat → Nat
  | 0, _ => 0
  | k + 1, j => cmb cs ss k j ^^^ Gf.mul (cs.getD k 0).toNat (byteAt (row ss k) j)
theorem cmb_lt (cs : List Int) (ss : List ByteArray) (k j : Nat) : cmb cs ss k j < 256 := by
  cases k with
  | zero => exact (by decide : (0 : Nat) < 256)
  | succ k => exact Gf.xor_lt (by
      cases k with
      | zero => exact (by decide : (0 : Nat) < 256)
      | succ k => exact cmb_lt cs ss (k + 1) j) (Gf.mul_lt _ _)
theorem byteAt_lt (s : ByteArray) (j : Nat) : byteAt s j < 256 := UInt8.toNat_lt _
theorem byteAt_get (s : ByteArray) (j : Nat) (h : j < s.size) : (s[j].toNat : Nat) = byteAt s j := by
  unfold byteAt
  have : s.data.toList.getD j 0 = s[j] := by
    have hj : j < s.data.size := h
    simp [List.getD, Array.getElem?_eq_getElem hj]
    rfl
  rw [this]
/-- each row is as long as the first, with at most MaxText bytes -/
def alikeTo (ss : List ByteArray) (k : Nat) : Prop := ∀ i, i < k → (ss.getD i ByteArray.empty).size = (ss.getD 0 ByteArray.empty).size ∧ (ss.getD i ByteArray.empty).size ≤ 4096
def numsTo (cs : List Int) (k : Nat) : Prop := ∀ i, i < k → 0 ≤ cs.getD i 0 ∧ cs.getD i 0 < 256
/-- may these be combined? -/
def May (cs : List Int) (ss : List ByteArray) : Prop := 1 ≤ cs.length ∧ cs.length ≤ 12 ∧ ss.length = cs.length ∧ alikeTo ss ss.length ∧ numsTo cs cs.length
def nums (cs : List Int) (ss : List ByteArray) : List Int := (List.range (ss.getD 0 ByteArray.empty).size).map fun j => ((cmb cs ss cs.length j : Nat) : Int)
def out (cs : List Int) (ss : List ByteArray) : ByteArray := strOfNums (nums cs ss)
end Go.Proofs.Ytpcjhcjfclnjjaa.Vec
