/- SealPairs: a pair is linear. -/
import Derived.Test.YtcciobilcgahaaaSealNumbersWalk
namespace Go.Proofs.Ytcciobilcgahaaa
open Go.RowKit
set_option linter.unusedVariables false
set_option linter.unusedSimpArgs false
theorem num30 (a : Int) : ∃ x : Nat, x < 1073741824 ∧ a % 4294967296 / 4 = (x : Int) := ⟨(a % 4294967296 / 4).toNat, by omega, by omega⟩
theorem pair_nat {x y : Nat} (hx : x < 2147483647) (hy : y < 2147483647) : Seal.pair (x : Int) (y : Int) = Seal.pairN x y := by
  unfold Seal.pair
  rw [Seal.md_small hx, Seal.md_small hy]
theorem times_add (x z : Nat) : (x + z) * 65537 % 2147483647 = (x * 65537 % 2147483647 + z * 65537 % 2147483647) % 2147483647 := by
  rw [Nat.add_mul, Nat.add_mod]
theorem pair_sumL {x y z : Nat} (hx : x + z < 2147483647) (hy : y < 2147483647) : Seal.pair ((x : Int) + (z : Int)) (y : Int) = Seal.pairN (x + z) y := by
  have e : (x : Int) + (z : Int) = ((x + z : Nat) : Int) := by omega
  rw [e, pair_nat hx hy]
theorem pair_sumR {x y z : Nat} (hx : x < 2147483647) (hy : y + z < 2147483647) : Seal.pair (x : Int) ((y : Int) + (z : Int)) = Seal.pairN x (y + z) := by
  have e : (y : Int) + (z : Int) = ((y + z : Nat) : Int) := by omega
  rw [e, pair_nat hx hy]
theorem lin_left (X Y Z : Nat) (hZ : Z < 2147483647) : ((((911 + (X + Z) % 2147483647 + Y) % 2147483647 : Nat) : Int) - (((911 + X + Y) % 2147483647 : Nat) : Int) + 2147483647) % 2147483647 = (Z : Int) := by omega
theorem lin_right (X Y Z : Nat) : ((((911 + X + (Y + Z) % 2147483647 * 65537) % 2147483647 : Nat) : Int) - (((911 + X + Y * 65537) % 2147483647 : Nat) : Int) + 2147483647) % 2147483647 = ((Z * 65537 % 2147483647 : Nat) : Int) := by omega
theorem pair_left (x y z : Nat) : ((Seal.pairN (x + z) y : Int) - (Seal.pairN x y : Int) + 2147483647) % 2147483647 = ((z * 65537 % 2147483647 : Nat) : Int) := by
  unfold Seal.pairN
  rw [times_add]
  exact lin_left _ _ _ (Nat.mod_lt _ (by decide))
theorem pair_right (x y z : Nat) : ((Seal.pairN x (y + z) : Int) - (Seal.pairN x y : Int) + 2147483647) % 2147483647 = ((z * 65537 % 2147483647 * 65537 % 2147483647 : Nat) : Int) := by
  unfold Seal.pairN
  rw [times_add]
  exact lin_right _ _ _
end Go.Proofs.Ytcciobilcgahaaa
