/- Plain facts on the machine's words: '^' and '&' of int on numbers from 0 on are those of plain numbers; '& 255' is the rest by 256. -/
import Derived.Laws.BitsLemmas
import Derived.Laws.Bits128
namespace Go.Proofs.YtfeepmjkamdldaaDoor

theorem toNat_ofInt64 (a : Nat) (ha : a < 4611686018427387904) : (BitVec.ofInt 64 (a : Int)).toNat = a := by
  rw [BitVec.ofInt_natCast, BitVec.toNat_ofNat]; exact Nat.mod_eq_of_lt (by omega)
theorem xor_i64 (a b : Nat) (ha : a < 4611686018427387904) (hb : b < 4611686018427387904) : bits .xor .i64 (a : Int) (b : Int) = ((a ^^^ b : Nat) : Int) := by
  have hx : a ^^^ b < 2 ^ 62 := Nat.xor_lt_two_pow (by omega) (by omega)
  show IntKind.i64.wrap ((BitVec.ofInt 64 (a : Int) ^^^ BitVec.ofInt 64 (b : Int)).toNat : Int) = _
  rw [BitVec.toNat_xor, toNat_ofInt64 a ha, toNat_ofInt64 b hb, IntKind.wrap_i64]
  omega
theorem and_i64 (a b : Nat) (ha : a < 4611686018427387904) (hb : b < 4611686018427387904) : bits .and .i64 (a : Int) (b : Int) = ((a &&& b : Nat) : Int) := by
  have hx : a &&& b ≤ a := Nat.and_le_left
  show IntKind.i64.wrap ((BitVec.ofInt 64 (a : Int) &&& BitVec.ofInt 64 (b : Int)).toNat : Int) = _
  rw [BitVec.toNat_and, toNat_ofInt64 a ha, toNat_ofInt64 b hb, IntKind.wrap_i64]
  omega
theorem and_mask_i64 (n : Int) (k m : Nat) (hk : k ≤ 32) (hm : (BitVec.ofInt 64 (m : Int)).toNat = 2 ^ k - 1) : bits .and .i64 n m = n % ((2 ^ k : Nat) : Int) := by
  have key : (BitVec.ofInt 64 n &&& BitVec.ofInt 64 (m : Int)).toNat = (n % ((2 ^ 64 : Nat) : Int)).toNat % 2 ^ k := by
    rw [BitVec.toNat_and, BitVec.toNat_ofInt, hm, Nat.and_two_pow_sub_one_eq_mod]
  have h64 : (2 ^ 64 : Nat) = 2 ^ k * 2 ^ (64 - k) := by rw [← Nat.pow_add]; congr 1; omega
  have hp : 0 < 2 ^ k := Nat.two_pow_pos k
  have hle : 2 ^ k ≤ 2 ^ 32 := Nat.pow_le_pow_right (by decide) hk
  show IntKind.i64.wrap ((BitVec.ofInt 64 n &&& BitVec.ofInt 64 (m : Int)).toNat : Nat) = _
  rw [key, IntKind.wrap_i64]
  have hlt : (n % ((2 ^ 64 : Nat) : Int)).toNat % 2 ^ k < 2 ^ k := Nat.mod_lt _ hp
  have e : (((n % ((2 ^ 64 : Nat) : Int)).toNat % 2 ^ k : Nat) : Int) = n % ((2 ^ k : Nat) : Int) := by
    have hnn : 0 ≤ n % ((2 ^ 64 : Nat) : Int) := Int.emod_nonneg _ (by decide)
    rw [Int.natCast_emod, Int.toNat_of_nonneg hnn, h64, Int.natCast_mul]
    exact Int.emod_emod_of_dvd n (Int.dvd_mul_right _ _)
  rw [e] at *
  omega
theorem and_255 (n : Int) : bits .and .i64 n 255 = n % 256 := and_mask_i64 n 8 255 (by decide) (by decide)
theorem and_1023 (n : Int) : bits .and .i64 n 1023 = n % 1024 := and_mask_i64 n 10 1023 (by decide) (by decide)
theorem and_1 (n : Int) : bits .and .i64 n 1 = n % 2 := and_mask_i64 n 1 1 (by decide) (by decide)
theorem natpow (k : Nat) : (2 : Int) ^ k = ((2 ^ k : Nat) : Int) := by simp
theorem shr_bit (b k : Nat) : bits .and .i64 ((b : Int) / 2 ^ k) 1 = ((b / 2 ^ k % 2 : Nat) : Int) := by
  rw [and_1, natpow]; rfl
theorem bit_true {b k : Nat} (h : b / 2 ^ k % 2 = 1) : (bits .and .i64 ((b : Int) / 2 ^ k) 1 == 1) = true := by
  rw [shr_bit, h]; rfl
theorem bit_false {b k : Nat} (h : b / 2 ^ k % 2 ≠ 1) : (bits .and .i64 ((b : Int) / 2 ^ k) 1 == 1) = false := by
  have h' : b / 2 ^ k % 2 = 0 := by omega
  rw [shr_bit, h']; rfl
end Go.Proofs.YtfeepmjkamdldaaDoor
