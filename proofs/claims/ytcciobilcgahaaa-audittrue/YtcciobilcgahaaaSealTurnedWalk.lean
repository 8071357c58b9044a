/- SealTurned: of texts that differ in one byte seals are unlike; of pairs that differ in one number too. -/
import Derived.Test.YtcciobilcgahaaaSealPairsWalk
import Derived.Test.YtcciobilcgahaaaKRegs
import Derived.Test.YtcciobilcgahaaaLie
import Derived.Test.YtcciobilcgahaaaFormsT
import Derived.Test.YtcciobilcgahaaaKCore
import Derived.Deep.Cut
import Derived.Laws.BitsAllLaws
namespace Go.Proofs.Ytcciobilcgahaaa
open Go.RowKit
set_option linter.unusedVariables false
set_option linter.unusedSimpArgs false
theorem pair_sL {x y : Nat} (hx : x + 1 < 2147483647) (hy : y < 2147483647) : Seal.pair ((x : Int) + 1) (y : Int) = Seal.pairN (x + 1) y := by
  have e : (x : Int) + 1 = ((x + 1 : Nat) : Int) := by omega
  rw [e, pair_nat hx hy]
theorem pair_sR {x y : Nat} (hx : x < 2147483647) (hy : y + 1 < 2147483647) : Seal.pair (x : Int) ((y : Int) + 1) = Seal.pairN x (y + 1) := by
  have e : (y : Int) + 1 = ((y + 1 : Nat) : Int) := by omega
  rw [e, pair_nat hx hy]
theorem neq_b {a b : Nat} (h : a ≠ b) : ((a : Int) == (b : Int)) = false := by simp; omega
theorem modn9 (a : Int) (k : Nat) (hk : 0 < k) (hm : k ≤ 1000000) : ∃ i : Nat, i < k ∧ wrap64 ((IntKind.u64.wrap a).tmod (k : Int)) = (i : Int) := by
  have h0 : IntKind.u64.wrap a = a % 18446744073709551616 := IntKind.wrap_u64 a
  have : 0 ≤ a % 18446744073709551616 := Int.emod_nonneg _ (by decide)
  rw [h0, Int.tmod_eq_emod_of_nonneg (by omega)]
  have h3 := Int.emod_nonneg (a % 18446744073709551616) (show (k : Int) ≠ 0 by omega)
  have h4 := Int.emod_lt_of_pos (a % 18446744073709551616) (show (0 : Int) < k by omega)
  exact ⟨(a % 18446744073709551616 % (k : Int)).toNat, by omega, by unfold wrap64; omega⟩
/-- the bytes of a text as ints -/
def bint (s : ByteArray) : List Int := s.data.toList.map fun b => (b.toNat : Int)
theorem bint_len (s : ByteArray) : (bint s).length = s.size := by simp [bint]
/-- one byte is put anew -/
theorem byts_put (s : ByteArray) (k z : Nat) (hz : z < 256) : byts (strOfNums ((bint s).set k (z : Int))) = (byts s).set k z := by
  unfold byts
  rw [strOfNums_data, List.map_map]
  apply List.ext_getElem?
  intro i
  simp only [List.getElem?_map, List.getElem?_set, bint, List.length_map]
  by_cases e : k = i
  · subst e
    simp [Nat.mod_eq_of_lt hz]
  · simp only [e, if_false]
    cases s.data.toList[i]? with
    | none => rfl
    | some b => simp
theorem turned_text {s : ByteArray} {k z : Nat} (hk : k < s.size) (hz : z < 256) (hne : ((byts s).getD k 0) ≠ z) : Seal.of (byts s) ≠ Seal.of (byts (strOfNums ((bint s).set k (z : Int)))) := by
  rw [byts_put s k z hz]
  have hl : k < (byts s).length := by rw [byts_len]; exact hk
  have e1 : byts s = (byts s).take k ++ (byts s)[k] :: (byts s).drop (k + 1) := by
    rw [← List.drop_eq_getElem_cons hl, List.take_append_drop]
  have e2 : (byts s).set k z = (byts s).take k ++ z :: (byts s).drop (k + 1) := List.set_eq_take_append_cons_drop.trans (by rw [if_pos hl])
  have hb : (byts s)[k] < 256 := by simp [byts]; exact UInt8.toNat_lt _
  have hne' : (byts s)[k] ≠ z := by
    have : (byts s).getD k 0 = (byts s)[k] := by simp [List.getD, hl]
    rw [this] at hne
    exact hne
  rw [e2]
  intro h
  exact Seal.of_turned hb hz hne' _ (by rw [← e1]; exact h)
/-- a byte, turned by a number from 1 to 128 -/
theorem turn_byte (x : Nat) (hx : x < 256) (a : Int) : ∃ z : Nat, z < 256 ∧ x ≠ z ∧ bits .xor .u8 (x : Int) (wrap64 (1 + bits .and .i64 a 127) % 256) = (z : Int) := by
  have h := and_mask_i64 a 7 127 (by decide) (by decide)
  have h' : bits .and .i64 a 127 = a % 128 := h
  obtain ⟨v, hv⟩ : ∃ v : Nat, v = (1 + a % 128).toNat := ⟨_, rfl⟩
  have e : wrap64 (1 + bits .and .i64 a 127) % 256 = (v : Int) := by rw [h']; unfold wrap64; omega
  refine ⟨x ^^^ v, Nat.xor_lt_two_pow (n := 8) hx (by omega), fun q => ?_, by rw [e]; exact u8_xor_nat x v hx (by omega)⟩
  have : x ^^^ (x ^^^ v) = x ^^^ x := by rw [← q]
  rw [← Nat.xor_assoc, Nat.xor_self, Nat.zero_xor] at this
  omega
end Go.Proofs.Ytcciobilcgahaaa
