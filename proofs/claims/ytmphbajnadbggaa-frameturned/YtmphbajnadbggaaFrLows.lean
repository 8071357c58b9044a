/- Low bits of numbers, one turned byte: for the statement FrameTurned. -/
import Derived.Test.YtmphbajnadbggaaFrTurn
import Derived.Test.YtmphbajnadbggaaKRegs
import Derived.Test.YtmphbajnadbggaaLie
import Derived.Test.YtmphbajnadbggaaFormsT
import Derived.Laws.BitsAllLaws
namespace Go.Proofs.Ytmphbajnadbggaa
open Go.RowKit
set_option linter.unusedVariables false
set_option linter.unusedSimpArgs false
/-- the number of a leaf: 30 bits of it -/
def low30 (x : Int) : Nat := (x % 4294967296).toNat / 4
theorem low30_lt (x : Int) : low30 x < 1073741824 := by unfold low30; omega
def lows (xs : List Int) (k : Nat) : List Nat := (xs.take k).map low30
theorem lows_snoc (xs : List Int) (k : Nat) (h : k < xs.length) : lows xs (k + 1) = lows xs k ++ [low30 (xs.getD k 0)] := by
  unfold lows
  rw [List.take_add_one, List.map_append]
  simp [List.getD, List.getElem?_eq_getElem h]
theorem lows_len (xs : List Int) (k : Nat) (h : k ≤ xs.length) : (lows xs k).length = k := by simp [lows]; omega
theorem lows_may' (xs : List Int) (k : Nat) : ∀ x ∈ lows xs k, x < 1073741824 := by
  intro x hx
  unfold lows at hx
  obtain ⟨y, _, rfl⟩ := List.mem_map.1 hx
  exact low30_lt y
theorem lows_lt (xs : List Int) (k i : Nat) : (lows xs k).getD i 0 < 1073741824 := by
  rcases Nat.lt_or_ge i (lows xs k).length with h | h
  · have e : (lows xs k).getD i 0 = (lows xs k)[i] := by simp [List.getD, List.getElem?_eq_getElem h]
    rw [e]
    have h2 := lows_may' xs k _ (List.getElem_mem h)
    exact h2
  · have e : (lows xs k).getD i 0 = 0 := by simp [List.getD, List.getElem?_eq_none h]
    omega
theorem modT (a n : Int) (h1 : 0 < n) (h2 : n ≤ 1000) : ∃ i : Nat, (i : Int) < n ∧ wrap64 ((IntKind.u64.wrap a).tmod n) = (i : Int) := by
  have h0 : IntKind.u64.wrap a = a % 18446744073709551616 := IntKind.wrap_u64 a
  have : 0 ≤ a % 18446744073709551616 := Int.emod_nonneg _ (by decide)
  rw [h0, Int.tmod_eq_emod_of_nonneg (by omega)]
  have h3 := Int.emod_nonneg (a % 18446744073709551616) (Int.ne_of_gt h1)
  have h4 := Int.emod_lt_of_pos (a % 18446744073709551616) h1
  exact ⟨(a % 18446744073709551616 % n).toNat, by omega, by unfold wrap64; omega⟩
/-- the bytes of a text as ints -/
def bint (s : ByteArray) : List Int := s.data.toList.map fun b => (b.toNat : Int)
theorem bint_len (s : ByteArray) : (bint s).length = s.size := by simp [bint]
/-- one byte is put anew -/
theorem byts_put (s : ByteArray) (k z : Nat) (hz : z < 256) : byts (strOfNums ((bint s).set k (z : Int))) = (byts s).set k z := by
  unfold byts
  rw [strOfNums_data, List.map_map]
  apply List.ext_getElem?
  intro i
  simp only [List.getElem?_map, List.getElem?_set, bint, List.length_map]
  by_cases e : k = i
  · subst e
    simp [Nat.mod_eq_of_lt hz]
  · simp only [e, if_false]
    cases s.data.toList[i]? with
    | none => rfl
    | some b => simp
/-- a byte, turned by a number from 1 to 128 -/
theorem turn_byte (x : Nat) (hx : x < 256) (a : Int) : ∃ z : Nat, z < 256 ∧ x ≠ z ∧ bits .xor .u8 (x : Int) (wrap64 (1 + bits .and .i64 a 127) % 256) = (z : Int) := by
  have h := and_mask_i64 a 7 127 (by decide) (by decide)
  have h' : bits .and .i64 a 127 = a % 128 := h
  obtain ⟨v, hv⟩ : ∃ v : Nat, v = (1 + a % 128).toNat := ⟨_, rfl⟩
  have e : wrap64 (1 + bits .and .i64 a 127) % 256 = (v : Int) := by rw [h']; unfold wrap64; omega
  refine ⟨x ^^^ v, Nat.xor_lt_two_pow (n := 8) hx (by omega), fun q => ?_, by rw [e]; exact u8_xor_nat x v hx (by omega)⟩
  have : x ^^^ (x ^^^ v) = x ^^^ x := by rw [← q]
  rw [← Nat.xor_assoc, Nat.xor_self, Nat.zero_xor] at this
  omega
theorem wf_fr {x : Int} (h1 : -9223372036854775808 ≤ x) (h2 : x < 9223372036854775808) : (Lit.int .i64 x).wf = true := by
  have e1 : IntKind.i64.min = -9223372036854775808 := by decide
  have e2 : IntKind.i64.max = 9223372036854775807 := by decide
  show (decide (IntKind.i64.min ≤ x) && decide (x ≤ IntKind.i64.max)) = true
  rw [e1, e2]
  simp
  omega
end Go.Proofs.Ytmphbajnadbggaa
