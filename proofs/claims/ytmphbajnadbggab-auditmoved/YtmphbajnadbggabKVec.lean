/- Texts one behind the other: Vec, RefVec1, RefVec2, RefVec3, VecWalk. -/
import Derived.Test.YtmphbajnadbggabKCore
import Derived.Test.YtmphbajnadbggabProg
import Derived.Test.YtmphbajnadbggabKRegs
import Derived.Laws.BytesArg
import Derived.Deep.OwnRows
import Derived.Deep.RegionHeld3
import Derived.Deep.DrawnRows
import Derived.Laws.BitsAllLaws
/- Rows of bytes in plain numbers: what Combine tells. -/
namespace Go.Proofs.Ytmphbajnadbggab.Vec
def byteAt (s : ByteArray) (j : Nat) : Nat := (s.data.toList.getD j 0).toNat
def row (ss : List ByteArray) (k : Nat) : ByteArray := ss.getD k ByteArray.empty
/-- the sum of the first k rows' bytes at j, each times its number -/
def cmb (cs : List Int) (ss : List ByteArray) : Nat → Nat → Nat
  | 0, _ => 0
  | k + 1, j => cmb cs ss k j ^^^ Gf.mul (cs.getD k 0).toNat (byteAt (row ss k) j)
theorem cmb_lt (cs : List Int) (ss : List ByteArray) (k j : Nat) : cmb cs ss k j < 256 := by
  cases k with
  | zero => exact (by decide : (0 : Nat) < 256)
  | succ k => exact Gf.xor_lt (by
      cases k with
      | zero => exact (by decide : (0 : Nat) < 256)
      | succ k => exact cmb_lt cs ss (k + 1) j) (Gf.mul_lt _ _)
theorem byteAt_lt (s : ByteArray) (j : Nat) : byteAt s j < 256 := UInt8.toNat_lt _
theorem byteAt_get (s : ByteArray) (j : Nat) (h : j < s.size) : (s[j].toNat : Nat) = byteAt s j := by
  unfold byteAt
  have : s.data.toList.getD j 0 = s[j] := by
    have hj : j < s.data.size := h
    simp [List.getD, Array.getElem?_eq_getElem hj]
    rfl
  rw [this]
/-- each row is as long as the first, with at most MaxText bytes -/
def alikeTo (ss : List ByteArray) (k : Nat) : Prop := ∀ i, i < k → (ss.getD i ByteArray.empty).size = (ss.getD 0 ByteArray.empty).size ∧ (ss.getD i ByteArray.empty).size ≤ 4096
def numsTo (cs : List Int) (k : Nat) : Prop := ∀ i, i < k → 0 ≤ cs.getD i 0 ∧ cs.getD i 0 < 256
/-- may these be combined? -/
def May (cs : List Int) (ss : List ByteArray) : Prop := 1 ≤ cs.length ∧ cs.length ≤ 12 ∧ ss.length = cs.length ∧ alikeTo ss ss.length ∧ numsTo cs cs.length
def nums (cs : List Int) (ss : List ByteArray) : List Int := (List.range (ss.getD 0 ByteArray.empty).size).map fun j => ((cmb cs ss cs.length j : Nat) : Int)
def out (cs : List Int) (ss : List ByteArray) : ByteArray := strOfNums (nums cs ss)
end Go.Proofs.Ytmphbajnadbggab.Vec
/- The document's own Combine (ossuaryref1) returns what plain numbers say: contracts. -/
namespace Go.Proofs.Ytmphbajnadbggab
open Go.RowKit
set_option linter.unusedVariables false
open Vec (alikeTo numsTo May cmb byteAt)
end Go.Proofs.Ytmphbajnadbggab
/- The document's own Combine (ossuaryref1), where the rows may be combined: it returns the sum. -/
namespace Go.Proofs.Ytmphbajnadbggab
open Go.RowKit
set_option linter.unusedVariables false
open Vec (alikeTo numsTo May cmb byteAt)
/-- what lies in the new row: rows before i, and row i up to j, are added up -/
def cellC (cs : List Int) (ss : List ByteArray) (i j t : Nat) : Value := .int .u8 ((if t < j then cmb cs ss (i + 1) t else cmb cs ss i t : Nat) : Int)
theorem cellC_start (cs : List Int) (ss : List ByteArray) (t : Nat) : Value.int .u8 0 = cellC cs ss 0 0 t := by simp [cellC, cmb]
theorem wrap_byte (u : UInt8) : IntKind.i64.wrap ((u.toNat : Nat) : Int) = ((u.toNat : Nat) : Int) := by
  have := UInt8.toNat_lt u
  rw [IntKind.wrap_i64]; omega
theorem w64_byte (u : UInt8) : wrap64 ((u.toNat : Nat) : Int) = ((u.toNat : Nat) : Int) := by
  have := UInt8.toNat_lt u
  unfold wrap64; omega
theorem cellC_next (cs : List Int) (ss : List ByteArray) (i m t : Nat) (ht : t < m) : cellC cs ss i m t = cellC cs ss (i + 1) 0 t := by simp [cellC, ht]
theorem cellC_step {cs : List Int} {ss : List ByteArray} {i j x o : Nat} {t : ByteArray} (ex : cs.getD i 0 = (x : Int)) (et : t = ss.getD i ByteArray.empty) (eo : o = cmb cs ss i j) (hj : j < t.size) (r : Nat) :
    (if r = j then Value.int .u8 (bits .xor .u8 (o : Int) (((Gf.mul x t[j].toNat : Nat) : Int) % 256)) else cellC cs ss i j r) = cellC cs ss i (j + 1) r := by
  have hm := Gf.mul_lt x t[j].toNat
  have ho : o < 256 := by rw [eo]; exact Vec.cmb_lt cs ss i j
  by_cases h : r = j
  · subst h
    rw [if_pos rfl, Int.emod_eq_of_lt (by omega) (by omega), u8_xor_nat o _ ho hm]
    have e1 : Gf.mul x t[r].toNat = Gf.mul (cs.getD i 0).toNat (byteAt (Vec.row ss i) r) := by
      rw [ex, Vec.byteAt_get t r hj, Int.toNat_natCast, et]; rfl
    unfold cellC
    rw [if_pos (by omega)]
    show _ = Value.int .u8 ((cmb cs ss i r ^^^ Gf.mul (cs.getD i 0).toNat (byteAt (Vec.row ss i) r) : Nat) : Int)
    rw [← e1, ← eo]
  · rw [if_neg h]
    unfold cellC
    by_cases h2 : r < j
    · rw [if_pos h2, if_pos (by omega)]
    · rw [if_neg h2, if_neg (by omega)]
theorem nums_len {cs : List Int} {ss : List ByteArray} {s0 : ByteArray} (h : s0 = ss.getD 0 ByteArray.empty) : (Vec.nums cs ss).length = s0.size := by
  rw [h]; simp [Vec.nums]
theorem cellC_end {cs : List Int} {ss : List ByteArray} {n : Nat} {s0 : ByteArray} (hl : cs.length = n) (h : s0 = ss.getD 0 ByteArray.empty) (t : Nat) (ht : t < s0.size) :
    some (cellC cs ss n 0 t) = some (.int .u8 ((Vec.nums cs ss).getD t 0)) := by
  rw [h] at ht
  have hk : t < (Vec.nums cs ss).length := by rw [nums_len rfl]; exact ht
  simp only [cellC, Vec.nums, hl]
  simp
  rw [List.getElem?_eq_getElem (by simpa using ht)]
  simp
theorem Try.infoByte : (Try.prog.info? 5).map (fun i => (i.zero, i.size, i.bytes)) = some (some (.int .u8 0), 1, 1) := by kernel_rfl
attribute [local go_sem ↓] Go.wp_at_zero Go.wp_at_succ
end Go.Proofs.Ytmphbajnadbggab
/- The document's own Combine (ossuaryref1): what it returns, whatever the numbers and rows. -/
namespace Go.Proofs.Ytmphbajnadbggab
open Go.RowKit
set_option linter.unusedVariables false
open Vec (alikeTo numsTo May cmb byteAt)
theorem first_bad {cs : List Int} : ∀ n, ¬ numsTo cs n → ∃ k, k < n ∧ numsTo cs k ∧ ¬ (0 ≤ cs.getD k 0 ∧ cs.getD k 0 < 256)
  | 0, h => absurd (fun i hi => by omega) h
  | n + 1, h => by
    by_cases hn : numsTo cs n
    · refine ⟨n, by omega, hn, fun hk => h (fun i hi => ?_)⟩
      by_cases q : i = n
      · rw [q]; exact hk
      · exact hn i (by omega)
    · obtain ⟨k, hk, h1, h2⟩ := first_bad n hn
      exact ⟨k, by omega, h1, h2⟩
/-- what Combine answers: the text, the error's number -/
def combR (cs : List Int) (ss : List ByteArray) (r : ByteArray × Int) : Prop := (May cs ss ∧ r = (Vec.out cs ss, 0)) ∨ (¬ May cs ss ∧ r = (ByteArray.empty, 200))
theorem combR_one {cs : List Int} {ss : List ByteArray} {r r' : ByteArray × Int} (h : combR cs ss r) (h' : combR cs ss r') : r = r' := by
  rcases h with ⟨h1, h2⟩ | ⟨h1, h2⟩ <;> rcases h' with ⟨h3, h4⟩ | ⟨h3, h4⟩
  · rw [h2, h4]
  · exact absurd h1 h3
  · exact absurd h3 h1
  · rw [h2, h4]
end Go.Proofs.Ytmphbajnadbggab
/- Package vec's Combine: what it returns, whatever the numbers and rows. -/
namespace Go.Proofs.Ytmphbajnadbggab
open Go.RowKit
set_option linter.unusedVariables false
open Vec (alikeTo numsTo May cmb byteAt)
/-- row i may be: its number, its length -/
def okAt (cs : List Int) (ss : List ByteArray) (i : Nat) : Prop := (0 ≤ cs.getD i 0 ∧ cs.getD i 0 < 256) ∧ (ss.getD i ByteArray.empty).size = (ss.getD 0 ByteArray.empty).size
def okTo (cs : List Int) (ss : List ByteArray) (k : Nat) : Prop := ∀ i, i < k → okAt cs ss i
/-- the first row is not too long, and each row may be -/
def formV (cs : List Int) (ss : List ByteArray) (k : Nat) : Prop := (ss.getD 0 ByteArray.empty).size ≤ 4096 ∧ okTo cs ss k
theorem u8w (u : Nat) (h : u < 256) : IntKind.i64.wrap ((u : Nat) : Int) = ((u : Nat) : Int) := by
  rw [IntKind.wrap_i64]; omega
theorem cellC_put {cs : List Int} {ss : List ByteArray} {i j x o : Nat} {t : ByteArray} (ex : cs.getD i 0 = (x : Int)) (et : t = ss.getD i ByteArray.empty) (eo : o = cmb cs ss i j) (hj : j < t.size) (r : Nat) :
    (if r = j then Value.int .u8 ((o ^^^ Gf.mul x t[j].toNat : Nat) : Int) else cellC cs ss i j r) = cellC cs ss i (j + 1) r := by
  by_cases h : r = j
  · subst h
    rw [if_pos rfl]
    have e1 : Gf.mul x t[r].toNat = Gf.mul (cs.getD i 0).toNat (byteAt (Vec.row ss i) r) := by
      rw [ex, Vec.byteAt_get t r hj, Int.toNat_natCast, et]; rfl
    unfold cellC
    rw [if_pos (by omega)]
    show _ = Value.int .u8 ((cmb cs ss i r ^^^ Gf.mul (cs.getD i 0).toNat (byteAt (Vec.row ss i) r) : Nat) : Int)
    rw [← e1, ← eo]
  · rw [if_neg h]
    unfold cellC
    by_cases h2 : r < j
    · rw [if_pos h2, if_pos (by omega)]
    · rw [if_neg h2, if_neg (by omega)]
attribute [local go_sem ↓] Go.wp_at_zero Go.wp_at_succ
theorem formV_may {cs : List Int} {ss : List ByteArray} {n : Nat} (hp : 1 ≤ n) : formV cs ss n ↔ alikeTo ss n ∧ numsTo cs n := by
  constructor
  · rintro ⟨h0, h⟩
    exact ⟨fun i hi => ⟨(h i hi).2, by rw [(h i hi).2]; exact h0⟩, fun i hi => (h i hi).1⟩
  · rintro ⟨h1, h2⟩
    exact ⟨(h1 0 hp).2, fun i hi => ⟨h2 i hi, (h1 i hi).1⟩⟩
end Go.Proofs.Ytmphbajnadbggab
