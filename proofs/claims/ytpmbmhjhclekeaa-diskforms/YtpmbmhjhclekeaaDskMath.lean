/- Disks that are there: what may be, and bytes turned twice. -/
import Derived.Test.YtpmbmhjhclekeaaAwkMath
namespace Go.Proofs.Ytpmbmhjhclekeaa
open Go.RowKit
set_option linter.unusedVariables false
set_option linter.unusedSimpArgs false
theorem live_st {ss : List ByteArray} {c : List (Int × ByteArray)} (h1 : 1 ≤ ss.length) (h2 : ss.length ≤ 72) (h3 : c.length ≤ 256) (h4 : ∀ s ∈ ss, s.size = 64) (h5 : ∀ x ∈ c, 0 ≤ x.1 ∧ x.1 < ss.length ∧ x.2.size = 64) : MayD ⟨false, ss, c⟩ ∧ stateD ⟨false, ss, c⟩ = 0 := by
  refine a_st rfl ⟨h1, h2, h3, fun i hi => ?_, fun i hi => ?_⟩
  · have hi' : i < ss.length := hi
    have e : ss.getD i ByteArray.empty = ss[i] := by simp [List.getD, hi']
    rw [show (Dsk.mk false ss c).secs = ss from rfl, e]
    exact h4 _ (List.getElem_mem _)
  · have hi' : i < c.length := hi
    have e : c.getD i wr0 = c[i] := by simp [List.getD, hi']
    rw [show (Dsk.mk false ss c).cache = c from rfl, e]
    exact h5 _ (List.getElem_mem _)
theorem fit_st {ss : List ByteArray} {c : List (Int × ByteArray)} (h2 : ss.length ≤ 72) (h3 : c.length ≤ 256) : (Dsk.mk false ss c).secs.length * 16 ≤ 140737488351232 ∧ (Dsk.mk false ss c).cache.length * 24 ≤ 140737488351232 := by
  refine ⟨?_, ?_⟩
  · show ss.length * 16 ≤ _
    omega
  · show c.length * 24 ≤ _
    omega
theorem mem_set {α : Type} {l : List α} {i : Nat} {x y : α} (h : y ∈ l.set i x) : y ∈ l ∨ y = x := List.mem_or_eq_of_mem_set h
/-- bytes as numbers, and back -/
theorem bI_str (xs : List Int) (h : ∀ x ∈ xs, 0 ≤ x ∧ x < 256) : bI (strOfNums xs) = xs := by
  unfold bI
  rw [strOfNums_data, List.map_map]
  apply List.ext_getElem
  · simp
  · intro i h1 h2
    have hx := h xs[i] (List.getElem_mem _)
    simp only [List.getElem_map, Function.comp_apply, UInt8.toNat_ofNat']
    omega
theorem str_bI (s : ByteArray) : strOfNums (bI s) = s := by
  unfold bI
  apply ByteArray.ext
  apply Array.toList_inj.1
  rw [strOfNums_data, List.map_map]
  apply List.ext_getElem
  · simp
  · intro i h1 h2
    simp
theorem bI_lt (s : ByteArray) : ∀ x ∈ bI s, 0 ≤ x ∧ x < 256 := by
  intro x hx
  unfold bI at hx
  obtain ⟨b, -, rfl⟩ := List.mem_map.1 hx
  have := UInt8.toNat_lt b
  omega
theorem bI_getD (s : ByteArray) (k : Nat) : 0 ≤ (bI s).getD k 0 ∧ (bI s).getD k 0 < 256 := by
  by_cases h : k < (bI s).length
  · have e : (bI s).getD k 0 = (bI s)[k] := by simp [List.getD, h]
    rw [e]
    exact bI_lt s _ (List.getElem_mem _)
  · have e : (bI s).getD k 0 = 0 := by simp [List.getD, Nat.le_of_not_lt h]
    rw [e]; decide
/-- a byte that is turned twice is as it was -/
theorem xor8_twice {a b : Int} (ha : 0 ≤ a ∧ a < 256) (hb : 0 ≤ b ∧ b < 256) : (0 ≤ bits .xor .u8 a b ∧ bits .xor .u8 a b < 256) ∧ bits .xor .u8 (bits .xor .u8 a b) b = a := by
  have e := u8_xor a b ha.1 ha.2 hb.1 hb.2
  have hl : a.toNat ^^^ b.toNat < 256 := Nat.xor_lt_two_pow (n := 8) (by omega) (by omega)
  refine ⟨by rw [e]; omega, ?_⟩
  rw [e, u8_xor _ b (by omega) (by omega) hb.1 hb.2]
  have : ((a.toNat ^^^ b.toNat : Nat) : Int).toNat = a.toNat ^^^ b.toNat := by omega
  rw [this, Nat.xor_assoc, Nat.xor_self, Nat.xor_zero]
  omega
theorem rotS_bI (s : ByteArray) (k : Nat) (y : Int) (hy : 0 ≤ y ∧ y < 256) : bI (rotS s k y) = (bI s).set k (bits .xor .u8 ((bI s).getD k 0) y) := by
  unfold rotS
  refine bI_str _ (fun x hx => ?_)
  rcases mem_set hx with h | h
  · exact bI_lt s x h
  · rw [h]; exact (xor8_twice (bI_getD s k) hy).1
theorem rotS_twice (s : ByteArray) (k : Nat) (y : Int) (hk : k < s.size) (hy : 0 ≤ y ∧ y < 256) : rotS (rotS s k y) k y = s := by
  have e := rotS_bI s k y hy
  have hl : k < (bI s).length := by rw [bI_len]; exact hk
  have h2 : rotS (rotS s k y) k y = strOfNums ((bI (rotS s k y)).set k (bits .xor .u8 ((bI (rotS s k y)).getD k 0) y)) := rfl
  rw [h2, e]
  have eg : ((bI s).set k (bits .xor .u8 ((bI s).getD k 0) y)).getD k 0 = bits .xor .u8 ((bI s).getD k 0) y := by simp [List.getD, hl]
  rw [eg, (xor8_twice (bI_getD s k) hy).2, List.set_set]
  have : (bI s).set k ((bI s).getD k 0) = bI s := by
    have e3 : (bI s).getD k 0 = (bI s)[k] := by simp [List.getD, hl]
    rw [e3]; exact List.set_getElem_self _
  rw [this, str_bI]
theorem byte_bI (s : ByteArray) (i : Nat) (h : i < s.size) : ((s[i].toNat : Nat) : Int) = (bI s).getD i 0 := by
  have hl : i < (bI s).length := by rw [bI_len]; exact h
  have e : (bI s).getD i 0 = (bI s)[i] := by simp [List.getD, hl]
  rw [e]
  simp [bI]
  rfl
end Go.Proofs.Ytpmbmhjhclekeaa
