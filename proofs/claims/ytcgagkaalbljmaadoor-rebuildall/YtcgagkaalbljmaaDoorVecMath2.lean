/- Plain facts on Combine's sums: it is linear; with 1 alone it is that row. -/
import Derived.Test.YtcgagkaalbljmaaDoorVecMath
namespace Go.Proofs.YtcgagkaalbljmaaDoor.Vec
set_option linter.unusedVariables false
theorem strOfNums_byte (zs : List Int) (j : Nat) (z : Nat) (hz : z < 256) (h : zs[j]? = some (z : Int)) : byteAt (strOfNums zs) j = z := by
  unfold byteAt
  rw [strOfNums_data, List.getD, List.getElem?_map, h]
  show (UInt8.ofNat ((z : Int).toNat)).toNat = z
  rw [Int.toNat_natCast, UInt8.toNat_ofNat']
  exact Nat.mod_eq_of_lt hz
theorem out_byte (cs : List Int) (ss : List ByteArray) (j : Nat) (h : j < (ss.getD 0 ByteArray.empty).size) : byteAt (out cs ss) j = cmb cs ss cs.length j := by
  unfold out
  refine strOfNums_byte _ _ _ (cmb_lt _ _ _ _) ?_
  unfold nums
  rw [List.getElem?_map, List.getElem?_eq_getElem (by simpa using h)]
  simp
theorem ext_bytes {a b : ByteArray} (hs : a.size = b.size) (h : ∀ j, j < a.size → byteAt a j = byteAt b j) : a = b := by
  apply ByteArray.ext
  apply Array.ext hs
  intro j h1 h2
  have h3 := h j h1
  rw [byteAt_eq, byteAt_eq, Array.getElem?_eq_getElem h1, Array.getElem?_eq_getElem h2] at h3
  exact UInt8.toNat_inj.1 h3
/-- the sum of two rows -/
theorem cmb_two (A B : ByteArray) (j : Nat) : cmb [1, 1] [A, B] 2 j = byteAt A j ^^^ byteAt B j := by
  show (0 ^^^ Gf.mul 1 (byteAt A j)) ^^^ Gf.mul 1 (byteAt B j) = _
  rw [Nat.zero_xor, Gf.one_mul (byteAt_lt A j), Gf.one_mul (byteAt_lt B j)]
theorem rep_row {k i : Nat} (A : ByteArray) (h : i < k) : (List.replicate k A).getD i ByteArray.empty = A := by
  simp [List.getD, h]
theorem cmb_sum (cs : List Int) (A B W : ByteArray) (j n : Nat) (hW : byteAt W j = byteAt A j ^^^ byteAt B j) : ∀ r, r ≤ n →
    cmb cs (List.replicate n W) r j = cmb cs (List.replicate n A) r j ^^^ cmb cs (List.replicate n B) r j
  | 0, _ => (Nat.xor_self 0).symm
  | r + 1, h => by
    show cmb cs _ r j ^^^ Gf.mul _ (byteAt ((List.replicate n W).getD r ByteArray.empty) j) = (cmb cs _ r j ^^^ Gf.mul _ (byteAt ((List.replicate n A).getD r ByteArray.empty) j)) ^^^ (cmb cs _ r j ^^^ Gf.mul _ (byteAt ((List.replicate n B).getD r ByteArray.empty) j))
    rw [rep_row W (by omega), rep_row A (by omega), rep_row B (by omega), hW, Gf.mul_xor_right, cmb_sum cs A B W j n hW r (by omega), Gf.swap4]
theorem set_get (n i t : Nat) (h : t < n) : ((List.replicate n (0 : Int)).set i 1).getD t 0 = if i = t then 1 else 0 := by
  rw [List.getD, List.getElem?_set]
  by_cases e : i = t
  · subst e; simp [h]
  · simp [e, h]
theorem cmb_one (A : ByteArray) (n i j : Nat) (hi : i < n) : ∀ r, r ≤ n → cmb ((List.replicate n (0 : Int)).set i 1) (List.replicate n A) r j = if i < r then byteAt A j else 0
  | 0, _ => rfl
  | r + 1, h => by
    show cmb _ _ r j ^^^ Gf.mul (((List.replicate n (0 : Int)).set i 1).getD r 0).toNat (byteAt ((List.replicate n A).getD r ByteArray.empty) j) = _
    rw [rep_row A (by omega), set_get n i r (by omega), cmb_one A n i j hi r (by omega)]
    by_cases e : i = r
    · subst e
      rw [if_pos rfl, if_neg (by omega), if_pos (by omega), Nat.zero_xor]
      exact Gf.one_mul (byteAt_lt A j)
    · rw [if_neg e]
      show _ ^^^ Gf.mul 0 _ = _
      rw [Gf.zero_mul, Nat.xor_zero]
      by_cases h2 : i < r
      · rw [if_pos h2, if_pos (by omega)]
      · rw [if_neg h2, if_neg (by omega)]
theorem may_rep {cs : List Int} {A : ByteArray} {n : Nat} (hl : cs.length = n) (h1 : 1 ≤ n) (h2 : n ≤ 12) (hA : A.size ≤ 4096) (hc : numsTo cs n) : May cs (List.replicate n A) := by
  refine ⟨by omega, by omega, by simp [hl], fun i hi => ?_, by rw [hl]; exact hc⟩
  rw [List.length_replicate] at hi
  rw [rep_row A hi, rep_row A (by omega)]
  exact ⟨rfl, hA⟩
theorem out_rep_size (cs : List Int) (A : ByteArray) (n : Nat) (h : 1 ≤ n) : (out cs (List.replicate n A)).size = A.size := by
  rw [out_size, rep_row A (by omega)]
theorem two_size (A B : ByteArray) : (out [1, 1] [A, B]).size = A.size := by rw [out_size]; rfl
/-- Combine of sums is the sum of Combines -/
theorem linear {cs : List Int} {A B : ByteArray} {n : Nat} (hl : cs.length = n) (h1 : 1 ≤ n) (hs : A.size = B.size) :
    out [1, 1] [out cs (List.replicate n A), out cs (List.replicate n B)] = out cs (List.replicate n (out [1, 1] [A, B])) := by
  apply ext_bytes
  · rw [two_size, out_rep_size _ _ _ h1, out_rep_size _ _ _ h1, two_size]
  · intro j hj
    rw [two_size, out_rep_size _ _ _ h1] at hj
    have hj2 : j < ((List.replicate n A).getD 0 ByteArray.empty).size := by rw [rep_row A (by omega)]; exact hj
    have hj3 : j < ((List.replicate n B).getD 0 ByteArray.empty).size := by rw [rep_row B (by omega)]; omega
    have hj4 : j < ((List.replicate n (out [1, 1] [A, B])).getD 0 ByteArray.empty).size := by rw [rep_row _ (by omega), two_size]; exact hj
    rw [out_byte [1, 1] [_, _] j (by show j < (out cs (List.replicate n A)).size; rw [out_rep_size _ _ _ h1]; exact hj), out_byte cs _ j hj4]
    show cmb [1, 1] [_, _] 2 j = _
    rw [cmb_two, out_byte cs _ j hj2, out_byte cs _ j hj3, cmb_sum cs A B (out [1, 1] [A, B]) j n ((out_byte [1, 1] [A, B] j hj).trans (cmb_two A B j)) cs.length (by omega)]
theorem alone {A : ByteArray} {n i : Nat} (hi : i < n) : out ((List.replicate n (0 : Int)).set i 1) (List.replicate n A) = A := by
  apply ext_bytes
  · rw [out_rep_size _ _ _ (by omega)]
  · intro j hj
    rw [out_rep_size _ _ _ (by omega)] at hj
    rw [out_byte _ _ j (by rw [rep_row A (by omega)]; exact hj), cmb_one A n i j hi _ (by simp), if_pos (by simpa using hi)]
end Go.Proofs.YtcgagkaalbljmaaDoor.Vec
