/- Sums of texts: what is combined of sums is the sum of what is combined; so is what is decoded. -/
import Derived.Test.YtcgagkaalbljmaaDoorCodeMath
namespace Go.Proofs.YtcgagkaalbljmaaDoor
open Go.RowKit
set_option linter.unusedVariables false
set_option linter.unusedSimpArgs false
open Vec (alikeTo numsTo May)
/-- two texts, added up byte by byte -/
def sum2 (A B : ByteArray) : ByteArray := Vec.out [1, 1] [A, B]
theorem sum2_size (A B : ByteArray) : (sum2 A B).size = A.size := Vec.two_size A B
theorem sum2_byte {A B : ByteArray} {j : Nat} (h : j < A.size) : Vec.byteAt (sum2 A B) j = Vec.byteAt A j ^^^ Vec.byteAt B j := by
  unfold sum2
  rw [Vec.out_byte _ _ _ (by simpa using h)]
  exact Vec.cmb_two A B j
theorem out_sum {cs : List Int} {xs ys zs : List ByteArray} {n z : Nat} (hl : cs.length = n) (h1 : 1 ≤ n) (hx : ∀ i, i < n → (xs.getD i ByteArray.empty).size = z) (hy : ∀ i, i < n → (ys.getD i ByteArray.empty).size = z)
    (hz : ∀ i, i < n → zs.getD i ByteArray.empty = sum2 (xs.getD i ByteArray.empty) (ys.getD i ByteArray.empty)) : Vec.out cs zs = sum2 (Vec.out cs xs) (Vec.out cs ys) := by
  have e0 : (zs.getD 0 ByteArray.empty).size = z := by rw [hz 0 h1, sum2_size, hx 0 h1]
  refine Vec.ext_bytes (by rw [out_len, e0, sum2_size, out_len, hx 0 h1]) (fun j hj => ?_)
  rw [out_len, e0] at hj
  rw [sum2_byte (by rw [out_len, hx 0 h1]; exact hj), Vec.out_byte _ _ _ (by rw [e0]; exact hj), Vec.out_byte _ _ _ (by rw [hx 0 h1]; exact hj), Vec.out_byte _ _ _ (by rw [hy 0 h1]; exact hj), hl, cmb_xsum, cmb_xsum, cmb_xsum, ← xsum_xor]
  refine xsum_congr fun t ht => ?_
  have e : Vec.byteAt (Vec.row zs t) j = Vec.byteAt (Vec.row xs t) j ^^^ Vec.byteAt (Vec.row ys t) j := by
    show Vec.byteAt (zs.getD t ByteArray.empty) j = _
    rw [hz t ht, sum2_byte (by rw [hx t ht]; exact hj)]
    rfl
  rw [e]
  exact Gf.mul_xor_right _ _ _
theorem had_at {bs : List Bool} {ss : List ByteArray} {d i : Nat} (hd : d ≤ (rowsL bs bs.length).length) (hi : i < d) : ∃ r, r < bs.length ∧ ∀ xs : List ByteArray, ((hadL bs xs bs.length).take d).getD i ByteArray.empty = xs.getD r ByteArray.empty := by
  have hi' : i < (rowsL bs bs.length).length := by omega
  refine ⟨(rowsL bs bs.length)[i], List.mem_range.1 (List.mem_filter.1 (List.getElem_mem hi')).1, fun xs => ?_⟩
  simp [hadL, List.getD, List.getElem?_take, hi, List.getElem?_eq_getElem hi']
/-- what is decoded of sums is the sum of what is decoded -/
theorem dec_sum {d p z : Nat} {xs ys zs P Q : List ByteArray} {bs : List Bool} (h1 : 1 ≤ d) (h2 : d ≤ 4) (h3 : p ≤ 2) (hd : d ≤ (rowsL bs bs.length).length) (hl : bs.length = d + p) (hlz : zs.length = d + p) (h60 : z ≤ 4096)
    (hx : ∀ i, i < d + p → (xs.getD i ByteArray.empty).size = z) (hy : ∀ i, i < d + p → (ys.getD i ByteArray.empty).size = z) (hz : ∀ i, i < d + p → zs.getD i ByteArray.empty = sum2 (xs.getD i ByteArray.empty) (ys.getD i ByteArray.empty))
    (hP : decR d p xs bs (P, 0)) (hQ : decR d p ys bs (Q, 0)) : decR d p zs bs ((List.range d).map (fun i => sum2 (P.getD i ByteArray.empty) (Q.getD i ByteArray.empty)), 0) := by
  obtain ⟨N, hN, eP⟩ : ∃ N, InvOf (firstM d p bs) N ∧ P = backTo N ((hadL bs xs bs.length).take d) d := by
    rcases hP with ⟨_, h⟩ | ⟨_, _, h⟩ | ⟨_, _, N, hN, h⟩
    · simp at h
    · simp at h
    · rw [Int.toNat_natCast, Int.toNat_natCast] at *
      exact ⟨N, hN, (Prod.mk.inj h).1⟩
  obtain ⟨N', hN', eQ⟩ : ∃ N, InvOf (firstM d p bs) N ∧ Q = backTo N ((hadL bs ys bs.length).take d) d := by
    rcases hQ with ⟨_, h⟩ | ⟨_, _, h⟩ | ⟨_, _, N, hN, h⟩
    · simp at h
    · simp at h
    · rw [Int.toNat_natCast, Int.toNat_natCast] at *
      exact ⟨N, hN, (Prod.mk.inj h).1⟩
  obtain rfl := InvOf.one (firstM_sq h1 h2 h3 hd hl) hN hN'
  have hNl : ∀ i, i < d → (N.getD i []).length = d := fun i hi => by
    have e1 := hN.2.1
    have e2 := hN.2.2.1
    rw [firstM_len hd] at e1 e2
    rw [(hN.1.2.2.2.2 i (by omega)).1, e2]
  have hhad : ∀ i, i < (hadL bs zs bs.length).length → ((hadL bs zs bs.length).getD i ByteArray.empty).size = z := fun i hi => by
    rw [hadL_len] at hi
    have e : (hadL bs zs bs.length).getD i ByteArray.empty = zs.getD ((rowsL bs bs.length)[i]) ByteArray.empty := by simp [hadL, List.getD, List.getElem?_eq_getElem hi]
    have hr := List.mem_range.1 (List.mem_filter.1 (List.getElem_mem hi)).1
    rw [e, hz _ (Nat.lt_of_lt_of_eq hr hl), sum2_size, hx _ (Nat.lt_of_lt_of_eq hr hl)]
  refine .inr (.inr ⟨⟨by unfold ShpMay; omega, by omega, by omega, fun i hi => ?_⟩, by omega, N, by rw [Int.toNat_natCast, Int.toNat_natCast]; exact hN, ?_⟩)
  · rw [hhad i hi, hhad 0 (by omega)]
    exact ⟨rfl, h60⟩
  · rw [Int.toNat_natCast]
    congr 1
    unfold backTo
    refine List.map_congr_left fun i hi => ?_
    have hi := List.mem_range.1 hi
    have gP : P.getD i ByteArray.empty = Vec.out (N.getD i []) ((hadL bs xs bs.length).take d) := by rw [eP]; simp [backTo, List.getD, hi]
    have gQ : Q.getD i ByteArray.empty = Vec.out (N.getD i []) ((hadL bs ys bs.length).take d) := by rw [eQ]; simp [backTo, List.getD, hi]
    rw [gP, gQ]
    refine (out_sum (hNl i hi) h1 (z := z) (fun j hj => ?_) (fun j hj => ?_) (fun j hj => ?_)).symm
    · obtain ⟨r, hr, e⟩ := had_at (ss := xs) hd hj
      rw [e]; exact hx r (by omega)
    · obtain ⟨r, hr, e⟩ := had_at (ss := xs) hd hj
      rw [e]; exact hy r (by omega)
    · obtain ⟨r, hr, e⟩ := had_at (ss := xs) hd hj
      rw [e, e, e]; exact hz r (by omega)
end Go.Proofs.YtcgagkaalbljmaaDoor
