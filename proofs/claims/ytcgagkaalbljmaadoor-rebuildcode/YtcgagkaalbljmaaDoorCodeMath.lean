/- A word of the code: from any of its rows that can be inverted the data come back. -/
import Derived.Test.YtcgagkaalbljmaaDoorDecMath
import Derived.Test.YtcgagkaalbljmaaDoorVecMath2
namespace Go.Proofs.YtcgagkaalbljmaaDoor
open Go.RowKit
set_option linter.unusedVariables false
set_option linter.unusedSimpArgs false
theorem cmb_xsum (cs : List Int) (ss : List ByteArray) (j : Nat) : ∀ k : Nat, Vec.cmb cs ss k j = xsum (fun t => Gf.mul (cs.getD t 0).toNat (Vec.byteAt (Vec.row ss t) j)) k
  | 0 => rfl
  | k + 1 => by
    show Vec.cmb cs ss k j ^^^ _ = xsum _ k ^^^ _
    rw [cmb_xsum cs ss j k]
theorem inv_left {k : Nat} {M N : List (List Int)} (hM : Sq k M) (h : InvOf M N) {r c : Nat} (hr : r < k) (hc : c < k) : dot N M r c k = idx r c := by
  have sN := h.sq hM
  have e := congrArg (fun M => entry M r c) (h.left hM)
  rw [entry_mulM (by rw [sN.2]; exact hr) (by rw [hM.head]; exact hc), idM_idx, entry_matF hr hc, hM.2] at e
  exact e
theorem entry_pick {G : List (List Int)} {rs : List Nat} {t u : Nat} (ht : t < rs.length) : entry (pickM G (ofNats rs)) t u = entry G (rs.getD t 0) u := by
  unfold entry
  rw [pickM_row (by rw [ofNats_len]; exact ht), ofNats_at, Int.toNat_natCast]
/-- sums of sums, where the inner numbers make the identity -/
theorem xsum_back {d : Nat} {n m : Nat → Nat → Nat} {x : Nat → Nat} {i : Nat} (hi : i < d) (hx : ∀ u, u < d → x u < 256) (h : ∀ u, u < d → xsum (fun t => Gf.mul (n i t) (m t u)) d = idx i u) :
    xsum (fun t => Gf.mul (n i t) (xsum (fun u => Gf.mul (m t u) (x u)) d)) d = x i := by
  have e1 : xsum (fun t => Gf.mul (n i t) (xsum (fun u => Gf.mul (m t u) (x u)) d)) d = xsum (fun t => xsum (fun u => Gf.mul (Gf.mul (n i t) (m t u)) (x u)) d) d :=
    xsum_congr fun t _ => by
      rw [mul_xsum]
      exact xsum_congr fun u _ => (Gf.mul_assoc _ _ _).symm
  rw [e1, xsum_swap]
  have e2 : xsum (fun u => xsum (fun t => Gf.mul (Gf.mul (n i t) (m t u)) (x u)) d) d = xsum (fun u => Gf.mul (idx i u) (x u)) d :=
    xsum_congr fun u hu => by rw [← h u hu, xsum_mul]
  rw [e2, xsum_one hi (fun u _ hui => by unfold idx; rw [if_neg (Ne.symm hui), Gf.zero_mul])]
  unfold idx
  rw [if_pos rfl]
  exact Gf.one_mul (hx i hi)
theorem back_code {d : Nat} {G N : List (List Int)} {rs : List Nat} {ds : List ByteArray} (hd : 1 ≤ d) (hl : ds.length = d) (hr : rs.length = d) (hG : ∀ t, t < d → (G.getD (rs.getD t 0) []).length = d)
    (hsz : ∀ i, i < d → (ds.getD i ByteArray.empty).size = (ds.getD 0 ByteArray.empty).size) (hM : Sq d (pickM G (ofNats rs))) (hN : InvOf (pickM G (ofNats rs)) N) : backTo N (rs.map fun r => Vec.out (G.getD r []) ds) d = ds := by
  have sN := hN.sq hM
  have hat : ∀ t, t < d → (rs.map fun r => Vec.out (G.getD r []) ds).getD t ByteArray.empty = Vec.out (G.getD (rs.getD t 0) []) ds := fun t ht => by
    simp [List.getD, List.getElem?_eq_getElem (show t < rs.length by omega)]
  have hrow : ∀ i, i < d → Vec.out (N.getD i []) (rs.map fun r => Vec.out (G.getD r []) ds) = ds.getD i ByteArray.empty := by
    intro i hi
    have hNl : (N.getD i []).length = d := by
      have := (sN.1.1.2.2.2.2 i (by rw [sN.2]; exact hi)).1
      rw [this, sN.head]
    have h0 := hat 0 hd
    have hz : (Vec.out (N.getD i []) (rs.map fun r => Vec.out (G.getD r []) ds)).size = (ds.getD 0 ByteArray.empty).size := by rw [out_len, h0, out_len]
    refine Vec.ext_bytes (by rw [hz, hsz i hi]) (fun j hj => ?_)
    rw [hz] at hj
    rw [Vec.out_byte _ _ _ (by rw [h0, out_len]; exact hj), hNl, cmb_xsum]
    have e : xsum (fun t => Gf.mul ((N.getD i []).getD t 0).toNat (Vec.byteAt (Vec.row (rs.map fun r => Vec.out (G.getD r []) ds) t) j)) d = xsum (fun t => Gf.mul (entry N i t) (xsum (fun u => Gf.mul (entry (pickM G (ofNats rs)) t u) (Vec.byteAt (ds.getD u ByteArray.empty) j)) d)) d :=
      xsum_congr fun t ht => by
        show Gf.mul (entry N i t) (Vec.byteAt ((rs.map fun r => Vec.out (G.getD r []) ds).getD t ByteArray.empty) j) = _
        rw [hat t ht, Vec.out_byte _ _ _ hj, hG t ht, cmb_xsum]
        congr 1
        exact xsum_congr fun u hu => by rw [entry_pick (by omega)]; rfl
    rw [e]
    refine xsum_back hi (fun u _ => Vec.byteAt_lt _ _) (fun u hu => ?_)
    rw [← inv_left hM hN hi hu, dot_xsum]
  apply List.ext_getElem
  · rw [backTo_len, hl]
  · intro i h1 h2
    rw [backTo_len] at h1
    have e1 : (backTo N (rs.map fun r => Vec.out (G.getD r []) ds) d)[i] = Vec.out (N.getD i []) (rs.map fun r => Vec.out (G.getD r []) ds) := by simp [backTo]
    rw [e1, hrow i h1]
    simp [List.getD, List.getElem?_eq_getElem h2]
end Go.Proofs.YtcgagkaalbljmaaDoor
