/- Inverses: of an inverse, of a product, of a diagonal; matrices that have none. -/
import Derived.Test.YtfeepmjkamdldaaDoorInvMath
import Derived.Test.YtfeepmjkamdldaaDoorMatFun
namespace Go.Proofs.YtfeepmjkamdldaaDoor
open Go.RowKit
set_option linter.unusedVariables false
set_option linter.unusedSimpArgs false
/-- a matrix of k rows and k columns -/
def Sq (k : Nat) (M : List (List Int)) : Prop := SqMay M ∧ M.length = k
theorem Sq.form {k : Nat} {M : List (List Int)} (h : Sq k M) : M = matF k k (entry M) := by
  have := h.1.form
  rwa [h.2] at this
theorem Sq.byt {k : Nat} {M : List (List Int)} (h : Sq k M) : BytK k (entry M) := by
  have := h.1.byt
  rwa [h.2] at this
theorem Sq.pos {k : Nat} {M : List (List Int)} (h : Sq k M) : 1 ≤ k ∧ k ≤ 12 := ⟨by rw [← h.2]; exact h.1.1.1, by rw [← h.2]; exact h.1.1.2.1⟩
theorem Sq.head {k : Nat} {M : List (List Int)} (h : Sq k M) : (M.getD 0 []).length = k := by rw [← h.1.2, h.2]
theorem sq_mul {k : Nat} {A B : List (List Int)} (hA : Sq k A) (hB : Sq k B) : Sq k (mulM A B) :=
  ⟨⟨mulM_may hA.1.1 hB.1.1, by rw [mulM_len, mulM_head hA.1.1.1, hA.2, hB.head]⟩, by rw [mulM_len, hA.2]⟩
theorem sq_may {k : Nat} {A B : List (List Int)} (hA : Sq k A) (hB : Sq k B) : MulMay A B := ⟨hA.1.1, hB.1.1, by rw [hA.head, hB.2]⟩
theorem sq_assoc {k : Nat} {A B C : List (List Int)} (hA : Sq k A) (hB : Sq k B) (hC : Sq k C) : mulM (mulM A B) C = mulM A (mulM B C) :=
  mulM_assoc hA.1.1.1 hB.1.1.1 (by rw [hA.head, hB.2]) (by rw [hB.head, hC.2])
theorem id_sq {k : Nat} {B : List (List Int)} (hB : Sq k B) : mulM (idM k) B = B := by
  have := idM_mul hB.1.1
  rwa [hB.2] at this
theorem InvOf.sq {k : Nat} {M N : List (List Int)} (hM : Sq k M) (h : InvOf M N) : Sq k N := ⟨⟨h.1, by rw [h.2.1, h.2.2.1]⟩, by rw [h.2.1, hM.2]⟩
theorem InvOf.left {k : Nat} {M N : List (List Int)} (hM : Sq k M) (h : InvOf M N) : mulM N M = idM k := by
  have := h.2.2.2.1
  rwa [hM.2] at this
theorem InvOf.right {k : Nat} {M N : List (List Int)} (hM : Sq k M) (h : InvOf M N) : mulM M N = idM k := by
  have := h.2.2.2.2
  rwa [hM.2] at this
theorem InvOf.mk' {k : Nat} {M N : List (List Int)} (hM : Sq k M) (hN : Sq k N) (h1 : mulM N M = idM k) (h2 : mulM M N = idM k) : InvOf M N :=
  ⟨hN.1.1, by rw [hN.2, hM.2], by rw [hN.head, hM.2], by rw [hM.2]; exact h1, by rw [hM.2]; exact h2⟩
/-- the inverse's own is the matrix -/
theorem InvOf.back {k : Nat} {M N : List (List Int)} (hM : Sq k M) (h : InvOf M N) : InvOf N M := InvOf.mk' (h.sq hM) hM (h.right hM) (h.left hM)
/-- the inverse of a product: the other way round -/
theorem InvOf.prod {k : Nat} {A B X Y : List (List Int)} (hA : Sq k A) (hB : Sq k B) (hX : InvOf A X) (hY : InvOf B Y) : InvOf (mulM A B) (mulM Y X) := by
  have sX := hX.sq hA
  have sY := hY.sq hB
  refine InvOf.mk' (sq_mul hA hB) (sq_mul sY sX) ?_ ?_
  · rw [sq_assoc sY sX (sq_mul hA hB), ← sq_assoc sX hA hB, hX.left hA, id_sq hB, hY.left hB]
  · rw [sq_assoc hA hB (sq_mul sY sX), ← sq_assoc hB sY sX, hY.right hB, id_sq sX, hX.right hA]
theorem inv_at {k : Nat} {M N : List (List Int)} (hM : Sq k M) (h : InvOf M N) {r c : Nat} (hr : r < k) (hc : c < k) : dot M N r c k = idx r c := by
  have sN := h.sq hM
  have e := congrArg (fun M => entry M r c) (h.right hM)
  rw [entry_mulM (by rw [hM.2]; exact hr) (by rw [sN.head]; exact hc), idM_idx, entry_matF hr hc, sN.2] at e
  exact e
/-- two equal rows: there is none -/
theorem no_inv_rows {k : Nat} {M : List (List Int)} (hM : Sq k M) {i j : Nat} (hi : i < k) (hj : j < k) (hij : i ≠ j) (h : M.getD i [] = M.getD j []) : ¬ ∃ N, InvOf M N := by
  rintro ⟨N, hN⟩
  have e1 := inv_at hM hN hi hi
  have e2 := inv_at hM hN hj hi
  rw [dot_row (A' := M) (r' := j) h] at e1
  rw [e1] at e2
  simp [idx, Ne.symm hij] at e2
/-- a row of noughts: there is none -/
theorem no_inv_zero {k : Nat} {M : List (List Int)} (hM : Sq k M) {i : Nat} (hi : i < k) (h : ∀ c, c < k → entry M i c = 0) : ¬ ∃ N, InvOf M N := by
  rintro ⟨N, hN⟩
  have e1 := inv_at hM hN hi hi
  rw [dot_xsum, xsum_congr (g := fun _ => 0) (fun t ht => by rw [h t ht, Gf.zero_mul]), xsum_zero] at e1
  simp [idx] at e1
/-- a diagonal -/
def diagM (k : Nat) (d : Nat → Nat) : List (List Int) := matF k k (fun r c => if r = c then d r else 0)
theorem diag_sq {k : Nat} {d : Nat → Nat} (h1 : 1 ≤ k) (h2 : k ≤ 12) (hd : ∀ r, r < k → d r < 256) : Sq k (diagM k d) :=
  ⟨sq_matF h1 h2 (fun r c hr hc => by show (if r = c then d r else 0) < 256; split; exact hd r hr; decide), matF_len _ _ _⟩
theorem diag_none {k : Nat} {d : Nat → Nat} (h1 : 1 ≤ k) (h2 : k ≤ 12) (hd : ∀ r, r < k → d r < 256) {i : Nat} (hi : i < k) (h0 : d i = 0) : ¬ ∃ N, InvOf (diagM k d) N :=
  no_inv_zero (diag_sq h1 h2 hd) hi (fun c hc => by rw [diagM, entry_matF hi hc]; split <;> first | exact h0 | rfl)
theorem diag_some {k : Nat} {d : Nat → Nat} (h1 : 1 ≤ k) (h2 : k ≤ 12) (hd : ∀ r, r < k → d r < 256) (h0 : ∀ r, r < k → d r ≠ 0) : ∃ N, InvOf (diagM k d) N := by
  have sN : Sq k (diagM k (fun r => Gf.inv (d r))) := diag_sq h1 h2 (fun r _ => Gf.inv_lt _)
  have key : ∀ (f g : Nat → Nat), (∀ r, r < k → Gf.mul (f r) (g r) = 1) → mulM (diagM k f) (diagM k g) = idM k := fun f g hfg => by
    unfold diagM
    rw [mulM_mm (by omega), idM_idx]
    refine matF_congr (fun r c hr hc => ?_)
    unfold mm
    rw [xsum_one (j := r) hr (fun t ht hne => by simp [Ne.symm hne, Gf.zero_mul])]
    by_cases h : r = c
    · subst h; simp [idx, hfg r hr]
    · simp [idx, h, Gf.mul_zero]
  exact ⟨_, InvOf.mk' (diag_sq h1 h2 hd) sN (key _ _ (fun r hr => Gf.inv_mul (hd r hr) (h0 r hr))) (key _ _ (fun r hr => Gf.mul_inv (hd r hr) (h0 r hr)))⟩
/-- the inverse of a diagonal has noughts beside it -/
theorem diag_off {k : Nat} {d : Nat → Nat} (h1 : 1 ≤ k) (h2 : k ≤ 12) (hd : ∀ r, r < k → d r < 256) (h0 : ∀ r, r < k → d r ≠ 0) {N : List (List Int)} (hN : InvOf (diagM k d) N) {i j : Nat} (hi : i < k) (hj : j < k) (hij : i ≠ j) : entry N i j = 0 := by
  have sD := diag_sq h1 h2 hd
  have sN := hN.sq sD
  have e := congrArg (fun M => entry M i j) (hN.left sD)
  rw [entry_mulM (by rw [sN.2]; exact hi) (by rw [sD.head]; exact hj), idM_idx, entry_matF hi hj, sD.2, dot_xsum, xsum_one (j := j) hj (fun t ht hne => by rw [diagM, entry_matF ht hj]; simp [hne, Gf.mul_zero])] at e
  rw [diagM, entry_matF hj hj] at e
  simp only [if_true, idx, if_neg hij] at e
  rcases (Gf.mul_eq_zero (sN.byt i j hi hj) (hd j hj)).1 e with h | h
  · exact h
  · exact absurd h (h0 j hj)
end Go.Proofs.YtfeepmjkamdldaaDoor
