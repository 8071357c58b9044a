/- Matrices over the field and their inverses: rows that change places, rows times a number, rows added: Gauss and Jordan. -/
import Derived.Test.YtfeepmjkamdldaaDoorMatMath
namespace Go.Proofs.YtfeepmjkamdldaaDoor
open Go.RowKit
set_option linter.unusedVariables false
set_option linter.unusedSimpArgs false
def mm (k : Nat) (a b : Nat → Nat → Nat) (r c : Nat) : Nat := xsum (fun t => Gf.mul (a r t) (b t c)) k
def idx (r c : Nat) : Nat := if r = c then 1 else 0
def EqK (k : Nat) (a b : Nat → Nat → Nat) : Prop := ∀ r c, r < k → c < k → a r c = b r c
def BytK (k : Nat) (a : Nat → Nat → Nat) : Prop := ∀ r c, r < k → c < k → a r c < 256
theorem EqK.refl {k : Nat} (a : Nat → Nat → Nat) : EqK k a a := fun _ _ _ _ => rfl
theorem EqK.symm {k : Nat} {a b : Nat → Nat → Nat} (h : EqK k a b) : EqK k b a := fun r c hr hc => (h r c hr hc).symm
theorem EqK.trans {k : Nat} {a b c : Nat → Nat → Nat} (h : EqK k a b) (h' : EqK k b c) : EqK k a c := fun r s hr hs => (h r s hr hs).trans (h' r s hr hs)
theorem xsum_lt {f : Nat → Nat} : ∀ {n : Nat}, (∀ k, k < n → f k < 256) → xsum f n < 256
  | 0, _ => (by decide : (0 : Nat) < 256)
  | n + 1, h => Gf.xor_lt (xsum_lt (fun k hk => h k (by omega))) (h n (by omega))
theorem mm_byt (k : Nat) (a b : Nat → Nat → Nat) : BytK k (mm k a b) := fun r c _ _ => xsum_lt (fun _ _ => Gf.mul_lt _ _)
theorem idx_byt (k : Nat) : BytK k idx := fun r c _ _ => by unfold idx; split <;> decide
theorem mm_congr {k : Nat} {a a' b b' : Nat → Nat → Nat} (h : EqK k a a') (h' : EqK k b b') : EqK k (mm k a b) (mm k a' b') := fun r c hr hc =>
  xsum_congr (fun t ht => by rw [h r t hr ht, h' t c ht hc])
theorem mm_assoc (k : Nat) (a b c : Nat → Nat → Nat) : mm k (mm k a b) c = mm k a (mm k b c) := by
  funext r s
  unfold mm
  have h1 : ∀ t, Gf.mul (xsum (fun u => Gf.mul (a r u) (b u t)) k) (c t s) = xsum (fun u => Gf.mul (a r u) (Gf.mul (b u t) (c t s))) k := fun t => by
    rw [xsum_mul]
    exact xsum_congr (fun u _ => Gf.mul_assoc _ _ _)
  have h2 : ∀ u, Gf.mul (a r u) (xsum (fun t => Gf.mul (b u t) (c t s)) k) = xsum (fun t => Gf.mul (a r u) (Gf.mul (b u t) (c t s))) k := fun u => mul_xsum _ _ _
  rw [xsum_congr (fun t _ => h1 t), xsum_swap, xsum_congr (fun u _ => (h2 u).symm)]
theorem id_mm {k : Nat} {b : Nat → Nat → Nat} (h : BytK k b) : EqK k (mm k idx b) b := fun r c hr hc => by
  unfold mm
  rw [xsum_one (j := r) hr (fun t ht hne => by simp [idx, Ne.symm hne, Gf.zero_mul])]
  simp [idx, Gf.one_mul (h r c hr hc)]
theorem mm_id {k : Nat} {b : Nat → Nat → Nat} (h : BytK k b) : EqK k (mm k b idx) b := fun r c hr hc => by
  unfold mm
  rw [xsum_one (j := c) hc (fun t ht hne => by simp [idx, hne, Gf.mul_zero])]
  simp [idx, Gf.mul_one (h r c hr hc)]
/-- o leads from M to a, and back -/
def Two (k : Nat) (M a o : Nat → Nat → Nat) : Prop := ∃ F, BytK k F ∧ EqK k (mm k o F) idx ∧ EqK k (mm k F o) idx ∧ EqK k a (mm k o M)
theorem Two.start {k : Nat} {M : Nat → Nat → Nat} (h : BytK k M) : Two k M M idx :=
  ⟨idx, idx_byt k, id_mm (idx_byt k), id_mm (idx_byt k), (id_mm h).symm⟩
theorem Two.eq {k : Nat} {M a o a' o' : Nat → Nat → Nat} (h : Two k M a o) (ha : EqK k a a') (ho : EqK k o o') : Two k M a' o' := by
  obtain ⟨F, h1, h2, h3, h4⟩ := h
  exact ⟨F, h1, (mm_congr ho.symm (EqK.refl F)).trans h2, (mm_congr (EqK.refl F) ho.symm).trans h3, (ha.symm.trans h4).trans (mm_congr ho (EqK.refl M))⟩
/-- one step, which leads back -/
theorem Two.step {k : Nat} {M a o T T' : Nat → Nat → Nat} (h : Two k M a o) (hT : EqK k (mm k T T') idx) (hT' : EqK k (mm k T' T) idx) (ho : BytK k o) (bT : BytK k T) (bT' : BytK k T') : Two k M (mm k T a) (mm k T o) := by
  obtain ⟨F, h1, h2, h3, h4⟩ := h
  refine ⟨mm k F T', mm_byt _ _ _, ?_, ?_, ?_⟩
  · rw [mm_assoc]
    have e1 : EqK k (mm k o (mm k F T')) T' := by
      rw [← mm_assoc]
      exact (mm_congr h2 (EqK.refl T')).trans (id_mm bT')
    exact (mm_congr (EqK.refl T) e1).trans hT
  · rw [mm_assoc]
    have e1 : EqK k (mm k T' (mm k T o)) o := by
      rw [← mm_assoc]
      exact (mm_congr hT' (EqK.refl o)).trans (id_mm ho)
    exact (mm_congr (EqK.refl F) e1).trans h3
  · rw [mm_assoc]
    exact mm_congr (EqK.refl T) h4
/-- two rows change places -/
def sw (i j r : Nat) : Nat := if r = i then j else if r = j then i else r
theorem sw_lt {k i j r : Nat} (hi : i < k) (hj : j < k) (hr : r < k) : sw i j r < k := by unfold sw; split <;> (try split) <;> assumption
theorem sw_sw (i j r : Nat) : sw i j (sw i j r) = r := by
  unfold sw
  by_cases h1 : r = i
  · subst h1
    by_cases h2 : j = r
    · subst h2; simp
    · simp [h2]
  · by_cases h2 : r = j
    · subst h2; simp [h1]
    · simp [h1, h2]
def swT (i j r s : Nat) : Nat := if s = sw i j r then 1 else 0
theorem swT_byt (k i j : Nat) : BytK k (swT i j) := fun r c _ _ => by unfold swT; split <;> decide
theorem swT_mm {k i j : Nat} (hi : i < k) (hj : j < k) {a : Nat → Nat → Nat} (ha : BytK k a) : EqK k (mm k (swT i j) a) (fun r c => a (sw i j r) c) := fun r c hr hc => by
  unfold mm
  have hs := sw_lt hi hj hr
  rw [xsum_one (j := sw i j r) hs (fun t ht hne => by simp [swT, hne, Gf.zero_mul])]
  simp [swT, Gf.one_mul (ha _ c hs hc)]
theorem swT_two {k i j : Nat} (hi : i < k) (hj : j < k) : EqK k (mm k (swT i j) (swT i j)) idx := (swT_mm hi hj (swT_byt k i j)).trans (fun r c hr hc => by
  simp only [swT, sw_sw, idx]
  by_cases h : r = c
  · simp [h]
  · simp [h, Ne.symm h])
theorem Two.swap {k i j : Nat} {M a o : Nat → Nat → Nat} (h : Two k M a o) (hi : i < k) (hj : j < k) (ba : BytK k a) (bo : BytK k o) : Two k M (fun r c => a (sw i j r) c) (fun r c => o (sw i j r) c) :=
  (h.step (swT_two hi hj) (swT_two hi hj) bo (swT_byt k i j) (swT_byt k i j)).eq (swT_mm hi hj ba) (swT_mm hi hj bo)
/-- a row times a number -/
def scT (i x r s : Nat) : Nat := if s = r then (if r = i then x else 1) else 0
def sc (i x : Nat) (a : Nat → Nat → Nat) (r c : Nat) : Nat := if r = i then Gf.mul (a r c) x else a r c
theorem scT_byt (k i : Nat) {x : Nat} (hx : x < 256) : BytK k (scT i x) := fun r c _ _ => by unfold scT; split <;> (try split) <;> first | exact hx | decide
theorem scT_mm {k i x : Nat} {a : Nat → Nat → Nat} (ha : BytK k a) : EqK k (mm k (scT i x) a) (sc i x a) := fun r c hr hc => by
  unfold mm
  rw [xsum_one (j := r) hr (fun t ht hne => by simp [scT, hne, Gf.zero_mul])]
  by_cases h : r = i
  · simp [scT, sc, h, Gf.mul_comm]
  · simp [scT, sc, h, Gf.one_mul (ha r c hr hc)]
theorem scT_two {k i x y : Nat} (hx : x < 256) (hy : y < 256) (h : Gf.mul x y = 1) : EqK k (mm k (scT i x) (scT i y)) idx := (scT_mm (scT_byt k i hy)).trans (fun r c hr hc => by
  by_cases hr' : r = i
  · subst hr'
    by_cases hc' : c = r
    · subst hc'
      simp [sc, scT, idx, Gf.mul_comm y x, h]
    · simp [sc, scT, idx, hc', Ne.symm hc', Gf.zero_mul]
  · by_cases hc' : c = r
    · subst hc'
      simp [sc, scT, idx, hr']
    · simp [sc, scT, idx, hr', hc', Ne.symm hc'])
theorem Two.scale {k i x : Nat} {M a o : Nat → Nat → Nat} (h : Two k M a o) (hx : x < 256) (hx0 : x ≠ 0) (ba : BytK k a) (bo : BytK k o) : Two k M (sc i x a) (sc i x o) :=
  (h.step (scT_two hx (Gf.inv_lt x) (Gf.mul_inv hx hx0)) (scT_two (Gf.inv_lt x) hx (Gf.inv_mul hx hx0)) bo (scT_byt k i hx) (scT_byt k i (Gf.inv_lt x))).eq (scT_mm ba) (scT_mm bo)
/-- a row, and another one times a number -/
def adT (i j x r s : Nat) : Nat := idx r s ^^^ (if r = i ∧ s = j then x else 0)
def ad (i j x : Nat) (a : Nat → Nat → Nat) (r c : Nat) : Nat := if r = i then a r c ^^^ Gf.mul (a j c) x else a r c
theorem adT_byt (k i j : Nat) {x : Nat} (hx : x < 256) : BytK k (adT i j x) := fun r c hr hc => Gf.xor_lt (idx_byt k r c hr hc) (by split <;> first | exact hx | decide)
theorem adT_mm {k i j x : Nat} (hj : j < k) {a : Nat → Nat → Nat} (ha : BytK k a) : EqK k (mm k (adT i j x) a) (ad i j x a) := fun r c hr hc => by
  have e : mm k (adT i j x) a r c = mm k idx a r c ^^^ xsum (fun t => Gf.mul (if r = i ∧ t = j then x else 0) (a t c)) k := by
    unfold mm
    rw [← xsum_xor]
    exact xsum_congr (fun t _ => Gf.mul_xor_left _ _ _)
  rw [e, id_mm ha r c hr hc]
  by_cases h : r = i
  · rw [xsum_one (j := j) hj (fun t ht hne => by simp [hne, Gf.zero_mul])]
    simp [ad, h, Gf.mul_comm]
  · rw [xsum_congr (g := fun _ => 0) (fun t _ => by simp [h, Gf.zero_mul]), xsum_zero]
    simp [ad, h]
theorem adT_two {k i j x : Nat} (hij : i ≠ j) (hj : j < k) (hx : x < 256) : EqK k (mm k (adT i j x) (adT i j x)) idx := (adT_mm hj (adT_byt k i j hx)).trans (fun r c hr hc => by
  by_cases h : r = i
  · subst h
    have e1 : adT r j x j c = idx j c := by simp [adT, Ne.symm hij]
    simp only [ad, if_true, e1]
    by_cases hc' : c = j
    · subst hc'
      simp [adT, idx, hij, Gf.one_mul hx]
    · simp [adT, idx, hc', Ne.symm hc', Gf.zero_mul]
  · simp [ad, h, adT])
theorem Two.add {k i j x : Nat} {M a o : Nat → Nat → Nat} (h : Two k M a o) (hij : i ≠ j) (hj : j < k) (hx : x < 256) (ba : BytK k a) (bo : BytK k o) : Two k M (ad i j x a) (ad i j x o) :=
  (h.step (adT_two hij hj hx) (adT_two hij hj hx) bo (adT_byt k i j hx) (adT_byt k i j hx)).eq (adT_mm hj ba) (adT_mm hj bo)
/-- the first c columns are those of the identity -/
def UnitTo (k : Nat) (a : Nat → Nat → Nat) (c : Nat) : Prop := ∀ r j, r < k → j < c → a r j = idx r j
theorem Two.done {k : Nat} {M a o : Nat → Nat → Nat} (h : Two k M a o) (hu : UnitTo k a k) (hM : BytK k M) (ho : BytK k o) : EqK k (mm k o M) idx ∧ EqK k (mm k M o) idx := by
  obtain ⟨F, h1, h2, h3, h4⟩ := h
  have e1 : EqK k (mm k o M) idx := h4.symm.trans (fun r c hr hc => hu r c hr hc)
  refine ⟨e1, ?_⟩
  have e2 : EqK k F M := by
    have := mm_congr (EqK.refl F) e1 (k := k)
    rw [← mm_assoc] at this
    exact ((mm_congr h3 (EqK.refl M)).symm.trans this |>.trans (mm_id h1)).symm.trans (id_mm hM)
  exact (mm_congr e2.symm (EqK.refl o)).trans h3
theorem xsum_two {f : Nat → Nat} {i j n : Nat} (hi : i < n) (hj : j < n) (hij : i ≠ j) (h : ∀ t, t < n → t ≠ i → t ≠ j → f t = 0) : xsum f n = f i ^^^ f j := by
  have e : xsum f n = xsum (fun t => (if t = i then f i else 0) ^^^ (if t = j then f j else 0)) n := xsum_congr (fun t ht => by
    by_cases h1 : t = i
    · subst h1; simp [hij]
    · by_cases h2 : t = j
      · subst h2; simp [h1]
      · simp [h1, h2, h t ht h1 h2])
  rw [e, xsum_xor, xsum_one (j := i) hi (fun t _ hne => by simp [hne]), xsum_one (j := j) hj (fun t _ hne => by simp [hne])]
  simp
/-- no number to go on with: nothing leads back -/
theorem Two.stuck {k c : Nat} {M a o : Nat → Nat → Nat} (h : Two k M a o) (hu : UnitTo k a c) (hc : c < k) (h0 : ∀ r, c ≤ r → r < k → a r c = 0) (ba : BytK k a) (hM : BytK k M) (N : Nat → Nat → Nat) : ¬ EqK k (mm k N M) idx := by
  intro hN
  obtain ⟨F, h1, h2, h3, h4⟩ := h
  let V : Nat → Nat → Nat := fun t _ => if t < c then a t c else if t = c then 1 else 0
  have bV : BytK k V := fun r s hr hs => by
    show (if r < c then a r c else if r = c then 1 else 0) < 256
    split
    · exact ba r c hr hc
    · split <;> decide
  have e1 : EqK k (mm k a V) (fun _ _ => 0) := fun r s hr hs => by
    unfold mm
    by_cases hrc : r < c
    · rw [xsum_two (i := r) (j := c) hr hc (by omega) (fun t ht h5 h6 => by
        by_cases htc : t < c
        · rw [hu r t hr htc]; simp [idx, Ne.symm h5, Gf.zero_mul]
        · simp [V, htc, h6, Gf.mul_zero])]
      rw [hu r r hr hrc]
      simp [V, hrc, idx, Gf.one_mul (ba r c hr hc), Gf.mul_one (ba r c hr hc)]
    · rw [xsum_congr (g := fun _ => 0) (fun t ht => by
        by_cases htc : t < c
        · rw [hu r t hr htc]; simp [idx, show r ≠ t by omega, Gf.zero_mul]
        · by_cases h6 : t = c
          · subst h6; rw [h0 r (by omega) hr]; simp [Gf.zero_mul]
          · simp [V, htc, h6, Gf.mul_zero]), xsum_zero]
  have z : ∀ A : Nat → Nat → Nat, EqK k (mm k A (fun _ _ => 0)) (fun _ _ => 0) := fun A r s _ _ => by
    unfold mm
    rw [xsum_congr (g := fun _ => 0) (fun t _ => Gf.mul_zero _), xsum_zero]
  have e2 : EqK k (mm k M V) (fun _ _ => 0) := by
    have e3 : EqK k (mm k F (mm k a V)) (mm k M V) := by
      have e4 : EqK k (mm k F (mm k a V)) (mm k F (mm k (mm k o M) V)) := mm_congr (EqK.refl F) (mm_congr h4 (EqK.refl V))
      rw [← mm_assoc k F (mm k o M) V, ← mm_assoc k F o M] at e4
      exact e4.trans (mm_congr ((mm_congr h3 (EqK.refl M)).trans (id_mm hM)) (EqK.refl V))
    exact e3.symm.trans ((mm_congr (EqK.refl F) e1).trans (z F))
  have e5 : EqK k V (fun _ _ => 0) := by
    have e6 : EqK k (mm k (mm k N M) V) V := (mm_congr hN (EqK.refl V)).trans (id_mm bV)
    rw [mm_assoc] at e6
    exact e6.symm.trans ((mm_congr (EqK.refl N) e2).trans (z N))
  have := e5 c c hc hc
  simp [V] at this
theorem UnitTo.swap {k c j : Nat} {a : Nat → Nat → Nat} (h : UnitTo k a c) (hc : c < k) (hj : c ≤ j) (hjk : j < k) : UnitTo k (fun r s => a (sw c j r) s) c := fun r s hr hs => by
  show a (sw c j r) s = idx r s
  rw [h _ s (sw_lt hc hjk hr) hs]
  unfold sw idx
  split
  · next e => subst e; simp [show j ≠ s by omega, show r ≠ s by omega]
  · split
    · next e => subst e; simp [show c ≠ s by omega, show r ≠ s by omega]
    · rfl
theorem UnitTo.scale {k c x : Nat} {a : Nat → Nat → Nat} (h : UnitTo k a c) (hc : c < k) : UnitTo k (sc c x a) c := fun r s hr hs => by
  unfold sc
  split
  · next e =>
    subst e
    rw [h r s hr hs]
    simp [idx, show r ≠ s by omega, Gf.zero_mul]
  · exact h r s hr hs
theorem UnitTo.add {k c i x : Nat} {a : Nat → Nat → Nat} (h : UnitTo k a c) (hc : c < k) : UnitTo k (ad i c x a) c := fun r s hr hs => by
  unfold ad
  split
  · rw [h c s hc hs, h r s hr hs]
    simp [idx, show c ≠ s by omega, Gf.zero_mul]
  · exact h r s hr hs
theorem sc_byt {k i x : Nat} {a : Nat → Nat → Nat} (h : BytK k a) : BytK k (sc i x a) := fun r c hr hc => by
  unfold sc; split
  · exact Gf.mul_lt _ _
  · exact h r c hr hc
theorem ad_byt {k i j x : Nat} {a : Nat → Nat → Nat} (h : BytK k a) : BytK k (ad i j x a) := fun r c hr hc => by
  unfold ad; split
  · exact Gf.xor_lt (h r c hr hc) (Gf.mul_lt _ _)
  · exact h r c hr hc
theorem sw_byt {k i j : Nat} {a : Nat → Nat → Nat} (h : BytK k a) (hi : i < k) (hj : j < k) : BytK k (fun r c => a (sw i j r) c) := fun r c hr hc => h _ c (sw_lt hi hj hr) hc
/-- column c, with rows up to i done -/
def ColTo (k : Nat) (a : Nat → Nat → Nat) (c i : Nat) : Prop := a c c = 1 ∧ ∀ r, r < i → r < k → r ≠ c → a r c = 0
theorem ColTo.scaled {k c : Nat} {a : Nat → Nat → Nat} (ba : BytK k a) (hc : c < k) (h0 : a c c ≠ 0) : ColTo k (sc c (Gf.inv (a c c)) a) c 0 :=
  ⟨by simp [sc, Gf.mul_inv (ba c c hc hc) h0], fun r hr => by omega⟩
theorem ColTo.added {k c i : Nat} {a : Nat → Nat → Nat} (h : ColTo k a c i) (ba : BytK k a) (hi : i < k) (hic : i ≠ c) (hc : c < k) : ColTo k (ad i c (a i c) a) c (i + 1) := by
  refine ⟨by simp [ad, Ne.symm hic, h.1], fun r hr hrk hrc => ?_⟩
  by_cases hri : r = i
  · subst hri
    simp [ad, h.1, Gf.one_mul (ba r c hrk hc)]
  · simp [ad, hri, h.2 r (by omega) hrk hrc]
theorem ColTo.same {k c i : Nat} {a : Nat → Nat → Nat} (h : ColTo k a c i) (hic : i = c) : ColTo k a c (i + 1) :=
  ⟨h.1, fun r hr hrk hrc => h.2 r (by omega) hrk hrc⟩
theorem UnitTo.next {k c : Nat} {a : Nat → Nat → Nat} (h : UnitTo k a c) (hcol : ColTo k a c k) : UnitTo k a (c + 1) := fun r s hr hs => by
  by_cases hsc : s = c
  · subst hsc
    unfold idx
    split
    · next e => subst e; exact hcol.1
    · next e => exact hcol.2 r hr hr e
  · exact h r s hr (by omega)
/-- a matrix that may be, with as many rows as columns -/
def SqMay (M : List (List Int)) : Prop := MMay M ∧ M.length = (M.getD 0 []).length
/-- N leads from M to the identity, from either side -/
def InvOf (M N : List (List Int)) : Prop := MMay N ∧ N.length = M.length ∧ (N.getD 0 []).length = M.length ∧ mulM N M = idM M.length ∧ mulM M N = idM M.length
/-- what Invert answers: the inverse, the error's number -/
def invR (M : List (List Int)) (r : List (List Int) × Int) : Prop := (¬ SqMay M ∧ r = ([], 400)) ∨ (SqMay M ∧ ∃ N, InvOf M N ∧ r = (N, 0)) ∨ (SqMay M ∧ (¬ ∃ N, InvOf M N) ∧ r = ([], 401))
theorem mulM_mm {k : Nat} (h : 0 < k) (f g : Nat → Nat → Nat) : mulM (matF k k f) (matF k k g) = matF k k (mm k f g) := by
  unfold mulM
  rw [matF_len, matF_head h, matF_len]
  apply matF_congr
  intro r c hr hc
  rw [dot_xsum]
  exact xsum_congr (fun t ht => by rw [entry_matF hr ht, entry_matF ht hc])
theorem idM_idx (k : Nat) : idM k = matF k k idx := by
  rw [idM_matF]; rfl
theorem matF_eqK {k : Nat} {f g : Nat → Nat → Nat} (h : matF k k f = matF k k g) : EqK k f g := fun r c hr hc => by
  have := congrArg (fun M => entry M r c) h
  simpa only [entry_matF hr hc] using this
theorem SqMay.form {M : List (List Int)} (h : SqMay M) : M = matF M.length M.length (entry M) := by
  have := mmay_matF h.1
  rwa [← h.2] at this
theorem SqMay.byt {M : List (List Int)} (h : SqMay M) : BytK M.length (entry M) := fun r c hr hc => (mmay_at h.1 hr (by rw [← h.2]; exact hc)).2
theorem sq_matF {k : Nat} {f : Nat → Nat → Nat} (h1 : 1 ≤ k) (h2 : k ≤ 12) (hb : BytK k f) : SqMay (matF k k f) := ⟨matF_may h1 h2 h1 h2 hb, by rw [matF_len, matF_head h1]⟩
/-- the way has led to the identity -/
theorem inv_of_done {M : List (List Int)} {a o : Nat → Nat → Nat} (hM : SqMay M) (h : Two M.length (entry M) a o) (hu : UnitTo M.length a M.length) (ho : BytK M.length o) : InvOf M (matF M.length M.length o) := by
  obtain ⟨e1, e2⟩ := h.done hu hM.byt ho
  have h1 := hM.1.1
  refine ⟨(sq_matF h1 hM.1.2.1 ho).1, matF_len _ _ _, matF_head h1, ?_, ?_⟩
  · conv => lhs; rw [hM.form]
    rw [matF_len, mulM_mm h1, idM_idx]
    exact matF_congr e1
  · conv => lhs; rw [hM.form]
    rw [matF_len, mulM_mm h1, idM_idx]
    exact matF_congr e2
theorem inv_of_stuck {M : List (List Int)} {a o : Nat → Nat → Nat} {c : Nat} (hM : SqMay M) (h : Two M.length (entry M) a o) (hu : UnitTo M.length a c) (hc : c < M.length) (h0 : ∀ r, c ≤ r → r < M.length → a r c = 0) (ba : BytK M.length a) : ¬ ∃ N, InvOf M N := by
  rintro ⟨N, hN, hl, hl', e1, _⟩
  have hsq : SqMay N := ⟨hN, by rw [hl, hl']⟩
  have e2 : mulM N M = matF M.length M.length (mm M.length (entry N) (entry M)) := by
    conv => lhs; rw [hsq.form, hM.form]
    rw [hl, mulM_mm hM.1.1]
  rw [e2, idM_idx] at e1
  exact h.stuck hu hc h0 ba hM.byt (entry N) (matF_eqK e1)
theorem InvOf.one {M N N' : List (List Int)} (hM : SqMay M) (h : InvOf M N) (h' : InvOf M N') : N = N' := by
  have sN : SqMay N := ⟨h.1, by rw [h.2.1, h.2.2.1]⟩
  have sN' : SqMay N' := ⟨h'.1, by rw [h'.2.1, h'.2.2.1]⟩
  have e1 : mulM (mulM N M) N' = mulM N (mulM M N') := mulM_assoc h.1.1 hM.1.1 h.2.2.1 (by rw [← hM.2, h'.2.1])
  rw [h.2.2.2.1, h'.2.2.2.2] at e1
  rw [← h'.2.1] at e1
  rw [idM_mul h'.1] at e1
  rw [e1, h'.2.1, ← h.2.1]
  have e2 : mulM N (idM N.length) = N := by
    conv => lhs; rw [sN.form]
    rw [matF_len, idM_idx, mulM_mm h.1.1]
    conv => rhs; rw [sN.form]
    exact matF_congr (mm_id sN.byt)
  exact e2.symm
theorem invR_one {M : List (List Int)} {r r' : List (List Int) × Int} (h : invR M r) (h' : invR M r') : r = r' := by
  rcases h with ⟨h1, rfl⟩ | ⟨h1, N, h2, rfl⟩ | ⟨h1, h2, rfl⟩ <;> rcases h' with ⟨h3, rfl⟩ | ⟨h3, N', h4, rfl⟩ | ⟨h3, h4, rfl⟩
  · rfl
  · exact absurd h3 h1
  · exact absurd h3 h1
  · exact absurd h1 h3
  · rw [InvOf.one h1 h2 h4]
  · exact absurd ⟨N, h2⟩ h4
  · exact absurd h1 h3
  · exact absurd ⟨N', h4⟩ h2
  · rfl
end Go.Proofs.YtfeepmjkamdldaaDoor
