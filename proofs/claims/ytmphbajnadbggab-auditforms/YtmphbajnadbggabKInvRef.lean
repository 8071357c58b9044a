/- Texts one behind the other: InvMath, InvRef1, InvRef2, InvRef3, InvRef4, InvLaws. -/
import Derived.Test.YtmphbajnadbggabKMatRef
import Derived.Test.YtmphbajnadbggabKCore
import Derived.Test.YtmphbajnadbggabKRegs
import Derived.Laws.CopyOwn
/- Matrices over the field and their inverses: rows that change places, rows times a number, rows added: Gauss and Jordan. -/
namespace Go.Proofs.Ytmphbajnadbggab
open Go.RowKit
set_option linter.unusedVariables false
set_option linter.unusedSimpArgs false
def mm (k : Nat) (a b : Nat → Nat → Nat) (r c : Nat) : Nat := xsum (fun t => Gf.mul (a r t) (b t c)) k
def idx (r c : Nat) : Nat := if r = c then 1 else 0
def EqK (k : Nat) (a b : Nat → Nat → Nat) : Prop := ∀ r c, r < k → c < k → a r c = b r c
def BytK (k : Nat) (a : Nat → Nat → Nat) : Prop := ∀ r c, r < k → c < k → a r c < 256
theorem EqK.refl {k : Nat} (a : Nat → Nat → Nat) : EqK k a a := fun _ _ _ _ => rfl
theorem EqK.symm {k : Nat} {a b : Nat → Nat → Nat} (h : EqK k a b) : EqK k b a := fun r c hr hc => (h r c hr hc).symm
theorem EqK.trans {k : Nat} {a b c : Nat → Nat → Nat} (h : EqK k a b) (h' : EqK k b c) : EqK k a c := fun r s hr hs => (h r s hr hs).trans (h' r s hr hs)
theorem xsum_lt {f : Nat → Nat} : ∀ {n : Nat}, (∀ k, k < n → f k < 256) → xsum f n < 256
  | 0, _ => (by decide : (0 : Nat) < 256)
  | n + 1, h => Gf.xor_lt (xsum_lt (fun k hk => h k (by omega))) (h n (by omega))
theorem mm_byt (k : Nat) (a b : Nat → Nat → Nat) : BytK k (mm k a b) := fun r c _ _ => xsum_lt (fun _ _ => Gf.mul_lt _ _)
theorem idx_byt (k : Nat) : BytK k idx := fun r c _ _ => by unfold idx; split <;> decide
theorem mm_congr {k : Nat} {a a' b b' : Nat → Nat → Nat} (h : EqK k a a') (h' : EqK k b b') : EqK k (mm k a b) (mm k a' b') := fun r c hr hc =>
  xsum_congr (fun t ht => by rw [h r t hr ht, h' t c ht hc])
theorem mm_assoc (k : Nat) (a b c : Nat → Nat → Nat) : mm k (mm k a b) c = mm k a (mm k b c) := by
  funext r s
  unfold mm
  have h1 : ∀ t, Gf.mul (xsum (fun u => Gf.mul (a r u) (b u t)) k) (c t s) = xsum (fun u => Gf.mul (a r u) (Gf.mul (b u t) (c t s))) k := fun t => by
    rw [xsum_mul]
    exact xsum_congr (fun u _ => Gf.mul_assoc _ _ _)
  have h2 : ∀ u, Gf.mul (a r u) (xsum (fun t => Gf.mul (b u t) (c t s)) k) = xsum (fun t => Gf.mul (a r u) (Gf.mul (b u t) (c t s))) k := fun u => mul_xsum _ _ _
  rw [xsum_congr (fun t _ => h1 t), xsum_swap, xsum_congr (fun u _ => (h2 u).symm)]
theorem id_mm {k : Nat} {b : Nat → Nat → Nat} (h : BytK k b) : EqK k (mm k idx b) b := fun r c hr hc => by
  unfold mm
  rw [xsum_one (j := r) hr (fun t ht hne => by simp [idx, Ne.symm hne, Gf.zero_mul])]
  simp [idx, Gf.one_mul (h r c hr hc)]
theorem mm_id {k : Nat} {b : Nat → Nat → Nat} (h : BytK k b) : EqK k (mm k b idx) b := fun r c hr hc => by
  unfold mm
  rw [xsum_one (j := c) hc (fun t ht hne => by simp [idx, hne, Gf.mul_zero])]
  simp [idx, Gf.mul_one (h r c hr hc)]
/-- o leads from M to a, and back -/
def Two (k : Nat) (M a o : Nat → Nat → Nat) : Prop := ∃ F, BytK k F ∧ EqK k (mm k o F) idx ∧ EqK k (mm k F o) idx ∧ EqK k a (mm k o M)
theorem Two.start {k : Nat} {M : Nat → Nat → Nat} (h : BytK k M) : Two k M M idx :=
  ⟨idx, idx_byt k, id_mm (idx_byt k), id_mm (idx_byt k), (id_mm h).symm⟩
theorem Two.eq {k : Nat} {M a o a' o' : Nat → Nat → Nat} (h : Two k M a o) (ha : EqK k a a') (ho : EqK k o o') : Two k M a' o' := by
  obtain ⟨F, h1, h2, h3, h4⟩ := h
  exact ⟨F, h1, (mm_congr ho.symm (EqK.refl F)).trans h2, (mm_congr (EqK.refl F) ho.symm).trans h3, (ha.symm.trans h4).trans (mm_congr ho (EqK.refl M))⟩
/-- one step, which leads back -/
theorem Two.step {k : Nat} {M a o T T' : Nat → Nat → Nat} (h : Two k M a o) (hT : EqK k (mm k T T') idx) (hT' : EqK k (mm k T' T) idx) (ho : BytK k o) (bT : BytK k T) (bT' : BytK k T') : Two k M (mm k T a) (mm k T o) := by
  obtain ⟨F, h1, h2, h3, h4⟩ := h
  refine ⟨mm k F T', mm_byt _ _ _, ?_, ?_, ?_⟩
  · rw [mm_assoc]
    have e1 : EqK k (mm k o (mm k F T')) T' := by
      rw [← mm_assoc]
      exact (mm_congr h2 (EqK.refl T')).trans (id_mm bT')
    exact (mm_congr (EqK.refl T) e1).trans hT
  · rw [mm_assoc]
    have e1 : EqK k (mm k T' (mm k T o)) o := by
      rw [← mm_assoc]
      exact (mm_congr hT' (EqK.refl o)).trans (id_mm ho)
    exact (mm_congr (EqK.refl F) e1).trans h3
  · rw [mm_assoc]
    exact mm_congr (EqK.refl T) h4
/-- two rows change places -/
def sw (i j r : Nat) : Nat := if r = i then j else if r = j then i else r
theorem sw_lt {k i j r : Nat} (hi : i < k) (hj : j < k) (hr : r < k) : sw i j r < k := by unfold sw; split <;> (try split) <;> assumption
theorem sw_sw (i j r : Nat) : sw i j (sw i j r) = r := by
  unfold sw
  by_cases h1 : r = i
  · subst h1
    by_cases h2 : j = r
    · subst h2; simp
    · simp [h2]
  · by_cases h2 : r = j
    · subst h2; simp [h1]
    · simp [h1, h2]
def swT (i j r s : Nat) : Nat := if s = sw i j r then 1 else 0
theorem swT_byt (k i j : Nat) : BytK k (swT i j) := fun r c _ _ => by unfold swT; split <;> decide
theorem swT_mm {k i j : Nat} (hi : i < k) (hj : j < k) {a : Nat → Nat → Nat} (ha : BytK k a) : EqK k (mm k (swT i j) a) (fun r c => a (sw i j r) c) := fun r c hr hc => by
  unfold mm
  have hs := sw_lt hi hj hr
  rw [xsum_one (j := sw i j r) hs (fun t ht hne => by simp [swT, hne, Gf.zero_mul])]
  simp [swT, Gf.one_mul (ha _ c hs hc)]
theorem swT_two {k i j : Nat} (hi : i < k) (hj : j < k) : EqK k (mm k (swT i j) (swT i j)) idx := (swT_mm hi hj (swT_byt k i j)).trans (fun r c hr hc => by
  simp only [swT, sw_sw, idx]
  by_cases h : r = c
  · simp [h]
  · simp [h, Ne.symm h])
theorem Two.swap {k i j : Nat} {M a o : Nat → Nat → Nat} (h : Two k M a o) (hi : i < k) (hj : j < k) (ba : BytK k a) (bo : BytK k o) : Two k M (fun r c => a (sw i j r) c) (fun r c => o (sw i j r) c) :=
  (h.step (swT_two hi hj) (swT_two hi hj) bo (swT_byt k i j) (swT_byt k i j)).eq (swT_mm hi hj ba) (swT_mm hi hj bo)
/-- a row times a number -/
def scT (i x r s : Nat) : Nat := if s = r then (if r = i then x else 1) else 0
def sc (i x : Nat) (a : Nat → Nat → Nat) (r c : Nat) : Nat := if r = i then Gf.mul (a r c) x else a r c
theorem scT_byt (k i : Nat) {x : Nat} (hx : x < 256) : BytK k (scT i x) := fun r c _ _ => by unfold scT; split <;> (try split) <;> first | exact hx | decide
theorem scT_mm {k i x : Nat} {a : Nat → Nat → Nat} (ha : BytK k a) : EqK k (mm k (scT i x) a) (sc i x a) := fun r c hr hc => by
  unfold mm
  rw [xsum_one (j := r) hr (fun t ht hne => by simp [scT, hne, Gf.zero_mul])]
  by_cases h : r = i
  · simp [scT, sc, h, Gf.mul_comm]
  · simp [scT, sc, h, Gf.one_mul (ha r c hr hc)]
theorem scT_two {k i x y : Nat} (hx : x < 256) (hy : y < 256) (h : Gf.mul x y = 1) : EqK k (mm k (scT i x) (scT i y)) idx := (scT_mm (scT_byt k i hy)).trans (fun r c hr hc => by
  by_cases hr' : r = i
  · subst hr'
    by_cases hc' : c = r
    · subst hc'
      simp [sc, scT, idx, Gf.mul_comm y x, h]
    · simp [sc, scT, idx, hc', Ne.symm hc', Gf.zero_mul]
  · by_cases hc' : c = r
    · subst hc'
      simp [sc, scT, idx, hr']
    · simp [sc, scT, idx, hr', hc', Ne.symm hc'])
theorem Two.scale {k i x : Nat} {M a o : Nat → Nat → Nat} (h : Two k M a o) (hx : x < 256) (hx0 : x ≠ 0) (ba : BytK k a) (bo : BytK k o) : Two k M (sc i x a) (sc i x o) :=
  (h.step (scT_two hx (Gf.inv_lt x) (Gf.mul_inv hx hx0)) (scT_two (Gf.inv_lt x) hx (Gf.inv_mul hx hx0)) bo (scT_byt k i hx) (scT_byt k i (Gf.inv_lt x))).eq (scT_mm ba) (scT_mm bo)
/-- a row, and another one times a number -/
def adT (i j x r s : Nat) : Nat := idx r s ^^^ (if r = i ∧ s = j then x else 0)
def ad (i j x : Nat) (a : Nat → Nat → Nat) (r c : Nat) : Nat := if r = i then a r c ^^^ Gf.mul (a j c) x else a r c
theorem adT_byt (k i j : Nat) {x : Nat} (hx : x < 256) : BytK k (adT i j x) := fun r c hr hc => Gf.xor_lt (idx_byt k r c hr hc) (by split <;> first | exact hx | decide)
theorem adT_mm {k i j x : Nat} (hj : j < k) {a : Nat → Nat → Nat} (ha : BytK k a) : EqK k (mm k (adT i j x) a) (ad i j x a) := fun r c hr hc => by
  have e : mm k (adT i j x) a r c = mm k idx a r c ^^^ xsum (fun t => Gf.mul (if r = i ∧ t = j then x else 0) (a t c)) k := by
    unfold mm
    rw [← xsum_xor]
    exact xsum_congr (fun t _ => Gf.mul_xor_left _ _ _)
  rw [e, id_mm ha r c hr hc]
  by_cases h : r = i
  · rw [xsum_one (j := j) hj (fun t ht hne => by simp [hne, Gf.zero_mul])]
    simp [ad, h, Gf.mul_comm]
  · rw [xsum_congr (g := fun _ => 0) (fun t _ => by simp [h, Gf.zero_mul]), xsum_zero]
    simp [ad, h]
theorem adT_two {k i j x : Nat} (hij : i ≠ j) (hj : j < k) (hx : x < 256) : EqK k (mm k (adT i j x) (adT i j x)) idx := (adT_mm hj (adT_byt k i j hx)).trans (fun r c hr hc => by
  by_cases h : r = i
  · subst h
    have e1 : adT r j x j c = idx j c := by simp [adT, Ne.symm hij]
    simp only [ad, if_true, e1]
    by_cases hc' : c = j
    · subst hc'
      simp [adT, idx, hij, Gf.one_mul hx]
    · simp [adT, idx, hc', Ne.symm hc', Gf.zero_mul]
  · simp [ad, h, adT])
theorem Two.add {k i j x : Nat} {M a o : Nat → Nat → Nat} (h : Two k M a o) (hij : i ≠ j) (hj : j < k) (hx : x < 256) (ba : BytK k a) (bo : BytK k o) : Two k M (ad i j x a) (ad i j x o) :=
  (h.step (adT_two hij hj hx) (adT_two hij hj hx) bo (adT_byt k i j hx) (adT_byt k i j hx)).eq (adT_mm hj ba) (adT_mm hj bo)
/-- the first c columns are those of the identity -/
def UnitTo (k : Nat) (a : Nat → Nat → Nat) (c : Nat) : Prop := ∀ r j, r < k → j < c → a r j = idx r j
theorem Two.done {k : Nat} {M a o : Nat → Nat → Nat} (h : Two k M a o) (hu : UnitTo k a k) (hM : BytK k M) (ho : BytK k o) : EqK k (mm k o M) idx ∧ EqK k (mm k M o) idx := by
  obtain ⟨F, h1, h2, h3, h4⟩ := h
  have e1 : EqK k (mm k o M) idx := h4.symm.trans (fun r c hr hc => hu r c hr hc)
  refine ⟨e1, ?_⟩
  have e2 : EqK k F M := by
    have := mm_congr (EqK.refl F) e1 (k := k)
    rw [← mm_assoc] at this
    exact ((mm_congr h3 (EqK.refl M)).symm.trans this |>.trans (mm_id h1)).symm.trans (id_mm hM)
  exact (mm_congr e2.symm (EqK.refl o)).trans h3
theorem xsum_two {f : Nat → Nat} {i j n : Nat} (hi : i < n) (hj : j < n) (hij : i ≠ j) (h : ∀ t, t < n → t ≠ i → t ≠ j → f t = 0) : xsum f n = f i ^^^ f j := by
  have e : xsum f n = xsum (fun t => (if t = i then f i else 0) ^^^ (if t = j then f j else 0)) n := xsum_congr (fun t ht => by
    by_cases h1 : t = i
    · subst h1; simp [hij]
    · by_cases h2 : t = j
      · subst h2; simp [h1]
      · simp [h1, h2, h t ht h1 h2])
  rw [e, xsum_xor, xsum_one (j := i) hi (fun t _ hne => by simp [hne]), xsum_one (j := j) hj (fun t _ hne => by simp [hne])]
  simp
/-- no number to go on with: nothing leads back -/
theorem Two.stuck {k c : Nat} {M a o : Nat → Nat → Nat} (h : Two k M a o) (hu : UnitTo k a c) (hc : c < k) (h0 : ∀ r, c ≤ r → r < k → a r c = 0) (ba : BytK k a) (hM : BytK k M) (N : Nat → Nat → Nat) : ¬ EqK k (mm k N M) idx := by
  intro hN
  obtain ⟨F, h1, h2, h3, h4⟩ := h
  let V : Nat → Nat → Nat := fun t _ => if t < c then a t c else if t = c then 1 else 0
  have bV : BytK k V := fun r s hr hs => by
    show (if r < c then a r c else if r = c then 1 else 0) < 256
    split
    · exact ba r c hr hc
    · split <;> decide
  have e1 : EqK k (mm k a V) (fun _ _ => 0) := fun r s hr hs => by
    unfold mm
    by_cases hrc : r < c
    · rw [xsum_two (i := r) (j := c) hr hc (by omega) (fun t ht h5 h6 => by
        by_cases htc : t < c
        · rw [hu r t hr htc]; simp [idx, Ne.symm h5, Gf.zero_mul]
        · simp [V, htc, h6, Gf.mul_zero])]
      rw [hu r r hr hrc]
      simp [V, hrc, idx, Gf.one_mul (ba r c hr hc), Gf.mul_one (ba r c hr hc)]
    · rw [xsum_congr (g := fun _ => 0) (fun t ht => by
        by_cases htc : t < c
        · rw [hu r t hr htc]; simp [idx, show r ≠ t by omega, Gf.zero_mul]
        · by_cases h6 : t = c
          · subst h6; rw [h0 r (by omega) hr]; simp [Gf.zero_mul]
          · simp [V, htc, h6, Gf.mul_zero]), xsum_zero]
  have z : ∀ A : Nat → Nat → Nat, EqK k (mm k A (fun _ _ => 0)) (fun _ _ => 0) := fun A r s _ _ => by
    unfold mm
    rw [xsum_congr (g := fun _ => 0) (fun t _ => Gf.mul_zero _), xsum_zero]
  have e2 : EqK k (mm k M V) (fun _ _ => 0) := by
    have e3 : EqK k (mm k F (mm k a V)) (mm k M V) := by
      have e4 : EqK k (mm k F (mm k a V)) (mm k F (mm k (mm k o M) V)) := mm_congr (EqK.refl F) (mm_congr h4 (EqK.refl V))
      rw [← mm_assoc k F (mm k o M) V, ← mm_assoc k F o M] at e4
      exact e4.trans (mm_congr ((mm_congr h3 (EqK.refl M)).trans (id_mm hM)) (EqK.refl V))
    exact e3.symm.trans ((mm_congr (EqK.refl F) e1).trans (z F))
  have e5 : EqK k V (fun _ _ => 0) := by
    have e6 : EqK k (mm k (mm k N M) V) V := (mm_congr hN (EqK.refl V)).trans (id_mm bV)
    rw [mm_assoc] at e6
    exact e6.symm.trans ((mm_congr (EqK.refl N) e2).trans (z N))
  have := e5 c c hc hc
  simp [V] at this
theorem UnitTo.swap {k c j : Nat} {a : Nat → Nat → Nat} (h : UnitTo k a c) (hc : c < k) (hj : c ≤ j) (hjk : j < k) : UnitTo k (fun r s => a (sw c j r) s) c := fun r s hr hs => by
  show a (sw c j r) s = idx r s
  rw [h _ s (sw_lt hc hjk hr) hs]
  unfold sw idx
  split
  · next e => subst e; simp [show j ≠ s by omega, show r ≠ s by omega]
  · split
    · next e => subst e; simp [show c ≠ s by omega, show r ≠ s by omega]
    · rfl
theorem UnitTo.scale {k c x : Nat} {a : Nat → Nat → Nat} (h : UnitTo k a c) (hc : c < k) : UnitTo k (sc c x a) c := fun r s hr hs => by
  unfold sc
  split
  · next e =>
    subst e
    rw [h r s hr hs]
    simp [idx, show r ≠ s by omega, Gf.zero_mul]
  · exact h r s hr hs
theorem UnitTo.add {k c i x : Nat} {a : Nat → Nat → Nat} (h : UnitTo k a c) (hc : c < k) : UnitTo k (ad i c x a) c := fun r s hr hs => by
  unfold ad
  split
  · rw [h c s hc hs, h r s hr hs]
    simp [idx, show c ≠ s by omega, Gf.zero_mul]
  · exact h r s hr hs
theorem sc_byt {k i x : Nat} {a : Nat → Nat → Nat} (h : BytK k a) : BytK k (sc i x a) := fun r c hr hc => by
  unfold sc; split
  · exact Gf.mul_lt _ _
  · exact h r c hr hc
theorem ad_byt {k i j x : Nat} {a : Nat → Nat → Nat} (h : BytK k a) : BytK k (ad i j x a) := fun r c hr hc => by
  unfold ad; split
  · exact Gf.xor_lt (h r c hr hc) (Gf.mul_lt _ _)
  · exact h r c hr hc
theorem sw_byt {k i j : Nat} {a : Nat → Nat → Nat} (h : BytK k a) (hi : i < k) (hj : j < k) : BytK k (fun r c => a (sw i j r) c) := fun r c hr hc => h _ c (sw_lt hi hj hr) hc
/-- column c, with rows up to i done -/
def ColTo (k : Nat) (a : Nat → Nat → Nat) (c i : Nat) : Prop := a c c = 1 ∧ ∀ r, r < i → r < k → r ≠ c → a r c = 0
theorem ColTo.scaled {k c : Nat} {a : Nat → Nat → Nat} (ba : BytK k a) (hc : c < k) (h0 : a c c ≠ 0) : ColTo k (sc c (Gf.inv (a c c)) a) c 0 :=
  ⟨by simp [sc, Gf.mul_inv (ba c c hc hc) h0], fun r hr => by omega⟩
theorem ColTo.added {k c i : Nat} {a : Nat → Nat → Nat} (h : ColTo k a c i) (ba : BytK k a) (hi : i < k) (hic : i ≠ c) (hc : c < k) : ColTo k (ad i c (a i c) a) c (i + 1) := by
  refine ⟨by simp [ad, Ne.symm hic, h.1], fun r hr hrk hrc => ?_⟩
  by_cases hri : r = i
  · subst hri
    simp [ad, h.1, Gf.one_mul (ba r c hrk hc)]
  · simp [ad, hri, h.2 r (by omega) hrk hrc]
theorem ColTo.same {k c i : Nat} {a : Nat → Nat → Nat} (h : ColTo k a c i) (hic : i = c) : ColTo k a c (i + 1) :=
  ⟨h.1, fun r hr hrk hrc => h.2 r (by omega) hrk hrc⟩
theorem UnitTo.next {k c : Nat} {a : Nat → Nat → Nat} (h : UnitTo k a c) (hcol : ColTo k a c k) : UnitTo k a (c + 1) := fun r s hr hs => by
  by_cases hsc : s = c
  · subst hsc
    unfold idx
    split
    · next e => subst e; exact hcol.1
    · next e => exact hcol.2 r hr hr e
  · exact h r s hr (by omega)
/-- a matrix that may be, with as many rows as columns -/
def SqMay (M : List (List Int)) : Prop := MMay M ∧ M.length = (M.getD 0 []).length
/-- N leads from M to the identity, from either side -/
def InvOf (M N : List (List Int)) : Prop := MMay N ∧ N.length = M.length ∧ (N.getD 0 []).length = M.length ∧ mulM N M = idM M.length ∧ mulM M N = idM M.length
/-- what Invert answers: the inverse, the error's number -/
def invR (M : List (List Int)) (r : List (List Int) × Int) : Prop := (¬ SqMay M ∧ r = ([], 400)) ∨ (SqMay M ∧ ∃ N, InvOf M N ∧ r = (N, 0)) ∨ (SqMay M ∧ (¬ ∃ N, InvOf M N) ∧ r = ([], 401))
theorem mulM_mm {k : Nat} (h : 0 < k) (f g : Nat → Nat → Nat) : mulM (matF k k f) (matF k k g) = matF k k (mm k f g) := by
  unfold mulM
  rw [matF_len, matF_head h, matF_len]
  apply matF_congr
  intro r c hr hc
  rw [dot_xsum]
  exact xsum_congr (fun t ht => by rw [entry_matF hr ht, entry_matF ht hc])
theorem idM_idx (k : Nat) : idM k = matF k k idx := by
  rw [idM_matF]; rfl
theorem matF_eqK {k : Nat} {f g : Nat → Nat → Nat} (h : matF k k f = matF k k g) : EqK k f g := fun r c hr hc => by
  have := congrArg (fun M => entry M r c) h
  simpa only [entry_matF hr hc] using this
theorem SqMay.form {M : List (List Int)} (h : SqMay M) : M = matF M.length M.length (entry M) := by
  have := mmay_matF h.1
  rwa [← h.2] at this
theorem SqMay.byt {M : List (List Int)} (h : SqMay M) : BytK M.length (entry M) := fun r c hr hc => (mmay_at h.1 hr (by rw [← h.2]; exact hc)).2
theorem sq_matF {k : Nat} {f : Nat → Nat → Nat} (h1 : 1 ≤ k) (h2 : k ≤ 12) (hb : BytK k f) : SqMay (matF k k f) := ⟨matF_may h1 h2 h1 h2 hb, by rw [matF_len, matF_head h1]⟩
/-- the way has led to the identity -/
theorem inv_of_done {M : List (List Int)} {a o : Nat → Nat → Nat} (hM : SqMay M) (h : Two M.length (entry M) a o) (hu : UnitTo M.length a M.length) (ho : BytK M.length o) : InvOf M (matF M.length M.length o) := by
  obtain ⟨e1, e2⟩ := h.done hu hM.byt ho
  have h1 := hM.1.1
  refine ⟨(sq_matF h1 hM.1.2.1 ho).1, matF_len _ _ _, matF_head h1, ?_, ?_⟩
  · conv => lhs; rw [hM.form]
    rw [matF_len, mulM_mm h1, idM_idx]
    exact matF_congr e1
  · conv => lhs; rw [hM.form]
    rw [matF_len, mulM_mm h1, idM_idx]
    exact matF_congr e2
theorem inv_of_stuck {M : List (List Int)} {a o : Nat → Nat → Nat} {c : Nat} (hM : SqMay M) (h : Two M.length (entry M) a o) (hu : UnitTo M.length a c) (hc : c < M.length) (h0 : ∀ r, c ≤ r → r < M.length → a r c = 0) (ba : BytK M.length a) : ¬ ∃ N, InvOf M N := by
  rintro ⟨N, hN, hl, hl', e1, _⟩
  have hsq : SqMay N := ⟨hN, by rw [hl, hl']⟩
  have e2 : mulM N M = matF M.length M.length (mm M.length (entry N) (entry M)) := by
    conv => lhs; rw [hsq.form, hM.form]
    rw [hl, mulM_mm hM.1.1]
  rw [e2, idM_idx] at e1
  exact h.stuck hu hc h0 ba hM.byt (entry N) (matF_eqK e1)
theorem InvOf.one {M N N' : List (List Int)} (hM : SqMay M) (h : InvOf M N) (h' : InvOf M N') : N = N' := by
  have sN : SqMay N := ⟨h.1, by rw [h.2.1, h.2.2.1]⟩
  have sN' : SqMay N' := ⟨h'.1, by rw [h'.2.1, h'.2.2.1]⟩
  have e1 : mulM (mulM N M) N' = mulM N (mulM M N') := mulM_assoc h.1.1 hM.1.1 h.2.2.1 (by rw [← hM.2, h'.2.1])
  rw [h.2.2.2.1, h'.2.2.2.2] at e1
  rw [← h'.2.1] at e1
  rw [idM_mul h'.1] at e1
  rw [e1, h'.2.1, ← h.2.1]
  have e2 : mulM N (idM N.length) = N := by
    conv => lhs; rw [sN.form]
    rw [matF_len, idM_idx, mulM_mm h.1.1]
    conv => rhs; rw [sN.form]
    exact matF_congr (mm_id sN.byt)
  exact e2.symm
theorem invR_one {M : List (List Int)} {r r' : List (List Int) × Int} (h : invR M r) (h' : invR M r') : r = r' := by
  rcases h with ⟨h1, rfl⟩ | ⟨h1, N, h2, rfl⟩ | ⟨h1, h2, rfl⟩ <;> rcases h' with ⟨h3, rfl⟩ | ⟨h3, N', h4, rfl⟩ | ⟨h3, h4, rfl⟩
  · rfl
  · exact absurd h3 h1
  · exact absurd h3 h1
  · exact absurd h1 h3
  · rw [InvOf.one h1 h2 h4]
  · exact absurd ⟨N, h2⟩ h4
  · exact absurd h1 h3
  · exact absurd ⟨N', h4⟩ h2
  · rfl
end Go.Proofs.Ytmphbajnadbggab
/- The document's own steps of Gauss and Jordan (ossuaryref1: times, less, swap), on rows of the call's own. -/
namespace Go.Proofs.Ytmphbajnadbggab
open Go.RowKit
set_option linter.unusedVariables false
set_option linter.unusedSimpArgs false
attribute [local go_sem ↓] Go.wp_at_zero Go.wp_at_succ
/-- a row by its numbers -/
def rowF (k : Nat) (g : Nat → Nat) : List Int := (List.range k).map fun c => ((g c : Nat) : Int)
theorem rowF_len (k : Nat) (g : Nat → Nat) : (rowF k g).length = k := by simp [rowF]
theorem rowF_at {k : Nat} {g : Nat → Nat} {c : Nat} (h : c < k) : (rowF k g).getD c 0 = ((g c : Nat) : Int) := by simp [rowF, List.getD, h]
theorem rowF_congr {k : Nat} {g g' : Nat → Nat} (h : ∀ c, c < k → g c = g' c) : rowF k g = rowF k g' := by
  unfold rowF
  exact List.map_congr_left (fun c hc => by rw [h c (by simpa using hc)])
theorem rowF_set {k : Nat} {g : Nat → Nat} {i x : Nat} (hi : i < k) : (rowF k g).set i (x : Int) = rowF k (fun c => if c = i then x else g c) := by
  apply List.ext_getElem
  · simp [rowF]
  · intro c h1 h2
    simp [rowF] at h1 h2 ⊢
    rw [List.getElem_set]
    by_cases h : i = c
    · subst h; simp
    · simp [h, Ne.symm h]
theorem matF_rowF (k : Nat) (f : Nat → Nat → Nat) (r : Nat) (h : r < k) : (matF k k f).getD r [] = rowF k (f r) := matF_row k k f r h
/-- two rows have changed places -/
def swapL {α : Type} (l : List α) (i j : Nat) (d : α) : List α := (l.set i (l.getD j d)).set j (l.getD i d)
theorem swapL_len {α : Type} (l : List α) (i j : Nat) (d : α) : (swapL l i j d).length = l.length := by simp [swapL]
theorem swapL_at {α : Type} (l : List α) (i j : Nat) (d : α) (hi : i < l.length) (hj : j < l.length) (r : Nat) : (swapL l i j d)[r]? = l[sw i j r]? := by
  unfold swapL sw
  rw [List.getElem?_set, List.getElem?_set]
  by_cases h1 : j = r
  · subst h1
    by_cases h2 : j = i
    · subst h2
      simp [hi, List.getD, List.getElem?_eq_getElem hi]
    · simp [h2, hj, List.getD, List.getElem?_eq_getElem hi]
  · by_cases h2 : i = r
    · subst h2
      simp [h1, hi, List.getD, List.getElem?_eq_getElem hj]
    · simp [h1, h2, Ne.symm h1, Ne.symm h2]
theorem RowsO.swapped {w w' : World} {B : Nat} {T E : TypeId} {u : Value} {us : List Value} {M : List (List Int)} {i j : Nat} (h : RowsO w B T E u us M) (hne : T ≠ E) (hi : i < M.length) (hj : j < M.length) (ho : OwnL w' B T u (swapL us i j undef)) (hf : ∀ k, u.ownBlock ≠ some k → k < w.heap.size → w'.heap[k]? = w.heap[k]?) :
    RowsO w' B T E u (swapL us i j undef) (swapL M i j []) := by
  have hiu : i < us.length := by rw [h.len]; exact hi
  have hju : j < us.length := by rw [h.len]; exact hj
  have hM : ∀ r, (swapL M i j []).getD r [] = M.getD (sw i j r) [] := fun r => by simp only [List.getD]; rw [swapL_at M i j [] hi hj]
  refine ⟨by rw [swapL_len, swapL_len]; exact h.len, ho, fun r v hv => ?_, fun r s x y hx hy hrs => ?_⟩
  · rw [swapL_at us i j undef hiu hju] at hv
    rw [hM]
    refine (h.row _ v hv).keep (fun g hg => hf g (fun e => ?_) ((h.row _ v hv).lt hg).2)
    exact apt_types h.outer (h.row _ v hv) hne g e hg
  · rw [swapL_at us i j undef hiu hju] at hx hy
    exact h.apart _ _ x y hx hy (fun e => hrs (by have := congrArg (sw i j) e; rwa [sw_sw, sw_sw] at this))
theorem matF_swap {k : Nat} {f : Nat → Nat → Nat} {i j : Nat} (hi : i < k) (hj : j < k) : swapL (matF k k f) i j [] = matF k k (fun r c => f (sw i j r) c) := by
  apply List.ext_getElem?
  intro r
  rw [swapL_at _ i j [] (by rw [matF_len]; exact hi) (by rw [matF_len]; exact hj)]
  by_cases hr : r < k
  · have hs := sw_lt hi hj hr
    simp [matF, hr, hs]
  · have hs : ¬ sw i j r < k := by unfold sw; simp [show r ≠ i by omega, show r ≠ j by omega]; omega
    simp [matF, hr, hs]
end Go.Proofs.Ytmphbajnadbggab
/- Gauss and Jordan on two matrices of the call's own: what each step leaves. -/
namespace Go.Proofs.Ytmphbajnadbggab
open Go.RowKit
set_option linter.unusedVariables false
set_option linter.unusedSimpArgs false
theorem addr_add (b off j : Nat) : (⟨b, off, none⟩ : Addr).add j = ⟨b, off + j, none⟩ := by unfold Addr.add; split <;> simp_all
/-- copy, onto a row of the call's own -/
theorem step_copy_own {P : Program} {ops : Array Oper} {o : Oper} {a : Act} {w : World} {K : Act → World → Prop} {Q : Exit → Act → World → Prop} {X : Prop} (hgd : o.guard = none) (d s : Operand) (dT sT : TypeId)
    (ho : o.op = .call { callee := .builtin .copy, args := #[d, s], argTypes := #[dT, sT] }) (elem : TypeId) (hu : P.underlying dT = some (.slice elem)) (hsz : (P.info? elem).map (·.size) = some 1)
    (B E g k cap cap' b off : Nat) (xs ys : List Value) (hd : a.eval d = .slice (some ⟨g, 0, none⟩) k cap) (hs : a.eval s = .slice (some ⟨b, off, none⟩) k cap') (hx : OwnL w B E (.slice (some ⟨g, 0, none⟩) k cap) xs) (hy : ys.length = k)
    (hsrc : ∀ j v, ys[j]? = some v → w.cell? ⟨b, off + j, none⟩ = some v) (h1 : ∀ v ∈ ys, v.oneCell' = true)
    (h : ∀ w', OwnL w' B E (.slice (some ⟨g, 0, none⟩) k cap) ys → (∀ j, j ≠ g → j < w.heap.size → w'.heap[j]? = w.heap[j]?) → Below B w w' → K (a.put o.dst (goInt k)) w') :
    if Region.wanted o (yielded ops a.tmps) = true then Oper.wp P o a w K Q else X := by
  rw [if_pos (by simp [Region.wanted, hgd])]
  rcases hx.2 with ⟨e, _⟩ | ⟨g', cap1, cur, e, hb, hh, hn, hm, hc, ht⟩
  · simp at e
  · have hlen := own_len hx
    simp only [Value.slice.injEq, Option.some.injEq, Addr.mk.injEq, and_true, true_and] at e
    obtain ⟨rfl, e2, rfl⟩ := e
    rw [hlen] at hn
    have hrun := run_copy_row (P := P) w dT sT o.type elem g 0 k cap ⟨b, off, none⟩ k cap' cur E ys hu hsz hh (by rw [hy]; simp) (fun j v hv => by
      rw [addr_add]; exact hsrc j v hv) (by rw [hy]; omega) h1
    have hK := h (w.setRow g (cur.toList.take 0 ++ ys ++ cur.toList.drop (0 + ys.length)).toArray)
      ⟨by simp, .inr ⟨g, cap, (cur.toList.take 0 ++ ys ++ cur.toList.drop (0 + ys.length)).toArray, by rw [hy], hb, setRow_heap w g cur _ E (0, 0) hh, by rw [hy]; exact hn, hm, by simp [hy]; omega, by simp⟩⟩
      (fun j hj _ => setRow_other w g j _ hj) (below_setRow (Below.refl B w) hb _)
    unfold Oper.wp
    have hK' : K (a.put o.dst (goInt ys.length)) (w.setRow g (cur.toList.take 0 ++ ys ++ cur.toList.drop (0 + ys.length)).toArray) := by rw [hy] at *; exact hK
    simp [execOp, ho, resolve, invoke, builtin, hd, hs, hrun, Result.andThen, Oper.upon]
    simp at hK'
    first | exact hK' | exact .inl hK'
theorem matF_setRow {k : Nat} {f : Nat → Nat → Nat} {i : Nat} (hi : i < k) (g : Nat → Nat) : (matF k k f).set i (rowF k g) = matF k k (fun r c => if r = i then g c else f r c) := by
  apply List.ext_getElem
  · simp [matF]
  · intro r h1 h2
    simp [matF] at h1 h2 ⊢
    rw [List.getElem_set]
    by_cases h : i = r
    · subst h; simp [rowF]
    · simp [h, Ne.symm h]
/-- the two matrices, each of the call's own, and apart: all of the second lies below Ha, all of the first from Ha on -/
structure GJ (wr : World) (Bo Ha k ga ca go co : Nat) (usa uso : List Value) (fa fo : Nat → Nat → Nat) : Prop where
  a : RowsO wr Ha 26 3 (.slice (some ⟨ga, 0, none⟩) k ca) usa (matF k k fa)
  o : RowsO wr Bo 26 3 (.slice (some ⟨go, 0, none⟩) k co) uso (matF k k fo)
  ol : go < Ha
  or : ∀ (j : Nat) v g, uso[j]? = some v → v.ownBlock = some g → g < Ha
  hs : Ha ≤ wr.heap.size
/-- the row i of a matrix of the call's own -/
theorem rowAt {wr : World} {B g k c : Nat} {us : List Value} {f : Nat → Nat → Nat} (h : RowsO wr B 26 3 (.slice (some ⟨g, 0, none⟩) k c) us (matF k k f)) {i : Nat} (hi : i < k) :
    ∃ gi ci, us[i]? = some (.slice (some ⟨gi, 0, none⟩) k ci) ∧ B ≤ gi ∧ wr.cell? ⟨g, i, none⟩ = some (.slice (some ⟨gi, 0, none⟩) k ci) ∧ OwnL wr B 3 (.slice (some ⟨gi, 0, none⟩) k ci) ((rowF k (f i)).map (Value.int .i64)) ∧ (∀ c, c < k → wr.cell? ⟨gi, c, none⟩ = some (.int .i64 ((f i c : Nat) : Int))) := by
  have hr : ((matF k k f).getD i []).length = k := matF_rowlen _ _ _ _ hi
  obtain ⟨gi, ci, h1, h2, h3, _⟩ := h.at (i := i) (by rw [matF_len]; exact hi) (by rw [hr]; omega)
  rw [hr] at h1 h3
  obtain ⟨g', c', e, _, hc⟩ := h.form (by rw [matF_len]; omega)
  simp only [Value.slice.injEq, Option.some.injEq, Addr.mk.injEq, and_true, true_and] at e
  obtain ⟨rfl, _, _⟩ := e
  have hrow := h.row i _ h1
  rw [matF_rowF k f i hi] at hrow
  refine ⟨gi, ci, h1, h2, hc i _ h1, hrow, fun c hck => ?_⟩
  rw [h3 c hck, matF_rowF k f i hi, rowF_at hck]
theorem GJ.setA {wr w' : World} {Bo Ha k ga ca go co : Nat} {usa uso : List Value} {fa fo : Nat → Nat → Nat} (h : GJ wr Bo Ha k ga ca go co usa uso fa fo) {i gi ci : Nat} {g : Nat → Nat} (hi : i < k) (hv : usa[i]? = some (.slice (some ⟨gi, 0, none⟩) k ci)) (hy : OwnL w' Ha 3 (.slice (some ⟨gi, 0, none⟩) k ci) ((rowF k g).map (Value.int .i64))) (hf : ∀ j, j ≠ gi → j < wr.heap.size → w'.heap[j]? = wr.heap[j]?) (hsz : wr.heap.size ≤ w'.heap.size) :
    GJ w' Bo Ha k ga ca go co usa uso (fun r c => if r = i then g c else fa r c) fo := by
  have hgi := ((h.a.row i _ hv).lt (g := gi) rfl).1
  refine ⟨?_, ?_, h.ol, h.or, Nat.le_trans h.hs hsz⟩
  · have := h.a.setRow (by decide) hv hy (fun k hk hks => hf k (fun e => hk (by rw [e]; rfl)) hks)
    rwa [matF_setRow hi] at this
  · refine ⟨h.o.len, h.o.outer.keep (fun q hq => ?_), fun j v hv' => (h.o.row j v hv').keep (fun q hq => ?_), h.o.apart⟩
    · simp [Value.ownBlock] at hq
      subst hq
      exact hf _ (by have := h.ol; omega) (by have := h.ol; have := h.hs; omega)
    · exact hf _ (by have := h.or j v q hv' hq; omega) (by have := h.or j v q hv' hq; have := h.hs; omega)
theorem GJ.setO {wr w' : World} {Bo Ha k ga ca go co : Nat} {usa uso : List Value} {fa fo : Nat → Nat → Nat} (h : GJ wr Bo Ha k ga ca go co usa uso fa fo) {i gi ci : Nat} {g : Nat → Nat} (hi : i < k) (hv : uso[i]? = some (.slice (some ⟨gi, 0, none⟩) k ci)) (hy : OwnL w' Bo 3 (.slice (some ⟨gi, 0, none⟩) k ci) ((rowF k g).map (Value.int .i64))) (hf : ∀ j, j ≠ gi → j < wr.heap.size → w'.heap[j]? = wr.heap[j]?) (hsz : wr.heap.size ≤ w'.heap.size) :
    GJ w' Bo Ha k ga ca go co usa uso fa (fun r c => if r = i then g c else fo r c) := by
  have hgi := h.or i _ gi hv rfl
  refine ⟨h.a.keep (fun q hq hqs => hf q (by omega) hqs), ?_, h.ol, h.or, Nat.le_trans h.hs hsz⟩
  have := h.o.setRow (by decide) hv hy (fun k hk hks => hf k (fun e => hk (by rw [e]; rfl)) hks)
  rwa [matF_setRow hi] at this
theorem GJ.swapA {wr w' : World} {Bo Ha k ga ca go co : Nat} {usa uso : List Value} {fa fo : Nat → Nat → Nat} (h : GJ wr Bo Ha k ga ca go co usa uso fa fo) {i j : Nat} (hi : i < k) (hj : j < k) (hr : RowsO w' Ha 26 3 (.slice (some ⟨ga, 0, none⟩) k ca) (swapL usa i j undef) (swapL (matF k k fa) i j [])) (hf : ∀ j, j ≠ ga → j < wr.heap.size → w'.heap[j]? = wr.heap[j]?) (hsz : wr.heap.size ≤ w'.heap.size) :
    GJ w' Bo Ha k ga ca go co (swapL usa i j undef) uso (fun r c => fa (sw i j r) c) fo := by
  have hga := (h.a.outer.lt (g := ga) rfl).1
  rw [matF_swap hi hj] at hr
  refine ⟨hr, ⟨h.o.len, h.o.outer.keep (fun q hq => ?_), fun j v hv' => (h.o.row j v hv').keep (fun q hq => ?_), h.o.apart⟩, h.ol, h.or, Nat.le_trans h.hs hsz⟩
  · simp [Value.ownBlock] at hq
    subst hq
    exact hf _ (by have := h.ol; omega) (by have := h.ol; have := h.hs; omega)
  · exact hf _ (by have := h.or j v q hv' hq; omega) (by have := h.or j v q hv' hq; have := h.hs; omega)
theorem GJ.swapO {wr w' : World} {Bo Ha k ga ca go co : Nat} {usa uso : List Value} {fa fo : Nat → Nat → Nat} (h : GJ wr Bo Ha k ga ca go co usa uso fa fo) {i j : Nat} (hi : i < k) (hj : j < k) (hr : RowsO w' Bo 26 3 (.slice (some ⟨go, 0, none⟩) k co) (swapL uso i j undef) (swapL (matF k k fo) i j [])) (hf : ∀ j, j ≠ go → j < wr.heap.size → w'.heap[j]? = wr.heap[j]?) (hsz : wr.heap.size ≤ w'.heap.size) :
    GJ w' Bo Ha k ga ca go co usa (swapL uso i j undef) fa (fun r c => fo (sw i j r) c) := by
  have hgo := h.ol
  have hlo : uso.length = k := by rw [h.o.len, matF_len]
  rw [matF_swap hi hj] at hr
  refine ⟨h.a.keep (fun q hq hqs => hf q (by omega) hqs), hr, h.ol, fun r v g hv hg => ?_, Nat.le_trans h.hs hsz⟩
  rw [swapL_at uso i j undef (by omega) (by omega)] at hv
  exact h.or _ v g hv hg
end Go.Proofs.Ytmphbajnadbggab
/- The document's own Invert (ossuaryref1): matrices that have none by their form. -/
namespace Go.Proofs.Ytmphbajnadbggab
open Go.RowKit
set_option linter.unusedVariables false
set_option linter.unusedSimpArgs false
end Go.Proofs.Ytmphbajnadbggab
/- The document's own Invert (ossuaryref1): Gauss and Jordan. -/
namespace Go.Proofs.Ytmphbajnadbggab
open Go.RowKit
set_option linter.unusedVariables false
set_option linter.unusedSimpArgs false
attribute [local go_sem ↓] Go.wp_at_zero Go.wp_at_succ
theorem zeroM_matF (k : Nat) : zeroM k k = matF k k (fun _ _ => 0) := (matF_zero k k).symm
theorem stuck_at {M : List (List Int)} {a o : Nat → Nat → Nat} {n c : Nat} (hM : SqMay M) (hL : M.length = n) (h : Two n (entry M) a o ∧ UnitTo n a c ∧ BytK n a ∧ BytK n o) (hc : c < n) (h0 : ∀ r, c ≤ r → r < n → a r c = 0) : invR M ([], 401) := by
  subst hL
  exact .inr (.inr ⟨hM, inv_of_stuck hM h.1 h.2.1 hc h0 h.2.2.1, rfl⟩)
theorem done_at {M : List (List Int)} {a o : Nat → Nat → Nat} {n : Nat} (hM : SqMay M) (hL : M.length = n) (h : Two n (entry M) a o ∧ UnitTo n a n ∧ BytK n a ∧ BytK n o) : invR M (matF n n o, 0) := by
  subst hL
  exact .inr (.inl ⟨hM, _, inv_of_done hM h.1 h.2.1 h.2.2.2, rfl⟩)
theorem sc_row (c x : Nat) (f : Nat → Nat → Nat) : (fun r s => if r = c then Gf.mul (f c s) x else f r s) = sc c x f := by
  funext r s
  unfold sc
  by_cases h : r = c
  · subst h; simp
  · simp [h]
theorem ad_row (i c x : Nat) (f : Nat → Nat → Nat) : (fun r s => if r = i then f i s ^^^ Gf.mul (f c s) x else f r s) = ad i c x f := by
  funext r s
  unfold ad
  by_cases h : r = i
  · subst h; simp
  · simp [h]
/-- what Invert leaves -/
def invPost (M : List (List Int)) (w : World) (e : Ending) (w' : World) : Prop := ∃ u r, invR M r ∧ e = .returned (.tuple #[.agg #[u], .int .i64 r.2]) ∧ OwnM w' w.heap.size 26 3 u r.1 ∧ Below w.heap.size w w'
theorem GJ.drew {wr : World} {Bo Ha k ga ca go co : Nat} {usa uso : List Value} {fa fo : Nat → Nat → Nat} (h : GJ wr Bo Ha k ga ca go co usa uso fa fo) {w' : World} (hb : Below wr.heap.size wr w') : GJ w' Bo Ha k ga ca go co usa uso fa fo :=
  ⟨h.a.below hb, h.o.below hb, h.ol, h.or, Nat.le_trans h.hs hb.size⟩
theorem own_block {w : World} {B E g n cap : Nat} {xs : List Value} (h : OwnL w B E (.slice (some ⟨g, 0, none⟩) n cap) xs) : B ≤ g ∧ ∃ cur, w.heap[g]? = some (.cells cur E (0, 0)) := by
  rcases h.2 with ⟨e, _⟩ | ⟨g', cap1, cur, e, hb, hh, _⟩
  · simp at e
  · simp only [Value.slice.injEq, Option.some.injEq, Addr.mk.injEq, and_true, true_and] at e
    obtain ⟨rfl, _, _⟩ := e
    exact ⟨hb, cur, hh⟩
end Go.Proofs.Ytmphbajnadbggab
/- Inverses: of an inverse, of a product, of a diagonal; matrices that have none. -/
namespace Go.Proofs.Ytmphbajnadbggab
open Go.RowKit
set_option linter.unusedVariables false
set_option linter.unusedSimpArgs false
/-- a matrix of k rows and k columns -/
def Sq (k : Nat) (M : List (List Int)) : Prop := SqMay M ∧ M.length = k
theorem Sq.form {k : Nat} {M : List (List Int)} (h : Sq k M) : M = matF k k (entry M) := by
  have := h.1.form
  rwa [h.2] at this
theorem Sq.byt {k : Nat} {M : List (List Int)} (h : Sq k M) : BytK k (entry M) := by
  have := h.1.byt
  rwa [h.2] at this
theorem Sq.pos {k : Nat} {M : List (List Int)} (h : Sq k M) : 1 ≤ k ∧ k ≤ 12 := ⟨by rw [← h.2]; exact h.1.1.1, by rw [← h.2]; exact h.1.1.2.1⟩
theorem Sq.head {k : Nat} {M : List (List Int)} (h : Sq k M) : (M.getD 0 []).length = k := by rw [← h.1.2, h.2]
theorem sq_mul {k : Nat} {A B : List (List Int)} (hA : Sq k A) (hB : Sq k B) : Sq k (mulM A B) :=
  ⟨⟨mulM_may hA.1.1 hB.1.1, by rw [mulM_len, mulM_head hA.1.1.1, hA.2, hB.head]⟩, by rw [mulM_len, hA.2]⟩
theorem sq_may {k : Nat} {A B : List (List Int)} (hA : Sq k A) (hB : Sq k B) : MulMay A B := ⟨hA.1.1, hB.1.1, by rw [hA.head, hB.2]⟩
theorem sq_assoc {k : Nat} {A B C : List (List Int)} (hA : Sq k A) (hB : Sq k B) (hC : Sq k C) : mulM (mulM A B) C = mulM A (mulM B C) :=
  mulM_assoc hA.1.1.1 hB.1.1.1 (by rw [hA.head, hB.2]) (by rw [hB.head, hC.2])
theorem id_sq {k : Nat} {B : List (List Int)} (hB : Sq k B) : mulM (idM k) B = B := by
  have := idM_mul hB.1.1
  rwa [hB.2] at this
theorem InvOf.sq {k : Nat} {M N : List (List Int)} (hM : Sq k M) (h : InvOf M N) : Sq k N := ⟨⟨h.1, by rw [h.2.1, h.2.2.1]⟩, by rw [h.2.1, hM.2]⟩
theorem InvOf.left {k : Nat} {M N : List (List Int)} (hM : Sq k M) (h : InvOf M N) : mulM N M = idM k := by
  have := h.2.2.2.1
  rwa [hM.2] at this
theorem InvOf.right {k : Nat} {M N : List (List Int)} (hM : Sq k M) (h : InvOf M N) : mulM M N = idM k := by
  have := h.2.2.2.2
  rwa [hM.2] at this
theorem InvOf.mk' {k : Nat} {M N : List (List Int)} (hM : Sq k M) (hN : Sq k N) (h1 : mulM N M = idM k) (h2 : mulM M N = idM k) : InvOf M N :=
  ⟨hN.1.1, by rw [hN.2, hM.2], by rw [hN.head, hM.2], by rw [hM.2]; exact h1, by rw [hM.2]; exact h2⟩
/-- the inverse's own is the matrix -/
theorem InvOf.back {k : Nat} {M N : List (List Int)} (hM : Sq k M) (h : InvOf M N) : InvOf N M := InvOf.mk' (h.sq hM) hM (h.right hM) (h.left hM)
/-- the inverse of a product: the other way round -/
theorem InvOf.prod {k : Nat} {A B X Y : List (List Int)} (hA : Sq k A) (hB : Sq k B) (hX : InvOf A X) (hY : InvOf B Y) : InvOf (mulM A B) (mulM Y X) := by
  have sX := hX.sq hA
  have sY := hY.sq hB
  refine InvOf.mk' (sq_mul hA hB) (sq_mul sY sX) ?_ ?_
  · rw [sq_assoc sY sX (sq_mul hA hB), ← sq_assoc sX hA hB, hX.left hA, id_sq hB, hY.left hB]
  · rw [sq_assoc hA hB (sq_mul sY sX), ← sq_assoc hB sY sX, hY.right hB, id_sq sX, hX.right hA]
theorem inv_at {k : Nat} {M N : List (List Int)} (hM : Sq k M) (h : InvOf M N) {r c : Nat} (hr : r < k) (hc : c < k) : dot M N r c k = idx r c := by
  have sN := h.sq hM
  have e := congrArg (fun M => entry M r c) (h.right hM)
  rw [entry_mulM (by rw [hM.2]; exact hr) (by rw [sN.head]; exact hc), idM_idx, entry_matF hr hc, sN.2] at e
  exact e
/-- two equal rows: there is none -/
theorem no_inv_rows {k : Nat} {M : List (List Int)} (hM : Sq k M) {i j : Nat} (hi : i < k) (hj : j < k) (hij : i ≠ j) (h : M.getD i [] = M.getD j []) : ¬ ∃ N, InvOf M N := by
  rintro ⟨N, hN⟩
  have e1 := inv_at hM hN hi hi
  have e2 := inv_at hM hN hj hi
  rw [dot_row (A' := M) (r' := j) h] at e1
  rw [e1] at e2
  simp [idx, Ne.symm hij] at e2
/-- a row of noughts: there is none -/
theorem no_inv_zero {k : Nat} {M : List (List Int)} (hM : Sq k M) {i : Nat} (hi : i < k) (h : ∀ c, c < k → entry M i c = 0) : ¬ ∃ N, InvOf M N := by
  rintro ⟨N, hN⟩
  have e1 := inv_at hM hN hi hi
  rw [dot_xsum, xsum_congr (g := fun _ => 0) (fun t ht => by rw [h t ht, Gf.zero_mul]), xsum_zero] at e1
  simp [idx] at e1
/-- a diagonal -/
def diagM (k : Nat) (d : Nat → Nat) : List (List Int) := matF k k (fun r c => if r = c then d r else 0)
theorem diag_sq {k : Nat} {d : Nat → Nat} (h1 : 1 ≤ k) (h2 : k ≤ 12) (hd : ∀ r, r < k → d r < 256) : Sq k (diagM k d) :=
  ⟨sq_matF h1 h2 (fun r c hr hc => by show (if r = c then d r else 0) < 256; split; exact hd r hr; decide), matF_len _ _ _⟩
theorem diag_none {k : Nat} {d : Nat → Nat} (h1 : 1 ≤ k) (h2 : k ≤ 12) (hd : ∀ r, r < k → d r < 256) {i : Nat} (hi : i < k) (h0 : d i = 0) : ¬ ∃ N, InvOf (diagM k d) N :=
  no_inv_zero (diag_sq h1 h2 hd) hi (fun c hc => by rw [diagM, entry_matF hi hc]; split <;> first | exact h0 | rfl)
theorem diag_some {k : Nat} {d : Nat → Nat} (h1 : 1 ≤ k) (h2 : k ≤ 12) (hd : ∀ r, r < k → d r < 256) (h0 : ∀ r, r < k → d r ≠ 0) : ∃ N, InvOf (diagM k d) N := by
  have sN : Sq k (diagM k (fun r => Gf.inv (d r))) := diag_sq h1 h2 (fun r _ => Gf.inv_lt _)
  have key : ∀ (f g : Nat → Nat), (∀ r, r < k → Gf.mul (f r) (g r) = 1) → mulM (diagM k f) (diagM k g) = idM k := fun f g hfg => by
    unfold diagM
    rw [mulM_mm (by omega), idM_idx]
    refine matF_congr (fun r c hr hc => ?_)
    unfold mm
    rw [xsum_one (j := r) hr (fun t ht hne => by simp [Ne.symm hne, Gf.zero_mul])]
    by_cases h : r = c
    · subst h; simp [idx, hfg r hr]
    · simp [idx, h, Gf.mul_zero]
  exact ⟨_, InvOf.mk' (diag_sq h1 h2 hd) sN (key _ _ (fun r hr => Gf.inv_mul (hd r hr) (h0 r hr))) (key _ _ (fun r hr => Gf.mul_inv (hd r hr) (h0 r hr)))⟩
/-- the inverse of a diagonal has noughts beside it -/
theorem diag_off {k : Nat} {d : Nat → Nat} (h1 : 1 ≤ k) (h2 : k ≤ 12) (hd : ∀ r, r < k → d r < 256) (h0 : ∀ r, r < k → d r ≠ 0) {N : List (List Int)} (hN : InvOf (diagM k d) N) {i j : Nat} (hi : i < k) (hj : j < k) (hij : i ≠ j) : entry N i j = 0 := by
  have sD := diag_sq h1 h2 hd
  have sN := hN.sq sD
  have e := congrArg (fun M => entry M i j) (hN.left sD)
  rw [entry_mulM (by rw [sN.2]; exact hi) (by rw [sD.head]; exact hj), idM_idx, entry_matF hi hj, sD.2, dot_xsum, xsum_one (j := j) hj (fun t ht hne => by rw [diagM, entry_matF ht hj]; simp [hne, Gf.mul_zero])] at e
  rw [diagM, entry_matF hj hj] at e
  simp only [if_true, idx, if_neg hij] at e
  rcases (Gf.mul_eq_zero (sN.byt i j hi hj) (hd j hj)).1 e with h | h
  · exact h
  · exact absurd h (h0 j hj)
end Go.Proofs.Ytmphbajnadbggab
