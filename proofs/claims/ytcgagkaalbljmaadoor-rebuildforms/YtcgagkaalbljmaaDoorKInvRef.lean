/- Texts one behind the other: InvMath, InvRef1, InvRef2, InvRef3, InvRef4, InvLaws. -/
import Derived.Test.YtcgagkaalbljmaaDoorKMatRef
import Derived.Test.YtcgagkaalbljmaaDoorKCore
import Derived.Test.YtcgagkaalbljmaaDoorKRegs
import Derived.Laws.CopyOwn
/- Matrices over the field and their inverses: rows that change places, rows times a number, rows added: Gauss and Jordan. -/
namespace Go.Proofs.YtcgagkaalbljmaaDoor
open Go.RowKit
set_option linter.unusedVariables false
set_option linter.unusedSimpArgs false
def mm (k : Nat) (a b : Nat → Nat → Nat) (r c : Nat) : Nat := xsum (fun t => Gf.mul (a r t) (b t c)) k
def idx (r c : Nat) : Nat := if r = c then 1 else 0
def EqK (k : Nat) (a b : Nat → Nat → Nat) : Prop := ∀ r c, r < k → c < k → a r c = b r c
def BytK (k : Nat) (a : Nat → Nat → Nat) : Prop := ∀ r c, r < k → c < k → a r c < 256
theorem EqK.refl {k : Nat} (a : Nat → Nat → Nat) : EqK k a a := fun _ _ _ _ => rfl
theorem EqK.symm {k : Nat} {a b : Nat → Nat → Nat} (h : EqK k a b) : EqK k b a := fun r c hr hc => (h r c hr hc).symm
theorem EqK.trans {k : Nat} {a b c : Nat → Nat → Nat} (h : EqK k a b) (h' : EqK k b c) : EqK k a c := fun r s hr hs => (h r s hr hs).trans (h' r s hr hs)
theorem xsum_lt {f : Nat → Nat} : ∀ {n : Nat}, (∀ k, k < n → f k < 256) → xsum f n < 256
  | 0, _ => (by decide : (0 : Nat) < 256)
  | n + 1, h => Gf.xor_lt (xsum_lt (fun k hk => h k (by omega))) (h n (by omega))
theorem mm_byt (k : Nat) (a b : Nat → Nat → Nat) : BytK k (mm k a b) := fun r c _ _ => xsum_lt (fun _ _ => Gf.mul_lt _ _)
theorem idx_byt (k : Nat) : BytK k idx := fun r c _ _ => by unfold idx; split <;> decide
theorem mm_congr {k : Nat} {a a' b b' : Nat → Nat → Nat} (h : EqK k a a') (h' : EqK k b b') : EqK k (mm k a b) (mm k a' b') := fun r c hr hc =>
  xsum_congr (fun t ht => by rw [h r t hr ht, h' t c ht hc])
theorem mm_assoc (k : Nat) (a b c : Nat → Nat → Nat) : mm k (mm k a b) c = mm k a (mm k b c) := by
  funext r s
  unfold mm
  have h1 : ∀ t, Gf.mul (xsum (fun u => Gf.mul (a r u) (b u t)) k) (c t s) = xsum (fun u => Gf.mul (a r u) (Gf.mul (b u t) (c t s))) k := fun t => by
    rw [xsum_mul]
    exact xsum_congr (fun u _ => Gf.mul_assoc _ _ _)
  have h2 : ∀ u, Gf.mul (a r u) (xsum (fun t => Gf.mul (b u t) (c t s)) k) = xsum (fun t => Gf.mul (a r u) (Gf.mul (b u t) (c t s))) k := fun u => mul_xsum _ _ _
  rw [xsum_congr (fun t _ => h1 t), xsum_swap, xsum_congr (fun u _ => (h2 u).symm)]
theorem id_mm {k : Nat} {b : Nat → Nat → Nat} (h : BytK k b) : EqK k (mm k idx b) b := fun r c hr hc => by
  unfold mm
  rw [xsum_one (j := r) hr (fun t ht hne => by simp [idx, Ne.symm hne, Gf.zero_mul])]
  simp [idx, Gf.one_mul (h r c hr hc)]
theorem mm_id {k : Nat} {b : Nat → Nat → Nat} (h : BytK k b) : EqK k (mm k b idx) b := fun r c hr hc => by
  unfold mm
  rw [xsum_one (j := c) hc (fun t ht hne => by simp [idx, hne, Gf.mul_zero])]
  simp [idx, Gf.mul_one (h r c hr hc)]
/-- o leads from M to a, and back -/
def Two (k : Nat) (M a o : Nat → Nat → Nat) : Prop := ∃ F, BytK k F ∧ EqK k (mm k o F) idx ∧ EqK k (mm k F o) idx ∧ EqK k a (mm k o M)
theorem Two.start {k : Nat} {M : Nat → Nat → Nat} (h : BytK k M) : Two k M M idx :=
  ⟨idx, idx_byt k, id_mm (idx_byt k), id_mm (idx_byt k), (id_mm h).symm⟩
theorem Two.eq {k : Nat} {M a o a' o' : Nat → Nat → Nat} (h : Two k M a o) (ha : EqK k a a') (ho : EqK k o o') : Two k M a' o' := by
  obtain ⟨F, h1, h2, h3, h4⟩ := h
  exact ⟨F, h1, (mm_congr ho.symm (EqK.refl F)).trans h2, (mm_congr (EqK.refl F) ho.symm).trans h3, (ha.symm.trans h4).trans (mm_congr ho (EqK.refl M))⟩
/-- one step, which leads back -/
theorem Two.step {k : Nat} {M a o T T' : Nat → Nat → Nat} (h : Two k M a o) (hT : EqK k (mm k T T') idx) (hT' : EqK k (mm k T' T) idx) (ho : BytK k o) (bT : BytK k T) (bT' : BytK k T') : Two k M (mm k T a) (mm k T o) := by
  obtain ⟨F, h1, h2, h3, h4⟩ := h
  refine ⟨mm k F T', mm_byt _ _ _, ?_, ?_, ?_⟩
  · rw [mm_assoc]
    have e1 : EqK k (mm k o (mm k F T')) T' := by
      rw [← mm_assoc]
      exact (mm_congr h2 (EqK.refl T')).trans (id_mm bT')
    exact (mm_congr (EqK.refl T) e1).trans hT
  · rw [mm_assoc]
    have e1 : EqK k (mm k T' (mm k T o)) o := by
      rw [← mm_assoc]
      exact (mm_congr hT' (EqK.refl o)).trans (id_mm ho)
    exact (mm_congr (EqK.refl F) e1).trans h3
  · rw [mm_assoc]
    exact mm_congr (EqK.refl T) h4
/-- two rows change places -/
def sw (i j r : Nat) : Nat := if r = i then j else if r = j then i else r
theorem sw_lt {k i j r : Nat} (hi : i < k) (hj : j < k) (hr : r < k) : sw i j r < k := by unfold sw; split <;> (try split) <;> assumption
theorem sw_sw (i j r : Nat) : sw i j (sw i j r) = r := by
  unfold sw
  by_cases h1 : r = i
  · subst h1
    by_cases h2 : j = r
    · subst h2; simp
    · simp [h2]
  · by_cases h2 : r = j
    · subst h2; simp [h1]
    · simp [h1, h2]
def swT (i j r s : Nat) : Nat := if s = sw i j r then 1 else 0
theorem swT_byt (k i j : Nat) : BytK k (swT i j) := fun r c _ _ => by unfold swT; split <;> decide
theorem swT_mm {k i j : Nat} (hi : i < k) (hj : j < k) {a : Nat → Nat → Nat} (ha : BytK k a) : EqK k (mm k (swT i j) a) (fun r c => a (sw i j r) c) := fun r c hr hc => by
  unfold mm
  have hs := sw_lt hi hj hr
  rw [xsum_one (j := sw i j r) hs (fun t ht hne => by simp [swT, hne, Gf.zero_mul])]
  simp [swT, Gf.one_mul (ha _ c hs hc)]
theorem swT_two {k i j : Nat} (hi : i < k) (hj : j < k) : EqK k (mm k (swT i j) (swT i j)) idx := (swT_mm hi hj (swT_byt k i j)).trans (fun r c hr hc => by
  simp only [swT, sw_sw, idx]
  by_cases h : r = c
  · simp [h]
  · simp [h, Ne.symm h])
theorem Two.swap {k i j : Nat} {M a o : Nat → Nat → Nat} (h : Two k M a o) (hi : i < k) (hj : j < k) (ba : BytK k a) (bo : BytK k o) : Two k M (fun r c => a (sw i j r) c) (fun r c => o (sw i j r) c) :=
  (h.step (swT_two hi hj) (swT_two hi hj) bo (swT_byt k i j) (swT_byt k i j)).eq (swT_mm hi hj ba) (swT_mm hi hj bo)
/-- a row times a number -/
def scT (i x r s : Nat) : Nat := if s = r then (if r = i then x else 1) else 0
def sc (i x : Nat) (a : Nat → Nat → Nat) (r c : Nat) : Nat := if r = i then Gf.mul (a r c) x else a r c
theorem scT_byt (k i : Nat) {x : Nat} (hx : x < 256) : BytK k (scT i x) := fun r c _ _ => by unfold scT; split <;> (try split) <;> first | exact hx | decide
theorem scT_mm {k i x : Nat} {a : Nat → Nat → Nat} (ha : BytK k a) : EqK k (mm k (scT i x) a) (sc i x a) := fun r c hr hc => by
  unfold mm
  rw [xsum_one (j := r) hr (fun t ht hne => by simp [scT, hne, Gf.zero_mul])]
  by_cases h : r = i
  · simp [scT, sc, h, Gf.mul_comm]
  · simp [scT, sc, h, Gf.one_mul (ha r c hr hc)]
theorem scT_two {k i x y : Nat} (hx : x < 256) (hy : y < 256) (h : Gf.mul x y = 1) : EqK k (mm k (scT i x) (scT i y)) idx := (scT_mm (scT_byt k i hy)).trans (fun r c hr hc => by
  by_cases hr' : r = i
  · subst hr'
    by_cases hc' : c = r
    · subst hc'
      simp [sc, scT, idx, Gf.mul_comm y x, h]
    · simp [sc, scT, idx, hc', Ne.symm hc', Gf.zero_mul]
  · by_cases hc' : c = r
    · subst hc'
      simp [sc, scT, idx, hr']
    · simp [sc, scT, idx, hr', hc', Ne.symm hc'])
theorem Two.scale {k i x : Nat} {M a o : Nat → Nat → Nat} (h : Two k M a o) (hx : x < 256) (hx0 : x ≠ 0) (ba : BytK k a) (bo : BytK k o) : Two k M (sc i x a) (sc i x o) :=
  (h.step (scT_two hx (Gf.inv_lt x) (Gf.mul_inv hx hx0)) (scT_two (Gf.inv_lt x) hx (Gf.inv_mul hx hx0)) bo (scT_byt k i hx) (scT_byt k i (Gf.inv_lt x))).eq (scT_mm ba) (scT_mm bo)
/-- a row, and another one times a number -/
def adT (i j x r s : Nat) : Nat := idx r s ^^^ (if r = i ∧ s = j then x else 0)
def ad (i j x : Nat) (a : Nat → Nat → Nat) (r c : Nat) : Nat := if r = i then a r c ^^^ Gf.mul (a j c) x else a r c
theorem adT_byt (k i j : Nat) {x : Nat} (hx : x < 256) : BytK k (adT i j x) := fun r c hr hc => Gf.xor_lt (idx_byt k r c hr hc) (by split <;> first | exact hx | decide)
theorem adT_mm {k i j x : Nat} (hj : j < k) {a : Nat → Nat → Nat} (ha : BytK k a) : EqK k (mm k (adT i j x) a) (ad i j x a) := fun r c hr hc => by
  have e : mm k (adT i j x) a r c = mm k idx a r c ^^^ xsum (fun t => Gf.mul (if r = i ∧ t = j then x else 0) (a t c)) k := by
    unfold mm
    rw [← xsum_xor]
    exact xsum_congr (fun t _ => Gf.mul_xor_left _ _ _)
  rw [e, id_mm ha r c hr hc]
  by_cases h : r = i
  · rw [xsum_one (j := j) hj (fun t ht hne => by simp [hne, Gf.zero_mul])]
    simp [ad, h, Gf.mul_comm]
  · rw [xsum_congr (g := fun _ => 0) (fun t _ => by simp [h, Gf.zero_mul]), xsum_zero]
    simp [ad, h]
theorem adT_two {k i j x : Nat} (hij : i ≠ j) (hj : j < k) (hx : x < 256) : EqK k (mm k (adT i j x) (adT i j x)) idx := (adT_mm hj (adT_byt k i j hx)).trans (fun r c hr hc => by
  by_cases h : r = i
  · subst h
    have e1 : adT r j x j c = idx j c := by simp [adT, Ne.symm hij]
    simp only [ad, if_true, e1]
    by_cases hc' : c = j
    · subst hc'
      simp [adT, idx, hij, Gf.one_mul hx]
    · simp [adT, idx, hc', Ne.symm hc', Gf.zero_mul]
  · simp [ad, h, adT])
theorem Two.add {k i j x : Nat} {M a o : Nat → Nat → Nat} (h : Two k M a o) (hij : i ≠ j) (hj : j < k) (hx : x < 256) (ba : BytK k a) (bo : BytK k o) : Two k M (ad i j x a) (ad i j x o) :=
  (h.step (adT_two hij hj hx) (adT_two hij hj hx) bo (adT_byt k i j hx) (adT_byt k i j hx)).eq (adT_mm hj ba) (adT_mm hj bo)
/-- the first c columns are those of the identity -/
def UnitTo (k : Nat) (a : Nat → Nat → Nat) (c : Nat) : Prop := ∀ r j, r < k → j < c → a r j = idx r j
theorem Two.done {k : Nat} {M a o : Nat → Nat → Nat} (h : Two k M a o) (hu : UnitTo k a k) (hM : BytK k M) (ho : BytK k o) : EqK k (mm k o M) idx ∧ EqK k (mm k M o) idx := by
  obtain ⟨F, h1, h2, h3, h4⟩ := h
  have e1 : EqK k (mm k o M) idx := h4.symm.trans (fun r c hr hc => hu r c hr hc)
  refine ⟨e1, ?_⟩
  have e2 : EqK k F M := by
    have := mm_congr (EqK.refl F) e1 (k := k)
    rw [← mm_assoc] at this
    exact ((mm_congr h3 (EqK.refl M)).symm.trans this |>.trans (mm_id h1)).symm.trans (id_mm hM)
  exact (mm_congr e2.symm (EqK.refl o)).trans h3
theorem xsum_two {f : Nat → Nat} {i j n : Nat} (hi : i < n) (hj : j < n) (hij : i ≠ j) (h : ∀ t, t < n → t ≠ i → t ≠ j → f t = 0) : xsum f n = f i ^^^ f j := by
  have e : xsum f n = xsum (fun t => (if t = i then f i else 0) ^^^ (if t = j then f j else 0)) n := xsum_congr (fun t ht => by
    by_cases h1 : t = i
    · subst h1; simp [hij]
    · by_cases h2 : t = j
      · subst h2; simp [h1]
      · simp [h1, h2, h t ht h1 h2])
  rw [e, xsum_xor, xsum_one (j := i) hi (fun t _ hne => by simp [hne]), xsum_one (j := j) hj (fun t _ hne => by simp [hne])]
  simp
/-- no number to go on with: nothing leads back -/
theorem Two.stuck {k c : Nat} {M a o : Nat → Nat → Nat} (h : Two k M a o) (hu : UnitTo k a c) (hc : c < k) (h0 : ∀ r, c ≤ r → r < k → a r c = 0) (ba : BytK k a) (hM : BytK k M) (N : Nat → Nat → Nat) : ¬ EqK k (mm k N M) idx := by
  intro hN
  obtain ⟨F, h1, h2, h3, h4⟩ := h
  let V : Nat → Nat → Nat := fun t _ => if t < c then a t c else if t = c then 1 else 0
  have bV : BytK k V := fun r s hr hs => by
    show (if r < c then a r c else if r = c then 1 else 0) < 256
    split
    · exact ba r c hr hc
    · split <;> decide
  have e1 : EqK k (mm k a V) (fun _ _ => 0) := fun r s hr hs => by
    unfold mm
    by_cases hrc : r < c
    · rw [xsum_two (i := r) (j := c) hr hc (by omega) (fun t ht h5 h6 => by
        by_cases htc : t < c
        · rw [hu r t hr htc]; simp [idx, Ne.symm h5, Gf.zero_mul]
        · simp [V, htc, h6, Gf.mul_zero])]
      rw [hu r r hr hrc]
      simp [V, hrc, idx, Gf.one_mul (ba r c hr hc), Gf.mul_one (ba r c hr hc)]
    · rw [xsum_congr (g := fun _ => 0) (fun t ht => by
        by_cases htc : t < c
        · rw [hu r t hr htc]; simp [idx, show r ≠ t by omega, Gf.zero_mul]
        · by_cases h6 : t = c
          · subst h6; rw [h0 r (by omega) hr]; simp [Gf.zero_mul]
          · simp [V, htc, h6, Gf.mul_zero]), xsum_zero]
  have z : ∀ A : Nat → Nat → Nat, EqK k (mm k A (fun _ _ => 0)) (fun _ _ => 0) := fun A r s _ _ => by
    unfold mm
    rw [xsum_congr (g := fun _ => 0) (fun t _ => Gf.mul_zero _), xsum_zero]
  have e2 : EqK k (mm k M V) (fun _ _ => 0) := by
    have e3 : EqK k (mm k F (mm k a V)) (mm k M V) := by
      have e4 : EqK k (mm k F (mm k a V)) (mm k F (mm k (mm k o M) V)) := mm_congr (EqK.refl F) (mm_congr h4 (EqK.refl V))
      rw [← mm_assoc k F (mm k o M) V, ← mm_assoc k F o M] at e4
      exact e4.trans (mm_congr ((mm_congr h3 (EqK.refl M)).trans (id_mm hM)) (EqK.refl V))
    exact e3.symm.trans ((mm_congr (EqK.refl F) e1).trans (z F))
  have e5 : EqK k V (fun _ _ => 0) := by
    have e6 : EqK k (mm k (mm k N M) V) V := (mm_congr hN (EqK.refl V)).trans (id_mm bV)
    rw [mm_assoc] at e6
    exact e6.symm.trans ((mm_congr (EqK.refl N) e2).trans (z N))
  have := e5 c c hc hc
  simp [V] at this
theorem UnitTo.swap {k c j : Nat} {a : Nat → Nat → Nat} (h : UnitTo k a c) (hc : c < k) (hj : c ≤ j) (hjk : j < k) : UnitTo k (fun r s => a (sw c j r) s) c := fun r s hr hs => by
  show a (sw c j r) s = idx r s
  rw [h _ s (sw_lt hc hjk hr) hs]
  unfold sw idx
  split
  · next e => subst e; simp [show j ≠ s by omega, show r ≠ s by omega]
  · split
    · next e => subst e; simp [show c ≠ s by omega, show r ≠ s by omega]
    · rfl
theorem UnitTo.scale {k c x : Nat} {a : Nat → Nat → Nat} (h : UnitTo k a c) (hc : c < k) : UnitTo k (sc c x a) c := fun r s hr hs => by
  unfold sc
  split
  · next e =>
    subst e
    rw [h r s hr hs]
    simp [idx, show r ≠ s by omega, Gf.zero_mul]
  · exact h r s hr hs
theorem UnitTo.add {k c i x : Nat} {a : Nat → Nat → Nat} (h : UnitTo k a c) (hc : c < k) : UnitTo k (ad i c x a) c := fun r s hr hs => by
  unfold ad
  split
  · rw [h c s hc hs, h r s hr hs]
    simp [idx, show c ≠ s by omega, Gf.zero_mul]
  · exact h r s hr hs
theorem sc_byt {k i x : Nat} {a : Nat → Nat → Nat} (h : BytK k a) : BytK k (sc i x a) := fun r c hr hc => by
  unfold sc; split
  · exact Gf.mul_lt _ _
  · exact h r c hr hc
theorem ad_byt {k i j x : Nat} {a : Nat → Nat → Nat} (h : BytK k a) : BytK k (ad i j x a) := fun r c hr hc => by
  unfold ad; split
  · exact Gf.xor_lt (h r c hr hc) (Gf.mul_lt _ _)
  · exact h r c hr hc
theorem sw_byt {k i j : Nat} {a : Nat → Nat → Nat} (h : BytK k a) (hi : i < k) (hj : j < k) : BytK k (fun r c => a (sw i j r) c) := fun r c hr hc => h _ c (sw_lt hi hj hr) hc
/-- column c, with rows up to i done -/
def ColTo (k : Nat) (a : Nat → Nat → Nat) (c i : Nat) : Prop := a c c = 1 ∧ ∀ r, r < i → r < k → r ≠ c → a r c = 0
theorem ColTo.scaled {k c : Nat} {a : Nat → Nat → Nat} (ba : BytK k a) (hc : c < k) (h0 : a c c ≠ 0) : ColTo k (sc c (Gf.inv (a c c)) a) c 0 :=
  ⟨by simp [sc, Gf.mul_inv (ba c c hc hc) h0], fun r hr => by omega⟩
theorem ColTo.added {k c i : Nat} {a : Nat → Nat → Nat} (h : ColTo k a c i) (ba : BytK k a) (hi : i < k) (hic : i ≠ c) (hc : c < k) : ColTo k (ad i c (a i c) a) c (i + 1) := by
  refine ⟨by simp [ad, Ne.symm hic, h.1], fun r hr hrk hrc => ?_⟩
  by_cases hri : r = i
  · subst hri
    simp [ad, h.1, Gf.one_mul (ba r c hrk hc)]
  · simp [ad, hri, h.2 r (by omega) hrk hrc]
theorem ColTo.same {k c i : Nat} {a : Nat → Nat → Nat} (h : ColTo k a c i) (hic : i = c) : ColTo k a c (i + 1) :=
  ⟨h.1, fun r hr hrk hrc => h.2 r (by omega) hrk hrc⟩
theorem UnitTo.next {k c : Nat} {a : Nat → Nat → Nat} (h : UnitTo k a c) (hcol : ColTo k a c k) : UnitTo k a (c + 1) := fun r s hr hs => by
  by_cases hsc : s = c
  · subst hsc
    unfold idx
    split
    · next e => subst e; exact hcol.1
    · next e => exact hcol.2 r hr hr e
  · exact h r s hr (by omega)
/-- a matrix that may be, with as many rows as columns -/
def SqMay (M : List (List Int)) : Prop := MMay M ∧ M.length = (M.getD 0 []).length
/-- N leads from M to the identity, from either side -/
def InvOf (M N : List (List Int)) : Prop := MMay N ∧ N.length = M.length ∧ (N.getD 0 []).length = M.length ∧ mulM N M = idM M.length ∧ mulM M N = idM M.length
/-- what Invert answers: the inverse, the error's number -/
def invR (M : List (List Int)) (r : List (List Int) × Int) : Prop := (¬ SqMay M ∧ r = ([], 400)) ∨ (SqMay M ∧ ∃ N, InvOf M N ∧ r = (N, 0)) ∨ (SqMay M ∧ (¬ ∃ N, InvOf M N) ∧ r = ([], 401))
theorem mulM_mm {k : Nat} (h : 0 < k) (f g : Nat → Nat → Nat) : mulM (matF k k f) (matF k k g) = matF k k (mm k f g) := by
  unfold mulM
  rw [matF_len, matF_head h, matF_len]
  apply matF_congr
  intro r c hr hc
  rw [dot_xsum]
  exact xsum_congr (fun t ht => by rw [entry_matF hr ht, entry_matF ht hc])
theorem idM_idx (k : Nat) : idM k = matF k k idx := by
  rw [idM_matF]; rfl
theorem matF_eqK {k : Nat} {f g : Nat → Nat → Nat} (h : matF k k f = matF k k g) : EqK k f g := fun r c hr hc => by
  have := congrArg (fun M => entry M r c) h
  simpa only [entry_matF hr hc] using this
theorem SqMay.form {M : List (List Int)} (h : SqMay M) : M = matF M.length M.length (entry M) := by
  have := mmay_matF h.1
  rwa [← h.2] at this
theorem SqMay.byt {M : List (List Int)} (h : SqMay M) : BytK M.length (entry M) := fun r c hr hc => (mmay_at h.1 hr (by rw [← h.2]; exact hc)).2
theorem sq_matF {k : Nat} {f : Nat → Nat → Nat} (h1 : 1 ≤ k) (h2 : k ≤ 12) (hb : BytK k f) : SqMay (matF k k f) := ⟨matF_may h1 h2 h1 h2 hb, by rw [matF_len, matF_head h1]⟩
/-- the way has led to the identity -/
theorem inv_of_done {M : List (List Int)} {a o : Nat → Nat → Nat} (hM : SqMay M) (h : Two M.length (entry M) a o) (hu : UnitTo M.length a M.length) (ho : BytK M.length o) : InvOf M (matF M.length M.length o) := by
  obtain ⟨e1, e2⟩ := h.done hu hM.byt ho
  have h1 := hM.1.1
  refine ⟨(sq_matF h1 hM.1.2.1 ho).1, matF_len _ _ _, matF_head h1, ?_, ?_⟩
  · conv => lhs; rw [hM.form]
    rw [matF_len, mulM_mm h1, idM_idx]
    exact matF_congr e1
  · conv => lhs; rw [hM.form]
    rw [matF_len, mulM_mm h1, idM_idx]
    exact matF_congr e2
theorem inv_of_stuck {M : List (List Int)} {a o : Nat → Nat → Nat} {c : Nat} (hM : SqMay M) (h : Two M.length (entry M) a o) (hu : UnitTo M.length a c) (hc : c < M.length) (h0 : ∀ r, c ≤ r → r < M.length → a r c = 0) (ba : BytK M.length a) : ¬ ∃ N, InvOf M N := by
  rintro ⟨N, hN, hl, hl', e1, _⟩
  have hsq : SqMay N := ⟨hN, by rw [hl, hl']⟩
  have e2 : mulM N M = matF M.length M.length (mm M.length (entry N) (entry M)) := by
    conv => lhs; rw [hsq.form, hM.form]
    rw [hl, mulM_mm hM.1.1]
  rw [e2, idM_idx] at e1
  exact h.stuck hu hc h0 ba hM.byt (entry N) (matF_eqK e1)
theorem InvOf.one {M N N' : List (List Int)} (hM : SqMay M) (h : InvOf M N) (h' : InvOf M N') : N = N' := by
  have sN : SqMay N := ⟨h.1, by rw [h.2.1, h.2.2.1]⟩
  have sN' : SqMay N' := ⟨h'.1, by rw [h'.2.1, h'.2.2.1]⟩
  have e1 : mulM (mulM N M) N' = mulM N (mulM M N') := mulM_assoc h.1.1 hM.1.1 h.2.2.1 (by rw [← hM.2, h'.2.1])
  rw [h.2.2.2.1, h'.2.2.2.2] at e1
  rw [← h'.2.1] at e1
  rw [idM_mul h'.1] at e1
  rw [e1, h'.2.1, ← h.2.1]
  have e2 : mulM N (idM N.length) = N := by
    conv => lhs; rw [sN.form]
    rw [matF_len, idM_idx, mulM_mm h.1.1]
    conv => rhs; rw [sN.form]
    exact matF_congr (mm_id sN.byt)
  exact e2.symm
theorem invR_one {M : List (List Int)} {r r' : List (List Int) × Int} (h : invR M r) (h' : invR M r') : r = r' := by
  rcases h with ⟨h1, rfl⟩ | ⟨h1, N, h2, rfl⟩ | ⟨h1, h2, rfl⟩ <;> rcases h' with ⟨h3, rfl⟩ | ⟨h3, N', h4, rfl⟩ | ⟨h3, h4, rfl⟩
  · rfl
  · exact absurd h3 h1
  · exact absurd h3 h1
  · exact absurd h1 h3
  · rw [InvOf.one h1 h2 h4]
  · exact absurd ⟨N, h2⟩ h4
  · exact absurd h1 h3
  · exact absurd ⟨N', h4⟩ h2
  · rfl
end Go.Proofs.YtcgagkaalbljmaaDoor
/- The document's own steps of Gauss and Jordan (ossuaryref1: times, less, swap), on rows of the call's own. -/
namespace Go.Proofs.YtcgagkaalbljmaaDoor
open Go.RowKit
set_option linter.unusedVariables false
set_option linter.unusedSimpArgs false
attribute [local go_sem ↓] Go.wp_at_zero Go.wp_at_succ
/-- a row by its numbers -/
def rowF (k : Nat) (g : Nat → Nat) : List Int := (List.range k).map fun c => ((g c : Nat) : Int)
theorem rowF_len (k : Nat) (g : Nat → Nat) : (rowF k g).length = k := by simp [rowF]
theorem rowF_at {k : Nat} {g : Nat → Nat} {c : Nat} (h : c < k) : (rowF k g).getD c 0 = ((g c : Nat) : Int) := by simp [rowF, List.getD, h]
theorem rowF_congr {k : Nat} {g g' : Nat → Nat} (h : ∀ c, c < k → g c = g' c) : rowF k g = rowF k g' := by
  unfold rowF
  exact List.map_congr_left (fun c hc => by rw [h c (by simpa using hc)])
theorem rowF_set {k : Nat} {g : Nat → Nat} {i x : Nat} (hi : i < k) : (rowF k g).set i (x : Int) = rowF k (fun c => if c = i then x else g c) := by
  apply List.ext_getElem
  · simp [rowF]
  · intro c h1 h2
    simp [rowF] at h1 h2 ⊢
    rw [List.getElem_set]
    by_cases h : i = c
    · subst h; simp
    · simp [h, Ne.symm h]
theorem matF_rowF (k : Nat) (f : Nat → Nat → Nat) (r : Nat) (h : r < k) : (matF k k f).getD r [] = rowF k (f r) := matF_row k k f r h
theorem refmul_any' (a b : Nat) (w : World) (h : a < 256) : Calls Tryd.prog 44 #[.int .i64 a, .int .i64 b] w fun e w' => e = .returned (.int .i64 (Gf.mul a b : Nat)) ∧ w' = w := refmul_any a b w h
set_option maxRecDepth 100000 in
set_option maxHeartbeats 1000000 in
theorem times_own (B E g k cap x : Nat) (f : Nat → Nat) (w : World) (h : OwnL w B E (.slice (some ⟨g, 0, none⟩) k cap) ((rowF k f).map (Value.int .i64))) (hk : k ≤ 12) (hg : B ≤ g) (hf : ∀ c, c < k → f c < 256) :
    Calls Tryd.prog 52 #[.slice (some ⟨g, 0, none⟩) k cap, .int .i64 x] w fun e w' => e = .returned (.tuple #[]) ∧ OwnL w' B E (.slice (some ⟨g, 0, none⟩) k cap) ((rowF k (fun c => Gf.mul (f c) x)).map (Value.int .i64)) ∧ (∀ j, j ≠ g → j < w.heap.size → w'.heap[j]? = w.heap[j]?) ∧ Below B w w' := by
  have HH := hide h
  have HF := hide hf
  clear h hf
  go_enter Tryd.func52, Tryd.ntmps52
  go_wp2
  go_loopw [4] (fun iv wr => ∃ i : Nat, i ≤ k ∧ iv = .int .i64 i ∧ Hid (OwnL wr B E (.slice (some ⟨g, 0, none⟩) k cap) ((rowF k (fun c => if c < i then Gf.mul (f c) x else f c)).map (Value.int .i64))) ∧ Hid (∀ j, j ≠ g → j < w.heap.size → wr.heap[j]? = w.heap[j]?) ∧ Hid (Below B w wr)) (fun iv _ => k - (intOf iv).toNat)
  case atStart => exact ⟨0, by omega, rfl, hide (by simpa using unhide HH), hide (fun _ _ _ => rfl), hide (Below.refl _ _)⟩
  case round =>
    obtain ⟨i, hi, rfl, HO, HFR, HB⟩ := hrel
    by_cases hlt : i < k
    · have hlt' : (i : Int) < k := by omega
      have c1 := own_cell (unhide HO) i (by rw [rowF_len]; exact hlt)
      rw [rowF_at hlt, if_neg (Nat.lt_irrefl _)] at c1
      have f1 := own_free (unhide HO) i
      have hy := unhide HF i hlt
      obtain ⟨y, ey⟩ : ∃ y, y = f i := ⟨_, rfl⟩
      rw [← ey] at c1 hy
      have EY := hide ey
      clear ey
      go_wp2_with (go_at_call 44; refine (refmul_any y x _ hy).mono ?_; rintro e w' ⟨rfl, rfl⟩)
      go_roundw
      case rel =>
        have hst := own_put (unhide HO) i (.int .i64 ((Gf.mul y x : Nat) : Int))
        rw [← List.map_set, rowF_set hlt] at hst
        refine ⟨i + 1, by omega, by go_num, hide ?_, hide (fun j hj hjs => (Below.heap_setCell _ ⟨g, i, none⟩ _ j hj).trans (unhide HFR j hj hjs)), hide ((unhide HB).setCell hg _)⟩
        rw [rowF_congr (g' := fun c => if c < i + 1 then Gf.mul (f c) x else f c) (fun c hc => ?_)] at hst
        · exact hst
        · by_cases h1 : c = i
          · subst h1; simp [← unhide EY]
          · by_cases h2 : c < i
            · simp [h1, h2, show c < i + 1 by omega]
            · simp [h1, h2, show ¬ c < i + 1 by omega]
      case measure => simp [intOf]; omega
    · have hlt' : ¬ (i : Int) < k := by omega
      obtain rfl : i = k := by omega
      go_wp2
      refine bodyPost_end (v := .tuple #[]) (by simp [results, Tryd.results52, go_sem]) rfl ⟨rfl, ?_, unhide HFR, unhide HB⟩
      rw [rowF_congr (g' := fun c => if c < i then Gf.mul (f c) x else f c) (fun c hc => by simp [hc])]
      exact unhide HO
set_option maxRecDepth 100000 in
set_option maxHeartbeats 1000000 in
theorem less_own (B E g k cap gs cs x : Nat) (f f' : Nat → Nat) (w : World) (h : OwnL w B E (.slice (some ⟨g, 0, none⟩) k cap) ((rowF k f).map (Value.int .i64))) (h' : OwnL w B E (.slice (some ⟨gs, 0, none⟩) k cs) ((rowF k f').map (Value.int .i64))) (hne : gs ≠ g) (hk : k ≤ 12) (hg : B ≤ g) (hf : ∀ c, c < k → f c < 256) (hf' : ∀ c, c < k → f' c < 256) :
    Calls Tryd.prog 53 #[.slice (some ⟨g, 0, none⟩) k cap, .slice (some ⟨gs, 0, none⟩) k cs, .int .i64 x] w fun e w' => e = .returned (.tuple #[]) ∧ OwnL w' B E (.slice (some ⟨g, 0, none⟩) k cap) ((rowF k (fun c => f c ^^^ Gf.mul (f' c) x)).map (Value.int .i64)) ∧ (∀ j, j ≠ g → j < w.heap.size → w'.heap[j]? = w.heap[j]?) ∧ Below B w w' := by
  have HH := hide h
  have HH' := hide h'
  have HF := hide hf
  have HF' := hide hf'
  clear h h' hf hf'
  go_enter Tryd.func53, Tryd.ntmps53
  go_wp2
  go_loopw [6] (fun iv wr => ∃ i : Nat, i ≤ k ∧ iv = .int .i64 i ∧ Hid (OwnL wr B E (.slice (some ⟨g, 0, none⟩) k cap) ((rowF k (fun c => if c < i then f c ^^^ Gf.mul (f' c) x else f c)).map (Value.int .i64))) ∧ Hid (∀ j, j ≠ g → j < w.heap.size → wr.heap[j]? = w.heap[j]?) ∧ Hid (Below B w wr)) (fun iv _ => k - (intOf iv).toNat)
  case atStart => exact ⟨0, by omega, rfl, hide (by simpa using unhide HH), hide (fun _ _ _ => rfl), hide (Below.refl _ _)⟩
  case round =>
    obtain ⟨i, hi, rfl, HO, HFR, HB⟩ := hrel
    by_cases hlt : i < k
    · have hlt' : (i : Int) < k := by omega
      have c1 := own_cell (unhide HO) i (by rw [rowF_len]; exact hlt)
      rw [rowF_at hlt, if_neg (Nat.lt_irrefl _)] at c1
      have f1 := own_free (unhide HO) i
      have hs := (unhide HH').keep (w' := wr) (fun q hq => by
        simp [Value.ownBlock] at hq
        subst hq
        exact unhide HFR _ hne (((unhide HH').lt rfl).2))
      have c2 := own_cell hs i (by rw [rowF_len]; exact hlt)
      rw [rowF_at hlt] at c2
      clear hs
      have hy := unhide HF i hlt
      have hz := unhide HF' i hlt
      obtain ⟨y, ey⟩ : ∃ y, y = f i := ⟨_, rfl⟩
      obtain ⟨z, ez⟩ : ∃ z, z = f' i := ⟨_, rfl⟩
      rw [← ey] at c1 hy
      rw [← ez] at c2 hz
      have EY := hide ey
      have EZ := hide ez
      clear ey ez
      have hx1 := xor_small y (Gf.mul z x) hy (Gf.mul_lt _ _)
      go_wp2
      refine wp_region_quiet_then (List.cons_ne_nil _ _) ?_ ?_ ?_ ?_
      · kernel_rfl
      · kernel_rfl
      · kernel_rfl
      simp only [List.dropLast_cons_cons, List.dropLast_singleton, List.getLast_cons_cons, List.getLast_singleton]
      repeat (first | go_big_quiet_step ((go_at_call 44; exact Calls.quiet_of_same (refmul_any z x _ hz))) | quiet_step ((go_at_call 44; exact Calls.quiet_of_same (refmul_any z x _ hz))))
      refine wpQuiet_nil ?_
      intro _ hw'
      obtain ⟨nq, hw''⟩ := hw'
      subst hw''
      simp only [List.cons_append, List.nil_append]
      go_wp2
      go_roundw
      case rel =>
        have hst := own_put ((unhide HO).below (below_drewN wr wr.heap.size nq)) i (.int .i64 ((y ^^^ Gf.mul z x : Nat) : Int))
        rw [← List.map_set, rowF_set hlt] at hst
        refine ⟨i + 1, by omega, by go_num, hide ?_, hide (fun j hj hjs => (Below.heap_setCell _ ⟨g, i, none⟩ _ j hj).trans (unhide HFR j hj hjs)), hide (((unhide HB).trans (below_drewN _ _ nq)).setCell hg _)⟩
        rw [rowF_congr (g' := fun c => if c < i + 1 then f c ^^^ Gf.mul (f' c) x else f c) (fun c hc => ?_)] at hst
        · exact hst
        · by_cases h1 : c = i
          · subst h1; simp [← unhide EY, ← unhide EZ]
          · by_cases h2 : c < i
            · simp [h1, h2, show c < i + 1 by omega]
            · simp [h1, h2, show ¬ c < i + 1 by omega]
      case measure => simp [intOf]; omega
    · have hlt' : ¬ (i : Int) < k := by omega
      obtain rfl : i = k := by omega
      go_wp2
      refine bodyPost_end (v := .tuple #[]) (by simp [results, Tryd.results53, go_sem]) rfl ⟨rfl, ?_, unhide HFR, unhide HB⟩
      rw [rowF_congr (g' := fun c => if c < i then f c ^^^ Gf.mul (f' c) x else f c) (fun c hc => by simp [hc])]
      exact unhide HO
/-- two rows have changed places -/
def swapL {α : Type} (l : List α) (i j : Nat) (d : α) : List α := (l.set i (l.getD j d)).set j (l.getD i d)
theorem swapL_len {α : Type} (l : List α) (i j : Nat) (d : α) : (swapL l i j d).length = l.length := by simp [swapL]
theorem swapL_at {α : Type} (l : List α) (i j : Nat) (d : α) (hi : i < l.length) (hj : j < l.length) (r : Nat) : (swapL l i j d)[r]? = l[sw i j r]? := by
  unfold swapL sw
  rw [List.getElem?_set, List.getElem?_set]
  by_cases h1 : j = r
  · subst h1
    by_cases h2 : j = i
    · subst h2
      simp [hi, List.getD, List.getElem?_eq_getElem hi]
    · simp [h2, hj, List.getD, List.getElem?_eq_getElem hi]
  · by_cases h2 : i = r
    · subst h2
      simp [h1, hi, List.getD, List.getElem?_eq_getElem hj]
    · simp [h1, h2, Ne.symm h1, Ne.symm h2]
theorem RowsO.swapped {w w' : World} {B : Nat} {T E : TypeId} {u : Value} {us : List Value} {M : List (List Int)} {i j : Nat} (h : RowsO w B T E u us M) (hne : T ≠ E) (hi : i < M.length) (hj : j < M.length) (ho : OwnL w' B T u (swapL us i j undef)) (hf : ∀ k, u.ownBlock ≠ some k → k < w.heap.size → w'.heap[k]? = w.heap[k]?) :
    RowsO w' B T E u (swapL us i j undef) (swapL M i j []) := by
  have hiu : i < us.length := by rw [h.len]; exact hi
  have hju : j < us.length := by rw [h.len]; exact hj
  have hM : ∀ r, (swapL M i j []).getD r [] = M.getD (sw i j r) [] := fun r => by simp only [List.getD]; rw [swapL_at M i j [] hi hj]
  refine ⟨by rw [swapL_len, swapL_len]; exact h.len, ho, fun r v hv => ?_, fun r s x y hx hy hrs => ?_⟩
  · rw [swapL_at us i j undef hiu hju] at hv
    rw [hM]
    refine (h.row _ v hv).keep (fun g hg => hf g (fun e => ?_) ((h.row _ v hv).lt hg).2)
    exact apt_types h.outer (h.row _ v hv) hne g e hg
  · rw [swapL_at us i j undef hiu hju] at hx hy
    exact h.apart _ _ x y hx hy (fun e => hrs (by have := congrArg (sw i j) e; rwa [sw_sw, sw_sw] at this))
theorem matF_swap {k : Nat} {f : Nat → Nat → Nat} {i j : Nat} (hi : i < k) (hj : j < k) : swapL (matF k k f) i j [] = matF k k (fun r c => f (sw i j r) c) := by
  apply List.ext_getElem?
  intro r
  rw [swapL_at _ i j [] (by rw [matF_len]; exact hi) (by rw [matF_len]; exact hj)]
  by_cases hr : r < k
  · have hs := sw_lt hi hj hr
    simp [matF, hr, hs]
  · have hs : ¬ sw i j r < k := by unfold sw; simp [show r ≠ i by omega, show r ≠ j by omega]; omega
    simp [matF, hr, hs]
set_option maxRecDepth 100000 in
set_option maxHeartbeats 1000000 in
theorem swap_own (B gu n cu i j : Nat) (us : List Value) (M : List (List Int)) (w : World) (h : RowsO w B 36 3 (.slice (some ⟨gu, 0, none⟩) n cu) us M) (hM : M.length = n) (hi : i < n) (hj : j < n) (hn : n ≤ 12) (hB : B ≤ gu) (hsB : B ≤ w.heap.size) :
    Calls Tryd.prog 50 #[.agg #[.slice (some ⟨gu, 0, none⟩) n cu], .int .i64 i, .int .i64 j] w fun e w' => e = .returned (.tuple #[]) ∧ RowsO w' B 36 3 (.slice (some ⟨gu, 0, none⟩) n cu) (swapL us i j undef) (swapL M i j []) ∧ (∀ k, k ≠ gu → k < w.heap.size → w'.heap[k]? = w.heap[k]?) ∧ Below B w w' := by
  have hil : i < us.length := by rw [h.len, hM]; exact hi
  have hjl : j < us.length := by rw [h.len, hM]; exact hj
  obtain ⟨vi, hvi⟩ : ∃ v, us[i]? = some v := ⟨us[i], by simp [hil]⟩
  obtain ⟨vj, hvj⟩ : ∃ v, us[j]? = some v := ⟨us[j], by simp [hjl]⟩
  obtain ⟨ai, ci, ei⟩ := (h.row i vi hvi).form
  obtain ⟨aj, cj, ej⟩ := (h.row j vj hvj).form
  have hb := below_alloc w (.cells #[.slice (some ⟨gu, 0, none⟩) n cu] 52)
  have ho1 := h.outer.below hb
  have hgi := own_row' ho1
  have ci1 : (w.alloc (.cells #[.slice (some ⟨gu, 0, none⟩) n cu] 52)).cell? ⟨gu, i, none⟩ = some vi := by
    obtain ⟨g', c', e', _, hc⟩ := h.form (by omega)
    simp only [Value.slice.injEq, Option.some.injEq, Addr.mk.injEq, and_true, true_and] at e'
    obtain ⟨rfl, _, _⟩ := e'
    exact (hb.cell (cell_lt (hc i vi hvi))).trans (hc i vi hvi)
  have cj1 : (w.alloc (.cells #[.slice (some ⟨gu, 0, none⟩) n cu] 52)).cell? ⟨gu, j, none⟩ = some vj := by
    obtain ⟨g', c', e', _, hc⟩ := h.form (by omega)
    simp only [Value.slice.injEq, Option.some.injEq, Addr.mk.injEq, and_true, true_and] at e'
    obtain ⟨rfl, _, _⟩ := e'
    exact (hb.cell (cell_lt (hc j vj hvj))).trans (hc j vj hvj)
  have fi := own_free ho1 i
  have BX := heap_alloc_new w (.cells #[.slice (some ⟨gu, 0, none⟩) n cu] 52)
  have hgw : gu < w.heap.size := (h.outer.lt rfl).2
  have HH := hide h
  have HO1 := hide ho1
  generalize ((M.getD j []).map (Value.int .i64)).length = lj at ej
  generalize ((M.getD i []).map (Value.int .i64)).length = li at ei
  subst ei ej
  have hi' : (i : Int) < n := by omega
  have hj' : (j : Int) < n := by omega
  clear h ho1 hgi
  go_enter Tryd.func50, Tryd.ntmps50
  go_wp2
  generalize w.alloc (.cells #[.slice (some ⟨gu, 0, none⟩) n cu] 52) = W at *
  have cbx := cell_of_one BX
  refine wp_region_quiet_then (List.cons_ne_nil _ _) ?_ ?_ ?_ ?_
  · kernel_rfl
  · kernel_rfl
  · kernel_rfl
  simp only [List.dropLast_cons_cons, List.dropLast_singleton, List.getLast_cons_cons, List.getLast_singleton]
  repeat (first | go_big_quiet_step (fail) | quiet_step (fail))
  refine wpQuiet_nil ?_
  intro _ hw'
  obtain ⟨nq, hw''⟩ := hw'
  subst hw''
  have hO2 := own_put ((unhide HO1).below (below_drewN W W.heap.size nq)) i (.slice aj lj cj)
  have hbx2 : ((W.drewN nq).setCell ⟨gu, i, none⟩ (.slice aj lj cj)).heap[w.heap.size]? = some (.cells #[.slice (some ⟨gu, 0, none⟩) n cu] 52 (0, 0)) := (Below.heap_setCell (W.drewN nq) ⟨gu, i, none⟩ _ w.heap.size (by show w.heap.size ≠ gu; omega)).trans BX
  have cb2 := cell_of_one hbx2
  have f2 := own_free hO2 j
  obtain ⟨q2, hq2⟩ : ∃ q, (us.set i (.slice aj lj cj))[j]? = some q := ⟨_, List.getElem?_eq_getElem (by simpa using hjl)⟩
  have c2 : ((W.drewN nq).setCell ⟨gu, i, none⟩ (.slice aj lj cj)).cell? ⟨gu, j, none⟩ = some q2 := by
    obtain ⟨g', c', e', _, _, _, hc⟩ := own_form (n := (us.set i (.slice aj lj cj)).length) hO2 (by simp; omega)
    simp only [Value.slice.injEq, Option.some.injEq, Addr.mk.injEq, and_true, true_and] at e'
    obtain ⟨rfl, _, _⟩ := e'
    exact hc j q2 hq2
  have HO2 := hide hO2
  have HV1 := hide hvi
  have HV2 := hide hvj
  clear hO2 hq2 hvi hvj
  simp only [List.cons_append, List.nil_append]
  go_wp2
  have hO3 := own_put (unhide HO2) j (.slice ai li ci)
  have e1 : us.getD i undef = .slice ai li ci := by simp [List.getD, unhide HV1]
  have e2 : us.getD j undef = .slice aj lj cj := by simp [List.getD, unhide HV2]
  have hfr : ∀ k, k ≠ gu → k < w.heap.size → (((W.drewN nq).setCell ⟨gu, i, none⟩ (.slice aj lj cj)).setCell ⟨gu, j, none⟩ (.slice ai li ci)).heap[k]? = w.heap[k]? := fun k hk hks =>
    ((Below.heap_setCell _ ⟨gu, j, none⟩ _ k hk).trans (Below.heap_setCell (W.drewN nq) ⟨gu, i, none⟩ _ k hk)).trans (hb.block k hks)
  refine bodyPost_end (v := .tuple #[]) (by simp [results, Tryd.results50, go_sem]) rfl ⟨rfl, ?_, hfr, ?_⟩
  · refine (unhide HH).swapped (by decide) (by rw [hM]; exact hi) (by rw [hM]; exact hj) ?_ (fun k hk hks => hfr k (fun e => hk (by rw [e]; rfl)) hks)
    unfold swapL
    rw [e1, e2]
    exact hO3
  · exact ((((hb.mono hsB).trans (below_drewN _ _ nq)).setCell hB _).setCell hB _)
end Go.Proofs.YtcgagkaalbljmaaDoor
/- Gauss and Jordan on two matrices of the call's own: what each step leaves. -/
namespace Go.Proofs.YtcgagkaalbljmaaDoor
open Go.RowKit
set_option linter.unusedVariables false
set_option linter.unusedSimpArgs false
theorem addr_add (b off j : Nat) : (⟨b, off, none⟩ : Addr).add j = ⟨b, off + j, none⟩ := by unfold Addr.add; split <;> simp_all
/-- copy, onto a row of the call's own -/
theorem step_copy_own {P : Program} {ops : Array Oper} {o : Oper} {a : Act} {w : World} {K : Act → World → Prop} {Q : Exit → Act → World → Prop} {X : Prop} (hgd : o.guard = none) (d s : Operand) (dT sT : TypeId)
    (ho : o.op = .call { callee := .builtin .copy, args := #[d, s], argTypes := #[dT, sT] }) (elem : TypeId) (hu : P.underlying dT = some (.slice elem)) (hsz : (P.info? elem).map (·.size) = some 1)
    (B E g k cap cap' b off : Nat) (xs ys : List Value) (hd : a.eval d = .slice (some ⟨g, 0, none⟩) k cap) (hs : a.eval s = .slice (some ⟨b, off, none⟩) k cap') (hx : OwnL w B E (.slice (some ⟨g, 0, none⟩) k cap) xs) (hy : ys.length = k)
    (hsrc : ∀ j v, ys[j]? = some v → w.cell? ⟨b, off + j, none⟩ = some v) (h1 : ∀ v ∈ ys, v.oneCell' = true)
    (h : ∀ w', OwnL w' B E (.slice (some ⟨g, 0, none⟩) k cap) ys → (∀ j, j ≠ g → j < w.heap.size → w'.heap[j]? = w.heap[j]?) → Below B w w' → K (a.put o.dst (goInt k)) w') :
    if Region.wanted o (yielded ops a.tmps) = true then Oper.wp P o a w K Q else X := by
  rw [if_pos (by simp [Region.wanted, hgd])]
  rcases hx.2 with ⟨e, _⟩ | ⟨g', cap1, cur, e, hb, hh, hn, hm, hc, ht⟩
  · simp at e
  · have hlen := own_len hx
    simp only [Value.slice.injEq, Option.some.injEq, Addr.mk.injEq, and_true, true_and] at e
    obtain ⟨rfl, e2, rfl⟩ := e
    rw [hlen] at hn
    have hrun := run_copy_row (P := P) w dT sT o.type elem g 0 k cap ⟨b, off, none⟩ k cap' cur E ys hu hsz hh (by rw [hy]; simp) (fun j v hv => by
      rw [addr_add]; exact hsrc j v hv) (by rw [hy]; omega) h1
    have hK := h (w.setRow g (cur.toList.take 0 ++ ys ++ cur.toList.drop (0 + ys.length)).toArray)
      ⟨by simp, .inr ⟨g, cap, (cur.toList.take 0 ++ ys ++ cur.toList.drop (0 + ys.length)).toArray, by rw [hy], hb, setRow_heap w g cur _ E (0, 0) hh, by rw [hy]; exact hn, hm, by simp [hy]; omega, by simp⟩⟩
      (fun j hj _ => setRow_other w g j _ hj) (below_setRow (Below.refl B w) hb _)
    unfold Oper.wp
    have hK' : K (a.put o.dst (goInt ys.length)) (w.setRow g (cur.toList.take 0 ++ ys ++ cur.toList.drop (0 + ys.length)).toArray) := by rw [hy] at *; exact hK
    simp [execOp, ho, resolve, invoke, builtin, hd, hs, hrun, Result.andThen, Oper.upon]
    simp at hK'
    first | exact hK' | exact .inl hK'
theorem matF_setRow {k : Nat} {f : Nat → Nat → Nat} {i : Nat} (hi : i < k) (g : Nat → Nat) : (matF k k f).set i (rowF k g) = matF k k (fun r c => if r = i then g c else f r c) := by
  apply List.ext_getElem
  · simp [matF]
  · intro r h1 h2
    simp [matF] at h1 h2 ⊢
    rw [List.getElem_set]
    by_cases h : i = r
    · subst h; simp [rowF]
    · simp [h, Ne.symm h]
/-- the two matrices, each of the call's own, and apart: all of the second lies below Ha, all of the first from Ha on -/
structure GJ (wr : World) (Bo Ha k ga ca go co : Nat) (usa uso : List Value) (fa fo : Nat → Nat → Nat) : Prop where
  a : RowsO wr Ha 36 3 (.slice (some ⟨ga, 0, none⟩) k ca) usa (matF k k fa)
  o : RowsO wr Bo 36 3 (.slice (some ⟨go, 0, none⟩) k co) uso (matF k k fo)
  ol : go < Ha
  or : ∀ (j : Nat) v g, uso[j]? = some v → v.ownBlock = some g → g < Ha
  hs : Ha ≤ wr.heap.size
/-- the row i of a matrix of the call's own -/
theorem rowAt {wr : World} {B g k c : Nat} {us : List Value} {f : Nat → Nat → Nat} (h : RowsO wr B 36 3 (.slice (some ⟨g, 0, none⟩) k c) us (matF k k f)) {i : Nat} (hi : i < k) :
    ∃ gi ci, us[i]? = some (.slice (some ⟨gi, 0, none⟩) k ci) ∧ B ≤ gi ∧ wr.cell? ⟨g, i, none⟩ = some (.slice (some ⟨gi, 0, none⟩) k ci) ∧ OwnL wr B 3 (.slice (some ⟨gi, 0, none⟩) k ci) ((rowF k (f i)).map (Value.int .i64)) ∧ (∀ c, c < k → wr.cell? ⟨gi, c, none⟩ = some (.int .i64 ((f i c : Nat) : Int))) := by
  have hr : ((matF k k f).getD i []).length = k := matF_rowlen _ _ _ _ hi
  obtain ⟨gi, ci, h1, h2, h3, _⟩ := h.at (i := i) (by rw [matF_len]; exact hi) (by rw [hr]; omega)
  rw [hr] at h1 h3
  obtain ⟨g', c', e, _, hc⟩ := h.form (by rw [matF_len]; omega)
  simp only [Value.slice.injEq, Option.some.injEq, Addr.mk.injEq, and_true, true_and] at e
  obtain ⟨rfl, _, _⟩ := e
  have hrow := h.row i _ h1
  rw [matF_rowF k f i hi] at hrow
  refine ⟨gi, ci, h1, h2, hc i _ h1, hrow, fun c hck => ?_⟩
  rw [h3 c hck, matF_rowF k f i hi, rowF_at hck]
theorem GJ.setA {wr w' : World} {Bo Ha k ga ca go co : Nat} {usa uso : List Value} {fa fo : Nat → Nat → Nat} (h : GJ wr Bo Ha k ga ca go co usa uso fa fo) {i gi ci : Nat} {g : Nat → Nat} (hi : i < k) (hv : usa[i]? = some (.slice (some ⟨gi, 0, none⟩) k ci)) (hy : OwnL w' Ha 3 (.slice (some ⟨gi, 0, none⟩) k ci) ((rowF k g).map (Value.int .i64))) (hf : ∀ j, j ≠ gi → j < wr.heap.size → w'.heap[j]? = wr.heap[j]?) (hsz : wr.heap.size ≤ w'.heap.size) :
    GJ w' Bo Ha k ga ca go co usa uso (fun r c => if r = i then g c else fa r c) fo := by
  have hgi := ((h.a.row i _ hv).lt (g := gi) rfl).1
  refine ⟨?_, ?_, h.ol, h.or, Nat.le_trans h.hs hsz⟩
  · have := h.a.setRow (by decide) hv hy (fun k hk hks => hf k (fun e => hk (by rw [e]; rfl)) hks)
    rwa [matF_setRow hi] at this
  · refine ⟨h.o.len, h.o.outer.keep (fun q hq => ?_), fun j v hv' => (h.o.row j v hv').keep (fun q hq => ?_), h.o.apart⟩
    · simp [Value.ownBlock] at hq
      subst hq
      exact hf _ (by have := h.ol; omega) (by have := h.ol; have := h.hs; omega)
    · exact hf _ (by have := h.or j v q hv' hq; omega) (by have := h.or j v q hv' hq; have := h.hs; omega)
theorem GJ.setO {wr w' : World} {Bo Ha k ga ca go co : Nat} {usa uso : List Value} {fa fo : Nat → Nat → Nat} (h : GJ wr Bo Ha k ga ca go co usa uso fa fo) {i gi ci : Nat} {g : Nat → Nat} (hi : i < k) (hv : uso[i]? = some (.slice (some ⟨gi, 0, none⟩) k ci)) (hy : OwnL w' Bo 3 (.slice (some ⟨gi, 0, none⟩) k ci) ((rowF k g).map (Value.int .i64))) (hf : ∀ j, j ≠ gi → j < wr.heap.size → w'.heap[j]? = wr.heap[j]?) (hsz : wr.heap.size ≤ w'.heap.size) :
    GJ w' Bo Ha k ga ca go co usa uso fa (fun r c => if r = i then g c else fo r c) := by
  have hgi := h.or i _ gi hv rfl
  refine ⟨h.a.keep (fun q hq hqs => hf q (by omega) hqs), ?_, h.ol, h.or, Nat.le_trans h.hs hsz⟩
  have := h.o.setRow (by decide) hv hy (fun k hk hks => hf k (fun e => hk (by rw [e]; rfl)) hks)
  rwa [matF_setRow hi] at this
theorem GJ.swapA {wr w' : World} {Bo Ha k ga ca go co : Nat} {usa uso : List Value} {fa fo : Nat → Nat → Nat} (h : GJ wr Bo Ha k ga ca go co usa uso fa fo) {i j : Nat} (hi : i < k) (hj : j < k) (hr : RowsO w' Ha 36 3 (.slice (some ⟨ga, 0, none⟩) k ca) (swapL usa i j undef) (swapL (matF k k fa) i j [])) (hf : ∀ j, j ≠ ga → j < wr.heap.size → w'.heap[j]? = wr.heap[j]?) (hsz : wr.heap.size ≤ w'.heap.size) :
    GJ w' Bo Ha k ga ca go co (swapL usa i j undef) uso (fun r c => fa (sw i j r) c) fo := by
  have hga := (h.a.outer.lt (g := ga) rfl).1
  rw [matF_swap hi hj] at hr
  refine ⟨hr, ⟨h.o.len, h.o.outer.keep (fun q hq => ?_), fun j v hv' => (h.o.row j v hv').keep (fun q hq => ?_), h.o.apart⟩, h.ol, h.or, Nat.le_trans h.hs hsz⟩
  · simp [Value.ownBlock] at hq
    subst hq
    exact hf _ (by have := h.ol; omega) (by have := h.ol; have := h.hs; omega)
  · exact hf _ (by have := h.or j v q hv' hq; omega) (by have := h.or j v q hv' hq; have := h.hs; omega)
theorem GJ.swapO {wr w' : World} {Bo Ha k ga ca go co : Nat} {usa uso : List Value} {fa fo : Nat → Nat → Nat} (h : GJ wr Bo Ha k ga ca go co usa uso fa fo) {i j : Nat} (hi : i < k) (hj : j < k) (hr : RowsO w' Bo 36 3 (.slice (some ⟨go, 0, none⟩) k co) (swapL uso i j undef) (swapL (matF k k fo) i j [])) (hf : ∀ j, j ≠ go → j < wr.heap.size → w'.heap[j]? = wr.heap[j]?) (hsz : wr.heap.size ≤ w'.heap.size) :
    GJ w' Bo Ha k ga ca go co usa (swapL uso i j undef) fa (fun r c => fo (sw i j r) c) := by
  have hgo := h.ol
  have hlo : uso.length = k := by rw [h.o.len, matF_len]
  rw [matF_swap hi hj] at hr
  refine ⟨h.a.keep (fun q hq hqs => hf q (by omega) hqs), hr, h.ol, fun r v g hv hg => ?_, Nat.le_trans h.hs hsz⟩
  rw [swapL_at uso i j undef (by omega) (by omega)] at hv
  exact h.or _ v g hv hg
end Go.Proofs.YtcgagkaalbljmaaDoor
/- The document's own Invert (ossuaryref1): matrices that have none by their form. -/
namespace Go.Proofs.YtcgagkaalbljmaaDoor
open Go.RowKit
set_option linter.unusedVariables false
set_option linter.unusedSimpArgs false
set_option maxRecDepth 100000 in
set_option maxHeartbeats 2000000 in
theorem refInvert_noMay (pm : Option Addr) (nm cm : Nat) (M : List (List Int)) (w : World) (hm : MatV w (.agg #[.slice pm nm cm]) M) (hno : ¬ MMay M) :
    Calls Tryd.prog 33 #[.agg #[.slice pm nm cm]] w fun e w' => e = .returned (.tuple #[.agg #[.slice none 0 0], .int .i64 400]) ∧ Below w.heap.size w w' := by
  have HM := hide hm
  clear hm
  go_enter Tryd.func33, Tryd.ntmps33
  go_wp2_with fail
  have k0 := hide (two_old w (.cells #[.slice pm nm cm] 52) (.cells #[.slice none 0 0] 52))
  have k2 := hide (two_new w (.cells #[.slice pm nm cm] 52) (.cells #[.slice none 0 0] 52))
  have k3 : Hid (Below w.heap.size w ((w.alloc (.cells #[.slice pm nm cm] 52)).alloc (.cells #[.slice none 0 0] 52))) := hide (by go_grown)
  have k4 : ((w.alloc (.cells #[.slice pm nm cm] 52)).alloc (.cells #[.slice none 0 0] 52)).heap.size = w.heap.size + 2 := by simp
  generalize ((w.alloc (.cells #[.slice pm nm cm] 52)).alloc (.cells #[.slice none 0 0] 52)) = W at k0 k2 k3 k4 ⊢
  have g0 := grown_cell (cell_of_one (unhide k0))
  refine wp_region_grows (by kernel_rfl) (by kernel_rfl) ?_
  repeat (first | go_big_quiet_step ((go_at_call 48; exact Calls.grows (refMay_no _ M _ (((unhide HM).below (unhide k3)).below (GrownW.prop _)) hno))) | quiet_step ((go_at_call 48; exact Calls.grows (refMay_no _ M _ (((unhide HM).below (unhide k3)).below (GrownW.prop _)) hno))))
  refine wpQuiet_nil ?_
  intro gw hw'
  have gb := grown_below hw'
  clear hw'
  clear g0
  have r2 := (gb.block _ (by omega)).trans (unhide k2)
  have c2 := cell_of_one r2
  have f2 := free_of_one r2
  have HB1 := hide (bt (unhide k3) gb)
  clear gb
  go_wp2
  have cr := cell_of_one (one_setCell (u := .slice none 0 0) r2)
  exact bodyPost_ret (v := .tuple #[.agg #[.slice none 0 0], .int .i64 400]) (by simp [results, Tryd.results33, go_sem, cr]) rfl ⟨rfl, (unhide HB1).setCell (by show _ ≤ w.heap.size + 1; omega) _⟩
set_option maxRecDepth 100000 in
set_option maxHeartbeats 2000000 in
theorem refInvert_noSq (pm : Option Addr) (nm cm : Nat) (M : List (List Int)) (w : World) (hm : MatV w (.agg #[.slice pm nm cm]) M) (hmay : MMay M) (hno : M.length ≠ (M.getD 0 []).length) :
    Calls Tryd.prog 33 #[.agg #[.slice pm nm cm]] w fun e w' => e = .returned (.tuple #[.agg #[.slice none 0 0], .int .i64 400]) ∧ Below w.heap.size w w' := by
  obtain ⟨hl, n1, n2, k, b, o, ek, kk1, kk2, rfl, hc⟩ := mat_at hm hmay
  have HM := hide hm
  obtain ⟨g, og, q, hrow, _⟩ := hc 0 n1
  simp only [Nat.add_zero] at hrow
  have t1 : ((nm : Int) != (k : Int)) = true := by simp; omega
  have p1 : (0 : Int) < nm := by omega
  clear hm hc
  go_enter Tryd.func33, Tryd.ntmps33
  go_wp2_with fail
  have k0 := hide (two_old w (.cells #[.slice (some ⟨b, o, none⟩) nm cm] 52) (.cells #[.slice none 0 0] 52))
  have k2 := hide (two_new w (.cells #[.slice (some ⟨b, o, none⟩) nm cm] 52) (.cells #[.slice none 0 0] 52))
  have k3 : Hid (Below w.heap.size w ((w.alloc (.cells #[.slice (some ⟨b, o, none⟩) nm cm] 52)).alloc (.cells #[.slice none 0 0] 52))) := hide (by go_grown)
  have k4 : ((w.alloc (.cells #[.slice (some ⟨b, o, none⟩) nm cm] 52)).alloc (.cells #[.slice none 0 0] 52)).heap.size = w.heap.size + 2 := by simp
  generalize ((w.alloc (.cells #[.slice (some ⟨b, o, none⟩) nm cm] 52)).alloc (.cells #[.slice none 0 0] 52)) = W at k0 k2 k3 k4 ⊢
  have g0 := grown_cell (cell_of_one (unhide k0))
  have g3 := grown_cell (((unhide k3).cell (cell_lt hrow)).trans hrow)
  clear hrow
  refine wp_region_grows (by kernel_rfl) (by kernel_rfl) ?_
  repeat (first | go_big_quiet_step ((go_at_call 48; exact Calls.grows (refMay_yes _ M _ (((unhide HM).below (unhide k3)).below (GrownW.prop _)) hmay))) | quiet_step ((go_at_call 48; exact Calls.grows (refMay_yes _ M _ (((unhide HM).below (unhide k3)).below (GrownW.prop _)) hmay))))
  refine wpQuiet_nil ?_
  intro gw hw'
  have gb := grown_below hw'
  clear hw'
  clear g0 g3
  have r2 := (gb.block _ (by omega)).trans (unhide k2)
  have c2 := cell_of_one r2
  have f2 := free_of_one r2
  have HB1 := hide (bt (unhide k3) gb)
  clear gb
  go_wp2
  have cr := cell_of_one (one_setCell (u := .slice none 0 0) r2)
  exact bodyPost_ret (v := .tuple #[.agg #[.slice none 0 0], .int .i64 400]) (by simp [results, Tryd.results33, go_sem, cr]) rfl ⟨rfl, (unhide HB1).setCell (by show _ ≤ w.heap.size + 1; omega) _⟩
end Go.Proofs.YtcgagkaalbljmaaDoor
/- The document's own Invert (ossuaryref1): Gauss and Jordan. -/
namespace Go.Proofs.YtcgagkaalbljmaaDoor
open Go.RowKit
set_option linter.unusedVariables false
set_option linter.unusedSimpArgs false
attribute [local go_sem ↓] Go.wp_at_zero Go.wp_at_succ
theorem zeroM_matF (k : Nat) : zeroM k k = matF k k (fun _ _ => 0) := (matF_zero k k).symm
theorem stuck_at {M : List (List Int)} {a o : Nat → Nat → Nat} {n c : Nat} (hM : SqMay M) (hL : M.length = n) (h : Two n (entry M) a o ∧ UnitTo n a c ∧ BytK n a ∧ BytK n o) (hc : c < n) (h0 : ∀ r, c ≤ r → r < n → a r c = 0) : invR M ([], 401) := by
  subst hL
  exact .inr (.inr ⟨hM, inv_of_stuck hM h.1 h.2.1 hc h0 h.2.2.1, rfl⟩)
theorem done_at {M : List (List Int)} {a o : Nat → Nat → Nat} {n : Nat} (hM : SqMay M) (hL : M.length = n) (h : Two n (entry M) a o ∧ UnitTo n a n ∧ BytK n a ∧ BytK n o) : invR M (matF n n o, 0) := by
  subst hL
  exact .inr (.inl ⟨hM, _, inv_of_done hM h.1 h.2.1 h.2.2.2, rfl⟩)
theorem res_mat {fn : Func} {t u : Tmp} {g : Nat} {z : Int} {p : Option Addr} {n c : Nat} {w : World} (hr : fn.results = #[.cell t 52, .tmp u]) (tmps : Array Value) (ht : tmps.getD t undef = .pointer (some ⟨g, 0, none⟩)) (hu : tmps.getD u undef = .int .i64 z) (hc : w.cell? ⟨g, 0, none⟩ = some (.slice p n c)) :
    (results fn tmps).run Tryd.prog w = .ok (.tuple #[.agg #[.slice p n c], .int .i64 z]) w := by
  rw [Array.getD_eq_getD_getElem?] at ht hu
  simp [results, hr, ht, hu, go_sem, hc]
theorem sc_row (c x : Nat) (f : Nat → Nat → Nat) : (fun r s => if r = c then Gf.mul (f c s) x else f r s) = sc c x f := by
  funext r s
  unfold sc
  by_cases h : r = c
  · subst h; simp
  · simp [h]
theorem ad_row (i c x : Nat) (f : Nat → Nat → Nat) : (fun r s => if r = i then f i s ^^^ Gf.mul (f c s) x else f r s) = ad i c x f := by
  funext r s
  unfold ad
  by_cases h : r = i
  · subst h; simp
  · simp [h]
/-- what Invert leaves -/
def invPost (M : List (List Int)) (w : World) (e : Ending) (w' : World) : Prop := ∃ u r, invR M r ∧ e = .returned (.tuple #[.agg #[u], .int .i64 r.2]) ∧ OwnM w' w.heap.size 36 3 u r.1 ∧ Below w.heap.size w w'
/-- the boxes of the call, and its two matrices -/
structure GS (w wr : World) (b o nm cm Bo Ha k ga ca go co g5 g7 : Nat) (usa uso : List Value) (fa fo : Nat → Nat → Nat) : Prop where
  x0 : wr.heap[w.heap.size]? = some (.cells #[.slice (some ⟨b, o, none⟩) nm cm] 52 (0, 0))
  x2 : wr.heap[w.heap.size + 1]? = some (.cells #[.slice none 0 0] 52 (0, 0))
  x5 : wr.heap[g5]? = some (.cells #[.slice (some ⟨go, 0, none⟩) k co] 52 (0, 0))
  x7 : wr.heap[g7]? = some (.cells #[.slice (some ⟨ga, 0, none⟩) k ca] 52 (0, 0))
  gj : GJ wr Bo Ha k ga ca go co usa uso fa fo
  bl : Below w.heap.size w wr
  bo : w.heap.size + 2 ≤ Bo
  ba : Bo ≤ Ha
/-- a step that writes only a row, or the slice of rows -/
theorem GS.keep {w wr w' : World} {b o nm cm Bo Ha k ga ca go co g5 g7 : Nat} {usa uso usa' uso' : List Value} {fa fo fa' fo' : Nat → Nat → Nat} (h : GS w wr b o nm cm Bo Ha k ga ca go co g5 g7 usa uso fa fo) {g B : Nat} {T : TypeId} {C : Array Value} {m : Nat × Nat} (hg : wr.heap[g]? = some (.cells C T m)) (hT : T ≠ 52) (hf : ∀ j, j ≠ g → j < wr.heap.size → w'.heap[j]? = wr.heap[j]?) (hb : Below B wr w') (hB : Bo ≤ B) (hgj : GJ w' Bo Ha k ga ca go co usa' uso' fa' fo') :
    GS w w' b o nm cm Bo Ha k ga ca go co g5 g7 usa' uso' fa' fo' := by
  have hne : ∀ {j : Nat} {v : Value}, wr.heap[j]? = some (.cells #[v] 52 (0, 0)) → j ≠ g := fun hj e => by
    subst e
    rw [hg] at hj
    simp at hj
    exact hT hj.2.1
  have hbo := h.bo
  exact ⟨(hf _ (hne h.x0) (lt_of_block h.x0)).trans h.x0, (hf _ (hne h.x2) (lt_of_block h.x2)).trans h.x2, (hf _ (hne h.x5) (lt_of_block h.x5)).trans h.x5, (hf _ (hne h.x7) (lt_of_block h.x7)).trans h.x7, hgj, h.bl.trans (hb.mono (by omega)), h.bo, h.ba⟩
theorem GJ.drew {wr : World} {Bo Ha k ga ca go co : Nat} {usa uso : List Value} {fa fo : Nat → Nat → Nat} (h : GJ wr Bo Ha k ga ca go co usa uso fa fo) {w' : World} (hb : Below wr.heap.size wr w') : GJ w' Bo Ha k ga ca go co usa uso fa fo :=
  ⟨h.a.below hb, h.o.below hb, h.ol, h.or, Nat.le_trans h.hs hb.size⟩
theorem GS.below {w wr w' : World} {b o nm cm Bo Ha k ga ca go co g5 g7 : Nat} {usa uso : List Value} {fa fo : Nat → Nat → Nat} (h : GS w wr b o nm cm Bo Ha k ga ca go co g5 g7 usa uso fa fo) (hb : Below wr.heap.size wr w') : GS w w' b o nm cm Bo Ha k ga ca go co g5 g7 usa uso fa fo :=
  ⟨(hb.block _ (lt_of_block h.x0)).trans h.x0, (hb.block _ (lt_of_block h.x2)).trans h.x2, (hb.block _ (lt_of_block h.x5)).trans h.x5, (hb.block _ (lt_of_block h.x7)).trans h.x7, h.gj.drew hb, bt h.bl hb, h.bo, h.ba⟩
theorem own_block {w : World} {B E g n cap : Nat} {xs : List Value} (h : OwnL w B E (.slice (some ⟨g, 0, none⟩) n cap) xs) : B ≤ g ∧ ∃ cur, w.heap[g]? = some (.cells cur E (0, 0)) := by
  rcases h.2 with ⟨e, _⟩ | ⟨g', cap1, cur, e, hb, hh, _⟩
  · simp at e
  · simp only [Value.slice.injEq, Option.some.injEq, Addr.mk.injEq, and_true, true_and] at e
    obtain ⟨rfl, _, _⟩ := e
    exact ⟨hb, cur, hh⟩
set_option maxRecDepth 100000 in
set_option maxHeartbeats 8000000 in
theorem refInvert_sq (pm : Option Addr) (nm cm : Nat) (M : List (List Int)) (w : World) (hm : MatV w (.agg #[.slice pm nm cm]) M) (hs : SqMay M) :
    Calls Tryd.prog 33 #[.agg #[.slice pm nm cm]] w (invPost M w) := by
  obtain ⟨hl, n1, n2, k, b, o, ek, kk1, kk2, rfl, hc⟩ := mat_at hm hs.1
  obtain rfl : nm = k := by rw [← hl, hs.2, ek]
  have HM := hide hm
  have HC := hide hc
  have HL := hide hl
  have HSQ := hide hs
  have HMY := hide hs.1
  obtain ⟨g, og, q, hrow, _⟩ := hc 0 n1
  simp only [Nat.add_zero] at hrow
  have t1 : ((nm : Int) != (nm : Int)) = false := by simp
  have p1 : (0 : Int) < nm := by omega
  clear hm hc hs hl ek kk1 kk2
  go_enter Tryd.func33, Tryd.ntmps33
  go_wp2_with fail
  have k0 := hide (two_old w (.cells #[.slice (some ⟨b, o, none⟩) nm cm] 52) (.cells #[.slice none 0 0] 52))
  have k2 := hide (two_new w (.cells #[.slice (some ⟨b, o, none⟩) nm cm] 52) (.cells #[.slice none 0 0] 52))
  have k3 : Hid (Below w.heap.size w ((w.alloc (.cells #[.slice (some ⟨b, o, none⟩) nm cm] 52)).alloc (.cells #[.slice none 0 0] 52))) := hide (by go_grown)
  have k4 : ((w.alloc (.cells #[.slice (some ⟨b, o, none⟩) nm cm] 52)).alloc (.cells #[.slice none 0 0] 52)).heap.size = w.heap.size + 2 := by simp
  generalize ((w.alloc (.cells #[.slice (some ⟨b, o, none⟩) nm cm] 52)).alloc (.cells #[.slice none 0 0] 52)) = W at k0 k2 k3 k4 ⊢
  have g0 := grown_cell (cell_of_one (unhide k0))
  have g3 := grown_cell (((unhide k3).cell (cell_lt hrow)).trans hrow)
  clear hrow
  refine wp_region_grows (by kernel_rfl) (by kernel_rfl) ?_
  repeat (first | go_big_quiet_step ((go_at_call 48; exact Calls.grows (refMay_yes _ M _ (((unhide HM).below (unhide k3)).below (GrownW.prop _)) (unhide HMY)))) | quiet_step ((go_at_call 48; exact Calls.grows (refMay_yes _ M _ (((unhide HM).below (unhide k3)).below (GrownW.prop _)) (unhide HMY)))))
  refine wpQuiet_nil ?_
  intro gw hw'
  have gb := grown_below hw'
  clear hw'
  clear g0 g3
  replace k0 := hide ((gb.block _ (lt_of_block (unhide k0))).trans (unhide k0))
  replace k2 := hide ((gb.block _ (lt_of_block (unhide k2))).trans (unhide k2))
  have hB1 := bt (unhide k3) gb
  have hs1 := gb.size
  have HB := hide hB1
  clear gb hB1 k3
  have ck0 := cell_of_one (unhide k0)
  have dk0 := fun o => ((below_alloc gw o).cell (cell_lt ck0)).trans ck0
  have ck2 := cell_of_one (unhide k2)
  have dk2 := fun o => ((below_alloc gw o).cell (cell_lt ck2)).trans ck2
  go_wp2_with fail
  refine (refIdentity_yes nm gw n1 n2).mono ?_
  rintro e w1 ⟨u1, rfl, O1, b1⟩
  obtain ⟨uso, RO⟩ := O1
  obtain ⟨go, co, eo, hgo, _⟩ := RO.form (by rw [idM_len]; omega)
  rw [idM_len] at eo
  subst eo
  have lo : go < w1.heap.size := (RO.outer.lt rfl).2
  have LR : Hid (∀ (j : Nat) v g, uso[j]? = some v → v.ownBlock = some g → g < w1.heap.size) := hide (fun j v g hv hg => ((RO.row j v hv).lt hg).2)
  replace k0 := hide ((b1.block _ (lt_of_block (unhide k0))).trans (unhide k0))
  replace k2 := hide ((b1.block _ (lt_of_block (unhide k2))).trans (unhide k2))
  replace HB := hide (bt (unhide HB) b1)
  have hs2 := b1.size
  have HRO := hide RO
  clear b1 RO ck0 ck2 dk0 dk2
  have ck0 := cell_of_one (unhide k0)
  have dk0 := fun o => ((below_alloc w1 o).cell (cell_lt ck0)).trans ck0
  have ck2 := cell_of_one (unhide k2)
  have dk2 := fun o => ((below_alloc w1 o).cell (cell_lt ck2)).trans ck2
  go_wp2_with fail
  have hx := below_alloc w1 (.cells #[.slice (some ⟨go, 0, none⟩) nm co] 52)
  have k5 := hide (heap_alloc_new w1 (.cells #[.slice (some ⟨go, 0, none⟩) nm co] 52))
  refine (blank_any nm nm _ n2 n2).mono ?_
  rintro e w2 ⟨u2, rfl, O2, b2⟩
  obtain ⟨usa, RA⟩ := O2
  have hzl : (zeroM nm nm).length = nm := by simp [zeroM]
  obtain ⟨ga, ca, ea, hga, _⟩ := RA.form (by rw [hzl]; omega)
  rw [hzl] at ea
  subst ea
  replace k5 := hide ((b2.block _ (lt_of_block (unhide k5))).trans (unhide k5))
  replace b2 := bt hx b2
  replace k0 := hide ((b2.block _ (lt_of_block (unhide k0))).trans (unhide k0))
  replace k2 := hide ((b2.block _ (lt_of_block (unhide k2))).trans (unhide k2))
  replace HRO := hide ((unhide HRO).below b2)
  replace HB := hide (bt (unhide HB) b2)
  have hs3 := b2.size
  have HRA := hide RA
  clear b2 RA hx ck0 ck2 dk0 dk2 hzl
  have ck0 := cell_of_one (unhide k0)
  have dk0 := fun o => ((below_alloc w2 o).cell (cell_lt ck0)).trans ck0
  have ck2 := cell_of_one (unhide k2)
  have dk2 := fun o => ((below_alloc w2 o).cell (cell_lt ck2)).trans ck2
  have ck5 := cell_of_one (unhide k5)
  have dk5 := fun o => ((below_alloc w2 o).cell (cell_lt ck5)).trans ck5
  go_wp2
  have GS0 : GS w (w2.alloc (.cells #[.slice (some ⟨ga, 0, none⟩) nm ca] 52)) b o nm cm (gw.heap.size + 1) ((w1.alloc (.cells #[.slice (some ⟨go, 0, none⟩) nm co] 52)).heap.size + 2) nm ga ca go co w1.heap.size w2.heap.size usa uso (fun _ _ => 0) idx := by
    have hb := below_alloc w2 (.cells #[.slice (some ⟨ga, 0, none⟩) nm ca] 52)
    have h1 := (unhide HRA).below hb
    have h2 := (unhide HRO).below hb
    rw [zeroM_matF] at h1
    rw [idM_idx] at h2
    have hga' := (h1.outer.lt (g := ga) rfl)
    have hsz : (w1.alloc (.cells #[.slice (some ⟨go, 0, none⟩) nm co] 52)).heap.size = w1.heap.size + 1 := by simp
    refine ⟨(hb.block _ (lt_of_block (unhide k0))).trans (unhide k0), (hb.block _ (lt_of_block (unhide k2))).trans (unhide k2), (hb.block _ (lt_of_block (unhide k5))).trans (unhide k5), heap_alloc_new _ _, ⟨h1, h2, by omega, fun j v g hv hg => by have := unhide LR j v g hv hg; omega, by omega⟩, bt (unhide HB) hb, by omega, by omega⟩
  generalize (w2.alloc (.cells #[.slice (some ⟨ga, 0, none⟩) nm ca] 52)) = W3 at GS0 ⊢
  generalize ((w1.alloc (.cells #[.slice (some ⟨go, 0, none⟩) nm co] 52)).heap.size + 2) = Ha at GS0
  generalize w1.heap.size = g5 at GS0 ⊢
  generalize w2.heap.size = g7 at GS0 ⊢
  generalize gw.heap.size + 1 = Bo at GS0
  have HG0 := hide GS0
  clear GS0 ck0 ck2 ck5 dk0 dk2 dk5 k0 k2 k5 HRO HRA HB LR lo hgo hga hs1 hs2 hs3
  go_loopw [8] (fun iv wr => ∃ i : Nat, i ≤ nm ∧ iv = .int .i64 i ∧ Hid (GS w wr b o nm cm Bo Ha nm ga ca go co g5 g7 usa uso (fun r c => if r < i then entry M r c else 0) idx)) (fun iv _ => nm - (intOf iv).toNat)
  case atStart => exact ⟨0, by omega, rfl, hide (by simpa using unhide HG0)⟩
  case round =>
    obtain ⟨i, hi, rfl, HG⟩ := hrel
    by_cases hlt : i < nm
    · have hlt' : (i : Int) < nm := by omega
      obtain ⟨gi, ci, hui, hgi, hcell, hown, _⟩ := rowAt (unhide HG).gj.a hlt
      obtain ⟨gm, om, qm, hrow, hcm⟩ := unhide HC i hlt
      have hbl := (unhide HG).bl
      have lx0 := lt_of_block (unhide HG).x0
      have lx7 := lt_of_block (unhide HG).x7
      have c0 := cell_of_one (unhide HG).x0
      have c7 := cell_of_one (unhide HG).x7
      have crow := (hbl.cell (cell_lt hrow)).trans hrow
      have q0 := kept_cell (B := wr.heap.size) c0 lx0
      have q7 := kept_cell (B := wr.heap.size) c7 lx7
      have qa := kept_cell (B := wr.heap.size) hcell (cell_lt hcell)
      have qm' := kept_cell (B := wr.heap.size) crow (cell_lt crow)
      have HOW := hide hown
      have HUI := hide hui
      have HCM := hide (fun j hj => (hbl.cell (cell_lt (hcm j hj).1)).trans (hcm j hj).1)
      have HBL := hide hbl
      clear hown hui hcm hbl c0 c7 crow hrow hcell
      go_wp2
      refine wp_region_ord_thenT (S := Below wr.heap.size wr) [(true, 0), (true, 1), (true, 2), (true, 3), (true, 4), (true, 5), (true, 6), (true, 7), (true, 8), (true, 9)] (List.cons_ne_nil _ _) (by kernel_rfl) (by kernel_rfl) (by kernel_rfl) (by kernel_rfl) (by kernel_rfl) ((Below.refl _ _).drew) ?_
      simp only [List.dropLast_cons_cons, List.dropLast_singleton, List.getLast_cons_cons, List.getLast_singleton, withOps, List.map_cons, List.map_nil, List.getElem?_cons_succ, List.getElem?_cons_zero]
      repeat (refine walkH_read (by rfl) (by (intro gx; go_simp; try (with_reducible rfl))) ?_; try simp only [Act.put, List.setIfInBounds_toArray, List.set_cons_zero, List.set_cons_succ])
      refine lastPost_do (fun K hK => ?_)
      refine step_copy_own (by rfl) (.tmp 49) (.tmp 54) 36 36 (by rfl) 3 Tryd.underlying36 (by kernel_rfl) Ha 3 gi nm ci qm gm om _ ((rowF nm (entry M i)).map (Value.int .i64)) (by simp [Act.eval]) (by simp [Act.eval]) ((unhide HOW).below (Below.refl _ _).drew) (by simp [rowF_len]) ?_ ?_ ?_
      · intro j v hv
        have hj : j < nm := by
          have := (List.getElem?_eq_some_iff.1 hv).1
          simpa [rowF_len] using this
        have := unhide HCM j hj
        simp [rowF, hj] at hv
        rw [← hv]
        exact this
      · exact ints_oneCell _ _
      · intro w' hO hF hB
        refine hK _ _ ?_
        clear hK K
        refine NoPanic.normal ?_
        have HO := hide hO
        have HF := hide hF
        have HB := hide hB
        clear hO hF hB
        try simp only [Act.put, List.setIfInBounds_toArray, List.set_cons_zero, List.set_cons_succ]
        go_wp2
        go_roundw
        case rel =>
          refine ⟨i + 1, by omega, by go_num, hide ?_⟩
          have hgj := (unhide HG).gj.setA hlt (unhide HUI) (unhide HO) (unhide HF) (unhide HB).size
          obtain ⟨_, cur, hcur⟩ := own_block (unhide HOW)
          have := (unhide HG).keep hcur (by decide) (unhide HF) (B := Ha) ((Below.refl Ha wr).drew.trans (unhide HB)) (unhide HG).ba hgj
          have e : (fun r c => if r = i then entry M i c else if r < i then entry M r c else 0) = (fun r c => if r < i + 1 then entry M r c else 0) := by
            funext r c
            by_cases h1 : r = i
            · subst h1; simp
            · by_cases h2 : r < i
              · simp [h1, h2, show r < i + 1 by omega]
              · simp [h1, h2, show ¬ r < i + 1 by omega]
          rw [e] at this
          exact this
        case measure => simp [intOf]; omega
    · have hlt' : ¬ (i : Int) < nm := by omega
      obtain rfl : i = nm := by omega
      have hT0 : Two i (entry M) (fun r c => if r < i then entry M r c else 0) idx := by
        have hby := (unhide HSQ).byt
        rw [unhide HL] at hby
        exact (Two.start hby).eq (fun r c hr hc => by simp [hr]) (EqK.refl _)
      have hby0 : BytK i (fun r c => if r < i then entry M r c else 0) := fun r c hr hc => by
        have hby := (unhide HSQ).byt
        rw [unhide HL] at hby
        simp only [hr, if_true]
        exact hby r c hr hc
      have HT0 := hide (show _ ∧ _ ∧ _ ∧ _ from ⟨hT0, (fun r j _ hj => absurd hj (Nat.not_lt_zero _) : UnitTo i (fun r c => if r < i then entry M r c else 0) 0), hby0, idx_byt i⟩)
      clear hT0 hby0
      go_wp2
      go_loopw [9] (fun cv wr => ∃ c : Nat, c ≤ i ∧ cv = .int .i64 c ∧ ∃ usa uso fa fo, Hid (GS w wr b o i cm Bo Ha i ga ca go co g5 g7 usa uso fa fo) ∧ Hid (Two i (entry M) fa fo ∧ UnitTo i fa c ∧ BytK i fa ∧ BytK i fo)) (fun cv _ => i - (intOf cv).toNat)
      case atStart => exact ⟨0, by omega, rfl, usa, uso, _, _, HG, HT0⟩
      case round =>
        clear HG HT0
        obtain ⟨c, hc, rfl, usa, uso, fa, fo, HG, HT⟩ := hrel
        by_cases hltc : c < i
        · have hltc' : (c : Int) < i := by omega
          go_wp2
          go_loop [10] (fun av => ∃ t : Nat, c ≤ t ∧ t ≤ i ∧ av = .int .i64 t ∧ Hid (∀ r, c ≤ r → r < t → fa r c = 0)) (fun av => i - (intOf av).toNat)
          case atStart => exact ⟨c, Nat.le_refl _, by omega, rfl, hide (fun r h1 h2 => by omega)⟩
          case round =>
            obtain ⟨t, ht1, ht2, rfl, HZ⟩ := hrel
            have c7 := cell_of_one (unhide HG).x7
            by_cases hltt : t < i
            · have hltt' : (t : Int) < i := by omega
              obtain ⟨gt, ct, hut, hgt, hct, howt, hcc⟩ := rowAt (unhide HG).gj.a hltt
              have hv := hcc c hltc
              clear hcc howt hut hgt
              by_cases hz : fa t c = 0
              · rw [hz] at hv
                go_wp2
                go_round
                case rel =>
                  refine ⟨t + 1, by omega, by omega, by go_num, hide (fun r h1 h2 => ?_)⟩
                  by_cases q : r = t
                  · rw [q]; exact hz
                  · exact unhide HZ r h1 (by omega)
                case measure => simp [intOf]; omega
              · obtain ⟨y, ey⟩ : ∃ y, y = fa t c := ⟨_, rfl⟩
                rw [← ey] at hv
                have hy0 : ¬ (y : Int) = 0 := by omega
                have hy0' : ¬ y = 0 := by omega
                have hti : ¬ (t : Int) = i := by omega
                have hti' : ¬ t = i := by omega
                have EY := hide ey
                clear ey HZ
                go_wp2_with fail
                have hga := own_block (unhide HG).gj.a.outer
                have hgo := own_block (unhide HG).gj.o.outer
                refine (swap_own Ha ga i ca c t usa (matF i i fa) wr (unhide HG).gj.a (matF_len _ _ _) hltc hltt n2 hga.1 (unhide HG).gj.hs).mono ?_
                rintro e w1 ⟨rfl, hr1, hf1, hb1⟩
                have HG1 := hide ((unhide HG).keep hga.2.choose_spec (by decide) hf1 hb1 (unhide HG).ba ((unhide HG).gj.swapA hltc hltt hr1 hf1 hb1.size))
                clear hr1 hf1 hb1 hga c7 hct hv
                have c5 := cell_of_one (unhide HG1).x5
                go_wp2_with fail
                have hgo1 := own_block (unhide HG1).gj.o.outer
                refine (swap_own Bo go i co c t uso (matF i i fo) w1 (unhide HG1).gj.o (matF_len _ _ _) hltc hltt n2 hgo1.1 (Nat.le_trans (unhide HG1).ba (unhide HG1).gj.hs)).mono ?_
                rintro e w2 ⟨rfl, hr2, hf2, hb2⟩
                have HG2 := hide ((unhide HG1).keep hgo1.2.choose_spec (by decide) hf2 hb2 (Nat.le_refl _) ((unhide HG1).gj.swapO hltc hltt hr2 hf2 hb2.size))
                clear hr2 hf2 hb2 hgo hgo1 c5 HG1 HG
                have HT2 : Hid (Two i (entry M) (fun r s => fa (sw c t r) s) (fun r s => fo (sw c t r) s) ∧ UnitTo i (fun r s => fa (sw c t r) s) c ∧ BytK i (fun r s => fa (sw c t r) s) ∧ BytK i (fun r s => fo (sw c t r) s)) := hide ⟨(unhide HT).1.swap hltc hltt (unhide HT).2.2.1 (unhide HT).2.2.2, (unhide HT).2.1.swap hltc ht1 hltt, sw_byt (unhide HT).2.2.1 hltc hltt, sw_byt (unhide HT).2.2.2 hltc hltt⟩
                have EP : Hid (y = (fun r s => fa (sw c t r) s) c c) := hide (by rw [unhide EY]; simp [sw])
                have hy256 : y < 256 := by rw [unhide EY]; exact (unhide HT).2.2.1 t c hltt hltc
                generalize (fun r s => fa (sw c t r) s) = fa2 at HG2 HT2 EP
                generalize (fun r s => fo (sw c t r) s) = fo2 at HG2 HT2
                generalize swapL usa c t undef = usa2 at HG2
                generalize swapL uso c t undef = uso2 at HG2
                obtain ⟨gc, cc, huc, hgc, hcc, hoc, hvc⟩ := rowAt (unhide HG2).gj.a hltc
                have hvv := hvc c hltc
                rw [← unhide EP] at hvv
                have c7 := cell_of_one (unhide HG2).x7
                have HUC := hide huc
                have HOC := hide hoc
                clear huc hoc hvc HT EY
                go_wp2_with fail
                refine (refinv_any y w2 hy256 hy0').mono ?_
                rintro e w2' ⟨rfl, rfl⟩
                have hxlt := Gf.inv_lt y
                have hx0 := Gf.inv_ne hy256 hy0'
                have EX : Hid (Gf.inv y = Gf.inv (fa2 c c)) := hide (by rw [unhide EP])
                generalize hxx : Gf.inv y = x at hxlt hx0 EX ⊢
                clear hxx
                go_wp2_with fail
                refine (times_own Ha 3 gc i cc x (fa2 c) w2' (unhide HOC) n2 hgc (fun s hs => (unhide HT2).2.2.1 c s hltc hs)).mono ?_
                rintro e w3 ⟨rfl, ho3, hf3, hb3⟩
                have HG3 := hide ((unhide HG2).keep (own_block (unhide HOC)).2.choose_spec (by decide) hf3 hb3 (unhide HG2).ba ((unhide HG2).gj.setA hltc (unhide HUC) ho3 hf3 hb3.size))
                clear ho3 hf3 hb3 c7 hcc hvv
                obtain ⟨gd, cd, hud, hgd, hcd, hod, _⟩ := rowAt (unhide HG3).gj.o hltc
                have c5 := cell_of_one (unhide HG3).x5
                have HUD := hide hud
                have HOD := hide hod
                clear hud hod
                go_wp2_with fail
                refine (times_own Bo 3 gd i cd x (fo2 c) w3 (unhide HOD) n2 hgd (fun s hs => (unhide HT2).2.2.2 c s hltc hs)).mono ?_
                rintro e w4 ⟨rfl, ho4, hf4, hb4⟩
                have HG4 := hide ((unhide HG3).keep (own_block (unhide HOD)).2.choose_spec (by decide) hf4 hb4 (Nat.le_refl _) ((unhide HG3).gj.setO hltc (unhide HUD) ho4 hf4 hb4.size))
                clear ho4 hf4 hb4 c5 hcd HUC HOC HUD HOD HG2 HG3
                rw [show (fun r s => if r = c then Gf.mul (fa2 c s) x else fa2 r s) = sc c x fa2 from sc_row c x fa2, show (fun r s => if r = c then Gf.mul (fo2 c s) x else fo2 r s) = sc c x fo2 from sc_row c x fo2] at HG4
                have HT4 : Hid ((Two i (entry M) (sc c x fa2) (sc c x fo2) ∧ UnitTo i (sc c x fa2) c ∧ BytK i (sc c x fa2) ∧ BytK i (sc c x fo2)) ∧ ColTo i (sc c x fa2) c 0) := hide ⟨⟨(unhide HT2).1.scale hxlt hx0 (unhide HT2).2.2.1 (unhide HT2).2.2.2, (unhide HT2).2.1.scale hltc, sc_byt (unhide HT2).2.2.1, sc_byt (unhide HT2).2.2.2⟩, by rw [unhide EX]; exact ColTo.scaled (unhide HT2).2.2.1 hltc (by rw [← unhide EP]; exact hy0')⟩
                generalize sc c x fa2 = fa4 at HG4 HT4
                generalize sc c x fo2 = fo4 at HG4 HT4
                clear HT2 EP EX
                go_wp2
                go_loopw [12] (fun iv wr => ∃ j : Nat, j ≤ i ∧ iv = .int .i64 j ∧ ∃ fa fo, Hid (GS w wr b o i cm Bo Ha i ga ca go co g5 g7 usa2 uso2 fa fo) ∧ Hid ((Two i (entry M) fa fo ∧ UnitTo i fa c ∧ BytK i fa ∧ BytK i fo) ∧ ColTo i fa c j)) (fun iv _ => i - (intOf iv).toNat)
                case atStart => exact ⟨0, by omega, rfl, fa4, fo4, HG4, HT4⟩
                case round =>
                  clear HG4 HT4
                  obtain ⟨j, hj, rfl, fa5, fo5, HG, HT⟩ := hrel
                  by_cases hltj : j < i
                  · have hltj' : (j : Int) < i := by omega
                    by_cases hjc : j = c
                    · subst hjc
                      have tjc : ((j : Int) != (j : Int)) = false := by simp
                      go_wp2
                      go_roundw
                      case rel => exact ⟨j + 1, by omega, by go_num, fa5, fo5, HG, hide ⟨(unhide HT).1, (unhide HT).2.same rfl⟩⟩
                      case measure => simp [intOf]; omega
                    · have tjc : ((j : Int) != (c : Int)) = true := by simp; omega
                      obtain ⟨gj', cj', huj, hgj', hcj, hoj, hvj⟩ := rowAt (unhide HG).gj.a hltj
                      obtain ⟨gc', cc', huc, hgc', hcc', hoc', _⟩ := rowAt (unhide HG).gj.a hltc
                      have hv := hvj c hltc
                      obtain ⟨z, ez⟩ : ∃ z, z = fa5 j c := ⟨_, rfl⟩
                      rw [← ez] at hv
                      have EZ := hide ez
                      have c7 := cell_of_one (unhide HG).x7
                      have hne : gc' ≠ gj' := fun e => (unhide HG).gj.a.apart c j _ _ huc huj (Ne.symm hjc) gc' rfl (by rw [e]; rfl)
                      have HUJ := hide huj
                      have HOJ := hide hoj
                      have HOC := hide hoc'
                      clear huj hoj huc hoc' hvj ez
                      go_wp2_with fail
                      have q7 := kept_cell (B := wr.heap.size) c7 (cell_lt c7)
                      have qj := kept_cell (B := wr.heap.size) hcj (cell_lt hcj)
                      have qc := kept_cell (B := wr.heap.size) hcc' (cell_lt hcc')
                      clear c7 hcj hcc' hv
                      refine wp_region_ord_thenT (S := Below wr.heap.size wr) [(true, 0), (true, 1), (true, 2), (true, 3), (true, 4), (true, 5), (true, 6), (true, 7), (true, 8), (true, 9), (true, 10)] (List.cons_ne_nil _ _) (by kernel_rfl) (by kernel_rfl) (by kernel_rfl) (by kernel_rfl) (by kernel_rfl) ((Below.refl _ _).drew) ?_
                      simp only [List.dropLast_cons_cons, List.dropLast_singleton, List.getLast_cons_cons, List.getLast_singleton, withOps, List.map_cons, List.map_nil, List.getElem?_cons_succ, List.getElem?_cons_zero]
                      repeat (refine walkH_read (by rfl) (by (intro gx; go_simp; try (with_reducible rfl))) ?_; try simp only [Act.put, List.setIfInBounds_toArray, List.set_cons_zero, List.set_cons_succ])
                      refine lastPost_of_list ?_
                      simp only [List.cons_append, List.nil_append]
                      clear q7 qj qc
                      go_wp2_with fail
                      have hd1 : Below wr.heap.size wr wr.drew := (Below.refl _ _).drew
                      refine (less_own Ha 3 gj' i cj' gc' cc' z (fa5 j) (fa5 c) wr.drew ((unhide HOJ).below hd1) ((unhide HOC).below hd1) hne n2 hgj' (fun s hs => (unhide HT).1.2.2.1 j s hltj hs) (fun s hs => (unhide HT).1.2.2.1 c s hltc hs)).mono ?_
                      rintro e w6 ⟨rfl, ho6, hf6, hb6⟩
                      have HG6 := hide (((unhide HG).below hd1).keep (own_block ((unhide HOJ).below hd1)).2.choose_spec (by decide) hf6 hb6 (unhide HG).ba (((unhide HG).below hd1).gj.setA hltj (unhide HUJ) ho6 hf6 hb6.size))
                      rw [ad_row j c z fa5] at HG6
                      clear ho6 hf6 hb6 hd1 HUJ HOJ HOC
                      go_wp2
                      refine NoPanic.normal ?_
                      go_wp2
                      obtain ⟨hj6, dj6, huj, hhj6, hcj, hoj, _⟩ := rowAt (unhide HG6).gj.o hltj
                      obtain ⟨hc6, dc6, huc, hhc6, hcc6, hoc, _⟩ := rowAt (unhide HG6).gj.o hltc
                      have c5 := cell_of_one (unhide HG6).x5
                      have hne6 : hc6 ≠ hj6 := fun e => (unhide HG6).gj.o.apart c j _ _ huc huj (Ne.symm hjc) hc6 rfl (by rw [e]; rfl)
                      have q5 := kept_cell (B := w6.heap.size) c5 (cell_lt c5)
                      have qj := kept_cell (B := w6.heap.size) hcj (cell_lt hcj)
                      have qc := kept_cell (B := w6.heap.size) hcc6 (cell_lt hcc6)
                      have HUJ := hide huj
                      have HOJ := hide hoj
                      have HOC := hide hoc
                      clear huj hoj huc hoc c5 hcj hcc6
                      refine wp_region_ord_thenT (S := Below w6.heap.size w6) [(true, 0), (true, 1), (true, 2), (true, 3), (true, 4), (true, 5), (true, 6), (true, 7), (true, 8), (true, 9), (true, 10)] (List.cons_ne_nil _ _) (by kernel_rfl) (by kernel_rfl) (by kernel_rfl) (by kernel_rfl) (by kernel_rfl) ((Below.refl _ _).drew) ?_
                      simp only [List.dropLast_cons_cons, List.dropLast_singleton, List.getLast_cons_cons, List.getLast_singleton, withOps, List.map_cons, List.map_nil, List.getElem?_cons_succ, List.getElem?_cons_zero]
                      repeat (refine walkH_read (by rfl) (by (intro gx; go_simp; try (with_reducible rfl))) ?_; try simp only [Act.put, List.setIfInBounds_toArray, List.set_cons_zero, List.set_cons_succ])
                      refine lastPost_of_list ?_
                      simp only [List.cons_append, List.nil_append]
                      clear q5 qj qc
                      go_wp2_with fail
                      have hd1 : Below w6.heap.size w6 w6.drew := (Below.refl _ _).drew
                      refine (less_own Bo 3 hj6 i dj6 hc6 dc6 z (fo5 j) (fo5 c) w6.drew ((unhide HOJ).below hd1) ((unhide HOC).below hd1) hne6 n2 hhj6 (fun s hs => (unhide HT).1.2.2.2 j s hltj hs) (fun s hs => (unhide HT).1.2.2.2 c s hltc hs)).mono ?_
                      rintro e w7 ⟨rfl, ho7, hf7, hb7⟩
                      have HG7 := hide (((unhide HG6).below hd1).keep (own_block ((unhide HOJ).below hd1)).2.choose_spec (by decide) hf7 hb7 (Nat.le_refl _) (((unhide HG6).below hd1).gj.setO hltj (unhide HUJ) ho7 hf7 hb7.size))
                      rw [ad_row j c z fo5] at HG7
                      clear ho7 hf7 hb7 hd1 HUJ HOJ HOC
                      go_wp2
                      refine NoPanic.normal ?_
                      go_wp2
                      go_roundw
                      case rel =>
                        have hz : z < 256 := by rw [unhide EZ]; exact (unhide HT).1.2.2.1 j c hltj hltc
                        refine ⟨j + 1, by omega, by go_num, _, _, HG7, hide ⟨⟨(unhide HT).1.1.add hjc hltc hz (unhide HT).1.2.2.1 (unhide HT).1.2.2.2, (unhide HT).1.2.1.add hltc, ad_byt (unhide HT).1.2.2.1, ad_byt (unhide HT).1.2.2.2⟩, ?_⟩⟩
                        rw [unhide EZ]
                        exact (unhide HT).2.added (unhide HT).1.2.2.1 hltj hjc hltc
                      case measure => simp [intOf]; omega
                  · have hltj' : ¬ (j : Int) < i := by omega
                    obtain rfl : j = i := by omega
                    go_wp2
                    go_roundw
                    case rel => exact ⟨c + 1, by omega, by go_num, usa2, uso2, fa5, fo5, HG, hide ⟨(unhide HT).1.1, (unhide HT).1.2.1.next (unhide HT).2, (unhide HT).1.2.2.1, (unhide HT).1.2.2.2⟩⟩
                    case measure => simp [intOf]; omega
            · have hltt' : ¬ (t : Int) < i := by omega
              obtain rfl : t = i := by omega
              have x2 := (unhide HG).x2
              have c2 := cell_of_one x2
              have f2 := free_of_one x2
              have HNO := hide (stuck_at (unhide HSQ) (unhide HL) (unhide HT) hltc (unhide HZ))
              clear HZ
              go_wp2
              have cr := cell_of_one (one_setCell (u := .slice none 0 0) x2)
              have hpost : invPost M w (.returned (.tuple #[.agg #[.slice none 0 0], .int .i64 401])) (wr.setCell ⟨w.heap.size + 1, 0, none⟩ (.slice none 0 0)) := ⟨_, ([], 401), unhide HNO, rfl, OwnM.nil _ _ _ _, (unhide HG).bl.setCell (by show _ ≤ w.heap.size + 1; omega) _⟩
              exact bodyPost_ret (res_mat Tryd.results33 _ rfl rfl cr) rfl hpost
        · have hltc' : ¬ (c : Int) < i := by omega
          obtain rfl : c = i := by omega
          have x2 := (unhide HG).x2
          have c2 := cell_of_one x2
          have f2 := free_of_one x2
          have c5 := cell_of_one (unhide HG).x5
          have HND := hide (done_at (unhide HSQ) (unhide HL) (unhide HT))
          go_wp2
          have cr := cell_of_one (one_setCell (u := .slice (some ⟨go, 0, none⟩) c co) x2)
          have hpost : invPost M w (.returned (.tuple #[.agg #[.slice (some ⟨go, 0, none⟩) c co], .int .i64 0])) (wr.setCell ⟨w.heap.size + 1, 0, none⟩ (.slice (some ⟨go, 0, none⟩) c co)) := by
            have hbo := (unhide HG).bo
            exact ⟨_, (matF c c fo, 0), unhide HND, rfl, OwnM.mono (B := Bo) ⟨uso, (unhide HG).gj.o.setBelow (by show w.heap.size + 1 < _; omega) _⟩ (by omega), (unhide HG).bl.setCell (by show _ ≤ w.heap.size + 1; omega) _⟩
          exact bodyPost_ret (res_mat Tryd.results33 _ rfl rfl cr) rfl hpost
theorem refInvert_any (v : Value) (M : List (List Int)) (w : World) (hm : MatV w v M) : Calls Tryd.prog 33 #[v] w (invPost M w) := by
  have hm' := hm
  obtain ⟨pm, nm, cm, rfl, _⟩ := hm'
  by_cases h1 : MMay M
  · by_cases h2 : M.length = (M.getD 0 []).length
    · exact refInvert_sq pm nm cm M w hm ⟨h1, h2⟩
    · refine (refInvert_noSq pm nm cm M w hm h1 h2).mono ?_
      rintro e w' ⟨rfl, hb⟩
      exact ⟨_, ([], 400), .inl ⟨fun h => h2 h.2, rfl⟩, rfl, OwnM.nil _ _ _ _, hb⟩
  · refine (refInvert_noMay pm nm cm M w hm h1).mono ?_
    rintro e w' ⟨rfl, hb⟩
    exact ⟨_, ([], 400), .inl ⟨fun h => h1 h.1, rfl⟩, rfl, OwnM.nil _ _ _ _, hb⟩
end Go.Proofs.YtcgagkaalbljmaaDoor
/- Inverses: of an inverse, of a product, of a diagonal; matrices that have none. -/
namespace Go.Proofs.YtcgagkaalbljmaaDoor
open Go.RowKit
set_option linter.unusedVariables false
set_option linter.unusedSimpArgs false
/-- a matrix of k rows and k columns -/
def Sq (k : Nat) (M : List (List Int)) : Prop := SqMay M ∧ M.length = k
theorem Sq.form {k : Nat} {M : List (List Int)} (h : Sq k M) : M = matF k k (entry M) := by
  have := h.1.form
  rwa [h.2] at this
theorem Sq.byt {k : Nat} {M : List (List Int)} (h : Sq k M) : BytK k (entry M) := by
  have := h.1.byt
  rwa [h.2] at this
theorem Sq.pos {k : Nat} {M : List (List Int)} (h : Sq k M) : 1 ≤ k ∧ k ≤ 12 := ⟨by rw [← h.2]; exact h.1.1.1, by rw [← h.2]; exact h.1.1.2.1⟩
theorem Sq.head {k : Nat} {M : List (List Int)} (h : Sq k M) : (M.getD 0 []).length = k := by rw [← h.1.2, h.2]
theorem sq_mul {k : Nat} {A B : List (List Int)} (hA : Sq k A) (hB : Sq k B) : Sq k (mulM A B) :=
  ⟨⟨mulM_may hA.1.1 hB.1.1, by rw [mulM_len, mulM_head hA.1.1.1, hA.2, hB.head]⟩, by rw [mulM_len, hA.2]⟩
theorem sq_may {k : Nat} {A B : List (List Int)} (hA : Sq k A) (hB : Sq k B) : MulMay A B := ⟨hA.1.1, hB.1.1, by rw [hA.head, hB.2]⟩
theorem sq_assoc {k : Nat} {A B C : List (List Int)} (hA : Sq k A) (hB : Sq k B) (hC : Sq k C) : mulM (mulM A B) C = mulM A (mulM B C) :=
  mulM_assoc hA.1.1.1 hB.1.1.1 (by rw [hA.head, hB.2]) (by rw [hB.head, hC.2])
theorem id_sq {k : Nat} {B : List (List Int)} (hB : Sq k B) : mulM (idM k) B = B := by
  have := idM_mul hB.1.1
  rwa [hB.2] at this
theorem InvOf.sq {k : Nat} {M N : List (List Int)} (hM : Sq k M) (h : InvOf M N) : Sq k N := ⟨⟨h.1, by rw [h.2.1, h.2.2.1]⟩, by rw [h.2.1, hM.2]⟩
theorem InvOf.left {k : Nat} {M N : List (List Int)} (hM : Sq k M) (h : InvOf M N) : mulM N M = idM k := by
  have := h.2.2.2.1
  rwa [hM.2] at this
theorem InvOf.right {k : Nat} {M N : List (List Int)} (hM : Sq k M) (h : InvOf M N) : mulM M N = idM k := by
  have := h.2.2.2.2
  rwa [hM.2] at this
theorem InvOf.mk' {k : Nat} {M N : List (List Int)} (hM : Sq k M) (hN : Sq k N) (h1 : mulM N M = idM k) (h2 : mulM M N = idM k) : InvOf M N :=
  ⟨hN.1.1, by rw [hN.2, hM.2], by rw [hN.head, hM.2], by rw [hM.2]; exact h1, by rw [hM.2]; exact h2⟩
/-- the inverse's own is the matrix -/
theorem InvOf.back {k : Nat} {M N : List (List Int)} (hM : Sq k M) (h : InvOf M N) : InvOf N M := InvOf.mk' (h.sq hM) hM (h.right hM) (h.left hM)
/-- the inverse of a product: the other way round -/
theorem InvOf.prod {k : Nat} {A B X Y : List (List Int)} (hA : Sq k A) (hB : Sq k B) (hX : InvOf A X) (hY : InvOf B Y) : InvOf (mulM A B) (mulM Y X) := by
  have sX := hX.sq hA
  have sY := hY.sq hB
  refine InvOf.mk' (sq_mul hA hB) (sq_mul sY sX) ?_ ?_
  · rw [sq_assoc sY sX (sq_mul hA hB), ← sq_assoc sX hA hB, hX.left hA, id_sq hB, hY.left hB]
  · rw [sq_assoc hA hB (sq_mul sY sX), ← sq_assoc hB sY sX, hY.right hB, id_sq sX, hX.right hA]
theorem inv_at {k : Nat} {M N : List (List Int)} (hM : Sq k M) (h : InvOf M N) {r c : Nat} (hr : r < k) (hc : c < k) : dot M N r c k = idx r c := by
  have sN := h.sq hM
  have e := congrArg (fun M => entry M r c) (h.right hM)
  rw [entry_mulM (by rw [hM.2]; exact hr) (by rw [sN.head]; exact hc), idM_idx, entry_matF hr hc, sN.2] at e
  exact e
/-- two equal rows: there is none -/
theorem no_inv_rows {k : Nat} {M : List (List Int)} (hM : Sq k M) {i j : Nat} (hi : i < k) (hj : j < k) (hij : i ≠ j) (h : M.getD i [] = M.getD j []) : ¬ ∃ N, InvOf M N := by
  rintro ⟨N, hN⟩
  have e1 := inv_at hM hN hi hi
  have e2 := inv_at hM hN hj hi
  rw [dot_row (A' := M) (r' := j) h] at e1
  rw [e1] at e2
  simp [idx, Ne.symm hij] at e2
/-- a row of noughts: there is none -/
theorem no_inv_zero {k : Nat} {M : List (List Int)} (hM : Sq k M) {i : Nat} (hi : i < k) (h : ∀ c, c < k → entry M i c = 0) : ¬ ∃ N, InvOf M N := by
  rintro ⟨N, hN⟩
  have e1 := inv_at hM hN hi hi
  rw [dot_xsum, xsum_congr (g := fun _ => 0) (fun t ht => by rw [h t ht, Gf.zero_mul]), xsum_zero] at e1
  simp [idx] at e1
/-- a diagonal -/
def diagM (k : Nat) (d : Nat → Nat) : List (List Int) := matF k k (fun r c => if r = c then d r else 0)
theorem diag_sq {k : Nat} {d : Nat → Nat} (h1 : 1 ≤ k) (h2 : k ≤ 12) (hd : ∀ r, r < k → d r < 256) : Sq k (diagM k d) :=
  ⟨sq_matF h1 h2 (fun r c hr hc => by show (if r = c then d r else 0) < 256; split; exact hd r hr; decide), matF_len _ _ _⟩
theorem diag_none {k : Nat} {d : Nat → Nat} (h1 : 1 ≤ k) (h2 : k ≤ 12) (hd : ∀ r, r < k → d r < 256) {i : Nat} (hi : i < k) (h0 : d i = 0) : ¬ ∃ N, InvOf (diagM k d) N :=
  no_inv_zero (diag_sq h1 h2 hd) hi (fun c hc => by rw [diagM, entry_matF hi hc]; split <;> first | exact h0 | rfl)
theorem diag_some {k : Nat} {d : Nat → Nat} (h1 : 1 ≤ k) (h2 : k ≤ 12) (hd : ∀ r, r < k → d r < 256) (h0 : ∀ r, r < k → d r ≠ 0) : ∃ N, InvOf (diagM k d) N := by
  have sN : Sq k (diagM k (fun r => Gf.inv (d r))) := diag_sq h1 h2 (fun r _ => Gf.inv_lt _)
  have key : ∀ (f g : Nat → Nat), (∀ r, r < k → Gf.mul (f r) (g r) = 1) → mulM (diagM k f) (diagM k g) = idM k := fun f g hfg => by
    unfold diagM
    rw [mulM_mm (by omega), idM_idx]
    refine matF_congr (fun r c hr hc => ?_)
    unfold mm
    rw [xsum_one (j := r) hr (fun t ht hne => by simp [Ne.symm hne, Gf.zero_mul])]
    by_cases h : r = c
    · subst h; simp [idx, hfg r hr]
    · simp [idx, h, Gf.mul_zero]
  exact ⟨_, InvOf.mk' (diag_sq h1 h2 hd) sN (key _ _ (fun r hr => Gf.inv_mul (hd r hr) (h0 r hr))) (key _ _ (fun r hr => Gf.mul_inv (hd r hr) (h0 r hr)))⟩
/-- the inverse of a diagonal has noughts beside it -/
theorem diag_off {k : Nat} {d : Nat → Nat} (h1 : 1 ≤ k) (h2 : k ≤ 12) (hd : ∀ r, r < k → d r < 256) (h0 : ∀ r, r < k → d r ≠ 0) {N : List (List Int)} (hN : InvOf (diagM k d) N) {i j : Nat} (hi : i < k) (hj : j < k) (hij : i ≠ j) : entry N i j = 0 := by
  have sD := diag_sq h1 h2 hd
  have sN := hN.sq sD
  have e := congrArg (fun M => entry M i j) (hN.left sD)
  rw [entry_mulM (by rw [sN.2]; exact hi) (by rw [sD.head]; exact hj), idM_idx, entry_matF hi hj, sD.2, dot_xsum, xsum_one (j := j) hj (fun t ht hne => by rw [diagM, entry_matF ht hj]; simp [hne, Gf.mul_zero])] at e
  rw [diagM, entry_matF hj hj] at e
  simp only [if_true, idx, if_neg hij] at e
  rcases (Gf.mul_eq_zero (sN.byt i j hi hj) (hd j hj)).1 e with h | h
  · exact h
  · exact absurd h (h0 j hj)
end Go.Proofs.YtcgagkaalbljmaaDoor
