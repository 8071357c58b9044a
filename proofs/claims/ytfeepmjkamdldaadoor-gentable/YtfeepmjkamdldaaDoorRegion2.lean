/- A region that leaves its order open, by one predicate an operation; its last operations, stores that wait for all others, at the end. -/
import Derived.Test.YtfeepmjkamdldaaDoorHoist
namespace Go.Proofs.YtfeepmjkamdldaaDoor
open Go.RowKit
set_option linter.unusedVariables false
set_option linter.unusedSimpArgs false
section
variable {P : Program} {Q : Exit → Act → World → Prop} {ops : Array Oper}
theorem wpAny_each {a : Act} {w : World} (ds : List Tmp) (Pred : Nat → Value → World → Prop)
    (hlen : ds.length = ops.size) (hinit : ∃ vs, vs.length = ds.length ∧ a = putAll a ds vs)
    (hedge : edgesBack ops = true)
    (hstable : ∀ i v w w', Pred i v w → Below w.heap.size w w' → Pred i v w')
    (hstep : ∀ (i : Nat) (o : Oper) (vs : List Value) (w' : World), ops[i]? = some o → vs.length = ds.length → Below w.heap.size w w' → (∀ e ∈ o.after, Region.binds .any e = true → Pred e.on (vs.getD e.on undef) w') →
      wpOp P ops Q i (fun a' w'' => ∃ v, a' = putAll a ds (vs.set i v) ∧ Pred i v w'' ∧ Below w'.heap.size w' w'') (putAll a ds vs) w')
    (hend : ∀ (vs : List Value) (w' : World), vs.length = ds.length → Below w.heap.size w w' → (∀ i, i < ds.length → Pred i (vs.getD i undef) w') → Q .normal (putAll a ds vs) w') :
    wpAny P .any ops Q ops.size (Array.replicate ops.size false) a w.drew := by
  refine wpAny_inv (Between ops a w ds Pred) ?_ ?_ ops.size _ a _ (by simp) ?_
  · intro listed a' w' i ⟨hs, hb, vs, hl, ha, hp⟩ hi
    obtain ⟨h1, o, ho, h2⟩ := mem_ready.1 hi
    rw [ha]
    refine wpOp_mono ?_ (hstep i o vs w' ho hl hb (fun e he hbd => hp _ (h2 e he hbd)))
    rintro a'' w'' ⟨v, rfl, hv, hb'⟩
    refine ⟨by simpa using hs, bt hb hb', vs.set i v, by simpa using hl, rfl, fun j hj => ?_⟩
    have hilt : i < ops.size := (Array.getElem?_eq_some_iff.1 ho).1
    by_cases hji : j = i
    · subst hji
      have : (vs.set j v).getD j undef = v := by simp [List.getD, show j < vs.length by omega]
      rw [this]; exact hv
    · have e1 : (vs.set i v).getD j undef = vs.getD j undef := by simp [List.getD, Ne.symm hji]
      rw [e1]
      refine hstable j _ w' w'' (hp j ?_) hb'
      simpa [Array.getElem?_setIfInBounds, Ne.symm hji] using hj
  · intro listed a' w' ⟨hs, hb, vs, hl, ha, hp⟩ hr
    rw [ha]
    exact hend vs w' hl hb (fun i hi => hp i (all_listed hs (edgesBack_spec hedge) hr (i + 1) i (by omega) (by omega)))
  · obtain ⟨vs, h1, h2⟩ := hinit
    refine ⟨by simp, (Below.refl _ _).drew, vs, h1, h2, fun i hi => ?_⟩
    exfalso
    by_cases h : i < ops.size
    · simp [h] at hi
    · simp [h] at hi
/-- what is known between two operations, and that the values of each two are apart -/
def Between2 (ops : Array Oper) (a0 : Act) (W0 : World) (ds : List Tmp) (Pred : Nat → Value → World → Prop) (Apart : Nat → Nat → Value → Value → Prop) (listed : Array Bool) (a : Act) (w : World) : Prop :=
  listed.size = ops.size ∧ Below W0.heap.size W0 w ∧ ∃ vs, vs.length = ds.length ∧ a = putAll a0 ds vs ∧ (∀ i, listed.getD i false = true → Pred i (vs.getD i undef) w) ∧ ∀ i j, i ≠ j → listed.getD i false = true → listed.getD j false = true → Apart i j (vs.getD i undef) (vs.getD j undef)
theorem wpAny_each2 {a : Act} {w : World} (ds : List Tmp) (Pred : Nat → Value → World → Prop) (Apart : Nat → Nat → Value → Value → Prop)
    (hlen : ds.length = ops.size) (hinit : ∃ vs, vs.length = ds.length ∧ a = putAll a ds vs)
    (hedge : edgesBack ops = true)
    (hstable : ∀ i v w w', Pred i v w → Below w.heap.size w w' → Pred i v w')
    (hstep : ∀ (i : Nat) (o : Oper) (vs : List Value) (w' : World), ops[i]? = some o → vs.length = ds.length → Below w.heap.size w w' → (∀ e ∈ o.after, Region.binds .any e = true → Pred e.on (vs.getD e.on undef) w') →
      wpOp P ops Q i (fun a' w'' => ∃ v, a' = putAll a ds (vs.set i v) ∧ Pred i v w'' ∧ Below w'.heap.size w' w'' ∧ ∀ j x, j ≠ i → Pred j x w' → Apart i j v x ∧ Apart j i x v) (putAll a ds vs) w')
    (hend : ∀ (vs : List Value) (w' : World), vs.length = ds.length → Below w.heap.size w w' → (∀ i, i < ds.length → Pred i (vs.getD i undef) w') → (∀ i j, i ≠ j → i < ds.length → j < ds.length → Apart i j (vs.getD i undef) (vs.getD j undef)) → Q .normal (putAll a ds vs) w') :
    wpAny P .any ops Q ops.size (Array.replicate ops.size false) a w.drew := by
  refine wpAny_inv (Between2 ops a w ds Pred Apart) ?_ ?_ ops.size _ a _ (by simp) ?_
  · intro listed a' w' i ⟨hs, hb, vs, hl, ha, hp, hq⟩ hi
    obtain ⟨h1, o, ho, h2⟩ := mem_ready.1 hi
    rw [ha]
    refine wpOp_mono ?_ (hstep i o vs w' ho hl hb (fun e he hbd => hp _ (h2 e he hbd)))
    rintro a'' w'' ⟨v, rfl, hv, hb', hap⟩
    have hilt : i < ops.size := (Array.getElem?_eq_some_iff.1 ho).1
    have ei : (vs.set i v).getD i undef = v := by simp [List.getD, show i < vs.length by omega]
    have ej : ∀ j, j ≠ i → (vs.set i v).getD j undef = vs.getD j undef := fun j hji => by simp [List.getD, Ne.symm hji]
    have el : ∀ j, j ≠ i → (listed.setIfInBounds i true).getD j false = true → listed.getD j false = true := fun j hji hj => by
      simpa [Array.getElem?_setIfInBounds, Ne.symm hji] using hj
    refine ⟨by simpa using hs, bt hb hb', vs.set i v, by simpa using hl, rfl, fun j hj => ?_, fun j k hjk hj hk => ?_⟩
    · by_cases hji : j = i
      · subst hji
        rw [ei]; exact hv
      · rw [ej j hji]
        exact hstable j _ w' w'' (hp j (el j hji hj)) hb'
    · by_cases hji : j = i
      · subst hji
        rw [ei, ej k (Ne.symm hjk)]
        exact (hap k _ (Ne.symm hjk) (hp k (el k (Ne.symm hjk) hk))).1
      · by_cases hki : k = i
        · subst hki
          rw [ei, ej j hji]
          exact (hap j _ hji (hp j (el j hji hj))).2
        · rw [ej j hji, ej k hki]
          exact hq j k hjk (el j hji hj) (el k hki hk)
  · intro listed a' w' ⟨hs, hb, vs, hl, ha, hp, hq⟩ hr
    rw [ha]
    have hall : ∀ i, i < ds.length → listed.getD i false = true := fun i hi => all_listed hs (edgesBack_spec hedge) hr (i + 1) i (by omega) (by omega)
    exact hend vs w' hl hb (fun i hi => hp i (hall i hi)) (fun i j hij hi hj => hq i j hij (hall i hi) (hall j hj))
  · obtain ⟨vs, h1, h2⟩ := hinit
    have hno : ∀ i, (Array.replicate ops.size false).getD i false ≠ true := fun i hi => by
      by_cases h : i < ops.size
      · simp [h] at hi
      · simp [h] at hi
    exact ⟨by simp, (Below.refl _ _).drew, vs, h1, h2, fun i hi => absurd hi (hno i), fun i j _ hi => absurd hi (hno i)⟩
/-- by one predicate an operation; each operation keeps what is known of the others (an operation that leaves no value: give it a slot that isn't there) -/
theorem wp_region_keep {id : Nat} {a : Act} {w : World} (hm : P.follows .mixedOrders = true) (ds : List Tmp) (Pred : Nat → Value → World → Prop)
    (hlen : ds.length = ops.size) (hinit : ∃ vs, vs.length = ds.length ∧ a = putAll a ds vs)
    (hedge : edgesBack ops = true)
    (hstep : ∀ (i : Nat) (o : Oper) (vs : List Value) (w' : World), ops[i]? = some o → vs.length = ds.length → Below w.heap.size w w' → (∀ e ∈ o.after, Region.binds .any e = true → Pred e.on (vs.getD e.on undef) w') →
      wpOp P ops Q i (fun a' w'' => ∃ v, a' = putAll a ds (vs.set i v) ∧ Pred i v w'' ∧ Below w.heap.size w w'' ∧ ∀ j x, j ≠ i → Pred j x w' → Pred j x w'') (putAll a ds vs) w')
    (hend : ∀ (vs : List Value) (w' : World), vs.length = ds.length → Below w.heap.size w w' → (∀ i, i < ds.length → Pred i (vs.getD i undef) w') → Q .normal (putAll a ds vs) w') :
    (Code.region id ops true).wp P Q a w := by
  refine wp_region_inv hm (Between ops a w ds Pred) ?_ ?_ ?_
  · obtain ⟨vs, h1, h2⟩ := hinit
    refine ⟨by simp, (Below.refl _ _).drew, vs, h1, h2, fun i hi => ?_⟩
    exfalso
    by_cases h : i < ops.size
    · simp [h] at hi
    · simp [h] at hi
  · intro listed a' w' i ⟨hs, hb, vs, hl, ha, hp⟩ hi
    obtain ⟨h1, o, ho, h2⟩ := mem_ready.1 hi
    rw [ha]
    refine wpOp_mono ?_ (hstep i o vs w' ho hl hb (fun e he hbd => hp _ (h2 e he hbd)))
    rintro a'' w'' ⟨v, rfl, hv, hb', hkeep⟩
    refine ⟨by simpa using hs, hb', vs.set i v, by simpa using hl, rfl, fun j hj => ?_⟩
    have hilt : i < ops.size := (Array.getElem?_eq_some_iff.1 ho).1
    by_cases hji : j = i
    · subst hji
      have : (vs.set j v).getD j undef = v := by simp [List.getD, show j < vs.length by omega]
      rw [this]; exact hv
    · have e1 : (vs.set i v).getD j undef = vs.getD j undef := by simp [List.getD, Ne.symm hji]
      rw [e1]
      refine hkeep j _ hji (hp j ?_)
      simpa [Array.getElem?_setIfInBounds, Ne.symm hji] using hj
  · intro listed a' w' ⟨hs, hb, vs, hl, ha, hp⟩ hr
    rw [ha]
    exact hend vs w' hl hb (fun i hi => hp i (all_listed hs (edgesBack_spec hedge) hr (i + 1) i (by omega) (by omega)))
/-- an operation that only makes memory keeps what is stable -/
theorem keeps_of_below {Pred : Nat → Value → World → Prop} (hstable : ∀ i v w w', Pred i v w → Below w.heap.size w w' → Pred i v w') {W w w' : World} {i : Nat} (hb : Below W.heap.size W w) (h : Below w.heap.size w w') :
    Below W.heap.size W w' ∧ ∀ j x, j ≠ i → Pred j x w → Pred j x w' := ⟨bt hb h, fun j x _ hp => hstable j x w w' hp h⟩
/-- what must have come up ahead of the operations S: all that they wait for, and all that that waits for -/
def pull (l : List Oper) : Nat → List Nat → List Nat
  | 0, S => S
  | k + 1, S => pull l k (if S.contains k then S ++ (match l[k]? with | some p => (p.after.filter (fun e => Region.binds .any e)).toList.map (fun e => e.on) | none => []) else S)
/-- o, behind l, waits for every operation of l, itself or by another -/
def lastOkT (l : List Oper) (o : Oper) : Bool :=
  (List.range l.length).all (fun j => (pull l l.length ((o.after.filter (fun e => Region.binds .any e)).toList.map (fun e => e.on))).contains j) && o.after.all (fun e => !Region.binds .any e || decide (e.on < l.length)) &&
  l.all (fun p => match p.guard with | some (g, _) => decide (g < l.length) | none => true) && edgesBack l.toArray
/-- whatever has come up: what it waits for has, too -/
def Closed (l : List Oper) (L : Array Bool) : Prop := ∀ (i : Nat) p, l[i]? = some p → L.getD i false = true → ∀ e ∈ p.after, Region.binds .any e = true → L.getD e.on false = true
theorem closed_none (l : List Oper) (n : Nat) : Closed l (Array.replicate n false) := fun i p _ h => by
  exfalso
  by_cases h' : i < n
  · simp [h'] at h
  · simp [h'] at h
theorem set_mono {L : Array Bool} {i j : Nat} (h : L.getD j false = true) : (L.setIfInBounds i true).getD j false = true := by
  by_cases hij : i = j
  · subst hij
    by_cases hl : i < L.size
    · simp [hl]
    · simp [hl] at h
  · simpa [Array.getElem?_setIfInBounds, hij] using h
theorem Closed.set {l : List Oper} {L : Array Bool} {i : Nat} (h : Closed l L) (hi : i < L.size) (hr : i ∈ Region.ready .any l.toArray L) : Closed l (L.setIfInBounds i true) := by
  intro j p hp hj e he hb
  obtain ⟨_, q, hq, h2⟩ := mem_ready.1 hr
  by_cases hij : i = j
  · subst hij
    have : q = p := by
      have : l[i]? = some q := by simpa using hq
      rw [hp] at this
      exact (Option.some.inj this).symm
    subst this
    exact set_mono (h2 e he hb)
  · exact set_mono (h j p hp (by simpa [Array.getElem?_setIfInBounds, hij] using hj) e he hb)
theorem pull_listed {l : List Oper} {L : Array Bool} (hc : Closed l L) : ∀ (k : Nat) (S : List Nat), (∀ j ∈ S, L.getD j false = true) → ∀ j ∈ pull l k S, L.getD j false = true
  | 0, S, h => h
  | k + 1, S, h => by
    refine pull_listed hc k _ (fun j hj => ?_)
    split at hj
    · next hk =>
      rw [List.mem_append] at hj
      rcases hj with hj | hj
      · exact h j hj
      · split at hj
        · next p hp =>
          rw [List.mem_map] at hj
          obtain ⟨e, he, rfl⟩ := hj
          have he' : e ∈ p.after ∧ Region.binds .any e = true := by simpa using he
          exact hc k p hp (h k (by simpa using hk)) e he'.1 he'.2
        · cases hj
    · exact h j hj
theorem ready_lastT {l : List Oper} {o : Oper} {L : Array Bool} (hs : L.size = l.length) (ok : lastOkT l o = true) :
    True ∧ ((∀ j, j < l.length → L.getD j false = true) → l.length ∈ Region.ready .any (l ++ [o]).toArray (L.push false)) := by
  simp only [lastOkT, Bool.and_eq_true] at ok
  obtain ⟨⟨⟨h1, h2⟩, _⟩, _⟩ := ok
  refine ⟨trivial, fun h => ?_⟩
  rw [mem_ready, get_last]
  refine ⟨by simp [Array.getD_eq_getD_getElem?, ← hs], o, rfl, fun e he hb => ?_⟩
  have := Array.all_eq_true_iff_forall_mem.1 h2 e he
  rw [hb] at this
  have hlt : e.on < l.length := by simpa using this
  rw [listed_init hs false hlt]
  exact h _ hlt
theorem ready_lastT_all {l : List Oper} {o : Oper} {L : Array Bool} (hs : L.size = l.length) (ok : lastOkT l o = true) (hc : Closed l L)
    (h : l.length ∈ Region.ready .any (l ++ [o]).toArray (L.push false)) : ∀ j, j < l.length → L.getD j false = true := by
  simp only [lastOkT, Bool.and_eq_true] at ok
  obtain ⟨⟨⟨h1, h2⟩, _⟩, _⟩ := ok
  rw [mem_ready, get_last] at h
  obtain ⟨_, p, hp, h⟩ := h
  cases hp
  intro j hj
  have hj' := List.all_eq_true.1 h1 j (by simpa using hj)
  refine pull_listed hc l.length _ (fun i hi => ?_) j (by simpa using hj')
  rw [List.mem_map] at hi
  obtain ⟨e, he, rfl⟩ := hi
  have he' : e ∈ o.after ∧ Region.binds .any e = true := by simpa using he
  have h3 := Array.all_eq_true_iff_forall_mem.1 h2 e he'.1
  rw [he'.2] at h3
  have hlt : e.on < l.length := by simpa using h3
  have := h e he'.1 he'.2
  rwa [listed_init hs false hlt] at this
theorem wpAny_lastT {l : List Oper} {o : Oper} (ok : lastOkT l o = true) : ∀ (fuel : Nat) (L : Array Bool) (a : Act) (w : World), L.size = l.length → Closed l L →
    wpAny P .any l.toArray (LastPost P l o Q) fuel L a w → wpAny P .any (l ++ [o]).toArray Q (fuel + 1) (L.push false) a w := by
  have ok' := ok
  simp only [lastOkT, Bool.and_eq_true] at ok'
  obtain ⟨⟨⟨_, _⟩, h3⟩, h4⟩ := ok'
  have hg : ∀ p ∈ l, ∀ g b, p.guard = some (g, b) → g < l.length := by
    intro p hp g b hgb
    have := List.all_eq_true.1 h3 p hp
    rw [hgb] at this
    simpa using this
  have hQ : ∀ e a w, e ≠ .normal → LastPost P l o Q e a w → Q e a w := fun e a w hne h => by cases e <;> first | exact absurd rfl hne | exact h
  have hall : ∀ L : Array Bool, L.size = l.length → Region.ready .any l.toArray L = [] → ∀ j, j < l.length → L.getD j false = true := fun L hs hr j hj =>
    all_listed (ops := l.toArray) (by simpa using hs) (edgesBack_spec h4) hr (j + 1) j (by omega) (by simpa using hj)
  have hnone : ∀ (L : Array Bool), L.size = l.length → (∀ j, j < l.length → L.getD j false = true) → Region.ready .any (l ++ [o]).toArray ((L.push false).setIfInBounds l.length true) = [] := by
    intro L hs h
    rw [List.eq_nil_iff_forall_not_mem]
    intro i hi
    have h1 := (mem_ready.1 hi).1
    have hlt : i < l.length + 1 := by
      obtain ⟨_, p, hp, _⟩ := mem_ready.1 hi
      have := (Array.getElem?_eq_some_iff.1 hp).1
      simpa using this
    by_cases hin : i = l.length
    · subst hin
      simp [Array.getD_eq_getD_getElem?, hs] at h1
    · have hi2 : i < l.length := by omega
      have := h i hi2
      simp [Array.getD_eq_getD_getElem?, Array.getElem?_setIfInBounds, Ne.symm hin, Array.getElem?_push, show i ≠ L.size by omega, Array.getElem?_eq_getElem (show i < L.size by omega)] at h1 this
      rw [this] at h1; cases h1
  have hfin : ∀ (fuel : Nat) (L : Array Bool) (a : Act) (w : World), L.size = l.length → (∀ j, j < l.length → L.getD j false = true) → Q .normal a w → wpAny P .any (l ++ [o]).toArray Q fuel ((L.push false).setIfInBounds l.length true) a w := by
    intro fuel L a w hs h hq
    have hr := hnone L hs h
    cases fuel with
    | zero => exact ⟨hr, hq⟩
    | succ fuel => exact ⟨fun _ => hq, fun i hi => by rw [hr] at hi; cases hi⟩
  intro fuel
  induction fuel with
  | zero =>
    intro L a w hs hcl h
    obtain ⟨hr, hq⟩ := h
    have ha := hall L hs hr
    refine ⟨fun h0 => ?_, fun i hi => ?_⟩
    · have := (ready_lastT hs ok).2 ha
      rw [h0] at this; cases this
    · by_cases hin : i < l.length
      · have := (ready_init hs hin).1 hi
        rw [hr] at this; cases this
      · have hlt : i < l.length + 1 := by
          obtain ⟨_, p, hp, _⟩ := mem_ready.1 hi
          have := (Array.getElem?_eq_some_iff.1 hp).1
          simpa using this
        obtain rfl : i = l.length := by omega
        exact wpOp_mono (fun a' w' hq' => hfin 0 L a' w' hs ha hq') hq
  | succ fuel ih =>
    intro L a w hs hcl h
    obtain ⟨h0, h1⟩ := h
    refine ⟨fun hr => ?_, fun i hi => ?_⟩
    · exfalso
      have hr' : Region.ready .any l.toArray L = [] := by
        rw [List.eq_nil_iff_forall_not_mem]
        intro i hi
        have hlt : i < l.length := by
          obtain ⟨_, p, hp, _⟩ := mem_ready.1 hi
          have := (Array.getElem?_eq_some_iff.1 hp).1
          simpa using this
        have := (ready_init (o := o) hs hlt).2 hi
        rw [hr] at this; cases this
      have := (ready_lastT hs ok).2 (hall L hs hr')
      rw [hr] at this; cases this
    · by_cases hin : i < l.length
      · have hi' := (ready_init hs hin).1 hi
        refine wpOp_init hin hg hQ (fun a' w' h' => ?_) (h1 i hi')
        rw [push_set (by omega)]
        exact ih _ a' w' (by simpa using hs) (hcl.set (by omega) hi') h'
      · have hlt : i < l.length + 1 := by
          obtain ⟨_, p, hp, _⟩ := mem_ready.1 hi
          have := (Array.getElem?_eq_some_iff.1 hp).1
          simpa using this
        obtain rfl : i = l.length := by omega
        have ha := (ready_lastT_all hs ok hcl) hi
        have hr' : Region.ready .any l.toArray L = [] := by
          rw [List.eq_nil_iff_forall_not_mem]
          intro j hj
          have hjl : j < l.length := by
            obtain ⟨_, p, hp, _⟩ := mem_ready.1 hj
            have := (Array.getElem?_eq_some_iff.1 hp).1
            simpa using this
          have h2 := (mem_ready.1 hj).1
          have h3 := ha j hjl
          simp [Array.getD_eq_getD_getElem?, Array.getElem?_eq_getElem (show j < L.size by omega)] at h2 h3
          rw [h2] at h3; cases h3
        exact wpOp_mono (fun a' w' hq' => hfin _ L a' w' hs ha hq') (h0 hr')
theorem wp_region_last1 {id : Nat} {a : Act} {w : World} {L : List Oper} (hne : L ≠ []) (hm : P.follows .mixedOrders = true) (h1 : lastOkT L.dropLast (L.getLast hne) = true)
    (h : wpAny P .any L.dropLast.toArray (LastPost P L.dropLast (L.getLast hne) Q) L.dropLast.toArray.size (Array.replicate L.dropLast.toArray.size false) a w.drew) : (Code.region id L.toArray true).wp P Q a w := by
  have e0 : L.toArray = (L.dropLast ++ [L.getLast hne]).toArray := by rw [List.dropLast_concat_getLast]
  rw [e0]
  refine wp_region_any hm ?_
  have e1 : (L.dropLast ++ [L.getLast hne]).toArray.size = L.dropLast.length + 1 := by simp
  have e2 : Array.replicate (L.dropLast.length + 1) false = (Array.replicate L.dropLast.length false).push false := by rw [Array.replicate_succ]
  rw [e1, e2]
  exact wpAny_lastT h1 L.dropLast.length (Array.replicate L.dropLast.length false) a _ (by simp) (closed_none _ _) (by simpa using h)
theorem wpAny_last1 {a : Act} {w : World} {L : List Oper} (hne : L ≠ []) (h1 : lastOkT L.dropLast (L.getLast hne) = true)
    (h : wpAny P .any L.dropLast.toArray (LastPost P L.dropLast (L.getLast hne) Q) L.dropLast.toArray.size (Array.replicate L.dropLast.toArray.size false) a w) : wpAny P .any L.toArray Q L.toArray.size (Array.replicate L.toArray.size false) a w := by
  have e0 : L.toArray = (L.dropLast ++ [L.getLast hne]).toArray := by rw [List.dropLast_concat_getLast]
  rw [e0]
  have e1 : (L.dropLast ++ [L.getLast hne]).toArray.size = L.dropLast.length + 1 := by simp
  have e2 : Array.replicate (L.dropLast.length + 1) false = (Array.replicate L.dropLast.length false).push false := by rw [Array.replicate_succ]
  rw [e1, e2]
  exact wpAny_lastT h1 L.dropLast.length (Array.replicate L.dropLast.length false) a _ (by simp) (closed_none _ _) (by simpa using h)
theorem lastPost_do {l : List Oper} {o : Oper} {a : Act} {w : World} (h : ∀ K : Act → World → Prop, (∀ a w, Q .normal a w → K a w) → if Region.wanted o (yielded (l ++ [o]).toArray a.tmps) = true then Oper.wp P o a w K Q else K (a.put o.dst undef) w) : LastPost P l o Q .normal a w :=
  wpOp_step get_last h
/-- all but the last, which waits for all others by way of others: the readers first, then the rest, then that one -/
theorem wp_region_ord_thenT {S : World → Prop} {id : Nat} {a : Act} {w : World} {L : List Oper} (ord : List (Bool × Nat)) (hne : L ≠ []) (hm : P.follows .mixedOrders = true) (hs : Region.noSelect L.dropLast.toArray = true) (hl : ord.length = L.dropLast.length) (ok : ordOk .any L.dropLast.toArray ord (Array.replicate L.dropLast.length false) = true) (hlast : lastOkT L.dropLast (L.getLast hne) = true)
    (hS : S w.drew)
    (h : walkH P L.dropLast.toArray (LastPost P L.dropLast (L.getLast hne) (NoPanic Q)) S (withOps L.dropLast ord) a w.drew) : (Code.region id L.toArray true).wp P Q a w := by
  refine wp_region_noPanic ?_
  have hQ : ∀ c a d v w, NoPanic Q (.panic c) (a.put d v) w → NoPanic Q (.panic c) a w := fun _ _ _ _ _ h => h
  refine wp_region_last1 hne hm hlast ?_
  refine wpAny_of_held (S := S) _ _ _ _ ?_
  have hh := wpAnyH_ord (md := .any) (Q := LastPost P L.dropLast (L.getLast hne) (NoPanic Q)) (L := Array.replicate L.dropLast.length false) hs (fun c a d v w h => hQ c a d v w h) ord a _ ok hS h
  rw [hl] at hh
  simpa using hh
end
end Go.Proofs.YtfeepmjkamdldaaDoor
