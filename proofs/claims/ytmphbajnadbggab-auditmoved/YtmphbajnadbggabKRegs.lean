/- Texts one behind the other: Region, RegionLast, Grow, Hoist, Region2, Hoist2, Mat, Push, OwnM, PairMem. -/
import Derived.Test.YtmphbajnadbggabKCore
import Derived.Test.YtmphbajnadbggabProg
import Derived.Orders
import Derived.Deep.QuietTactic
import Derived.BigQuiet
import Derived.Deep.RegionHeld3
import Derived.Deep.OwnRows
import Derived.Deep.AppendLies
import Derived.Maps.AppendAt
import Derived.Deep.RegionLaw
import Derived.Deep.MidRow
import Derived.Deep.WholeRow
/- A region that leaves its order open, by an invariant: whatever operation comes up next keeps it. -/
namespace Go.Proofs.Ytmphbajnadbggab
open Go.RowKit
set_option linter.unusedVariables false
section
variable {P : Program} {ops : Array Oper} {Q : Exit → Act → World → Prop} {md : Region.Mode}
theorem count_set (listed : Array Bool) (i n : Nat) (h : listed.getD i true = false) (hc : listed.toList.count false ≤ n + 1) : (listed.setIfInBounds i true).toList.count false ≤ n := by
  by_cases hi : i < listed.size
  · have hv : listed.toList[i]'(by simpa using hi) = false := by
      simp [Array.getElem?_eq_getElem hi] at h
      simpa using h
    rw [Array.toList_setIfInBounds]
    have := List.count_set (l := listed.toList) (a := true) (b := false) (i := i) (by simpa using hi)
    rw [this, hv, if_pos (by decide), if_neg (by decide)]
    omega
  · simp [Array.getElem?_eq_none (show listed.size ≤ i by omega)] at h
theorem wpAny_inv (I : Array Bool → Act → World → Prop)
    (hstep : ∀ listed a w i, I listed a w → i ∈ Region.ready md ops listed → wpOp P ops Q i (I (listed.setIfInBounds i true)) a w)
    (hend : ∀ listed a w, I listed a w → Region.ready md ops listed = [] → Q .normal a w) :
    ∀ fuel listed a w, listed.toList.count false ≤ fuel → I listed a w → wpAny P md ops Q fuel listed a w
  | 0, listed, a, w, hc, h => by
    have hr : Region.ready md ops listed = [] := by
      rw [List.eq_nil_iff_forall_not_mem]
      intro i hi
      have h1 := (mem_ready.1 hi).1
      have hc0 : listed.toList.count false = 0 := by omega
      have hm : false ∉ listed.toList := List.count_eq_zero.1 hc0
      by_cases hl : i < listed.size
      · simp [Array.getElem?_eq_getElem hl] at h1
        exact hm (by rw [← h1]; simp)
      · simp [Array.getElem?_eq_none (show listed.size ≤ i by omega)] at h1
    exact ⟨hr, hend listed a w h hr⟩
  | fuel + 1, listed, a, w, hc, h =>
    ⟨fun hr => hend listed a w h hr, fun i hi => wpOp_mono (fun a' w' h' => wpAny_inv I hstep hend fuel _ a' w' (count_set listed i fuel (mem_ready.1 hi).1 hc) h') (hstep listed a w i h hi)⟩
/-- THE RULE -/
theorem wp_region_inv {id : Nat} {a : Act} {w : World} (hm : P.follows .mixedOrders = true) (I : Array Bool → Act → World → Prop)
    (h0 : I (Array.replicate ops.size false) a w.drew)
    (hstep : ∀ listed a w i, I listed a w → i ∈ Region.ready .any ops listed → wpOp P ops Q i (I (listed.setIfInBounds i true)) a w)
    (hend : ∀ listed a w, I listed a w → Region.ready .any ops listed = [] → Q .normal a w) : (Code.region id ops true).wp P Q a w :=
  wp_region_any hm (wpAny_inv I hstep hend ops.size _ a _ (by simp) h0)
theorem Oper.wp_out {o : Oper} {a : Act} {w : World} {K K' : Act → World → Prop} {Q' : Exit → Act → World → Prop} (hQ : ∀ e a w, e ≠ .normal → Q' e a w → Q e a w) (hK : ∀ a w, K' a w → K a w)
    (hh : o.wp P a w K' Q') : o.wp P a w K Q := by
  have hl : LetsOut Q' → LetsOut Q := fun ⟨a, w, h⟩ => ⟨a, w, hQ _ _ _ (by simp) h⟩
  unfold Oper.wp at *
  generalize (execOp a.eval o).run P w = r at *
  cases r with
  | ok n w' =>
    cases n <;> simp only [Oper.upon] at hh ⊢ <;>
      first
        | exact hK _ _ hh
        | exact Calls.mono hh (fun e w'' he => by cases e <;> first | exact hK _ _ he | exact hQ _ _ _ (by simp) he | exact hl he)
        | exact Rows.mono hh (fun _ _ he => hK _ _ he)
  | halt x w' => cases x <;> simp only [Oper.upon] at hh ⊢ <;> first | exact hh | exact hQ _ _ _ (by simp) hh
theorem wpOp_of_list {i : Nat} {o : Oper} {a : Act} {w : World} {K : Act → World → Prop} (ho : ops[i]? = some o) (h : wpList P ops (Exit.then K Q) [o] a w) : wpOp P ops Q i K a w := by
  have hQ : ∀ e a w, e ≠ .normal → Exit.then K Q e a w → Q e a w := fun e a w hne h => by cases e <;> first | exact absurd rfl hne | exact h
  unfold wpOp
  rw [ho]
  unfold wpList at h
  simp only []
  split
  · rename_i hw
    rw [if_pos hw] at h
    rcases h with h | ⟨h1, h2⟩
    · exact .inl (Oper.wp_out hQ (fun a w h => h) h)
    · exact .inr ⟨h1, let ⟨a, w, h⟩ := h2; ⟨a, w, hQ _ _ _ (by simp) h⟩⟩
  · rename_i hw
    rw [if_neg hw] at h
    exact h
/-- where every edge leads back, nothing is ready only when all are listed -/
theorem all_listed {listed : Array Bool} (hs : listed.size = ops.size) (hedge : ∀ (i : Nat) (o : Oper), ops[i]? = some o → ∀ e ∈ o.after, Region.binds md e = true → e.on < i) (hr : Region.ready md ops listed = []) :
    ∀ n, ∀ i, i < n → i < ops.size → listed.getD i false = true := by
  intro n
  induction n with
  | zero => intro i hi; omega
  | succ n ih =>
    intro i hi hlt
    by_cases hin : i < n
    · exact ih i hin hlt
    · by_cases hl : listed.getD i true = false
      · exfalso
        have hmem : i ∈ Region.ready md ops listed := mem_ready.2 ⟨hl, ops[i], Array.getElem?_eq_getElem hlt, fun e he hbd => by
          have := hedge i ops[i] (Array.getElem?_eq_getElem hlt) e he hbd
          exact ih e.on (by omega) (by omega)⟩
        rw [hr] at hmem; cases hmem
      · rw [Array.getD_eq_getD_getElem?, Array.getElem?_eq_getElem (by omega)] at *
        simpa using hl
def edgesBack (ops : Array Oper) : Bool := (List.range ops.size).all fun i => match ops[i]? with | some o => o.after.all (fun e => !Region.binds .any e || decide (e.on < i)) | none => true
theorem edgesBack_spec {ops : Array Oper} (h : edgesBack ops = true) : ∀ (i : Nat) (o : Oper), ops[i]? = some o → ∀ e ∈ o.after, Region.binds .any e = true → e.on < i := by
  intro i o ho e he hbd
  have hi : i < ops.size := (Array.getElem?_eq_some_iff.1 ho).1
  have := List.all_eq_true.1 h i (by simpa using hi)
  rw [ho] at this
  simp only [Array.all_eq_true_iff_forall_mem] at this
  have := this e he
  rw [hbd] at this
  simpa using this
/-- the slots ds, filled with vs -/
def putAll (a : Act) : List Tmp → List Value → Act
  | d :: ds, v :: vs => putAll (a.put (some d) v) ds vs
  | _, _ => a
/-- what is known between two operations of a region whose order is open: each operation that has come up has left a value of which 'Pred' holds, and what lay below has stayed -/
def Between (ops : Array Oper) (a0 : Act) (W0 : World) (ds : List Tmp) (Pred : Nat → Value → World → Prop) (listed : Array Bool) (a : Act) (w : World) : Prop :=
  listed.size = ops.size ∧ Below W0.heap.size W0 w ∧ ∃ vs, vs.length = ds.length ∧ a = putAll a0 ds vs ∧ ∀ i, listed.getD i false = true → Pred i (vs.getD i undef) w
theorem wp_region_each {id : Nat} {a : Act} {w : World} (hm : P.follows .mixedOrders = true) (ds : List Tmp) (Pred : Nat → Value → World → Prop)
    (hlen : ds.length = ops.size) (hinit : ∃ vs, vs.length = ds.length ∧ a = putAll a ds vs)
    (hedge : edgesBack ops = true)
    (hstable : ∀ i v w w', Pred i v w → Below w.heap.size w w' → Pred i v w')
    (hstep : ∀ (i : Nat) (o : Oper) (vs : List Value) (w' : World), ops[i]? = some o → vs.length = ds.length → Below w.heap.size w w' → (∀ e ∈ o.after, Region.binds .any e = true → Pred e.on (vs.getD e.on undef) w') →
      wpOp P ops Q i (fun a' w'' => ∃ v, a' = putAll a ds (vs.set i v) ∧ Pred i v w'' ∧ Below w'.heap.size w' w'') (putAll a ds vs) w')
    (hend : ∀ (vs : List Value) (w' : World), vs.length = ds.length → Below w.heap.size w w' → (∀ i, i < ds.length → Pred i (vs.getD i undef) w') → Q .normal (putAll a ds vs) w') :
    (Code.region id ops true).wp P Q a w := by
  refine wp_region_inv hm (Between ops a w ds Pred) ?_ ?_ ?_
  · obtain ⟨vs, h1, h2⟩ := hinit
    refine ⟨by simp, (Below.refl _ _).drew, vs, h1, h2, fun i hi => ?_⟩
    exfalso
    by_cases h : i < ops.size
    · simp [h] at hi
    · simp [h] at hi
  · intro listed a' w' i ⟨hs, hb, vs, hl, ha, hp⟩ hi
    obtain ⟨h1, o, ho, h2⟩ := mem_ready.1 hi
    rw [ha]
    refine wpOp_mono ?_ (hstep i o vs w' ho hl hb (fun e he hbd => hp _ (h2 e he hbd)))
    rintro a'' w'' ⟨v, rfl, hv, hb'⟩
    refine ⟨by simpa using hs, bt hb hb', vs.set i v, by simpa using hl, rfl, fun j hj => ?_⟩
    have hilt : i < ops.size := (Array.getElem?_eq_some_iff.1 ho).1
    by_cases hji : j = i
    · subst hji
      have : (vs.set j v).getD j undef = v := by simp [List.getD, show j < vs.length by omega]
      rw [this]; exact hv
    · have e1 : (vs.set i v).getD j undef = vs.getD j undef := by simp [List.getD, Ne.symm hji]
      rw [e1]
      refine hstable j _ w' w'' (hp j ?_) hb'
      simpa [Array.getElem?_setIfInBounds, Ne.symm hji] using hj
  · intro listed a' w' ⟨hs, hb, vs, hl, ha, hp⟩ hr
    rw [ha]
    exact hend vs w' hl hb (fun i hi => hp i (all_listed hs (edgesBack_spec hedge) hr (i + 1) i (by omega) (by omega)))
end
end Go.Proofs.Ytmphbajnadbggab
/- A region that leaves its order open, and whose last operation waits for all others: the others in whatever order, then that one. -/
namespace Go.Proofs.Ytmphbajnadbggab
open Go.RowKit
set_option linter.unusedVariables false
set_option linter.unusedSimpArgs false
section
variable {P : Program} {Q : Exit → Act → World → Prop}
/-- o, behind l, waits for every operation of l, and for nothing else; no guard looks further than l -/
def lastOk (l : List Oper) (o : Oper) : Bool :=
  (List.range l.length).all (fun j => o.after.any (fun e => Region.binds .any e && e.on == j)) && o.after.all (fun e => !Region.binds .any e || decide (e.on < l.length)) &&
  l.all (fun p => match p.guard with | some (g, _) => decide (g < l.length) | none => true) && edgesBack l.toArray
theorem get_init {l : List Oper} {o : Oper} {i : Nat} (h : i < l.length) : (l ++ [o]).toArray[i]? = l.toArray[i]? := by
  simp [List.getElem?_append_left h]
theorem get_last {l : List Oper} {o : Oper} : (l ++ [o]).toArray[l.length]? = some o := by simp
theorem listed_init {L : Array Bool} {n i : Nat} (hs : L.size = n) (d : Bool) (h : i < n) : (L.push false).getD i d = L.getD i d := by
  simp [Array.getD_eq_getD_getElem?, Array.getElem?_push, show i ≠ L.size by omega]
theorem listed_from {L : Array Bool} {n i : Nat} (hs : L.size = n) (h : ¬ i < n) : (L.push false).getD i false = L.getD i false := by
  by_cases hi : i = n
  · subst hi; subst hs; simp
  · have h1 : L.size + 1 ≤ i := by omega
    simp [Array.getD_eq_getD_getElem?, Array.getElem?_eq_none (show (L.push false).size ≤ i by simpa using h1), Array.getElem?_eq_none (show L.size ≤ i by omega)]
theorem ready_init {l : List Oper} {o : Oper} {L : Array Bool} {i : Nat} (hs : L.size = l.length) (hi : i < l.length) :
    i ∈ Region.ready .any (l ++ [o]).toArray (L.push false) ↔ i ∈ Region.ready .any l.toArray L := by
  rw [mem_ready, mem_ready, get_init hi, listed_init hs true hi]
  constructor
  · rintro ⟨h1, p, hp, h2⟩
    refine ⟨h1, p, hp, fun e he hb => ?_⟩
    have := h2 e he hb
    by_cases hlt : e.on < l.length
    · rwa [listed_init hs false hlt] at this
    · rwa [listed_from hs hlt] at this
  · rintro ⟨h1, p, hp, h2⟩
    refine ⟨h1, p, hp, fun e he hb => ?_⟩
    have := h2 e he hb
    by_cases hlt : e.on < l.length
    · rwa [listed_init hs false hlt]
    · rwa [listed_from hs hlt]
theorem ready_last {l : List Oper} {o : Oper} {L : Array Bool} (hs : L.size = l.length) (ok : lastOk l o = true) :
    l.length ∈ Region.ready .any (l ++ [o]).toArray (L.push false) ↔ ∀ j, j < l.length → L.getD j false = true := by
  simp only [lastOk, Bool.and_eq_true] at ok
  obtain ⟨⟨⟨h1, h2⟩, _⟩, _⟩ := ok
  rw [mem_ready, get_last]
  constructor
  · rintro ⟨_, p, hp, h⟩ j hj
    cases hp
    have := List.all_eq_true.1 h1 j (by simpa using hj)
    obtain ⟨e, he, hb⟩ := Array.any_eq_true'.1 this
    simp only [Bool.and_eq_true, beq_iff_eq] at hb
    have := h e he hb.1
    rw [hb.2, listed_init hs false hj] at this
    exact this
  · intro h
    refine ⟨by simp [Array.getD_eq_getD_getElem?, ← hs], o, rfl, fun e he hb => ?_⟩
    have := Array.all_eq_true_iff_forall_mem.1 h2 e he
    rw [hb] at this
    have hlt : e.on < l.length := by simpa using this
    rw [listed_init hs false hlt]
    exact h _ hlt
theorem wanted_init {l : List Oper} {o p : Oper} {tmps : Array Value} (hg : ∀ g b, p.guard = some (g, b) → g < l.length) : Region.wanted p (yielded (l ++ [o]).toArray tmps) = Region.wanted p (yielded l.toArray tmps) := by
  unfold Region.wanted
  cases hp : p.guard with
  | none => rfl
  | some gb =>
    obtain ⟨g, b⟩ := gb
    have hlt := hg g b hp
    simp only [yielded, get_init hlt]
theorem wpOp_init {l : List Oper} {o : Oper} {i : Nat} {K K' : Act → World → Prop} {Q' : Exit → Act → World → Prop} {a : Act} {w : World} (hi : i < l.length) (hg : ∀ p ∈ l, ∀ g b, p.guard = some (g, b) → g < l.length)
    (hQ : ∀ e a w, e ≠ .normal → Q' e a w → Q e a w) (hK : ∀ a w, K' a w → K a w) (h : wpOp P l.toArray Q' i K' a w) : wpOp P (l ++ [o]).toArray Q i K a w := by
  unfold wpOp at *
  rw [get_init hi]
  have hp : l.toArray[i]? = some l[i] := by simp [hi]
  rw [hp] at h ⊢
  simp only [] at h ⊢
  rw [wanted_init (hg _ (List.getElem_mem hi))]
  split
  · rename_i hw
    rw [if_pos hw] at h
    rcases h with h | ⟨h1, h2⟩
    · exact .inl (Oper.wp_out hQ hK h)
    · exact .inr ⟨h1, let ⟨a, w, h⟩ := h2; ⟨a, w, hQ _ _ _ (by simp) h⟩⟩
  · rename_i hw
    rw [if_neg hw] at h
    exact hK _ _ h
theorem push_set {L : Array Bool} {i : Nat} (h : i < L.size) : (L.push false).setIfInBounds i true = (L.setIfInBounds i true).push false := by
  apply Array.ext_getElem?
  intro j
  rw [Array.getElem?_setIfInBounds, Array.getElem?_push, Array.getElem?_push, Array.getElem?_setIfInBounds, Array.size_push, Array.size_setIfInBounds]
  by_cases hij : i = j
  · subst hij
    rw [if_pos rfl, if_pos (by omega), if_neg (by omega), if_pos rfl, if_pos h]
  · rw [if_neg hij, if_neg hij]
/-- what is left when all but the last have come up -/
def LastPost (P : Program) (l : List Oper) (o : Oper) (Q : Exit → Act → World → Prop) : Exit → Act → World → Prop
  | .normal, a, w => wpOp P (l ++ [o]).toArray Q l.length (Q .normal) a w
  | e, a, w => Q e a w
theorem wpAny_last {l : List Oper} {o : Oper} (ok : lastOk l o = true) : ∀ (fuel : Nat) (L : Array Bool) (a : Act) (w : World), L.size = l.length →
    wpAny P .any l.toArray (LastPost P l o Q) fuel L a w → wpAny P .any (l ++ [o]).toArray Q (fuel + 1) (L.push false) a w := by
  have ok' := ok
  simp only [lastOk, Bool.and_eq_true] at ok'
  obtain ⟨⟨⟨_, _⟩, h3⟩, h4⟩ := ok'
  have hg : ∀ p ∈ l, ∀ g b, p.guard = some (g, b) → g < l.length := by
    intro p hp g b hgb
    have := List.all_eq_true.1 h3 p hp
    rw [hgb] at this
    simpa using this
  have hQ : ∀ e a w, e ≠ .normal → LastPost P l o Q e a w → Q e a w := fun e a w hne h => by cases e <;> first | exact absurd rfl hne | exact h
  have hall : ∀ L : Array Bool, L.size = l.length → Region.ready .any l.toArray L = [] → ∀ j, j < l.length → L.getD j false = true := fun L hs hr j hj =>
    all_listed (ops := l.toArray) (by simpa using hs) (edgesBack_spec h4) hr (j + 1) j (by omega) (by simpa using hj)
  have hnone : ∀ (L : Array Bool), L.size = l.length → (∀ j, j < l.length → L.getD j false = true) → Region.ready .any (l ++ [o]).toArray ((L.push false).setIfInBounds l.length true) = [] := by
    intro L hs h
    rw [List.eq_nil_iff_forall_not_mem]
    intro i hi
    have h1 := (mem_ready.1 hi).1
    have hlt : i < l.length + 1 := by
      obtain ⟨_, p, hp, _⟩ := mem_ready.1 hi
      have := (Array.getElem?_eq_some_iff.1 hp).1
      simpa using this
    by_cases hin : i = l.length
    · subst hin
      simp [Array.getD_eq_getD_getElem?, hs] at h1
    · have hi2 : i < l.length := by omega
      have := h i hi2
      simp [Array.getD_eq_getD_getElem?, Array.getElem?_setIfInBounds, Ne.symm hin, Array.getElem?_push, show i ≠ L.size by omega, Array.getElem?_eq_getElem (show i < L.size by omega)] at h1 this
      rw [this] at h1; cases h1
  have hfin : ∀ (fuel : Nat) (L : Array Bool) (a : Act) (w : World), L.size = l.length → (∀ j, j < l.length → L.getD j false = true) → Q .normal a w → wpAny P .any (l ++ [o]).toArray Q fuel ((L.push false).setIfInBounds l.length true) a w := by
    intro fuel L a w hs h hq
    have hr := hnone L hs h
    cases fuel with
    | zero => exact ⟨hr, hq⟩
    | succ fuel => exact ⟨fun _ => hq, fun i hi => by rw [hr] at hi; cases hi⟩
  intro fuel
  induction fuel with
  | zero =>
    intro L a w hs h
    obtain ⟨hr, hq⟩ := h
    have ha := hall L hs hr
    refine ⟨fun h0 => ?_, fun i hi => ?_⟩
    · have := (ready_last hs ok).2 ha
      rw [h0] at this; cases this
    · by_cases hin : i < l.length
      · have := (ready_init hs hin).1 hi
        rw [hr] at this; cases this
      · have hlt : i < l.length + 1 := by
          obtain ⟨_, p, hp, _⟩ := mem_ready.1 hi
          have := (Array.getElem?_eq_some_iff.1 hp).1
          simpa using this
        obtain rfl : i = l.length := by omega
        exact wpOp_mono (fun a' w' hq' => hfin 0 L a' w' hs ha hq') hq
  | succ fuel ih =>
    intro L a w hs h
    obtain ⟨h0, h1⟩ := h
    refine ⟨fun hr => ?_, fun i hi => ?_⟩
    · exfalso
      have hr' : Region.ready .any l.toArray L = [] := by
        rw [List.eq_nil_iff_forall_not_mem]
        intro i hi
        have hlt : i < l.length := by
          obtain ⟨_, p, hp, _⟩ := mem_ready.1 hi
          have := (Array.getElem?_eq_some_iff.1 hp).1
          simpa using this
        have := (ready_init (o := o) hs hlt).2 hi
        rw [hr] at this; cases this
      have := (ready_last hs ok).2 (hall L hs hr')
      rw [hr] at this; cases this
    · by_cases hin : i < l.length
      · have hi' := (ready_init hs hin).1 hi
        refine wpOp_init hin hg hQ (fun a' w' h' => ?_) (h1 i hi')
        rw [push_set (by omega)]
        exact ih _ a' w' (by simpa using hs) h'
      · have hlt : i < l.length + 1 := by
          obtain ⟨_, p, hp, _⟩ := mem_ready.1 hi
          have := (Array.getElem?_eq_some_iff.1 hp).1
          simpa using this
        obtain rfl : i = l.length := by omega
        have ha := (ready_last hs ok).1 hi
        have hr' : Region.ready .any l.toArray L = [] := by
          rw [List.eq_nil_iff_forall_not_mem]
          intro j hj
          have hjl : j < l.length := by
            obtain ⟨_, p, hp, _⟩ := mem_ready.1 hj
            have := (Array.getElem?_eq_some_iff.1 hp).1
            simpa using this
          have h2 := (mem_ready.1 hj).1
          have h3 := ha j hjl
          simp [Array.getD_eq_getD_getElem?, Array.getElem?_eq_getElem (show j < L.size by omega)] at h2 h3
          rw [h2] at h3; cases h3
        exact wpOp_mono (fun a' w' hq' => hfin _ L a' w' hs ha hq') (h0 hr')
/-- A QUIET REGION WITH ONE STORE (or whatever operation) AT ITS END: one walk in the order of the text, then that operation -/
theorem wp_region_quiet_last {id : Nat} {a : Act} {w : World} {l : List Oper} {o : Oper} {ops : Array Oper} (hops : ops = (l ++ [o]).toArray) (hm : P.follows .mixedOrders = true) (hB : Region.lexB .any l.toArray = true) (ok : lastOk l o = true)
    (h : wpQuiet P l.toArray (fun w' => ∃ n, w' = w.drewN n) (fun a' => ∀ w', (∃ n, w' = w.drewN n) → wpList P (l ++ [o]).toArray Q [o] a' w') l a) : (Code.region id ops true).wp P Q a w := by
  subst hops
  simp only [Region.lexB, Bool.and_eq_true] at hB
  refine wp_region_any hm ?_
  have e1 : (l ++ [o]).toArray.size = l.length + 1 := by simp
  have e2 : Array.replicate (l.length + 1) false = (Array.replicate l.length false).push false := by
    rw [Array.replicate_succ]
  rw [e1, e2]
  refine wpAny_last ok l.length (Array.replicate l.length false) a _ (by simp) ?_
  have hq := wpAnyQ_lex (P := P) (C := fun w' => ∃ n, w' = w.drewN n) (md := .any) hB.1 l 0 (Array.replicate l.length false) a (by simp) (by simpa using hB.2) h
  refine wpAny_of_quiet (Q := fun a' => ∀ w', (∃ n, w' = w.drewN n) → wpList P (l ++ [o]).toArray Q [o] a' w') (fun a' w' hw' h' => ?_) _ _ _ _ ⟨1, rfl⟩ hq
  show wpOp P (l ++ [o]).toArray Q l.length (Q .normal) a' w'
  refine wpOp_of_list (K := Q .normal) get_last ?_
  have := h' w' hw'
  have hE : Exit.then (Q .normal) Q = Q := by funext e a w; cases e <;> rfl
  rw [hE]; exact this
theorem wp_region_quiet_then {id : Nat} {a : Act} {w : World} {L : List Oper} (hne : L ≠ []) (hm : P.follows .mixedOrders = true) (hB : Region.lexB .any L.dropLast.toArray = true) (ok : lastOk L.dropLast (L.getLast hne) = true)
    (h : wpQuiet P L.dropLast.toArray (fun w' => ∃ n, w' = w.drewN n) (fun a' => ∀ w', (∃ n, w' = w.drewN n) → wpList P (L.dropLast ++ [L.getLast hne]).toArray Q [L.getLast hne] a' w') L.dropLast a) : (Code.region id L.toArray true).wp P Q a w :=
  wp_region_quiet_last (by rw [List.dropLast_concat_getLast]) hm hB ok h
end
end Go.Proofs.Ytmphbajnadbggab
/- A region that leaves its order open, whose operations read and whose calls leave what lay below as it was: one walk, in the order of the text. -/
namespace Go.Proofs.Ytmphbajnadbggab
open Go.RowKit
set_option linter.unusedVariables false
/-- what is shown once behind several ways: kept from the walk -/
structure Later (X : Prop) : Prop where
  get : X
/-- a world in which all that W holds is as it was -/
structure GrownW (W : World) where
  val : World
  prop : Below W.heap.size W val
instance (W : World) : Nonempty (GrownW W) := ⟨⟨W, Below.refl _ _⟩⟩
theorem grown_cell {W : World} {p : Addr} {v : Value} (h : W.cell? p = some v) : ∀ x : GrownW W, x.val.cell? p = some v := fun x => (x.prop.cell (cell_lt h)).trans h
theorem grown_below {W w' : World} (h : ∃ x : GrownW W, w' = x.val) : Below W.heap.size W w' := by obtain ⟨x, rfl⟩ := h; exact x.prop
theorem wp_region_grows {P : Program} {id : Nat} {Q : Exit → Act → World → Prop} {a : Act} {W : World} {l : List Oper} (hm : P.follows .mixedOrders = true) (hB : Region.lexB .any l.toArray = true)
    (h : wpQuiet P l.toArray (fun w' => ∃ x : GrownW W, w' = x.val) (fun a' => ∀ w', (∃ x : GrownW W, w' = x.val) → Q .normal a' w') l a) : (Code.region id l.toArray true).wp P Q a W :=
  wp_region_quiet (C := fun w' => ∃ x : GrownW W, w' = x.val) hm hB ⟨⟨_, (Below.refl _ _).drew⟩, rfl⟩ (by simpa using h)
theorem Calls.grows {P : Program} {f : FuncId} {args : Array Value} {W : World} {x : GrownW W} {v : Value} (h : Calls P f args x.val fun e w' => e = .returned v ∧ Below x.val.heap.size x.val w') :
    Calls P f args x.val fun e w'' => e = .returned v ∧ ∃ y : GrownW W, w'' = y.val :=
  h.mono fun _ w' ⟨he, hb⟩ => ⟨he, ⟨w', bt x.prop hb⟩, rfl⟩
end Go.Proofs.Ytmphbajnadbggab
/- A region that leaves its order open: all that only reads comes first, then what makes memory, one behind the other; its last operation, where it waits for all others, at the end. One walk. -/
namespace Go.Proofs.Ytmphbajnadbggab
open Go.RowKit
set_option linter.unusedVariables false
/-- a cell below B in each world that left all below B as it was -/
theorem kept_cell {B : Nat} {W : World} {p : Addr} {v : Value} (h : W.cell? p = some v) (hb : p.block < B) : ∀ x : Subtype (Below B W), x.val.cell? p = some v := fun x => (x.property.cell hb).trans h
section
variable {P : Program} {Q : Exit → Act → World → Prop} {S : World → Prop} {ops : Array Oper} {md : Region.Mode}
/-- the operations in the order ord, each with its number: those marked true only read -/
def walkH (P : Program) (ops : Array Oper) (Q : Exit → Act → World → Prop) (S : World → Prop) : List (Bool × Nat × Option Oper) → Act → World → Prop
  | [], a, w => Q .normal a w
  | (true, i, oo) :: r, a, w => ∃ o v, oo = some o ∧ YieldsIf P ops S o v a ∧ walkH P ops Q S r (a.put o.dst v) w
  | (false, i, oo) :: r, a, w => wpOp P ops Q i (fun a' w' => S w' ∧ walkH P ops Q S r a' w') a w
def withOps (l : List Oper) (ord : List (Bool × Nat)) : List (Bool × Nat × Option Oper) := ord.map fun p => (p.1, p.2, l[p.2]?)
/-- ord is an order in which the readers may come first, and what is not a reader has no choice -/
def ordOk (md : Region.Mode) (ops : Array Oper) : List (Bool × Nat) → Array Bool → Bool
  | [], L => (Region.ready md ops L).isEmpty
  | (true, i) :: r, L => Region.free md ops L i && (Region.ready md ops L).contains i && ordOk md ops r (L.setIfInBounds i true)
  | (false, i) :: r, L => (Region.ready md ops L == [i]) && ordOk md ops r (L.setIfInBounds i true)
theorem wpAnyH_ord (hs : Region.noSelect ops = true) (hQ : ∀ c a d v w, Q (.panic c) (a.put d v) w → Q (.panic c) a w) : ∀ (ord : List (Bool × Nat)) (L : Array Bool) (a : Act) (w : World),
    ordOk md ops ord L = true → S w → walkH P ops Q S (withOps ops.toList ord) a w → wpAnyH P md ops Q S ord.length L a w
  | [], L, a, w, ok, hS, h => wpAnyH_done (by simpa [ordOk] using ok) h _
  | (true, i) :: r, L, a, w, ok, hS, h => by
    simp only [ordOk, Bool.and_eq_true] at ok
    obtain ⟨⟨h1, h2⟩, h3⟩ := ok
    obtain ⟨o, v, ho, hy, hr⟩ := h
    exact wpAnyH_take (by simpa using ho) hs h1 h2 (fun c a w => hQ c a _ _ w) hy hS (wpAnyH_ord hs hQ r _ _ _ h3 hS hr)
  | (false, i) :: r, L, a, w, ok, hS, h => by
    simp only [ordOk, Bool.and_eq_true, beq_iff_eq] at ok
    obtain ⟨h1, h3⟩ := ok
    refine wpAnyH_all h1 (by simp) (fun j hj => ?_)
    simp only [List.mem_singleton] at hj
    subst hj
    exact wpOp_mono (fun a' w' h' => ⟨h'.1, wpAnyH_ord hs hQ r _ _ _ h3 h'.1 h'.2⟩) h
theorem walkH_read {i : Nat} {r : List (Bool × Nat × Option Oper)} {a : Act} {w : World} {o : Oper} {v : Value} (hw : Region.wanted o (yielded ops a.tmps) = true)
    (hy : ∀ x : Subtype S, (execOp a.eval o).run P x.val = .ok (.value v) x.val) (h : walkH P ops Q S r (a.put o.dst v) w) : walkH P ops Q S ((true, i, some o) :: r) a w :=
  ⟨o, v, rfl, .inl ⟨hw, fun w' hw' => hy ⟨w', hw'⟩⟩, h⟩
theorem walkH_skip {i : Nat} {r : List (Bool × Nat × Option Oper)} {a : Act} {w : World} {o : Oper} (hw : Region.wanted o (yielded ops a.tmps) = false)
    (h : walkH P ops Q S r (a.put o.dst undef) w) : walkH P ops Q S ((true, i, some o) :: r) a w :=
  ⟨o, undef, rfl, .inr ⟨hw, rfl⟩, h⟩
theorem walkH_do {i : Nat} {r : List (Bool × Nat × Option Oper)} {a : Act} {w : World} {o : Oper} (ho : ops[i]? = some o)
    (h : ∀ K : Act → World → Prop, (∀ a w, S w → walkH P ops Q S r a w → K a w) → if Region.wanted o (yielded ops a.tmps) = true then Oper.wp P o a w K Q else K (a.put o.dst undef) w) : walkH P ops Q S ((false, i, some o) :: r) a w :=
  wpOp_step ho (fun K' hK => h K' (fun a w hS hW => hK a w ⟨hS, hW⟩))
theorem wp_region_ord {id : Nat} {a : Act} {w : World} (ord : List (Bool × Nat)) (hm : P.follows .mixedOrders = true) (hs : Region.noSelect ops = true) (hl : ord.length = ops.size) (ok : ordOk .any ops ord (Array.replicate ops.size false) = true)
    (hS : S w.drew) (h : walkH P ops (NoPanic Q) S (withOps ops.toList ord) a w.drew) : (Code.region id ops true).wp P Q a w := by
  refine wp_region_noPanic ?_
  have hQ : ∀ c a d v w, NoPanic Q (.panic c) (a.put d v) w → NoPanic Q (.panic c) a w := fun _ _ _ _ _ h => h
  refine wp_region_held (S := S) hm ?_
  have hh := wpAnyH_ord (md := .any) (L := Array.replicate ops.size false) hs hQ ord a _ ok hS h
  rw [hl] at hh
  exact hh
theorem lastPost_of_list {l : List Oper} {o : Oper} {a : Act} {w : World} (h : wpList P (l ++ [o]).toArray Q [o] a w) : LastPost P l o Q .normal a w := by
  show wpOp P (l ++ [o]).toArray Q l.length (Q .normal) a w
  refine wpOp_of_list (K := Q .normal) get_last ?_
  have hE : Exit.then (Q .normal) Q = Q := by funext e a w; cases e <;> rfl
  rw [hE]; exact h
theorem wp_region_ord_then {id : Nat} {a : Act} {w : World} {L : List Oper} (ord : List (Bool × Nat)) (hne : L ≠ []) (hm : P.follows .mixedOrders = true) (hs : Region.noSelect L.dropLast.toArray = true) (hl : ord.length = L.dropLast.length) (ok : ordOk .any L.dropLast.toArray ord (Array.replicate L.dropLast.length false) = true) (hlast : lastOk L.dropLast (L.getLast hne) = true)
    (hS : S w.drew)
    (h : walkH P L.dropLast.toArray (LastPost P L.dropLast (L.getLast hne) (NoPanic Q)) S (withOps L.dropLast ord) a w.drew) : (Code.region id L.toArray true).wp P Q a w := by
  refine wp_region_noPanic ?_
  have hQ : ∀ c a d v w, NoPanic Q (.panic c) (a.put d v) w → NoPanic Q (.panic c) a w := fun _ _ _ _ _ h => h
  have e0 : L.toArray = (L.dropLast ++ [L.getLast hne]).toArray := by rw [List.dropLast_concat_getLast]
  rw [e0]
  refine wp_region_any hm ?_
  have e1 : (L.dropLast ++ [L.getLast hne]).toArray.size = L.dropLast.length + 1 := by simp
  have e2 : Array.replicate (L.dropLast.length + 1) false = (Array.replicate L.dropLast.length false).push false := by rw [Array.replicate_succ]
  rw [e1, e2]
  refine wpAny_last hlast L.dropLast.length (Array.replicate L.dropLast.length false) a _ (by simp) ?_
  refine wpAny_of_held (S := S) _ _ _ _ ?_
  have hh := wpAnyH_ord (md := .any) (Q := LastPost P L.dropLast (L.getLast hne) (NoPanic Q)) (L := Array.replicate L.dropLast.length false) hs (fun c a d v w h => hQ c a d v w h) ord a _ ok hS h
  rw [hl] at hh
  exact hh
end
end Go.Proofs.Ytmphbajnadbggab
/- A region that leaves its order open, by one predicate an operation; its last operations, stores that wait for all others, at the end. -/
namespace Go.Proofs.Ytmphbajnadbggab
open Go.RowKit
set_option linter.unusedVariables false
set_option linter.unusedSimpArgs false
section
variable {P : Program} {Q : Exit → Act → World → Prop} {ops : Array Oper}
theorem wpAny_each {a : Act} {w : World} (ds : List Tmp) (Pred : Nat → Value → World → Prop)
    (hlen : ds.length = ops.size) (hinit : ∃ vs, vs.length = ds.length ∧ a = putAll a ds vs)
    (hedge : edgesBack ops = true)
    (hstable : ∀ i v w w', Pred i v w → Below w.heap.size w w' → Pred i v w')
    (hstep : ∀ (i : Nat) (o : Oper) (vs : List Value) (w' : World), ops[i]? = some o → vs.length = ds.length → Below w.heap.size w w' → (∀ e ∈ o.after, Region.binds .any e = true → Pred e.on (vs.getD e.on undef) w') →
      wpOp P ops Q i (fun a' w'' => ∃ v, a' = putAll a ds (vs.set i v) ∧ Pred i v w'' ∧ Below w'.heap.size w' w'') (putAll a ds vs) w')
    (hend : ∀ (vs : List Value) (w' : World), vs.length = ds.length → Below w.heap.size w w' → (∀ i, i < ds.length → Pred i (vs.getD i undef) w') → Q .normal (putAll a ds vs) w') :
    wpAny P .any ops Q ops.size (Array.replicate ops.size false) a w.drew := by
  refine wpAny_inv (Between ops a w ds Pred) ?_ ?_ ops.size _ a _ (by simp) ?_
  · intro listed a' w' i ⟨hs, hb, vs, hl, ha, hp⟩ hi
    obtain ⟨h1, o, ho, h2⟩ := mem_ready.1 hi
    rw [ha]
    refine wpOp_mono ?_ (hstep i o vs w' ho hl hb (fun e he hbd => hp _ (h2 e he hbd)))
    rintro a'' w'' ⟨v, rfl, hv, hb'⟩
    refine ⟨by simpa using hs, bt hb hb', vs.set i v, by simpa using hl, rfl, fun j hj => ?_⟩
    have hilt : i < ops.size := (Array.getElem?_eq_some_iff.1 ho).1
    by_cases hji : j = i
    · subst hji
      have : (vs.set j v).getD j undef = v := by simp [List.getD, show j < vs.length by omega]
      rw [this]; exact hv
    · have e1 : (vs.set i v).getD j undef = vs.getD j undef := by simp [List.getD, Ne.symm hji]
      rw [e1]
      refine hstable j _ w' w'' (hp j ?_) hb'
      simpa [Array.getElem?_setIfInBounds, Ne.symm hji] using hj
  · intro listed a' w' ⟨hs, hb, vs, hl, ha, hp⟩ hr
    rw [ha]
    exact hend vs w' hl hb (fun i hi => hp i (all_listed hs (edgesBack_spec hedge) hr (i + 1) i (by omega) (by omega)))
  · obtain ⟨vs, h1, h2⟩ := hinit
    refine ⟨by simp, (Below.refl _ _).drew, vs, h1, h2, fun i hi => ?_⟩
    exfalso
    by_cases h : i < ops.size
    · simp [h] at hi
    · simp [h] at hi
/-- what is known between two operations, and that the values of each two are apart -/
def Between2 (ops : Array Oper) (a0 : Act) (W0 : World) (ds : List Tmp) (Pred : Nat → Value → World → Prop) (Apart : Nat → Nat → Value → Value → Prop) (listed : Array Bool) (a : Act) (w : World) : Prop :=
  listed.size = ops.size ∧ Below W0.heap.size W0 w ∧ ∃ vs, vs.length = ds.length ∧ a = putAll a0 ds vs ∧ (∀ i, listed.getD i false = true → Pred i (vs.getD i undef) w) ∧ ∀ i j, i ≠ j → listed.getD i false = true → listed.getD j false = true → Apart i j (vs.getD i undef) (vs.getD j undef)
theorem wpAny_each2 {a : Act} {w : World} (ds : List Tmp) (Pred : Nat → Value → World → Prop) (Apart : Nat → Nat → Value → Value → Prop)
    (hlen : ds.length = ops.size) (hinit : ∃ vs, vs.length = ds.length ∧ a = putAll a ds vs)
    (hedge : edgesBack ops = true)
    (hstable : ∀ i v w w', Pred i v w → Below w.heap.size w w' → Pred i v w')
    (hstep : ∀ (i : Nat) (o : Oper) (vs : List Value) (w' : World), ops[i]? = some o → vs.length = ds.length → Below w.heap.size w w' → (∀ e ∈ o.after, Region.binds .any e = true → Pred e.on (vs.getD e.on undef) w') →
      wpOp P ops Q i (fun a' w'' => ∃ v, a' = putAll a ds (vs.set i v) ∧ Pred i v w'' ∧ Below w'.heap.size w' w'' ∧ ∀ j x, j ≠ i → Pred j x w' → Apart i j v x ∧ Apart j i x v) (putAll a ds vs) w')
    (hend : ∀ (vs : List Value) (w' : World), vs.length = ds.length → Below w.heap.size w w' → (∀ i, i < ds.length → Pred i (vs.getD i undef) w') → (∀ i j, i ≠ j → i < ds.length → j < ds.length → Apart i j (vs.getD i undef) (vs.getD j undef)) → Q .normal (putAll a ds vs) w') :
    wpAny P .any ops Q ops.size (Array.replicate ops.size false) a w.drew := by
  refine wpAny_inv (Between2 ops a w ds Pred Apart) ?_ ?_ ops.size _ a _ (by simp) ?_
  · intro listed a' w' i ⟨hs, hb, vs, hl, ha, hp, hq⟩ hi
    obtain ⟨h1, o, ho, h2⟩ := mem_ready.1 hi
    rw [ha]
    refine wpOp_mono ?_ (hstep i o vs w' ho hl hb (fun e he hbd => hp _ (h2 e he hbd)))
    rintro a'' w'' ⟨v, rfl, hv, hb', hap⟩
    have hilt : i < ops.size := (Array.getElem?_eq_some_iff.1 ho).1
    have ei : (vs.set i v).getD i undef = v := by simp [List.getD, show i < vs.length by omega]
    have ej : ∀ j, j ≠ i → (vs.set i v).getD j undef = vs.getD j undef := fun j hji => by simp [List.getD, Ne.symm hji]
    have el : ∀ j, j ≠ i → (listed.setIfInBounds i true).getD j false = true → listed.getD j false = true := fun j hji hj => by
      simpa [Array.getElem?_setIfInBounds, Ne.symm hji] using hj
    refine ⟨by simpa using hs, bt hb hb', vs.set i v, by simpa using hl, rfl, fun j hj => ?_, fun j k hjk hj hk => ?_⟩
    · by_cases hji : j = i
      · subst hji
        rw [ei]; exact hv
      · rw [ej j hji]
        exact hstable j _ w' w'' (hp j (el j hji hj)) hb'
    · by_cases hji : j = i
      · subst hji
        rw [ei, ej k (Ne.symm hjk)]
        exact (hap k _ (Ne.symm hjk) (hp k (el k (Ne.symm hjk) hk))).1
      · by_cases hki : k = i
        · subst hki
          rw [ei, ej j hji]
          exact (hap j _ hji (hp j (el j hji hj))).2
        · rw [ej j hji, ej k hki]
          exact hq j k hjk (el j hji hj) (el k hki hk)
  · intro listed a' w' ⟨hs, hb, vs, hl, ha, hp, hq⟩ hr
    rw [ha]
    have hall : ∀ i, i < ds.length → listed.getD i false = true := fun i hi => all_listed hs (edgesBack_spec hedge) hr (i + 1) i (by omega) (by omega)
    exact hend vs w' hl hb (fun i hi => hp i (hall i hi)) (fun i j hij hi hj => hq i j hij (hall i hi) (hall j hj))
  · obtain ⟨vs, h1, h2⟩ := hinit
    have hno : ∀ i, (Array.replicate ops.size false).getD i false ≠ true := fun i hi => by
      by_cases h : i < ops.size
      · simp [h] at hi
      · simp [h] at hi
    exact ⟨by simp, (Below.refl _ _).drew, vs, h1, h2, fun i hi => absurd hi (hno i), fun i j _ hi => absurd hi (hno i)⟩
/-- by one predicate an operation; each operation keeps what is known of the others (an operation that leaves no value: give it a slot that isn't there) -/
theorem wp_region_keep {id : Nat} {a : Act} {w : World} (hm : P.follows .mixedOrders = true) (ds : List Tmp) (Pred : Nat → Value → World → Prop)
    (hlen : ds.length = ops.size) (hinit : ∃ vs, vs.length = ds.length ∧ a = putAll a ds vs)
    (hedge : edgesBack ops = true)
    (hstep : ∀ (i : Nat) (o : Oper) (vs : List Value) (w' : World), ops[i]? = some o → vs.length = ds.length → Below w.heap.size w w' → (∀ e ∈ o.after, Region.binds .any e = true → Pred e.on (vs.getD e.on undef) w') →
      wpOp P ops Q i (fun a' w'' => ∃ v, a' = putAll a ds (vs.set i v) ∧ Pred i v w'' ∧ Below w.heap.size w w'' ∧ ∀ j x, j ≠ i → Pred j x w' → Pred j x w'') (putAll a ds vs) w')
    (hend : ∀ (vs : List Value) (w' : World), vs.length = ds.length → Below w.heap.size w w' → (∀ i, i < ds.length → Pred i (vs.getD i undef) w') → Q .normal (putAll a ds vs) w') :
    (Code.region id ops true).wp P Q a w := by
  refine wp_region_inv hm (Between ops a w ds Pred) ?_ ?_ ?_
  · obtain ⟨vs, h1, h2⟩ := hinit
    refine ⟨by simp, (Below.refl _ _).drew, vs, h1, h2, fun i hi => ?_⟩
    exfalso
    by_cases h : i < ops.size
    · simp [h] at hi
    · simp [h] at hi
  · intro listed a' w' i ⟨hs, hb, vs, hl, ha, hp⟩ hi
    obtain ⟨h1, o, ho, h2⟩ := mem_ready.1 hi
    rw [ha]
    refine wpOp_mono ?_ (hstep i o vs w' ho hl hb (fun e he hbd => hp _ (h2 e he hbd)))
    rintro a'' w'' ⟨v, rfl, hv, hb', hkeep⟩
    refine ⟨by simpa using hs, hb', vs.set i v, by simpa using hl, rfl, fun j hj => ?_⟩
    have hilt : i < ops.size := (Array.getElem?_eq_some_iff.1 ho).1
    by_cases hji : j = i
    · subst hji
      have : (vs.set j v).getD j undef = v := by simp [List.getD, show j < vs.length by omega]
      rw [this]; exact hv
    · have e1 : (vs.set i v).getD j undef = vs.getD j undef := by simp [List.getD, Ne.symm hji]
      rw [e1]
      refine hkeep j _ hji (hp j ?_)
      simpa [Array.getElem?_setIfInBounds, Ne.symm hji] using hj
  · intro listed a' w' ⟨hs, hb, vs, hl, ha, hp⟩ hr
    rw [ha]
    exact hend vs w' hl hb (fun i hi => hp i (all_listed hs (edgesBack_spec hedge) hr (i + 1) i (by omega) (by omega)))
/-- an operation that only makes memory keeps what is stable -/
theorem keeps_of_below {Pred : Nat → Value → World → Prop} (hstable : ∀ i v w w', Pred i v w → Below w.heap.size w w' → Pred i v w') {W w w' : World} {i : Nat} (hb : Below W.heap.size W w) (h : Below w.heap.size w w') :
    Below W.heap.size W w' ∧ ∀ j x, j ≠ i → Pred j x w → Pred j x w' := ⟨bt hb h, fun j x _ hp => hstable j x w w' hp h⟩
/-- what must have come up ahead of the operations S: all that they wait for, and all that that waits for -/
def pull (l : List Oper) : Nat → List Nat → List Nat
  | 0, S => S
  | k + 1, S => pull l k (if S.contains k then S ++ (match l[k]? with | some p => (p.after.filter (fun e => Region.binds .any e)).toList.map (fun e => e.on) | none => []) else S)
/-- o, behind l, waits for every operation of l, itself or by another -/
def lastOkT (l : List Oper) (o : Oper) : Bool :=
  (List.range l.length).all (fun j => (pull l l.length ((o.after.filter (fun e => Region.binds .any e)).toList.map (fun e => e.on))).contains j) && o.after.all (fun e => !Region.binds .any e || decide (e.on < l.length)) &&
  l.all (fun p => match p.guard with | some (g, _) => decide (g < l.length) | none => true) && edgesBack l.toArray
/-- whatever has come up: what it waits for has, too -/
def Closed (l : List Oper) (L : Array Bool) : Prop := ∀ (i : Nat) p, l[i]? = some p → L.getD i false = true → ∀ e ∈ p.after, Region.binds .any e = true → L.getD e.on false = true
theorem closed_none (l : List Oper) (n : Nat) : Closed l (Array.replicate n false) := fun i p _ h => by
  exfalso
  by_cases h' : i < n
  · simp [h'] at h
  · simp [h'] at h
theorem set_mono {L : Array Bool} {i j : Nat} (h : L.getD j false = true) : (L.setIfInBounds i true).getD j false = true := by
  by_cases hij : i = j
  · subst hij
    by_cases hl : i < L.size
    · simp [hl]
    · simp [hl] at h
  · simpa [Array.getElem?_setIfInBounds, hij] using h
theorem Closed.set {l : List Oper} {L : Array Bool} {i : Nat} (h : Closed l L) (hi : i < L.size) (hr : i ∈ Region.ready .any l.toArray L) : Closed l (L.setIfInBounds i true) := by
  intro j p hp hj e he hb
  obtain ⟨_, q, hq, h2⟩ := mem_ready.1 hr
  by_cases hij : i = j
  · subst hij
    have : q = p := by
      have : l[i]? = some q := by simpa using hq
      rw [hp] at this
      exact (Option.some.inj this).symm
    subst this
    exact set_mono (h2 e he hb)
  · exact set_mono (h j p hp (by simpa [Array.getElem?_setIfInBounds, hij] using hj) e he hb)
theorem pull_listed {l : List Oper} {L : Array Bool} (hc : Closed l L) : ∀ (k : Nat) (S : List Nat), (∀ j ∈ S, L.getD j false = true) → ∀ j ∈ pull l k S, L.getD j false = true
  | 0, S, h => h
  | k + 1, S, h => by
    refine pull_listed hc k _ (fun j hj => ?_)
    split at hj
    · next hk =>
      rw [List.mem_append] at hj
      rcases hj with hj | hj
      · exact h j hj
      · split at hj
        · next p hp =>
          rw [List.mem_map] at hj
          obtain ⟨e, he, rfl⟩ := hj
          have he' : e ∈ p.after ∧ Region.binds .any e = true := by simpa using he
          exact hc k p hp (h k (by simpa using hk)) e he'.1 he'.2
        · cases hj
    · exact h j hj
theorem ready_lastT {l : List Oper} {o : Oper} {L : Array Bool} (hs : L.size = l.length) (ok : lastOkT l o = true) :
    True ∧ ((∀ j, j < l.length → L.getD j false = true) → l.length ∈ Region.ready .any (l ++ [o]).toArray (L.push false)) := by
  simp only [lastOkT, Bool.and_eq_true] at ok
  obtain ⟨⟨⟨h1, h2⟩, _⟩, _⟩ := ok
  refine ⟨trivial, fun h => ?_⟩
  rw [mem_ready, get_last]
  refine ⟨by simp [Array.getD_eq_getD_getElem?, ← hs], o, rfl, fun e he hb => ?_⟩
  have := Array.all_eq_true_iff_forall_mem.1 h2 e he
  rw [hb] at this
  have hlt : e.on < l.length := by simpa using this
  rw [listed_init hs false hlt]
  exact h _ hlt
theorem ready_lastT_all {l : List Oper} {o : Oper} {L : Array Bool} (hs : L.size = l.length) (ok : lastOkT l o = true) (hc : Closed l L)
    (h : l.length ∈ Region.ready .any (l ++ [o]).toArray (L.push false)) : ∀ j, j < l.length → L.getD j false = true := by
  simp only [lastOkT, Bool.and_eq_true] at ok
  obtain ⟨⟨⟨h1, h2⟩, _⟩, _⟩ := ok
  rw [mem_ready, get_last] at h
  obtain ⟨_, p, hp, h⟩ := h
  cases hp
  intro j hj
  have hj' := List.all_eq_true.1 h1 j (by simpa using hj)
  refine pull_listed hc l.length _ (fun i hi => ?_) j (by simpa using hj')
  rw [List.mem_map] at hi
  obtain ⟨e, he, rfl⟩ := hi
  have he' : e ∈ o.after ∧ Region.binds .any e = true := by simpa using he
  have h3 := Array.all_eq_true_iff_forall_mem.1 h2 e he'.1
  rw [he'.2] at h3
  have hlt : e.on < l.length := by simpa using h3
  have := h e he'.1 he'.2
  rwa [listed_init hs false hlt] at this
theorem wpAny_lastT {l : List Oper} {o : Oper} (ok : lastOkT l o = true) : ∀ (fuel : Nat) (L : Array Bool) (a : Act) (w : World), L.size = l.length → Closed l L →
    wpAny P .any l.toArray (LastPost P l o Q) fuel L a w → wpAny P .any (l ++ [o]).toArray Q (fuel + 1) (L.push false) a w := by
  have ok' := ok
  simp only [lastOkT, Bool.and_eq_true] at ok'
  obtain ⟨⟨⟨_, _⟩, h3⟩, h4⟩ := ok'
  have hg : ∀ p ∈ l, ∀ g b, p.guard = some (g, b) → g < l.length := by
    intro p hp g b hgb
    have := List.all_eq_true.1 h3 p hp
    rw [hgb] at this
    simpa using this
  have hQ : ∀ e a w, e ≠ .normal → LastPost P l o Q e a w → Q e a w := fun e a w hne h => by cases e <;> first | exact absurd rfl hne | exact h
  have hall : ∀ L : Array Bool, L.size = l.length → Region.ready .any l.toArray L = [] → ∀ j, j < l.length → L.getD j false = true := fun L hs hr j hj =>
    all_listed (ops := l.toArray) (by simpa using hs) (edgesBack_spec h4) hr (j + 1) j (by omega) (by simpa using hj)
  have hnone : ∀ (L : Array Bool), L.size = l.length → (∀ j, j < l.length → L.getD j false = true) → Region.ready .any (l ++ [o]).toArray ((L.push false).setIfInBounds l.length true) = [] := by
    intro L hs h
    rw [List.eq_nil_iff_forall_not_mem]
    intro i hi
    have h1 := (mem_ready.1 hi).1
    have hlt : i < l.length + 1 := by
      obtain ⟨_, p, hp, _⟩ := mem_ready.1 hi
      have := (Array.getElem?_eq_some_iff.1 hp).1
      simpa using this
    by_cases hin : i = l.length
    · subst hin
      simp [Array.getD_eq_getD_getElem?, hs] at h1
    · have hi2 : i < l.length := by omega
      have := h i hi2
      simp [Array.getD_eq_getD_getElem?, Array.getElem?_setIfInBounds, Ne.symm hin, Array.getElem?_push, show i ≠ L.size by omega, Array.getElem?_eq_getElem (show i < L.size by omega)] at h1 this
      rw [this] at h1; cases h1
  have hfin : ∀ (fuel : Nat) (L : Array Bool) (a : Act) (w : World), L.size = l.length → (∀ j, j < l.length → L.getD j false = true) → Q .normal a w → wpAny P .any (l ++ [o]).toArray Q fuel ((L.push false).setIfInBounds l.length true) a w := by
    intro fuel L a w hs h hq
    have hr := hnone L hs h
    cases fuel with
    | zero => exact ⟨hr, hq⟩
    | succ fuel => exact ⟨fun _ => hq, fun i hi => by rw [hr] at hi; cases hi⟩
  intro fuel
  induction fuel with
  | zero =>
    intro L a w hs hcl h
    obtain ⟨hr, hq⟩ := h
    have ha := hall L hs hr
    refine ⟨fun h0 => ?_, fun i hi => ?_⟩
    · have := (ready_lastT hs ok).2 ha
      rw [h0] at this; cases this
    · by_cases hin : i < l.length
      · have := (ready_init hs hin).1 hi
        rw [hr] at this; cases this
      · have hlt : i < l.length + 1 := by
          obtain ⟨_, p, hp, _⟩ := mem_ready.1 hi
          have := (Array.getElem?_eq_some_iff.1 hp).1
          simpa using this
        obtain rfl : i = l.length := by omega
        exact wpOp_mono (fun a' w' hq' => hfin 0 L a' w' hs ha hq') hq
  | succ fuel ih =>
    intro L a w hs hcl h
    obtain ⟨h0, h1⟩ := h
    refine ⟨fun hr => ?_, fun i hi => ?_⟩
    · exfalso
      have hr' : Region.ready .any l.toArray L = [] := by
        rw [List.eq_nil_iff_forall_not_mem]
        intro i hi
        have hlt : i < l.length := by
          obtain ⟨_, p, hp, _⟩ := mem_ready.1 hi
          have := (Array.getElem?_eq_some_iff.1 hp).1
          simpa using this
        have := (ready_init (o := o) hs hlt).2 hi
        rw [hr] at this; cases this
      have := (ready_lastT hs ok).2 (hall L hs hr')
      rw [hr] at this; cases this
    · by_cases hin : i < l.length
      · have hi' := (ready_init hs hin).1 hi
        refine wpOp_init hin hg hQ (fun a' w' h' => ?_) (h1 i hi')
        rw [push_set (by omega)]
        exact ih _ a' w' (by simpa using hs) (hcl.set (by omega) hi') h'
      · have hlt : i < l.length + 1 := by
          obtain ⟨_, p, hp, _⟩ := mem_ready.1 hi
          have := (Array.getElem?_eq_some_iff.1 hp).1
          simpa using this
        obtain rfl : i = l.length := by omega
        have ha := (ready_lastT_all hs ok hcl) hi
        have hr' : Region.ready .any l.toArray L = [] := by
          rw [List.eq_nil_iff_forall_not_mem]
          intro j hj
          have hjl : j < l.length := by
            obtain ⟨_, p, hp, _⟩ := mem_ready.1 hj
            have := (Array.getElem?_eq_some_iff.1 hp).1
            simpa using this
          have h2 := (mem_ready.1 hj).1
          have h3 := ha j hjl
          simp [Array.getD_eq_getD_getElem?, Array.getElem?_eq_getElem (show j < L.size by omega)] at h2 h3
          rw [h2] at h3; cases h3
        exact wpOp_mono (fun a' w' hq' => hfin _ L a' w' hs ha hq') (h0 hr')
theorem wp_region_last1 {id : Nat} {a : Act} {w : World} {L : List Oper} (hne : L ≠ []) (hm : P.follows .mixedOrders = true) (h1 : lastOkT L.dropLast (L.getLast hne) = true)
    (h : wpAny P .any L.dropLast.toArray (LastPost P L.dropLast (L.getLast hne) Q) L.dropLast.toArray.size (Array.replicate L.dropLast.toArray.size false) a w.drew) : (Code.region id L.toArray true).wp P Q a w := by
  have e0 : L.toArray = (L.dropLast ++ [L.getLast hne]).toArray := by rw [List.dropLast_concat_getLast]
  rw [e0]
  refine wp_region_any hm ?_
  have e1 : (L.dropLast ++ [L.getLast hne]).toArray.size = L.dropLast.length + 1 := by simp
  have e2 : Array.replicate (L.dropLast.length + 1) false = (Array.replicate L.dropLast.length false).push false := by rw [Array.replicate_succ]
  rw [e1, e2]
  exact wpAny_lastT h1 L.dropLast.length (Array.replicate L.dropLast.length false) a _ (by simp) (closed_none _ _) (by simpa using h)
theorem wpAny_last1 {a : Act} {w : World} {L : List Oper} (hne : L ≠ []) (h1 : lastOkT L.dropLast (L.getLast hne) = true)
    (h : wpAny P .any L.dropLast.toArray (LastPost P L.dropLast (L.getLast hne) Q) L.dropLast.toArray.size (Array.replicate L.dropLast.toArray.size false) a w) : wpAny P .any L.toArray Q L.toArray.size (Array.replicate L.toArray.size false) a w := by
  have e0 : L.toArray = (L.dropLast ++ [L.getLast hne]).toArray := by rw [List.dropLast_concat_getLast]
  rw [e0]
  have e1 : (L.dropLast ++ [L.getLast hne]).toArray.size = L.dropLast.length + 1 := by simp
  have e2 : Array.replicate (L.dropLast.length + 1) false = (Array.replicate L.dropLast.length false).push false := by rw [Array.replicate_succ]
  rw [e1, e2]
  exact wpAny_lastT h1 L.dropLast.length (Array.replicate L.dropLast.length false) a _ (by simp) (closed_none _ _) (by simpa using h)
theorem lastPost_do {l : List Oper} {o : Oper} {a : Act} {w : World} (h : ∀ K : Act → World → Prop, (∀ a w, Q .normal a w → K a w) → if Region.wanted o (yielded (l ++ [o]).toArray a.tmps) = true then Oper.wp P o a w K Q else K (a.put o.dst undef) w) : LastPost P l o Q .normal a w :=
  wpOp_step get_last h
/-- all but the last, which waits for all others by way of others: the readers first, then the rest, then that one -/
theorem wp_region_ord_thenT {S : World → Prop} {id : Nat} {a : Act} {w : World} {L : List Oper} (ord : List (Bool × Nat)) (hne : L ≠ []) (hm : P.follows .mixedOrders = true) (hs : Region.noSelect L.dropLast.toArray = true) (hl : ord.length = L.dropLast.length) (ok : ordOk .any L.dropLast.toArray ord (Array.replicate L.dropLast.length false) = true) (hlast : lastOkT L.dropLast (L.getLast hne) = true)
    (hS : S w.drew)
    (h : walkH P L.dropLast.toArray (LastPost P L.dropLast (L.getLast hne) (NoPanic Q)) S (withOps L.dropLast ord) a w.drew) : (Code.region id L.toArray true).wp P Q a w := by
  refine wp_region_noPanic ?_
  have hQ : ∀ c a d v w, NoPanic Q (.panic c) (a.put d v) w → NoPanic Q (.panic c) a w := fun _ _ _ _ _ h => h
  refine wp_region_last1 hne hm hlast ?_
  refine wpAny_of_held (S := S) _ _ _ _ ?_
  have hh := wpAnyH_ord (md := .any) (Q := LastPost P L.dropLast (L.getLast hne) (NoPanic Q)) (L := Array.replicate L.dropLast.length false) hs (fun c a d v w h => hQ c a d v w h) ord a _ ok hS h
  rw [hl] at hh
  simpa using hh
end
end Go.Proofs.Ytmphbajnadbggab
/- A region that leaves its order open between two operations that make memory: all that only reads comes first, then either of the two. -/
namespace Go.Proofs.Ytmphbajnadbggab
open Go.RowKit
set_option linter.unusedVariables false
section
variable {P : Program} {Q : Exit → Act → World → Prop} {S : World → Prop} {ops : Array Oper} {md : Region.Mode}
/-- pre are readers; then i and j may come, and behind each of them all is settled -/
def ord2Ok (md : Region.Mode) (ops : Array Oper) (i j : Nat) (r1 r2 : List (Bool × Nat)) : List Nat → Array Bool → Bool
  | [], L => (Region.ready md ops L == [i, j]) && ordOk md ops r1 (L.setIfInBounds i true) && ordOk md ops r2 (L.setIfInBounds j true) && (r1.length == r2.length)
  | k :: pre, L => Region.free md ops L k && (Region.ready md ops L).contains k && ord2Ok md ops i j r1 r2 pre (L.setIfInBounds k true)
/-- both ways -/
def Both (P : Program) (ops : Array Oper) (Q : Exit → Act → World → Prop) (S : World → Prop) (l1 l2 : List (Bool × Nat × Option Oper)) : Exit → Act → World → Prop := fun _ a w => walkH P ops Q S l1 a w ∧ walkH P ops Q S l2 a w
theorem walkH_nil {a : Act} {w : World} (h : Q .normal a w) : walkH P ops Q S [] a w := h
theorem walkH_both {l1 l2 : List (Bool × Nat × Option Oper)} {a : Act} {w : World} (h1 : walkH P ops Q S l1 a w) (h2 : walkH P ops Q S l2 a w) : walkH P ops (Both P ops Q S l1 l2) S [] a w := ⟨h1, h2⟩
theorem wpAnyH_ord2 (hs : Region.noSelect ops = true) (hQ : ∀ c a d v w, Q (.panic c) (a.put d v) w → Q (.panic c) a w) (i j : Nat) (r1 r2 : List (Bool × Nat)) : ∀ (pre : List Nat) (L : Array Bool) (a : Act) (w : World),
    ord2Ok md ops i j r1 r2 pre L = true → S w → walkH P ops (Both P ops Q S (withOps ops.toList ((false, i) :: r1)) (withOps ops.toList ((false, j) :: r2))) S (withOps ops.toList (pre.map fun k => (true, k))) a w → wpAnyH P md ops Q S (pre.length + (r1.length + 1)) L a w
  | [], L, a, w, ok, hS, h => by
    simp only [ord2Ok, Bool.and_eq_true, beq_iff_eq] at ok
    obtain ⟨⟨⟨h1, h2⟩, h3⟩, h4⟩ := ok
    rw [List.length_nil, Nat.zero_add]
    refine wpAnyH_all h1 (by simp) (fun k hk => ?_)
    rw [List.mem_cons, List.mem_singleton] at hk
    rcases hk with rfl | rfl
    · exact wpOp_mono (fun a' w' h' => ⟨h'.1, wpAnyH_ord hs hQ r1 _ _ _ h2 h'.1 h'.2⟩) h.1
    · rw [h4]
      exact wpOp_mono (fun a' w' h' => ⟨h'.1, wpAnyH_ord hs hQ r2 _ _ _ h3 h'.1 h'.2⟩) h.2
  | k :: pre, L, a, w, ok, hS, h => by
    simp only [ord2Ok, Bool.and_eq_true] at ok
    obtain ⟨⟨h1, h2⟩, h3⟩ := ok
    obtain ⟨o, v, ho, hy, hr⟩ := h
    have e : (k :: pre).length + (r1.length + 1) = (pre.length + (r1.length + 1)) + 1 := by simp; omega
    rw [e]
    exact wpAnyH_take (by simpa using ho) hs h1 h2 (fun c a w => hQ c a _ _ w) hy hS (wpAnyH_ord2 hs hQ i j r1 r2 pre _ _ _ h3 hS hr)
theorem wp_region_ord2 {id : Nat} {a : Act} {w : World} (pre : List Nat) (i j : Nat) (r1 r2 : List (Bool × Nat)) (hm : P.follows .mixedOrders = true) (hs : Region.noSelect ops = true) (hl : pre.length + (r1.length + 1) = ops.size) (ok : ord2Ok .any ops i j r1 r2 pre (Array.replicate ops.size false) = true)
    (hS : S w.drew) (h : walkH P ops (Both P ops (NoPanic Q) S (withOps ops.toList ((false, i) :: r1)) (withOps ops.toList ((false, j) :: r2))) S (withOps ops.toList (pre.map fun k => (true, k))) a w.drew) : (Code.region id ops true).wp P Q a w := by
  refine wp_region_noPanic ?_
  have hQ : ∀ c a d v w, NoPanic Q (.panic c) (a.put d v) w → NoPanic Q (.panic c) a w := fun _ _ _ _ _ h => h
  refine wp_region_held (S := S) hm ?_
  have hh := wpAnyH_ord2 (md := .any) (L := Array.replicate ops.size false) hs hQ i j r1 r2 pre a _ ok hS h
  rw [hl] at hh
  exact hh
end
end Go.Proofs.Ytmphbajnadbggab
/- A matrix that lies in memory: what it reads. -/
namespace Go.Proofs.Ytmphbajnadbggab
open Go.RowKit
set_option linter.unusedVariables false
/-- a slice of ints that reads xs -/
def RowV (w : World) (v : Value) (xs : List Int) : Prop := ∃ a n cap, v = .slice a n cap ∧ n ≤ maxLen ∧ Ints w a n cap xs
theorem RowV.below {w w' : World} {v : Value} {xs : List Int} (h : RowV w v xs) (hb : Below w.heap.size w w') : RowV w' v xs := by
  obtain ⟨a, n, cap, e, hn, h⟩ := h; exact ⟨a, n, cap, e, hn, h.below hb⟩
/-- rows of numbers, one behind the other -/
def RowsV (w : World) (a : Option Addr) (n cap : Nat) (M : List (List Int)) : Prop := ∃ f : Nat → Value, M.length = n ∧ n ≤ maxLen ∧ IsRow w a n cap f ∧ ∀ i, i < n → RowV w (f i) (M.getD i [])
theorem RowsV.below {w w' : World} {a : Option Addr} {n cap : Nat} {M : List (List Int)} (h : RowsV w a n cap M) (hb : Below w.heap.size w w') : RowsV w' a n cap M := by
  obtain ⟨f, hl, hn, hr, hv⟩ := h
  exact ⟨f, hl, hn, hr.below hb, fun i hi => (hv i hi).below hb⟩
/-- a value of type api.Matrix that reads M -/
def MatV (w : World) (v : Value) (M : List (List Int)) : Prop := ∃ a n cap, v = .agg #[.slice a n cap] ∧ RowsV w a n cap M
theorem MatV.below {w w' : World} {v : Value} {M : List (List Int)} (h : MatV w v M) (hb : Below w.heap.size w w') : MatV w' v M := by
  obtain ⟨a, n, cap, e, h⟩ := h; exact ⟨a, n, cap, e, h.below hb⟩
theorem RowsV.two {w : World} {a : Option Addr} {n cap : Nat} {M : List (List Int)} (h : RowsV w a n cap M) :
    n = 0 ∨ ∃ b off, a = some ⟨b, off, none⟩ ∧ ∀ i, i < n → ∃ u, w.cell? ⟨b, off + i, none⟩ = some u ∧ RowV w u (M.getD i []) := by
  obtain ⟨f, hl, hn, hr, hv⟩ := h
  rcases hr.two with h0 | ⟨b, off, e, hc⟩
  · exact .inl h0
  · exact .inr ⟨b, off, e, fun i hi => ⟨f i, hc i hi, hv i hi⟩⟩
end Go.Proofs.Ytmphbajnadbggab
/- 'append(s, x)' of one element onto a slice of the call's own, and what it does to the call's other slices: nothing. -/
namespace Go.Proofs.Ytmphbajnadbggab
open Go.RowKit
set_option linter.unusedVariables false
/-- v is a slice of the call's own (blocks from B on) that holds xs -/
def OwnL (w : World) (B : Nat) (e : TypeId) (v : Value) (xs : List Value) : Prop := w.ownsRow B e 1 v xs.length xs
/-- two slices that lie in different blocks -/
def Apt (v v' : Value) : Prop := ∀ g, v.ownBlock = some g → v'.ownBlock ≠ some g
theorem Apt.symm {v v' : Value} (h : Apt v v') : Apt v' v := fun g e e' => h g e' e
theorem apt_nil (v : Value) : Apt v (.slice none 0 0) := fun g _ => by simp [Value.ownBlock]
theorem OwnL.nil (w : World) (B : Nat) (e : TypeId) : OwnL w B e (.slice none 0 0) [] := World.ownsRow_nil w B e 1
theorem OwnL.lt {w : World} {B : Nat} {e : TypeId} {v : Value} {xs : List Value} (h : OwnL w B e v xs) {g : Nat} (hg : v.ownBlock = some g) : B ≤ g ∧ g < w.heap.size := World.ownsRow.lt h g hg
theorem OwnL.alloc {w : World} {B : Nat} {e : TypeId} {v : Value} {xs : List Value} (h : OwnL w B e v xs) (o : Obj) : OwnL (w.alloc o) B e v xs := World.ownsRow.alloc h o
theorem OwnL.below {w w' : World} {B : Nat} {e : TypeId} {v : Value} {xs : List Value} (h : OwnL w B e v xs) (hb : Below w.heap.size w w') : OwnL w' B e v xs :=
  World.ownsRow.kept (row := none) h ⟨hb.os, hb.tape, hb.output, hb.size, fun k hk _ => hb.block k hk⟩ (by cases hv : v.ownBlock <;> simp)
/-- behind 'append(v, u)': v' lies where v lay, or in a new block; no other old block has turned -/
structure Pushed (w w' : World) (v v' : Value) : Prop where
  grown : w.grownBy w' v.ownBlock
  lies : v'.ownBlock = v.ownBlock ∨ ∃ g, v'.ownBlock = some g ∧ w.heap.size ≤ g
theorem Pushed.other {w w' : World} {v v' v2 : Value} {B : Nat} {e : TypeId} {ys : List Value} (p : Pushed w w' v v') (h : OwnL w B e v2 ys) (a : Apt v v2) : OwnL w' B e v2 ys :=
  World.ownsRow.kept h p.grown (by
    cases hv : v2.ownBlock with
    | none => exact .inl rfl
    | some g => exact .inr (fun he => a g he.symm hv))
theorem Pushed.apt {w w' : World} {v v' v2 : Value} {B : Nat} {e : TypeId} {ys : List Value} (p : Pushed w w' v v') (h : OwnL w B e v2 ys) (a : Apt v v2) : Apt v' v2 := by
  intro g hg hg2
  rcases p.lies with he | ⟨g', he, hle⟩
  · exact a g (by rw [← he]; exact hg) hg2
  · have hlt := (h.lt hg2).2
    rw [he] at hg
    simp at hg
    omega
theorem Pushed.below {W w w' : World} {v v' : Value} {B B' : Nat} {e : TypeId} {xs : List Value} (p : Pushed w w' v v') (h : OwnL w B e v xs) (hb : Below B' W w) (hB : B' ≤ B) (hs : B' ≤ w.heap.size) : Below B' W w' :=
  hb.grown p.grown hs (fun k hk => Nat.le_trans hB (h.lt hk).1)
theorem wpList_push {P : Program} (w0 : World) {ops : Array Oper} {rest : List Oper} {o : Oper} {a : Act} {Q : Exit → Act → World → Prop} (hgd : o.guard = none) (s x : Operand) (t : TypeId)
    (ho : o.op = .call { callee := .builtin .append, args := #[s, x], argTypes := #[t, t] })
    (B : Nat) (e : TypeId) (z : Value) (bytes : Nat) (ht : P.underlying t = some (.slice e)) (hinfo : (P.info? e).map (fun i => (i.zero, i.size, i.bytes)) = some (some z, 1, bytes)) (hzs : z.cells.size = 1)
    (v : Value) (xs : List Value) (hs : a.eval s = v) (hown : OwnL w0 B e v xs) (u : Value) (hu : u.oneCell' = true)
    (hx : a.eval x = .slice (some ⟨w0.heap.size, 0, none⟩) 1 1)
    (hbytes : (xs.length + 1) * bytes ≤ 140737488355328) (hb8 : 0 < bytes) (hbase : B ≤ w0.heap.size)
    (h : ∀ v' w', OwnL w' B e v' (xs ++ [u]) → Pushed w0 w' v v' → wpList P ops Q rest (a.put o.dst v') w') : wpList P ops Q (o :: rest) a (w0.alloc (.cells #[u] e)) := by
  obtain ⟨i0, hi, hz0, hz1, hz2⟩ := info_parts hinfo
  have hb1 : (xs.length + 1) * 1 ≤ (xs.length + 1) * bytes := Nat.mul_le_mul_left _ hb8
  refine wpList_append_lies _ hgd s x t ho B e i0 z 1 bytes ht hi hz0 hz1 hz2 hzs (by decide) v xs.length xs hs (hown.alloc _) ⟨w0.heap.size, 0, none⟩ 1 1 [u] hx rfl (news_alloc w0 [u] e) (by simpa using hu) (by decide) (by unfold maxLen; omega) hbytes (by simp; omega) (w0.heap.size + 1) (by simp) ?_
  intro g cap w' h1 h2 h3 h4
  refine h _ w' (by simpa [OwnL] using h1) ⟨?_, ?_⟩
  · exact ⟨h2.os, h2.tape, h2.output, Nat.le_trans (by simp) h2.size, fun k hk hne => by
      rw [h2.block k (by simp; omega) hne]; exact Below.heap_alloc _ _ _ hk⟩
  · rcases h3 with h3 | h3
    · exact .inl (by rw [h3]; rfl)
    · exact .inr ⟨g, rfl, by omega⟩
theorem OwnL.strs {w : World} {B : Nat} {e : TypeId} {v : Value} {ss : List ByteArray} (h : OwnL w B e v (ss.map Value.string)) : ∃ a cap, v = .slice a ss.length cap ∧ Strs w a ss.length cap ss := own_strs (by simpa [OwnL] using h) rfl
theorem OwnL.ints {w : World} {B : Nat} {e : TypeId} {v : Value} {ss : List Int} (h : OwnL w B e v (ss.map (Value.int .i64))) : ∃ a cap, v = .slice a ss.length cap ∧ Ints w a ss.length cap ss := own_ints (by simpa [OwnL] using h) rfl
/-- the same at whatever world, the element lying at ad -/
theorem wp_push {P : Program} (w : World) {o : Oper} {a : Act} {K : Act → World → Prop} {Q : Exit → Act → World → Prop} (s x : Operand) (t : TypeId)
    (ho : o.op = .call { callee := .builtin .append, args := #[s, x], argTypes := #[t, t] })
    (B : Nat) (e : TypeId) (z : Value) (bytes : Nat) (ht : P.underlying t = some (.slice e)) (hinfo : (P.info? e).map (fun i => (i.zero, i.size, i.bytes)) = some (some z, 1, bytes)) (hzs : z.cells.size = 1)
    (v : Value) (xs : List Value) (hs : a.eval s = v) (hown : OwnL w B e v xs) (u : Value) (hu : u.oneCell' = true) (b off : Nat)
    (hx : a.eval x = .slice (some ⟨b, off, none⟩) 1 1) (hcell : w.cell? ⟨b, off, none⟩ = some u)
    (hbytes : (xs.length + 1) * bytes ≤ 140737488355328) (hb8 : 0 < bytes) (hbase : B ≤ w.heap.size)
    (h : ∀ v' w', OwnL w' B e v' (xs ++ [u]) → Pushed w w' v v' → K (a.put o.dst v') w') : o.wp P a w K Q := by
  obtain ⟨i0, hi, hz0, hz1, hz2⟩ := info_parts hinfo
  have hb1 : (xs.length + 1) * 1 ≤ (xs.length + 1) * bytes := Nat.mul_le_mul_left _ hb8
  refine wp_append_lies w s x t ho B e i0 z 1 bytes ht hi hz0 hz1 hz2 hzs (by decide) v xs.length xs hs hown ⟨b, off, none⟩ 1 1 [u] hx rfl ?_ (by simpa using hu) (by decide) (by unfold maxLen; omega) hbytes hbase w.heap.size rfl ?_
  · intro j y hj
    match j with
    | 0 => simp at hj; subst hj; rw [add_row]; exact hcell
    | j + 1 => simp at hj
  · intro g cap w' h1 h2 h3 h4
    refine h _ w' (by simpa [OwnL] using h1) ⟨h2, ?_⟩
    rcases h3 with h3 | h3
    · exact .inl (by rw [h3]; rfl)
    · exact .inr ⟨g, rfl, by omega⟩
/-- as a step of a region whose order is open -/
theorem step_push {P : Program} {ops : Array Oper} {E : Prop} (w : World) {o : Oper} {a : Act} {K : Act → World → Prop} {Q : Exit → Act → World → Prop} (hg : o.guard = none) (s x : Operand) (t : TypeId)
    (ho : o.op = .call { callee := .builtin .append, args := #[s, x], argTypes := #[t, t] })
    (B : Nat) (e : TypeId) (z : Value) (bytes : Nat) (ht : P.underlying t = some (.slice e)) (hinfo : (P.info? e).map (fun i => (i.zero, i.size, i.bytes)) = some (some z, 1, bytes)) (hzs : z.cells.size = 1)
    (v : Value) (xs : List Value) (hs : a.eval s = v) (hown : OwnL w B e v xs) (u : Value) (hu : u.oneCell' = true) (b off : Nat)
    (hx : a.eval x = .slice (some ⟨b, off, none⟩) 1 1) (hcell : w.cell? ⟨b, off, none⟩ = some u)
    (hbytes : (xs.length + 1) * bytes ≤ 140737488355328) (hb8 : 0 < bytes) (hbase : B ≤ w.heap.size)
    (h : ∀ v' w', OwnL w' B e v' (xs ++ [u]) → Pushed w w' v v' → K (a.put o.dst v') w') : if Region.wanted o (yielded ops a.tmps) = true then o.wp P a w K Q else E := by
  rw [if_pos (by simp [Region.wanted, hg])]
  exact wp_push w s x t ho B e z bytes ht hinfo hzs v xs hs hown u hu b off hx hcell hbytes hb8 hbase h
/-- 'append(s, x...)', s a row of the call's own, x whatever row that can be read -/
theorem wp_append_row {P : Program} (w : World) {o : Oper} {a : Act} {K : Act → World → Prop} {Q : Exit → Act → World → Prop} (s x : Operand) (t : TypeId)
    (ho : o.op = .call { callee := .builtin .append, args := #[s, x], argTypes := #[t, t] })
    (B : Nat) (e : TypeId) (z : Value) (bytes : Nat) (ht : P.underlying t = some (.slice e)) (hinfo : (P.info? e).map (fun i => (i.zero, i.size, i.bytes)) = some (some z, 1, bytes)) (hzs : z.cells.size = 1)
    (v : Value) (xs : List Value) (hs : a.eval s = v) (hown : OwnL w B e v xs)
    (ad : Option Addr) (m c : Nat) (f : Nat → Value) (news : List Value) (hx : a.eval x = .slice ad m c) (hrow : IsRow w ad m c f) (hl : news.length = m) (hf : ∀ i, i < m → news[i]? = some (f i)) (h1 : ∀ u ∈ news, u.oneCell' = true)
    (hbytes : (xs.length + m) * bytes ≤ 140737488355328) (hb8 : 0 < bytes) (hbase : B ≤ w.heap.size)
    (h : ∀ v' w', OwnL w' B e v' (xs ++ news) → Pushed w w' v v' → K (a.put o.dst v') w') : o.wp P a w K Q := by
  obtain ⟨i0, hi, hz0, hz1, hz2⟩ := info_parts hinfo
  have hb1 : (xs.length + m) * 1 ≤ (xs.length + m) * bytes := Nat.mul_le_mul_left _ hb8
  have hsome : ∀ ad', ad = some ad' → (∀ j u, news[j]? = some u → w.cell? (ad'.add j) = some u) → o.wp P a w K Q := by
    intro ad' e1 hn
    subst e1
    obtain ⟨v', w', hr, h2, h3, h4, h5⟩ := run_append_own_at (P := P) w B t o.type e i0 z 1 bytes ht hi hz0 hz1 hz2 hzs (by decide) v xs.length xs hown ad' m c news (by omega) hn h1 (by unfold maxLen; omega) hbytes hbase
    unfold Oper.wp execOp
    simp only [ho, resolve, invoke, builtin, Sem.run_bind, Sem.run_pure, Result.andThen_ok, List.map_toArray, List.map_cons, List.map_nil, hs, hx, hr]
    refine h v' w' (by simpa [OwnL, hl] using h2) ⟨h3, ?_⟩
    rcases h5 with h5 | h5
    · exact .inl h5
    · exact .inr ⟨_, h5, Nat.le_refl _⟩
  rcases hrow with ⟨rfl, rfl, rfl⟩ | ⟨rfl, ad', rfl⟩ | ⟨hp, _, b, off, rfl, hc⟩
  · have e0 : news = [] := List.length_eq_zero_iff.1 hl
    subst e0
    have hrun := run_append_owned_none (P := P) (w := w) B t o.type e i0 1 ht hi v xs.length xs hown
    unfold Oper.wp
    simp [execOp, ho, resolve, invoke, builtin, hs, hx, hrun, Result.andThen]
    exact h v w (by simpa using hown) ⟨World.grownBy.refl _ _, .inl rfl⟩
  · have e0 : news = [] := List.length_eq_zero_iff.1 hl
    subst e0
    exact hsome ad' rfl (by simp)
  · refine hsome _ rfl ?_
    intro j u hj
    by_cases hlt : j < m
    · rw [hf j hlt] at hj
      rw [add_row, hc j hlt]; exact hj
    · rw [List.getElem?_eq_none (by omega)] at hj; simp at hj
theorem step_append_row {P : Program} {ops : Array Oper} {E : Prop} (w : World) {o : Oper} {a : Act} {K : Act → World → Prop} {Q : Exit → Act → World → Prop} (hg : o.guard = none) (s x : Operand) (t : TypeId)
    (ho : o.op = .call { callee := .builtin .append, args := #[s, x], argTypes := #[t, t] })
    (B : Nat) (e : TypeId) (z : Value) (bytes : Nat) (ht : P.underlying t = some (.slice e)) (hinfo : (P.info? e).map (fun i => (i.zero, i.size, i.bytes)) = some (some z, 1, bytes)) (hzs : z.cells.size = 1)
    (v : Value) (xs : List Value) (hs : a.eval s = v) (hown : OwnL w B e v xs)
    (ad : Option Addr) (m c : Nat) (f : Nat → Value) (news : List Value) (hx : a.eval x = .slice ad m c) (hrow : IsRow w ad m c f) (hl : news.length = m) (hf : ∀ i, i < m → news[i]? = some (f i)) (h1 : ∀ u ∈ news, u.oneCell' = true)
    (hbytes : (xs.length + m) * bytes ≤ 140737488355328) (hb8 : 0 < bytes) (hbase : B ≤ w.heap.size)
    (h : ∀ v' w', OwnL w' B e v' (xs ++ news) → Pushed w w' v v' → K (a.put o.dst v') w') : if Region.wanted o (yielded ops a.tmps) = true then o.wp P a w K Q else E := by
  rw [if_pos (by simp [Region.wanted, hg])]
  exact wp_append_row w s x t ho B e z bytes ht hinfo hzs v xs hs hown ad m c f news hx hrow hl hf h1 hbytes hb8 hbase h
theorem Pushed.block {w w' : World} {v v' : Value} {B k : Nat} {e : TypeId} {xs : List Value} (p : Pushed w w' v v') (h : OwnL w B e v xs) (hk : k < B) (hs : k < w.heap.size) : w'.heap[k]? = w.heap[k]? :=
  p.grown.block k hs (fun he => by have := (h.lt he.symm).1; omega)
/-- several slices of the call's own, each in a block of its own -/
def Fam (w : World) (B : Nat) (l : List (TypeId × Value × List Value)) : Prop :=
  (∀ (i : Nat) p, l[i]? = some p → OwnL w B p.1 p.2.1 p.2.2) ∧ ∀ (i j : Nat) p q, l[i]? = some p → l[j]? = some q → i ≠ j → Apt p.2.1 q.2.1
theorem Fam.own {w : World} {B : Nat} {l : List (TypeId × Value × List Value)} (h : Fam w B l) (i : Nat) {e : TypeId} {v : Value} {xs : List Value} (hi : l[i]? = some (e, v, xs)) : OwnL w B e v xs := h.1 i _ hi
theorem Fam.push {w w' : World} {B : Nat} {l : List (TypeId × Value × List Value)} (h : Fam w B l) (i : Nat) {e : TypeId} {v v' : Value} {xs ys : List Value} (hi : l[i]? = some (e, v, xs)) (ho : OwnL w' B e v' ys) (p : Pushed w w' v v') :
    Fam w' B (l.set i (e, v', ys)) := by
  have hil : i < l.length := (List.getElem?_eq_some_iff.1 hi).1
  constructor
  · intro j q hq
    rw [List.getElem?_set] at hq
    by_cases hji : i = j
    · subst hji
      rw [if_pos rfl, if_pos hil] at hq
      simp at hq; subst hq; exact ho
    · rw [if_neg hji] at hq
      exact p.other (h.1 j q hq) (h.2 i j _ q hi hq hji)
  · intro j k q r hq hr hjk
    rw [List.getElem?_set] at hq hr
    by_cases hij : i = j
    · subst hij
      rw [if_pos rfl, if_pos hil] at hq
      rw [if_neg hjk] at hr
      simp at hq; subst hq
      exact p.apt (h.1 k r hr) (h.2 i k _ r hi hr hjk)
    · rw [if_neg hij] at hq
      by_cases hik : i = k
      · subst hik
        rw [if_pos rfl, if_pos hil] at hr
        simp at hr; subst hr
        exact (p.apt (h.1 j q hq) (h.2 i j _ q hi hq hij)).symm
      · rw [if_neg hik] at hr
        exact h.2 j k q r hq hr hjk
theorem Fam.below {w w' : World} {B : Nat} {l : List (TypeId × Value × List Value)} (h : Fam w B l) (hb : Below w.heap.size w w') : Fam w' B l := ⟨fun i p hp => (h.1 i p hp).below hb, h.2⟩
theorem Fam.alloc {w : World} {B : Nat} {l : List (TypeId × Value × List Value)} (h : Fam w B l) (o : Obj) : Fam (w.alloc o) B l := h.below (below_alloc w o)
theorem Fam.none (w : World) (B : Nat) (es : List TypeId) : Fam w B (es.map (fun e => (e, .slice none 0 0, []))) := by
  constructor
  · intro i p hp
    rw [List.getElem?_map] at hp
    cases he : es[i]? with
    | none => rw [he] at hp; cases hp
    | some e => rw [he] at hp; simp at hp; subst hp; exact OwnL.nil _ _ _
  · intro i j p q hp hq _
    rw [List.getElem?_map] at hq
    cases he : es[j]? with
    | none => rw [he] at hq; cases hq
    | some e => rw [he] at hq; simp at hq; subst hq; exact apt_nil _
end Go.Proofs.Ytmphbajnadbggab
/- A matrix of the call's own: a slice of slices, each in a block of its own. -/
namespace Go.Proofs.Ytmphbajnadbggab
open Go.RowKit
set_option linter.unusedVariables false
set_option linter.unusedSimpArgs false
theorem apt_types {w : World} {B B' : Nat} {e e' : TypeId} {v v' : Value} {xs ys : List Value} (h : OwnL w B e v xs) (h' : OwnL w B' e' v' ys) (hne : e ≠ e') : Apt v v' := by
  intro g hg hg'
  rcases h.2 with ⟨rfl, _⟩ | ⟨g1, cap, cur, rfl, _, hh, _⟩
  · simp [Value.ownBlock] at hg
  · rcases h'.2 with ⟨rfl, _⟩ | ⟨g2, cap', cur', rfl, _, hh', _⟩
    · simp [Value.ownBlock] at hg'
    · simp [Value.ownBlock] at hg hg'
      subst hg hg'
      rw [hh] at hh'
      simp at hh'
      exact hne hh'.2
theorem step_of_list {P : Program} {ops : Array Oper} {o : Oper} {a : Act} {w : World} {K : Act → World → Prop} {Q : Exit → Act → World → Prop} {E : Prop} (hg : o.guard = none)
    (h : ∀ K' : Act → World → Prop, (∀ a w, K a w → K' a w) → o.wp P a w K' Q) : if Region.wanted o (yielded ops a.tmps) = true then o.wp P a w K Q else E := by
  rw [if_pos (by simp [Region.wanted, hg])]
  exact h K (fun _ _ h => h)
/-- us are the rows of M, each a slice of the call's own in a block of its own; u is the slice of them -/
structure RowsO (w : World) (B : Nat) (T E : TypeId) (u : Value) (us : List Value) (M : List (List Int)) : Prop where
  len : us.length = M.length
  outer : OwnL w B T u us
  row : ∀ (j : Nat) v, us[j]? = some v → OwnL w B E v ((M.getD j []).map (Value.int .i64))
  apart : ∀ (i j : Nat) x y, us[i]? = some x → us[j]? = some y → i ≠ j → Apt x y
/-- u is a slice of slices of ints, of the call's own: the rows of M -/
def OwnM (w : World) (B : Nat) (T E : TypeId) (u : Value) (M : List (List Int)) : Prop := ∃ us : List Value, RowsO w B T E u us M
theorem RowsO.nil (w : World) (B : Nat) (T E : TypeId) : RowsO w B T E (.slice none 0 0) [] [] := ⟨rfl, OwnL.nil _ _ _, fun j v h => by simp at h, fun i j x y h => by simp at h⟩
theorem OwnM.nil (w : World) (B : Nat) (T E : TypeId) : OwnM w B T E (.slice none 0 0) [] := ⟨[], RowsO.nil _ _ _ _⟩
theorem RowsO.below {w w' : World} {B : Nat} {T E : TypeId} {u : Value} {us : List Value} {M : List (List Int)} (h : RowsO w B T E u us M) (hb : Below w.heap.size w w') : RowsO w' B T E u us M :=
  ⟨h.len, h.outer.below hb, fun j v hv => (h.row j v hv).below hb, h.apart⟩
theorem OwnM.below {w w' : World} {B : Nat} {T E : TypeId} {u : Value} {M : List (List Int)} (h : OwnM w B T E u M) (hb : Below w.heap.size w w') : OwnM w' B T E u M := by
  obtain ⟨us, h⟩ := h; exact ⟨us, h.below hb⟩
theorem getD_snoc_left {α : Type} (M : List α) (r d : α) (j : Nat) (h : j < M.length) : (M ++ [r]).getD j d = M.getD j d := by simp [List.getD, List.getElem?_append_left h]
theorem getD_snoc_right {α : Type} (M : List α) (r d : α) : (M ++ [r]).getD M.length d = r := by simp [List.getD]
/-- one row more -/
theorem RowsO.push {w w' : World} {B : Nat} {T E : TypeId} {u u' v : Value} {us : List Value} {M : List (List Int)} {r : List Int} (h : RowsO w B T E u us M) (hv : OwnL w B E v (r.map (Value.int .i64))) (hnew : ∀ (j : Nat) x, us[j]? = some x → Apt v x) (hne : T ≠ E)
    (ho' : OwnL w' B T u' (us ++ [v])) (p : Pushed w w' u u') : RowsO w' B T E u' (us ++ [v]) (M ++ [r]) := by
  have hcase : ∀ (j : Nat) x, (us ++ [v])[j]? = some x → (j < us.length ∧ us[j]? = some x) ∨ (j = us.length ∧ x = v) := by
    intro j x hx
    by_cases hj : j < us.length
    · rw [List.getElem?_append_left hj] at hx; exact .inl ⟨hj, hx⟩
    · rw [List.getElem?_append_right (by omega)] at hx
      have hj0 : j - us.length = 0 := by
        by_cases h0 : j - us.length = 0
        · exact h0
        · rw [List.getElem?_eq_none (by simp; omega)] at hx; cases hx
      rw [hj0] at hx
      simp at hx
      exact .inr ⟨by omega, hx.symm⟩
  refine ⟨by simp [h.len], ho', fun j x hx => ?_, fun i j x y hx hy hij => ?_⟩
  · rcases hcase j x hx with ⟨hj, hx⟩ | ⟨rfl, rfl⟩
    · rw [getD_snoc_left _ _ _ _ (by rw [← h.len]; exact hj)]
      exact p.other (h.row j x hx) (apt_types h.outer (h.row j x hx) hne)
    · rw [h.len, getD_snoc_right]
      exact p.other hv (apt_types h.outer hv hne)
  · rcases hcase i x hx with ⟨hi, hx1⟩ | ⟨hi, hx1⟩
    · rcases hcase j y hy with ⟨hj, hy1⟩ | ⟨hj, hy1⟩
      · exact h.apart i j x y hx1 hy1 hij
      · subst hy1; exact (hnew i x hx1).symm
    · rcases hcase j y hy with ⟨hj, hy1⟩ | ⟨hj, hy1⟩
      · subst hx1; exact hnew j y hy1
      · exact absurd (hi.trans hj.symm) hij
theorem apt_new {w : World} {B : Nat} {e : TypeId} {v x : Value} {xs : List Value} {g n c : Nat} (hx : OwnL w B e x xs) (hv : v = .slice (some ⟨g, 0, none⟩) n c) (hg : w.heap.size ≤ g) : Apt v x := by
  intro k hk hk'
  subst hv
  simp [Value.ownBlock] at hk
  subst hk
  have := (hx.lt hk').2
  omega
/-- a number of the matrix is written -/
theorem RowsO.store {w : World} {B : Nat} {T E : TypeId} {u : Value} {us : List Value} {M : List (List Int)} (h : RowsO w B T E u us M) (hne : T ≠ E) {i c g n cap : Nat} (hi : us[i]? = some (.slice (some ⟨g, 0, none⟩) n cap)) (x : Int) :
    RowsO (w.setCell ⟨g, c, none⟩ (.int .i64 x)) B T E u us (M.set i ((M.getD i []).set c x)) ∧ (∀ k, k < w.heap.size → k ≠ g → (w.setCell ⟨g, c, none⟩ (.int .i64 x)).heap[k]? = w.heap[k]?) := by
  have hr := h.row i _ hi
  have hn : ((M.getD i []).map (Value.int .i64)).length = n := by
    rcases hr.2 with ⟨h1, _⟩ | ⟨g1, c1, cur, h1, _⟩
    · simp at h1
    · simp only [Value.slice.injEq] at h1
      exact h1.2.1.symm
  have hr' : w.ownsRow B E 1 (.slice (some ⟨g, 0, none⟩) n cap) n ((M.getD i []).map (Value.int .i64)) := by have := hr; unfold OwnL at this; rwa [hn] at this
  have hst := World.ownsRow.stored hr' c (.int .i64 x)
  have p : Pushed w (w.setCell ⟨g, c, none⟩ (.int .i64 x)) (.slice (some ⟨g, 0, none⟩) n cap) (.slice (some ⟨g, 0, none⟩) n cap) := ⟨hst.2, .inl rfl⟩
  have hil : i < us.length := (List.getElem?_eq_some_iff.1 hi).1
  refine ⟨⟨by simp [h.len], p.other h.outer (apt_types hr h.outer (Ne.symm hne)), fun j v hv => ?_, h.apart⟩, fun k hk hkg => hst.2.block k hk (by simp [Value.ownBlock]; omega)⟩
  by_cases hji : j = i
  · subst hji
    rw [hi] at hv
    simp at hv
    subst hv
    have e : (M.set j ((M.getD j []).set c x)).getD j [] = (M.getD j []).set c x := by
      have : j < M.length := by rw [← h.len]; exact hil
      simp [List.getD, this]
    rw [e, List.map_set]
    have := hst.1
    unfold OwnL
    rw [List.length_set, hn]
    exact this
  · have e : (M.set i ((M.getD i []).set c x)).getD j [] = M.getD j [] := by simp [List.getD, List.getElem?_set, Ne.symm hji]
    rw [e]
    exact p.other (h.row j v hv) (h.apart i j _ v hi hv (Ne.symm hji))
theorem OwnL.setBelow {w : World} {B : Nat} {e : TypeId} {v : Value} {xs : List Value} (h : OwnL w B e v xs) {a : Addr} (ha : a.block < B) (u : Value) : OwnL (w.setCell a u) B e v xs := ownsRow_setCell_below h ha u
theorem RowsO.setBelow {w : World} {B : Nat} {T E : TypeId} {u : Value} {us : List Value} {M : List (List Int)} (h : RowsO w B T E u us M) {a : Addr} (ha : a.block < B) (x : Value) : RowsO (w.setCell a x) B T E u us M :=
  ⟨h.len, h.outer.setBelow ha x, fun j v hv => (h.row j v hv).setBelow ha x, h.apart⟩
theorem OwnM.setBelow {w : World} {B : Nat} {T E : TypeId} {u : Value} {M : List (List Int)} (h : OwnM w B T E u M) {a : Addr} (ha : a.block < B) (x : Value) : OwnM (w.setCell a x) B T E u M := by
  obtain ⟨us, h⟩ := h; exact ⟨us, h.setBelow ha x⟩
theorem heap_set_other (w : World) (b k : Nat) (x : Value) (h : k ≠ b) : (w.setCell ⟨b, 0, none⟩ x).heap[k]? = w.heap[k]? := Below.heap_setCell w ⟨b, 0, none⟩ x k h
theorem OwnL.mono {w : World} {B B' : Nat} {e : TypeId} {v : Value} {xs : List Value} (h : OwnL w B e v xs) (hB : B' ≤ B) : OwnL w B' e v xs := by
  refine ⟨h.1, ?_⟩
  rcases h.2 with h | ⟨g, cap, cur, e, hb, r⟩
  · exact .inl h
  · exact .inr ⟨g, cap, cur, e, by omega, r⟩
theorem RowsO.mono {w : World} {B B' : Nat} {T E : TypeId} {u : Value} {us : List Value} {M : List (List Int)} (h : RowsO w B T E u us M) (hB : B' ≤ B) : RowsO w B' T E u us M :=
  ⟨h.len, h.outer.mono hB, fun j v hv => (h.row j v hv).mono hB, h.apart⟩
theorem own_empty' (w : World) (e : TypeId) (B : Nat) (h : B ≤ w.heap.size) : OwnL (w.alloc (.cells #[] e)) B e (.slice (some ⟨w.heap.size, 0, none⟩) 0 0) [] := World.ownsRow_made w #[] 0 h (by decide) rfl
/-- another slice of the call's own has grown: the matrix is as it was -/
theorem RowsO.other {w w' : World} {B : Nat} {T E : TypeId} {u v v' : Value} {us : List Value} {M : List (List Int)} (h : RowsO w B T E u us M) (p : Pushed w w' v v') (hu : Apt v u) (hr : ∀ (j : Nat) x, us[j]? = some x → Apt v x) : RowsO w' B T E u us M :=
  ⟨h.len, p.other h.outer hu, fun j x hx => p.other (h.row j x hx) (hr j x hx), h.apart⟩
theorem OwnL.form {w : World} {B : Nat} {e : TypeId} {v : Value} {xs : List Value} (h : OwnL w B e v xs) : ∃ a cap, v = .slice a xs.length cap := by
  rcases h.2 with ⟨rfl, h0⟩ | ⟨g, cap, cur, rfl, _⟩
  · exact ⟨none, 0, by rw [h0]⟩
  · exact ⟨_, cap, rfl⟩
theorem own_ne {w : World} {B b g n cap : Nat} {E T : TypeId} {xs : List Value} {c : Array Value} {m : Nat × Nat} (h : OwnL w B E (.slice (some ⟨g, 0, none⟩) n cap) xs) (hb : w.heap[b]? = some (.cells c T m)) (hne : T ≠ E) : b ≠ g := by
  intro e
  subst e
  rcases h.2 with ⟨h1, _⟩ | ⟨g1, c1, cur, h1, _, hh, _⟩
  · simp at h1
  · simp only [Value.slice.injEq, Option.some.injEq, Addr.mk.injEq, and_true, true_and] at h1
    obtain ⟨rfl, _⟩ := h1
    rw [hh] at hb
    simp at hb
    exact hne hb.2.1.symm
/-- the form of a matrix' rows, at a place -/
theorem RowsO.at {w : World} {B : Nat} {T E : TypeId} {u : Value} {us : List Value} {M : List (List Int)} (h : RowsO w B T E u us M) {i : Nat} (hi : i < M.length) (hr : 0 < (M.getD i []).length) :
    ∃ g cap, us[i]? = some (.slice (some ⟨g, 0, none⟩) (M.getD i []).length cap) ∧ B ≤ g ∧ (∀ c, c < (M.getD i []).length → w.cell? ⟨g, c, none⟩ = some (.int .i64 ((M.getD i []).getD c 0))) ∧ ∀ c, w.frozen? ⟨g, c, none⟩ = false := by
  have hiu : i < us.length := by rw [h.len]; exact hi
  have hg : us[i]? = some us[i] := List.getElem?_eq_getElem hiu
  have hrow := h.row i _ hg
  obtain ⟨g, cap, e, hb, _, _, hc⟩ := own_form (n := ((M.getD i []).map (Value.int .i64)).length) hrow (by simpa using hr)
  rw [List.length_map] at e
  refine ⟨g, cap, by rw [hg, e], hb, fun c hcl => ?_, fun c => ?_⟩
  · refine hc c _ ?_
    generalize M.getD i [] = m at *
    exact int_at rfl c hcl
  · rw [e] at hrow
    have hrow' : w.ownsRow B E 1 (.slice (some ⟨g, 0, none⟩) (M.getD i []).length cap) (M.getD i []).length ((M.getD i []).map (Value.int .i64)) := by simpa [OwnL] using hrow
    exact World.ownsRow.frozenAt hrow' c
theorem RowsO.form {w : World} {B : Nat} {T E : TypeId} {u : Value} {us : List Value} {M : List (List Int)} (h : RowsO w B T E u us M) (hM : 0 < M.length) :
    ∃ g cap, u = .slice (some ⟨g, 0, none⟩) M.length cap ∧ B ≤ g ∧ ∀ (i : Nat) v, us[i]? = some v → w.cell? ⟨g, i, none⟩ = some v := by
  obtain ⟨g, cap, e, hb, _, _, hc⟩ := own_form (n := us.length) h.outer (by rw [h.len]; exact hM)
  rw [h.len] at e
  exact ⟨g, cap, e, hb, hc⟩
theorem OwnM.rows {w : World} {B : Nat} {T E : TypeId} {u : Value} {M : List (List Int)} (h : OwnM w B T E u M) (hM : M.length ≤ maxLen) (hr : ∀ j, (M.getD j []).length ≤ maxLen) : ∃ a cap, u = .slice a M.length cap ∧ RowsV w a M.length cap M := by
  obtain ⟨us, hl, ho, hrow, _⟩ := h
  obtain ⟨a, cap, e, r⟩ := own_row (f := fun i => us.getD i undef) ho (fun i hi => by simp [List.getD, List.getElem?_eq_getElem hi])
  rw [hl] at e r
  refine ⟨a, cap, e, fun i => us.getD i undef, rfl, hM, r, fun i hi => ?_⟩
  have hiu : i < us.length := by omega
  have hg : us[i]? = some (us.getD i undef) := by simp [List.getD, List.getElem?_eq_getElem hiu]
  obtain ⟨a', cap', e', hI⟩ := (hrow i _ hg).ints
  exact ⟨a', _, cap', e', hr i, hI⟩
end Go.Proofs.Ytmphbajnadbggab
/- Arrays that lie in a block: a line of 24 numbers, a pair of a size and 12 lines. -/
namespace Go.Proofs.Ytmphbajnadbggab
open Go.RowKit
set_option linter.unusedVariables false
set_option linter.unusedSimpArgs false
/-- the cells of a line -/
def lineC (f : Nat → Nat) : List Value := (List.range 24).map (fun c => .int .i64 (f c))
/-- the cells of a pair -/
def pairC (k : Nat) (f : Nat → Nat → Nat) : List Value := .int .i64 k :: (List.range 288).map (fun j => .int .i64 (f (j / 24) (j % 24)))
theorem lineC_len (f : Nat → Nat) : (lineC f).length = 24 := by simp [lineC]
theorem pairC_len (k : Nat) (f : Nat → Nat → Nat) : (pairC k f).length = 289 := by simp [pairC]
theorem lineC_at {f : Nat → Nat} {c : Nat} (h : c < 24) : (lineC f)[c]? = some (.int .i64 (f c)) := by simp [lineC, h]
theorem pairC_zero (k : Nat) (f : Nat → Nat → Nat) : (pairC k f)[0]? = some (.int .i64 k) := by simp [pairC]
theorem pairC_at {k : Nat} {f : Nat → Nat → Nat} {r c : Nat} (hr : r < 12) (hc : c < 24) : (pairC k f)[1 + r * 24 + c]? = some (.int .i64 (f r c)) := by
  have h1 : (r * 24 + c) / 24 = r := by omega
  have h2 : (r * 24 + c) % 24 = c := by omega
  have h3 : r * 24 + c < 288 := by omega
  rw [show 1 + r * 24 + c = r * 24 + c + 1 by omega]
  simp [pairC, h1, h2, h3]
theorem lineC_congr {f g : Nat → Nat} (h : ∀ c, c < 24 → f c = g c) : lineC f = lineC g := by
  unfold lineC
  apply List.map_congr_left
  intro c hc
  rw [h c (by simpa using hc)]
theorem pairC_congr {k : Nat} {f g : Nat → Nat → Nat} (h : ∀ r c, r < 12 → c < 24 → f r c = g r c) : pairC k f = pairC k g := by
  unfold pairC
  congr 1
  apply List.map_congr_left
  intro j hj
  have : j < 288 := by simpa using hj
  rw [h (j / 24) (j % 24) (by omega) (by omega)]
theorem lineC_one (f : Nat → Nat) : ∀ v ∈ lineC f, v.oneCell' = true := by
  intro v hv
  simp only [lineC, List.mem_map] at hv
  obtain ⟨c, _, rfl⟩ := hv
  rfl
theorem pairC_one (k : Nat) (f : Nat → Nat → Nat) : ∀ v ∈ pairC k f, v.oneCell' = true := by
  intro v hv
  simp only [pairC, List.mem_cons, List.mem_map] at hv
  rcases hv with rfl | ⟨c, _, rfl⟩ <;> rfl
/-- a pair with one row put anew -/
def putRow (r : Nat) (g : Nat → Nat) (f : Nat → Nat → Nat) : Nat → Nat → Nat := fun i c => if i = r then g c else f i c
def putAt (r c x : Nat) (f : Nat → Nat → Nat) : Nat → Nat → Nat := fun i j => if i = r ∧ j = c then x else f i j
def putOne (c x : Nat) (f : Nat → Nat) : Nat → Nat := fun j => if j = c then x else f j
/-- what cells a row of stores leaves -/
theorem setCells_block (b : Nat) : ∀ (vs : List Value) (o : Nat) (w : World) (C : List Value) (t : TypeId) (fr : Nat × Nat), w.heap[b]? = some (.cells C.toArray t fr) → o + vs.length ≤ C.length →
    ∃ C' : List Value, (w.setCells b o vs).heap[b]? = some (.cells C'.toArray t fr) ∧ C'.length = C.length ∧ (∀ j, j < o → C'[j]? = C[j]?) ∧ (∀ j, o + vs.length ≤ j → C'[j]? = C[j]?) ∧ (∀ j, j < vs.length → C'[o + j]? = vs[j]?)
  | [], o, w, C, t, fr, h, hl => ⟨C, h, rfl, fun _ _ => rfl, fun _ _ => rfl, fun j hj => absurd hj (by simp)⟩
  | v :: r, o, w, C, t, fr, h, hl => by
    have hb : b < w.heap.size := (Array.getElem?_eq_some_iff.1 h).1
    have h1 : (w.setCell ⟨b, o, none⟩ v).heap[b]? = some (.cells (C.set o v).toArray t fr) := by
      simp only [World.setCell, Array.getElem?_modify, if_true, h]
      simp
    obtain ⟨C', e1, e2, e3, e4, e5⟩ := setCells_block b r (o + 1) _ (C.set o v) t fr h1 (by simp at hl ⊢; omega)
    simp at hl
    refine ⟨C', e1, by simpa using e2, fun j hj => ?_, fun j hj => ?_, fun j hj => ?_⟩
    · rw [e3 j (by omega), List.getElem?_set_ne (by omega)]
    · rw [e4 j (by simp at hj; omega), List.getElem?_set_ne (by simp at hj; omega)]
    · cases j with
      | zero => rw [Nat.add_zero, e3 o (by omega), List.getElem?_set_self (by omega)]; simp
      | succ j => rw [show o + (j + 1) = o + 1 + j by omega, e5 j (by simp at hj; omega)]; simp
theorem setCells_other (b : Nat) : ∀ (vs : List Value) (o : Nat) (w : World) (j : Nat), j ≠ b → (w.setCells b o vs).heap[j]? = w.heap[j]?
  | [], _, _, _, _ => rfl
  | v :: r, o, w, j, h => by
    rw [World.setCells, setCells_other b r (o + 1) _ j h]
    simp only [World.setCell, Array.getElem?_modify]
    rw [if_neg (fun e => h e.symm)]
theorem setCells_rest (b : Nat) : ∀ (vs : List Value) (o : Nat) (w : World), (w.setCells b o vs).heap.size = w.heap.size ∧ (w.setCells b o vs).tape = w.tape ∧ (w.setCells b o vs).os = w.os ∧ (w.setCells b o vs).output = w.output
  | [], _, _ => ⟨rfl, rfl, rfl, rfl⟩
  | v :: r, o, w => by
    obtain ⟨a, b', c, d⟩ := setCells_rest b r (o + 1) (w.setCell ⟨b, o, none⟩ v)
    rw [World.setCells]
    exact ⟨by rw [a]; simp [World.setCell], by rw [b']; rfl, by rw [c]; rfl, by rw [d]; rfl⟩
theorem below_setCells {B b : Nat} (h : B ≤ b) : ∀ (vs : List Value) (o : Nat) (w w0 : World), Below B w0 w → Below B w0 (w.setCells b o vs)
  | [], _, _, _, k => k
  | v :: r, o, w, w0, k => by
    rw [World.setCells]
    exact below_setCells h r (o + 1) _ w0 (k.setCell h _)
theorem cell_of_list {w : World} {g o : Nat} {C : List Value} {t : TypeId} {v : Value} (h : w.heap[g]? = some (.cells C.toArray t (0, 0))) (hv : C[o]? = some v) : w.cell? ⟨g, o, none⟩ = some v := by
  rw [cell_of_row w g o C.toArray t (0, 0) h]; simpa using hv
theorem free_of_list {w : World} {g o : Nat} {C : Array Value} {t : TypeId} (h : w.heap[g]? = some (.cells C t (0, 0))) : w.frozen? ⟨g, o, none⟩ = false := by simp [World.frozen?, h]
theorem there_of_list {w : World} {g o n : Nat} {C : List Value} {t : TypeId} (h : w.heap[g]? = some (.cells C.toArray t (0, 0))) (hl : o + n ≤ C.length) : w.there g o n := fun j hj => by
  refine ⟨?_, free_of_list h⟩
  rw [cell_of_row w g (o + j) C.toArray t (0, 0) h]
  simp; omega
/-- every cell of a pair is its size or a number of a row -/
theorem pair_ext {k : Nat} {f : Nat → Nat → Nat} {C : List Value} (hl : C.length = 289) (h0 : C[0]? = some (.int .i64 k)) (h : ∀ r c, r < 12 → c < 24 → C[1 + r * 24 + c]? = some (.int .i64 (f r c))) : C = pairC k f := by
  apply List.ext_getElem?
  intro j
  by_cases hj : j < 289
  · cases j with
    | zero => rw [h0, pairC_zero]
    | succ j =>
      have e := h (j / 24) (j % 24) (by omega) (by omega)
      have e' := pairC_at (k := k) (f := f) (r := j / 24) (c := j % 24) (by omega) (by omega)
      rw [show 1 + j / 24 * 24 + j % 24 = j + 1 by omega] at e e'
      rw [e, e']
  · rw [List.getElem?_eq_none (by omega), List.getElem?_eq_none (by rw [pairC_len]; omega)]
theorem line_ext {f : Nat → Nat} {C : List Value} (hl : C.length = 24) (h : ∀ c, c < 24 → C[c]? = some (.int .i64 (f c))) : C = lineC f := by
  apply List.ext_getElem?
  intro j
  by_cases hj : j < 24
  · rw [h j hj, lineC_at hj]
  · rw [List.getElem?_eq_none (by omega), List.getElem?_eq_none (by rw [lineC_len]; omega)]
theorem block_setCell {w : World} {g o : Nat} {C : List Value} {t : TypeId} {fr : Nat × Nat} (h : w.heap[g]? = some (.cells C.toArray t fr)) (v : Value) : (w.setCell ⟨g, o, none⟩ v).heap[g]? = some (.cells (C.set o v).toArray t fr) := by
  simp only [World.setCell, Array.getElem?_modify, if_true, h]
  simp
end Go.Proofs.Ytmphbajnadbggab
