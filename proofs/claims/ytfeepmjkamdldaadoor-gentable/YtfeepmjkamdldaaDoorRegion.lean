/- A region that leaves its order open, by an invariant: whatever operation comes up next keeps it. -/
import Derived.Test.YtfeepmjkamdldaaDoorMem
import Derived.Orders
namespace Go.Proofs.YtfeepmjkamdldaaDoor
open Go.RowKit
set_option linter.unusedVariables false
section
variable {P : Program} {ops : Array Oper} {Q : Exit → Act → World → Prop} {md : Region.Mode}
theorem count_set (listed : Array Bool) (i n : Nat) (h : listed.getD i true = false) (hc : listed.toList.count false ≤ n + 1) : (listed.setIfInBounds i true).toList.count false ≤ n := by
  by_cases hi : i < listed.size
  · have hv : listed.toList[i]'(by simpa using hi) = false := by
      simp [Array.getElem?_eq_getElem hi] at h
      simpa using h
    rw [Array.toList_setIfInBounds]
    have := List.count_set (l := listed.toList) (a := true) (b := false) (i := i) (by simpa using hi)
    rw [this, hv, if_pos (by decide), if_neg (by decide)]
    omega
  · simp [Array.getElem?_eq_none (show listed.size ≤ i by omega)] at h
theorem wpAny_inv (I : Array Bool → Act → World → Prop)
    (hstep : ∀ listed a w i, I listed a w → i ∈ Region.ready md ops listed → wpOp P ops Q i (I (listed.setIfInBounds i true)) a w)
    (hend : ∀ listed a w, I listed a w → Region.ready md ops listed = [] → Q .normal a w) :
    ∀ fuel listed a w, listed.toList.count false ≤ fuel → I listed a w → wpAny P md ops Q fuel listed a w
  | 0, listed, a, w, hc, h => by
    have hr : Region.ready md ops listed = [] := by
      rw [List.eq_nil_iff_forall_not_mem]
      intro i hi
      have h1 := (mem_ready.1 hi).1
      have hc0 : listed.toList.count false = 0 := by omega
      have hm : false ∉ listed.toList := List.count_eq_zero.1 hc0
      by_cases hl : i < listed.size
      · simp [Array.getElem?_eq_getElem hl] at h1
        exact hm (by rw [← h1]; simp)
      · simp [Array.getElem?_eq_none (show listed.size ≤ i by omega)] at h1
    exact ⟨hr, hend listed a w h hr⟩
  | fuel + 1, listed, a, w, hc, h =>
    ⟨fun hr => hend listed a w h hr, fun i hi => wpOp_mono (fun a' w' h' => wpAny_inv I hstep hend fuel _ a' w' (count_set listed i fuel (mem_ready.1 hi).1 hc) h') (hstep listed a w i h hi)⟩
/-- THE RULE -/
theorem wp_region_inv {id : Nat} {a : Act} {w : World} (hm : P.follows .mixedOrders = true) (I : Array Bool → Act → World → Prop)
    (h0 : I (Array.replicate ops.size false) a w.drew)
    (hstep : ∀ listed a w i, I listed a w → i ∈ Region.ready .any ops listed → wpOp P ops Q i (I (listed.setIfInBounds i true)) a w)
    (hend : ∀ listed a w, I listed a w → Region.ready .any ops listed = [] → Q .normal a w) : (Code.region id ops true).wp P Q a w :=
  wp_region_any hm (wpAny_inv I hstep hend ops.size _ a _ (by simp) h0)
theorem Oper.wp_out {o : Oper} {a : Act} {w : World} {K K' : Act → World → Prop} {Q' : Exit → Act → World → Prop} (hQ : ∀ e a w, e ≠ .normal → Q' e a w → Q e a w) (hK : ∀ a w, K' a w → K a w)
    (hh : o.wp P a w K' Q') : o.wp P a w K Q := by
  have hl : LetsOut Q' → LetsOut Q := fun ⟨a, w, h⟩ => ⟨a, w, hQ _ _ _ (by simp) h⟩
  unfold Oper.wp at *
  generalize (execOp a.eval o).run P w = r at *
  cases r with
  | ok n w' =>
    cases n <;> simp only [Oper.upon] at hh ⊢ <;>
      first
        | exact hK _ _ hh
        | exact Calls.mono hh (fun e w'' he => by cases e <;> first | exact hK _ _ he | exact hQ _ _ _ (by simp) he | exact hl he)
        | exact Rows.mono hh (fun _ _ he => hK _ _ he)
  | halt x w' => cases x <;> simp only [Oper.upon] at hh ⊢ <;> first | exact hh | exact hQ _ _ _ (by simp) hh
theorem wpOp_of_list {i : Nat} {o : Oper} {a : Act} {w : World} {K : Act → World → Prop} (ho : ops[i]? = some o) (h : wpList P ops (Exit.then K Q) [o] a w) : wpOp P ops Q i K a w := by
  have hQ : ∀ e a w, e ≠ .normal → Exit.then K Q e a w → Q e a w := fun e a w hne h => by cases e <;> first | exact absurd rfl hne | exact h
  unfold wpOp
  rw [ho]
  unfold wpList at h
  simp only []
  split
  · rename_i hw
    rw [if_pos hw] at h
    rcases h with h | ⟨h1, h2⟩
    · exact .inl (Oper.wp_out hQ (fun a w h => h) h)
    · exact .inr ⟨h1, let ⟨a, w, h⟩ := h2; ⟨a, w, hQ _ _ _ (by simp) h⟩⟩
  · rename_i hw
    rw [if_neg hw] at h
    exact h
/-- where every edge leads back, nothing is ready only when all are listed -/
theorem all_listed {listed : Array Bool} (hs : listed.size = ops.size) (hedge : ∀ (i : Nat) (o : Oper), ops[i]? = some o → ∀ e ∈ o.after, Region.binds md e = true → e.on < i) (hr : Region.ready md ops listed = []) :
    ∀ n, ∀ i, i < n → i < ops.size → listed.getD i false = true := by
  intro n
  induction n with
  | zero => intro i hi; omega
  | succ n ih =>
    intro i hi hlt
    by_cases hin : i < n
    · exact ih i hin hlt
    · by_cases hl : listed.getD i true = false
      · exfalso
        have hmem : i ∈ Region.ready md ops listed := mem_ready.2 ⟨hl, ops[i], Array.getElem?_eq_getElem hlt, fun e he hbd => by
          have := hedge i ops[i] (Array.getElem?_eq_getElem hlt) e he hbd
          exact ih e.on (by omega) (by omega)⟩
        rw [hr] at hmem; cases hmem
      · rw [Array.getD_eq_getD_getElem?, Array.getElem?_eq_getElem (by omega)] at *
        simpa using hl
def edgesBack (ops : Array Oper) : Bool := (List.range ops.size).all fun i => match ops[i]? with | some o => o.after.all (fun e => !Region.binds .any e || decide (e.on < i)) | none => true
theorem edgesBack_spec {ops : Array Oper} (h : edgesBack ops = true) : ∀ (i : Nat) (o : Oper), ops[i]? = some o → ∀ e ∈ o.after, Region.binds .any e = true → e.on < i := by
  intro i o ho e he hbd
  have hi : i < ops.size := (Array.getElem?_eq_some_iff.1 ho).1
  have := List.all_eq_true.1 h i (by simpa using hi)
  rw [ho] at this
  simp only [Array.all_eq_true_iff_forall_mem] at this
  have := this e he
  rw [hbd] at this
  simpa using this
/-- the slots ds, filled with vs -/
def putAll (a : Act) : List Tmp → List Value → Act
  | d :: ds, v :: vs => putAll (a.put (some d) v) ds vs
  | _, _ => a
/-- what is known between two operations of a region whose order is open: each operation that has come up has left a value of which 'Pred' holds, and what lay below has stayed -/
def Between (ops : Array Oper) (a0 : Act) (W0 : World) (ds : List Tmp) (Pred : Nat → Value → World → Prop) (listed : Array Bool) (a : Act) (w : World) : Prop :=
  listed.size = ops.size ∧ Below W0.heap.size W0 w ∧ ∃ vs, vs.length = ds.length ∧ a = putAll a0 ds vs ∧ ∀ i, listed.getD i false = true → Pred i (vs.getD i undef) w
theorem wp_region_each {id : Nat} {a : Act} {w : World} (hm : P.follows .mixedOrders = true) (ds : List Tmp) (Pred : Nat → Value → World → Prop)
    (hlen : ds.length = ops.size) (hinit : ∃ vs, vs.length = ds.length ∧ a = putAll a ds vs)
    (hedge : edgesBack ops = true)
    (hstable : ∀ i v w w', Pred i v w → Below w.heap.size w w' → Pred i v w')
    (hstep : ∀ (i : Nat) (o : Oper) (vs : List Value) (w' : World), ops[i]? = some o → vs.length = ds.length → Below w.heap.size w w' → (∀ e ∈ o.after, Region.binds .any e = true → Pred e.on (vs.getD e.on undef) w') →
      wpOp P ops Q i (fun a' w'' => ∃ v, a' = putAll a ds (vs.set i v) ∧ Pred i v w'' ∧ Below w'.heap.size w' w'') (putAll a ds vs) w')
    (hend : ∀ (vs : List Value) (w' : World), vs.length = ds.length → Below w.heap.size w w' → (∀ i, i < ds.length → Pred i (vs.getD i undef) w') → Q .normal (putAll a ds vs) w') :
    (Code.region id ops true).wp P Q a w := by
  refine wp_region_inv hm (Between ops a w ds Pred) ?_ ?_ ?_
  · obtain ⟨vs, h1, h2⟩ := hinit
    refine ⟨by simp, (Below.refl _ _).drew, vs, h1, h2, fun i hi => ?_⟩
    exfalso
    by_cases h : i < ops.size
    · simp [h] at hi
    · simp [h] at hi
  · intro listed a' w' i ⟨hs, hb, vs, hl, ha, hp⟩ hi
    obtain ⟨h1, o, ho, h2⟩ := mem_ready.1 hi
    rw [ha]
    refine wpOp_mono ?_ (hstep i o vs w' ho hl hb (fun e he hbd => hp _ (h2 e he hbd)))
    rintro a'' w'' ⟨v, rfl, hv, hb'⟩
    refine ⟨by simpa using hs, bt hb hb', vs.set i v, by simpa using hl, rfl, fun j hj => ?_⟩
    have hilt : i < ops.size := (Array.getElem?_eq_some_iff.1 ho).1
    by_cases hji : j = i
    · subst hji
      have : (vs.set j v).getD j undef = v := by simp [List.getD, show j < vs.length by omega]
      rw [this]; exact hv
    · have e1 : (vs.set i v).getD j undef = vs.getD j undef := by simp [List.getD, Ne.symm hji]
      rw [e1]
      refine hstable j _ w' w'' (hp j ?_) hb'
      simpa [Array.getElem?_setIfInBounds, Ne.symm hji] using hj
  · intro listed a' w' ⟨hs, hb, vs, hl, ha, hp⟩ hr
    rw [ha]
    exact hend vs w' hl hb (fun i hi => hp i (all_listed hs (edgesBack_spec hedge) hr (i + 1) i (by omega) (by omega)))
end
end Go.Proofs.YtfeepmjkamdldaaDoor
