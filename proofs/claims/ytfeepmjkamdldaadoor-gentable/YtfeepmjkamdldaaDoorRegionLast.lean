/- A region that leaves its order open, and whose last operation waits for all others: the others in whatever order, then that one. -/
import Derived.Test.YtfeepmjkamdldaaDoorRegion
import Derived.Deep.QuietTactic
import Derived.BigQuiet
namespace Go.Proofs.YtfeepmjkamdldaaDoor
open Go.RowKit
set_option linter.unusedVariables false
set_option linter.unusedSimpArgs false
section
variable {P : Program} {Q : Exit → Act → World → Prop}
/-- o, behind l, waits for every operation of l, and for nothing else; no guard looks further than l -/
def lastOk (l : List Oper) (o : Oper) : Bool :=
  (List.range l.length).all (fun j => o.after.any (fun e => Region.binds .any e && e.on == j)) && o.after.all (fun e => !Region.binds .any e || decide (e.on < l.length)) &&
  l.all (fun p => match p.guard with | some (g, _) => decide (g < l.length) | none => true) && edgesBack l.toArray
theorem get_init {l : List Oper} {o : Oper} {i : Nat} (h : i < l.length) : (l ++ [o]).toArray[i]? = l.toArray[i]? := by
  simp [List.getElem?_append_left h]
theorem get_last {l : List Oper} {o : Oper} : (l ++ [o]).toArray[l.length]? = some o := by simp
theorem listed_init {L : Array Bool} {n i : Nat} (hs : L.size = n) (d : Bool) (h : i < n) : (L.push false).getD i d = L.getD i d := by
  simp [Array.getD_eq_getD_getElem?, Array.getElem?_push, show i ≠ L.size by omega]
theorem listed_from {L : Array Bool} {n i : Nat} (hs : L.size = n) (h : ¬ i < n) : (L.push false).getD i false = L.getD i false := by
  by_cases hi : i = n
  · subst hi; subst hs; simp
  · have h1 : L.size + 1 ≤ i := by omega
    simp [Array.getD_eq_getD_getElem?, Array.getElem?_eq_none (show (L.push false).size ≤ i by simpa using h1), Array.getElem?_eq_none (show L.size ≤ i by omega)]
theorem ready_init {l : List Oper} {o : Oper} {L : Array Bool} {i : Nat} (hs : L.size = l.length) (hi : i < l.length) :
    i ∈ Region.ready .any (l ++ [o]).toArray (L.push false) ↔ i ∈ Region.ready .any l.toArray L := by
  rw [mem_ready, mem_ready, get_init hi, listed_init hs true hi]
  constructor
  · rintro ⟨h1, p, hp, h2⟩
    refine ⟨h1, p, hp, fun e he hb => ?_⟩
    have := h2 e he hb
    by_cases hlt : e.on < l.length
    · rwa [listed_init hs false hlt] at this
    · rwa [listed_from hs hlt] at this
  · rintro ⟨h1, p, hp, h2⟩
    refine ⟨h1, p, hp, fun e he hb => ?_⟩
    have := h2 e he hb
    by_cases hlt : e.on < l.length
    · rwa [listed_init hs false hlt]
    · rwa [listed_from hs hlt]
theorem ready_last {l : List Oper} {o : Oper} {L : Array Bool} (hs : L.size = l.length) (ok : lastOk l o = true) :
    l.length ∈ Region.ready .any (l ++ [o]).toArray (L.push false) ↔ ∀ j, j < l.length → L.getD j false = true := by
  simp only [lastOk, Bool.and_eq_true] at ok
  obtain ⟨⟨⟨h1, h2⟩, _⟩, _⟩ := ok
  rw [mem_ready, get_last]
  constructor
  · rintro ⟨_, p, hp, h⟩ j hj
    cases hp
    have := List.all_eq_true.1 h1 j (by simpa using hj)
    obtain ⟨e, he, hb⟩ := Array.any_eq_true'.1 this
    simp only [Bool.and_eq_true, beq_iff_eq] at hb
    have := h e he hb.1
    rw [hb.2, listed_init hs false hj] at this
    exact this
  · intro h
    refine ⟨by simp [Array.getD_eq_getD_getElem?, ← hs], o, rfl, fun e he hb => ?_⟩
    have := Array.all_eq_true_iff_forall_mem.1 h2 e he
    rw [hb] at this
    have hlt : e.on < l.length := by simpa using this
    rw [listed_init hs false hlt]
    exact h _ hlt
theorem wanted_init {l : List Oper} {o p : Oper} {tmps : Array Value} (hg : ∀ g b, p.guard = some (g, b) → g < l.length) : Region.wanted p (yielded (l ++ [o]).toArray tmps) = Region.wanted p (yielded l.toArray tmps) := by
  unfold Region.wanted
  cases hp : p.guard with
  | none => rfl
  | some gb =>
    obtain ⟨g, b⟩ := gb
    have hlt := hg g b hp
    simp only [yielded, get_init hlt]
theorem wpOp_init {l : List Oper} {o : Oper} {i : Nat} {K K' : Act → World → Prop} {Q' : Exit → Act → World → Prop} {a : Act} {w : World} (hi : i < l.length) (hg : ∀ p ∈ l, ∀ g b, p.guard = some (g, b) → g < l.length)
    (hQ : ∀ e a w, e ≠ .normal → Q' e a w → Q e a w) (hK : ∀ a w, K' a w → K a w) (h : wpOp P l.toArray Q' i K' a w) : wpOp P (l ++ [o]).toArray Q i K a w := by
  unfold wpOp at *
  rw [get_init hi]
  have hp : l.toArray[i]? = some l[i] := by simp [hi]
  rw [hp] at h ⊢
  simp only [] at h ⊢
  rw [wanted_init (hg _ (List.getElem_mem hi))]
  split
  · rename_i hw
    rw [if_pos hw] at h
    rcases h with h | ⟨h1, h2⟩
    · exact .inl (Oper.wp_out hQ hK h)
    · exact .inr ⟨h1, let ⟨a, w, h⟩ := h2; ⟨a, w, hQ _ _ _ (by simp) h⟩⟩
  · rename_i hw
    rw [if_neg hw] at h
    exact hK _ _ h
theorem push_set {L : Array Bool} {i : Nat} (h : i < L.size) : (L.push false).setIfInBounds i true = (L.setIfInBounds i true).push false := by
  apply Array.ext_getElem?
  intro j
  rw [Array.getElem?_setIfInBounds, Array.getElem?_push, Array.getElem?_push, Array.getElem?_setIfInBounds, Array.size_push, Array.size_setIfInBounds]
  by_cases hij : i = j
  · subst hij
    rw [if_pos rfl, if_pos (by omega), if_neg (by omega), if_pos rfl, if_pos h]
  · rw [if_neg hij, if_neg hij]
/-- what is left when all but the last have come up -/
def LastPost (P : Program) (l : List Oper) (o : Oper) (Q : Exit → Act → World → Prop) : Exit → Act → World → Prop
  | .normal, a, w => wpOp P (l ++ [o]).toArray Q l.length (Q .normal) a w
  | e, a, w => Q e a w
theorem wpAny_last {l : List Oper} {o : Oper} (ok : lastOk l o = true) : ∀ (fuel : Nat) (L : Array Bool) (a : Act) (w : World), L.size = l.length →
    wpAny P .any l.toArray (LastPost P l o Q) fuel L a w → wpAny P .any (l ++ [o]).toArray Q (fuel + 1) (L.push false) a w := by
  have ok' := ok
  simp only [lastOk, Bool.and_eq_true] at ok'
  obtain ⟨⟨⟨_, _⟩, h3⟩, h4⟩ := ok'
  have hg : ∀ p ∈ l, ∀ g b, p.guard = some (g, b) → g < l.length := by
    intro p hp g b hgb
    have := List.all_eq_true.1 h3 p hp
    rw [hgb] at this
    simpa using this
  have hQ : ∀ e a w, e ≠ .normal → LastPost P l o Q e a w → Q e a w := fun e a w hne h => by cases e <;> first | exact absurd rfl hne | exact h
  have hall : ∀ L : Array Bool, L.size = l.length → Region.ready .any l.toArray L = [] → ∀ j, j < l.length → L.getD j false = true := fun L hs hr j hj =>
    all_listed (ops := l.toArray) (by simpa using hs) (edgesBack_spec h4) hr (j + 1) j (by omega) (by simpa using hj)
  have hnone : ∀ (L : Array Bool), L.size = l.length → (∀ j, j < l.length → L.getD j false = true) → Region.ready .any (l ++ [o]).toArray ((L.push false).setIfInBounds l.length true) = [] := by
    intro L hs h
    rw [List.eq_nil_iff_forall_not_mem]
    intro i hi
    have h1 := (mem_ready.1 hi).1
    have hlt : i < l.length + 1 := by
      obtain ⟨_, p, hp, _⟩ := mem_ready.1 hi
      have := (Array.getElem?_eq_some_iff.1 hp).1
      simpa using this
    by_cases hin : i = l.length
    · subst hin
      simp [Array.getD_eq_getD_getElem?, hs] at h1
    · have hi2 : i < l.length := by omega
      have := h i hi2
      simp [Array.getD_eq_getD_getElem?, Array.getElem?_setIfInBounds, Ne.symm hin, Array.getElem?_push, show i ≠ L.size by omega, Array.getElem?_eq_getElem (show i < L.size by omega)] at h1 this
      rw [this] at h1; cases h1
  have hfin : ∀ (fuel : Nat) (L : Array Bool) (a : Act) (w : World), L.size = l.length → (∀ j, j < l.length → L.getD j false = true) → Q .normal a w → wpAny P .any (l ++ [o]).toArray Q fuel ((L.push false).setIfInBounds l.length true) a w := by
    intro fuel L a w hs h hq
    have hr := hnone L hs h
    cases fuel with
    | zero => exact ⟨hr, hq⟩
    | succ fuel => exact ⟨fun _ => hq, fun i hi => by rw [hr] at hi; cases hi⟩
  intro fuel
  induction fuel with
  | zero =>
    intro L a w hs h
    obtain ⟨hr, hq⟩ := h
    have ha := hall L hs hr
    refine ⟨fun h0 => ?_, fun i hi => ?_⟩
    · have := (ready_last hs ok).2 ha
      rw [h0] at this; cases this
    · by_cases hin : i < l.length
      · have := (ready_init hs hin).1 hi
        rw [hr] at this; cases this
      · have hlt : i < l.length + 1 := by
          obtain ⟨_, p, hp, _⟩ := mem_ready.1 hi
          have := (Array.getElem?_eq_some_iff.1 hp).1
          simpa using this
        obtain rfl : i = l.length := by omega
        exact wpOp_mono (fun a' w' hq' => hfin 0 L a' w' hs ha hq') hq
  | succ fuel ih =>
    intro L a w hs h
    obtain ⟨h0, h1⟩ := h
    refine ⟨fun hr => ?_, fun i hi => ?_⟩
    · exfalso
      have hr' : Region.ready .any l.toArray L = [] := by
        rw [List.eq_nil_iff_forall_not_mem]
        intro i hi
        have hlt : i < l.length := by
          obtain ⟨_, p, hp, _⟩ := mem_ready.1 hi
          have := (Array.getElem?_eq_some_iff.1 hp).1
          simpa using this
        have := (ready_init (o := o) hs hlt).2 hi
        rw [hr] at this; cases this
      have := (ready_last hs ok).2 (hall L hs hr')
      rw [hr] at this; cases this
    · by_cases hin : i < l.length
      · have hi' := (ready_init hs hin).1 hi
        refine wpOp_init hin hg hQ (fun a' w' h' => ?_) (h1 i hi')
        rw [push_set (by omega)]
        exact ih _ a' w' (by simpa using hs) h'
      · have hlt : i < l.length + 1 := by
          obtain ⟨_, p, hp, _⟩ := mem_ready.1 hi
          have := (Array.getElem?_eq_some_iff.1 hp).1
          simpa using this
        obtain rfl : i = l.length := by omega
        have ha := (ready_last hs ok).1 hi
        have hr' : Region.ready .any l.toArray L = [] := by
          rw [List.eq_nil_iff_forall_not_mem]
          intro j hj
          have hjl : j < l.length := by
            obtain ⟨_, p, hp, _⟩ := mem_ready.1 hj
            have := (Array.getElem?_eq_some_iff.1 hp).1
            simpa using this
          have h2 := (mem_ready.1 hj).1
          have h3 := ha j hjl
          simp [Array.getD_eq_getD_getElem?, Array.getElem?_eq_getElem (show j < L.size by omega)] at h2 h3
          rw [h2] at h3; cases h3
        exact wpOp_mono (fun a' w' hq' => hfin _ L a' w' hs ha hq') (h0 hr')
/-- A QUIET REGION WITH ONE STORE (or whatever operation) AT ITS END: one walk in the order of the text, then that operation -/
theorem wp_region_quiet_last {id : Nat} {a : Act} {w : World} {l : List Oper} {o : Oper} {ops : Array Oper} (hops : ops = (l ++ [o]).toArray) (hm : P.follows .mixedOrders = true) (hB : Region.lexB .any l.toArray = true) (ok : lastOk l o = true)
    (h : wpQuiet P l.toArray (fun w' => ∃ n, w' = w.drewN n) (fun a' => ∀ w', (∃ n, w' = w.drewN n) → wpList P (l ++ [o]).toArray Q [o] a' w') l a) : (Code.region id ops true).wp P Q a w := by
  subst hops
  simp only [Region.lexB, Bool.and_eq_true] at hB
  refine wp_region_any hm ?_
  have e1 : (l ++ [o]).toArray.size = l.length + 1 := by simp
  have e2 : Array.replicate (l.length + 1) false = (Array.replicate l.length false).push false := by
    rw [Array.replicate_succ]
  rw [e1, e2]
  refine wpAny_last ok l.length (Array.replicate l.length false) a _ (by simp) ?_
  have hq := wpAnyQ_lex (P := P) (C := fun w' => ∃ n, w' = w.drewN n) (md := .any) hB.1 l 0 (Array.replicate l.length false) a (by simp) (by simpa using hB.2) h
  refine wpAny_of_quiet (Q := fun a' => ∀ w', (∃ n, w' = w.drewN n) → wpList P (l ++ [o]).toArray Q [o] a' w') (fun a' w' hw' h' => ?_) _ _ _ _ ⟨1, rfl⟩ hq
  show wpOp P (l ++ [o]).toArray Q l.length (Q .normal) a' w'
  refine wpOp_of_list (K := Q .normal) get_last ?_
  have := h' w' hw'
  have hE : Exit.then (Q .normal) Q = Q := by funext e a w; cases e <;> rfl
  rw [hE]; exact this
theorem wp_region_quiet_then {id : Nat} {a : Act} {w : World} {L : List Oper} (hne : L ≠ []) (hm : P.follows .mixedOrders = true) (hB : Region.lexB .any L.dropLast.toArray = true) (ok : lastOk L.dropLast (L.getLast hne) = true)
    (h : wpQuiet P L.dropLast.toArray (fun w' => ∃ n, w' = w.drewN n) (fun a' => ∀ w', (∃ n, w' = w.drewN n) → wpList P (L.dropLast ++ [L.getLast hne]).toArray Q [L.getLast hne] a' w') L.dropLast a) : (Code.region id L.toArray true).wp P Q a w :=
  wp_region_quiet_last (by rw [List.dropLast_concat_getLast]) hm hB ok h
end
end Go.Proofs.YtfeepmjkamdldaaDoor
