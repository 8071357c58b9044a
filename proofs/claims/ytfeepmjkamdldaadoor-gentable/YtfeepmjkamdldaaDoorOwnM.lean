/- A matrix of the call's own: a slice of slices, each in a block of its own. -/
import Derived.Test.YtfeepmjkamdldaaDoorMat
import Derived.Test.YtfeepmjkamdldaaDoorPush
import Derived.Test.YtfeepmjkamdldaaDoorRegion
import Derived.Deep.RegionLaw
namespace Go.Proofs.YtfeepmjkamdldaaDoor
open Go.RowKit
set_option linter.unusedVariables false
set_option linter.unusedSimpArgs false
theorem apt_types {w : World} {B B' : Nat} {e e' : TypeId} {v v' : Value} {xs ys : List Value} (h : OwnL w B e v xs) (h' : OwnL w B' e' v' ys) (hne : e ≠ e') : Apt v v' := by
  intro g hg hg'
  rcases h.2 with ⟨rfl, _⟩ | ⟨g1, cap, cur, rfl, _, hh, _⟩
  · simp [Value.ownBlock] at hg
  · rcases h'.2 with ⟨rfl, _⟩ | ⟨g2, cap', cur', rfl, _, hh', _⟩
    · simp [Value.ownBlock] at hg'
    · simp [Value.ownBlock] at hg hg'
      subst hg hg'
      rw [hh] at hh'
      simp at hh'
      exact hne hh'.2
theorem step_of_list {P : Program} {ops : Array Oper} {o : Oper} {a : Act} {w : World} {K : Act → World → Prop} {Q : Exit → Act → World → Prop} {E : Prop} (hg : o.guard = none)
    (h : ∀ K' : Act → World → Prop, (∀ a w, K a w → K' a w) → o.wp P a w K' Q) : if Region.wanted o (yielded ops a.tmps) = true then o.wp P a w K Q else E := by
  rw [if_pos (by simp [Region.wanted, hg])]
  exact h K (fun _ _ h => h)
/-- us are the rows of M, each a slice of the call's own in a block of its own; u is the slice of them -/
structure RowsO (w : World) (B : Nat) (T E : TypeId) (u : Value) (us : List Value) (M : List (List Int)) : Prop where
  len : us.length = M.length
  outer : OwnL w B T u us
  row : ∀ (j : Nat) v, us[j]? = some v → OwnL w B E v ((M.getD j []).map (Value.int .i64))
  apart : ∀ (i j : Nat) x y, us[i]? = some x → us[j]? = some y → i ≠ j → Apt x y
/-- u is a slice of slices of ints, of the call's own: the rows of M -/
def OwnM (w : World) (B : Nat) (T E : TypeId) (u : Value) (M : List (List Int)) : Prop := ∃ us : List Value, RowsO w B T E u us M
theorem RowsO.nil (w : World) (B : Nat) (T E : TypeId) : RowsO w B T E (.slice none 0 0) [] [] := ⟨rfl, OwnL.nil _ _ _, fun j v h => by simp at h, fun i j x y h => by simp at h⟩
theorem OwnM.nil (w : World) (B : Nat) (T E : TypeId) : OwnM w B T E (.slice none 0 0) [] := ⟨[], RowsO.nil _ _ _ _⟩
theorem RowsO.below {w w' : World} {B : Nat} {T E : TypeId} {u : Value} {us : List Value} {M : List (List Int)} (h : RowsO w B T E u us M) (hb : Below w.heap.size w w') : RowsO w' B T E u us M :=
  ⟨h.len, h.outer.below hb, fun j v hv => (h.row j v hv).below hb, h.apart⟩
theorem OwnM.below {w w' : World} {B : Nat} {T E : TypeId} {u : Value} {M : List (List Int)} (h : OwnM w B T E u M) (hb : Below w.heap.size w w') : OwnM w' B T E u M := by
  obtain ⟨us, h⟩ := h; exact ⟨us, h.below hb⟩
theorem getD_snoc_left {α : Type} (M : List α) (r d : α) (j : Nat) (h : j < M.length) : (M ++ [r]).getD j d = M.getD j d := by simp [List.getD, List.getElem?_append_left h]
theorem getD_snoc_right {α : Type} (M : List α) (r d : α) : (M ++ [r]).getD M.length d = r := by simp [List.getD]
/-- one row more -/
theorem RowsO.push {w w' : World} {B : Nat} {T E : TypeId} {u u' v : Value} {us : List Value} {M : List (List Int)} {r : List Int} (h : RowsO w B T E u us M) (hv : OwnL w B E v (r.map (Value.int .i64))) (hnew : ∀ (j : Nat) x, us[j]? = some x → Apt v x) (hne : T ≠ E)
    (ho' : OwnL w' B T u' (us ++ [v])) (p : Pushed w w' u u') : RowsO w' B T E u' (us ++ [v]) (M ++ [r]) := by
  have hcase : ∀ (j : Nat) x, (us ++ [v])[j]? = some x → (j < us.length ∧ us[j]? = some x) ∨ (j = us.length ∧ x = v) := by
    intro j x hx
    by_cases hj : j < us.length
    · rw [List.getElem?_append_left hj] at hx; exact .inl ⟨hj, hx⟩
    · rw [List.getElem?_append_right (by omega)] at hx
      have hj0 : j - us.length = 0 := by
        by_cases h0 : j - us.length = 0
        · exact h0
        · rw [List.getElem?_eq_none (by simp; omega)] at hx; cases hx
      rw [hj0] at hx
      simp at hx
      exact .inr ⟨by omega, hx.symm⟩
  refine ⟨by simp [h.len], ho', fun j x hx => ?_, fun i j x y hx hy hij => ?_⟩
  · rcases hcase j x hx with ⟨hj, hx⟩ | ⟨rfl, rfl⟩
    · rw [getD_snoc_left _ _ _ _ (by rw [← h.len]; exact hj)]
      exact p.other (h.row j x hx) (apt_types h.outer (h.row j x hx) hne)
    · rw [h.len, getD_snoc_right]
      exact p.other hv (apt_types h.outer hv hne)
  · rcases hcase i x hx with ⟨hi, hx1⟩ | ⟨hi, hx1⟩
    · rcases hcase j y hy with ⟨hj, hy1⟩ | ⟨hj, hy1⟩
      · exact h.apart i j x y hx1 hy1 hij
      · subst hy1; exact (hnew i x hx1).symm
    · rcases hcase j y hy with ⟨hj, hy1⟩ | ⟨hj, hy1⟩
      · subst hx1; exact hnew j y hy1
      · exact absurd (hi.trans hj.symm) hij
theorem apt_new {w : World} {B : Nat} {e : TypeId} {v x : Value} {xs : List Value} {g n c : Nat} (hx : OwnL w B e x xs) (hv : v = .slice (some ⟨g, 0, none⟩) n c) (hg : w.heap.size ≤ g) : Apt v x := by
  intro k hk hk'
  subst hv
  simp [Value.ownBlock] at hk
  subst hk
  have := (hx.lt hk').2
  omega
/-- a number of the matrix is written -/
theorem RowsO.store {w : World} {B : Nat} {T E : TypeId} {u : Value} {us : List Value} {M : List (List Int)} (h : RowsO w B T E u us M) (hne : T ≠ E) {i c g n cap : Nat} (hi : us[i]? = some (.slice (some ⟨g, 0, none⟩) n cap)) (x : Int) :
    RowsO (w.setCell ⟨g, c, none⟩ (.int .i64 x)) B T E u us (M.set i ((M.getD i []).set c x)) ∧ (∀ k, k < w.heap.size → k ≠ g → (w.setCell ⟨g, c, none⟩ (.int .i64 x)).heap[k]? = w.heap[k]?) := by
  have hr := h.row i _ hi
  have hn : ((M.getD i []).map (Value.int .i64)).length = n := by
    rcases hr.2 with ⟨h1, _⟩ | ⟨g1, c1, cur, h1, _⟩
    · simp at h1
    · simp only [Value.slice.injEq] at h1
      exact h1.2.1.symm
  have hr' : w.ownsRow B E 1 (.slice (some ⟨g, 0, none⟩) n cap) n ((M.getD i []).map (Value.int .i64)) := by have := hr; unfold OwnL at this; rwa [hn] at this
  have hst := World.ownsRow.stored hr' c (.int .i64 x)
  have p : Pushed w (w.setCell ⟨g, c, none⟩ (.int .i64 x)) (.slice (some ⟨g, 0, none⟩) n cap) (.slice (some ⟨g, 0, none⟩) n cap) := ⟨hst.2, .inl rfl⟩
  have hil : i < us.length := (List.getElem?_eq_some_iff.1 hi).1
  refine ⟨⟨by simp [h.len], p.other h.outer (apt_types hr h.outer (Ne.symm hne)), fun j v hv => ?_, h.apart⟩, fun k hk hkg => hst.2.block k hk (by simp [Value.ownBlock]; omega)⟩
  by_cases hji : j = i
  · subst hji
    rw [hi] at hv
    simp at hv
    subst hv
    have e : (M.set j ((M.getD j []).set c x)).getD j [] = (M.getD j []).set c x := by
      have : j < M.length := by rw [← h.len]; exact hil
      simp [List.getD, this]
    rw [e, List.map_set]
    have := hst.1
    unfold OwnL
    rw [List.length_set, hn]
    exact this
  · have e : (M.set i ((M.getD i []).set c x)).getD j [] = M.getD j [] := by simp [List.getD, List.getElem?_set, Ne.symm hji]
    rw [e]
    exact p.other (h.row j v hv) (h.apart i j _ v hi hv (Ne.symm hji))
theorem OwnL.setBelow {w : World} {B : Nat} {e : TypeId} {v : Value} {xs : List Value} (h : OwnL w B e v xs) {a : Addr} (ha : a.block < B) (u : Value) : OwnL (w.setCell a u) B e v xs := ownsRow_setCell_below h ha u
theorem RowsO.setBelow {w : World} {B : Nat} {T E : TypeId} {u : Value} {us : List Value} {M : List (List Int)} (h : RowsO w B T E u us M) {a : Addr} (ha : a.block < B) (x : Value) : RowsO (w.setCell a x) B T E u us M :=
  ⟨h.len, h.outer.setBelow ha x, fun j v hv => (h.row j v hv).setBelow ha x, h.apart⟩
theorem OwnM.setBelow {w : World} {B : Nat} {T E : TypeId} {u : Value} {M : List (List Int)} (h : OwnM w B T E u M) {a : Addr} (ha : a.block < B) (x : Value) : OwnM (w.setCell a x) B T E u M := by
  obtain ⟨us, h⟩ := h; exact ⟨us, h.setBelow ha x⟩
theorem heap_set_other (w : World) (b k : Nat) (x : Value) (h : k ≠ b) : (w.setCell ⟨b, 0, none⟩ x).heap[k]? = w.heap[k]? := Below.heap_setCell w ⟨b, 0, none⟩ x k h
theorem OwnL.mono {w : World} {B B' : Nat} {e : TypeId} {v : Value} {xs : List Value} (h : OwnL w B e v xs) (hB : B' ≤ B) : OwnL w B' e v xs := by
  refine ⟨h.1, ?_⟩
  rcases h.2 with h | ⟨g, cap, cur, e, hb, r⟩
  · exact .inl h
  · exact .inr ⟨g, cap, cur, e, by omega, r⟩
theorem RowsO.mono {w : World} {B B' : Nat} {T E : TypeId} {u : Value} {us : List Value} {M : List (List Int)} (h : RowsO w B T E u us M) (hB : B' ≤ B) : RowsO w B' T E u us M :=
  ⟨h.len, h.outer.mono hB, fun j v hv => (h.row j v hv).mono hB, h.apart⟩
theorem own_empty' (w : World) (e : TypeId) (B : Nat) (h : B ≤ w.heap.size) : OwnL (w.alloc (.cells #[] e)) B e (.slice (some ⟨w.heap.size, 0, none⟩) 0 0) [] := World.ownsRow_made w #[] 0 h (by decide) rfl
/-- another slice of the call's own has grown: the matrix is as it was -/
theorem RowsO.other {w w' : World} {B : Nat} {T E : TypeId} {u v v' : Value} {us : List Value} {M : List (List Int)} (h : RowsO w B T E u us M) (p : Pushed w w' v v') (hu : Apt v u) (hr : ∀ (j : Nat) x, us[j]? = some x → Apt v x) : RowsO w' B T E u us M :=
  ⟨h.len, p.other h.outer hu, fun j x hx => p.other (h.row j x hx) (hr j x hx), h.apart⟩
theorem OwnL.form {w : World} {B : Nat} {e : TypeId} {v : Value} {xs : List Value} (h : OwnL w B e v xs) : ∃ a cap, v = .slice a xs.length cap := by
  rcases h.2 with ⟨rfl, h0⟩ | ⟨g, cap, cur, rfl, _⟩
  · exact ⟨none, 0, by rw [h0]⟩
  · exact ⟨_, cap, rfl⟩
theorem own_ne {w : World} {B b g n cap : Nat} {E T : TypeId} {xs : List Value} {c : Array Value} {m : Nat × Nat} (h : OwnL w B E (.slice (some ⟨g, 0, none⟩) n cap) xs) (hb : w.heap[b]? = some (.cells c T m)) (hne : T ≠ E) : b ≠ g := by
  intro e
  subst e
  rcases h.2 with ⟨h1, _⟩ | ⟨g1, c1, cur, h1, _, hh, _⟩
  · simp at h1
  · simp only [Value.slice.injEq, Option.some.injEq, Addr.mk.injEq, and_true, true_and] at h1
    obtain ⟨rfl, _⟩ := h1
    rw [hh] at hb
    simp at hb
    exact hne hb.2.1.symm
/-- the form of a matrix' rows, at a place -/
theorem RowsO.at {w : World} {B : Nat} {T E : TypeId} {u : Value} {us : List Value} {M : List (List Int)} (h : RowsO w B T E u us M) {i : Nat} (hi : i < M.length) (hr : 0 < (M.getD i []).length) :
    ∃ g cap, us[i]? = some (.slice (some ⟨g, 0, none⟩) (M.getD i []).length cap) ∧ B ≤ g ∧ (∀ c, c < (M.getD i []).length → w.cell? ⟨g, c, none⟩ = some (.int .i64 ((M.getD i []).getD c 0))) ∧ ∀ c, w.frozen? ⟨g, c, none⟩ = false := by
  have hiu : i < us.length := by rw [h.len]; exact hi
  have hg : us[i]? = some us[i] := List.getElem?_eq_getElem hiu
  have hrow := h.row i _ hg
  obtain ⟨g, cap, e, hb, _, _, hc⟩ := own_form (n := ((M.getD i []).map (Value.int .i64)).length) hrow (by simpa using hr)
  rw [List.length_map] at e
  refine ⟨g, cap, by rw [hg, e], hb, fun c hcl => ?_, fun c => ?_⟩
  · refine hc c _ ?_
    generalize M.getD i [] = m at *
    exact int_at rfl c hcl
  · rw [e] at hrow
    have hrow' : w.ownsRow B E 1 (.slice (some ⟨g, 0, none⟩) (M.getD i []).length cap) (M.getD i []).length ((M.getD i []).map (Value.int .i64)) := by simpa [OwnL] using hrow
    exact World.ownsRow.frozenAt hrow' c
theorem RowsO.form {w : World} {B : Nat} {T E : TypeId} {u : Value} {us : List Value} {M : List (List Int)} (h : RowsO w B T E u us M) (hM : 0 < M.length) :
    ∃ g cap, u = .slice (some ⟨g, 0, none⟩) M.length cap ∧ B ≤ g ∧ ∀ (i : Nat) v, us[i]? = some v → w.cell? ⟨g, i, none⟩ = some v := by
  obtain ⟨g, cap, e, hb, _, _, hc⟩ := own_form (n := us.length) h.outer (by rw [h.len]; exact hM)
  rw [h.len] at e
  exact ⟨g, cap, e, hb, hc⟩
theorem OwnM.rows {w : World} {B : Nat} {T E : TypeId} {u : Value} {M : List (List Int)} (h : OwnM w B T E u M) (hM : M.length ≤ maxLen) (hr : ∀ j, (M.getD j []).length ≤ maxLen) : ∃ a cap, u = .slice a M.length cap ∧ RowsV w a M.length cap M := by
  obtain ⟨us, hl, ho, hrow, _⟩ := h
  obtain ⟨a, cap, e, r⟩ := own_row (f := fun i => us.getD i undef) ho (fun i hi => by simp [List.getD, List.getElem?_eq_getElem hi])
  rw [hl] at e r
  refine ⟨a, cap, e, fun i => us.getD i undef, rfl, hM, r, fun i hi => ?_⟩
  have hiu : i < us.length := by omega
  have hg : us[i]? = some (us.getD i undef) := by simp [List.getD, List.getElem?_eq_getElem hiu]
  obtain ⟨a', cap', e', hI⟩ := (hrow i _ hg).ints
  exact ⟨a', _, cap', e', hr i, hI⟩
end Go.Proofs.YtfeepmjkamdldaaDoor
