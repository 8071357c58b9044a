/- SpoilAnswers (ossuarylaw0): a contract. -/
import Derived.Test.YtmphbajnadbggabAnsLaw2
namespace Go.Proofs.Ytmphbajnadbggab
open Go.RowKit
set_option linter.unusedVariables false
set_option linter.unusedSimpArgs false
attribute [local go_sem ↓] Go.wp_at_zero Go.wp_at_succ
theorem ownZ_keep {w w' : World} {B : Nat} {e : TypeId} {z n : Nat} {v : Value} {xs : List Value} (h : w.ownsRow B e z v n xs) (hk : ∀ g, v.ownBlock = some g → w'.heap[g]? = w.heap[g]?) : w'.ownsRow B e z v n xs := by
  refine ⟨h.1, ?_⟩
  rcases h.2 with h | ⟨g, cap, cur, rfl, hb, hh, r⟩
  · exact .inl h
  · exact .inr ⟨g, cap, cur, rfl, hb, (hk g rfl).trans hh, r⟩
/-- answers of the call's own, whatever they hold -/
structure AnsS (w : World) (B : Nat) (T E : TypeId) (g n cap : Nat) (us : List Value) (ls : List Nat) (cs : List Value) : Prop where
  len : us.length = n
  lens : ls.length = n
  outer : w.ownsRow B T 3 (.slice (some ⟨g, 0, none⟩) n cap) n cs
  mid : ∀ j, j < n → cs[j * 3 + 1]? = us[j]?
  last : ∀ j, j < n → ∃ x : Int, cs[j * 3 + 2]? = some (.int .i64 x)
  row : ∀ (j : Nat) x, us[j]? = some x → ∃ ys : List Int, ys.length = ls.getD j 0 ∧ OwnL w B E x (ys.map (Value.int .i64))
  apart : ∀ (i j : Nat) x y, us[i]? = some x → us[j]? = some y → i ≠ j → Apt x y
theorem AnsS.row' {w w' : World} {B : Nat} {T E : TypeId} {g n cap : Nat} {us : List Value} {ls : List Nat} {cs : List Value} (h : AnsS w B T E g n cap us ls cs) (hne : T ≠ E) {k : Nat} {v : Value} (hv : us[k]? = some v) {ys : List Int} (hl : ys.length = ls.getD k 0) (hy : OwnL w' B E v (ys.map (Value.int .i64)))
    (hf : ∀ k, v.ownBlock ≠ some k → k < w.heap.size → w'.heap[k]? = w.heap[k]?) : AnsS w' B T E g n cap us ls cs := by
  obtain ⟨ys0, _, hrow⟩ := h.row k v hv
  refine ⟨h.len, h.lens, ownZ_keep h.outer (fun g' hg => hf g' (fun e => apt_typesZ hrow h.outer (Ne.symm hne) g' e hg) (World.ownsRow.lt h.outer g' hg).2), h.mid, h.last, fun j x hx => ?_, h.apart⟩
  by_cases hjk : j = k
  · subst hjk
    rw [hv] at hx
    cases hx
    exact ⟨ys, hl, hy⟩
  · obtain ⟨zs, hz, ho⟩ := h.row j x hx
    exact ⟨zs, hz, ho.keep (fun g' hg => hf g' (fun e => h.apart k j v x hv hx (Ne.symm hjk) g' e hg) (ho.lt hg).2)⟩
theorem AnsS.last' {w : World} {B : Nat} {T E : TypeId} {g n cap : Nat} {us : List Value} {ls : List Nat} {cs : List Value} (h : AnsS w B T E g n cap us ls cs) (hne : T ≠ E) (k : Nat) (x : Int) : AnsS (w.setCell ⟨g, k * 3 + 2, none⟩ (.int .i64 x)) B T E g n cap us ls (cs.set (k * 3 + 2) (.int .i64 x)) := by
  have hst := World.ownsRow.stored h.outer (k * 3 + 2) (.int .i64 x)
  refine ⟨h.len, h.lens, hst.1, fun j hj => ?_, fun j hj => ?_, fun j y hy => ?_, h.apart⟩
  · rw [List.getElem?_set_ne (by omega)]; exact h.mid j hj
  · by_cases e : k = j
    · subst e
      have hl := ownZ_len h.outer
      exact ⟨x, by rw [List.getElem?_set_self (by omega)]⟩
    · rw [List.getElem?_set_ne (by omega)]; exact h.last j hj
  · obtain ⟨zs, hz, ho⟩ := h.row j y hy
    refine ⟨zs, hz, ownsRow_setCell_other ho (fun e => ?_) _⟩
    exact apt_typesZ ho h.outer (Ne.symm hne) _ e rfl
theorem AnsO.spoil {w : World} {B : Nat} {T E : TypeId} {g n cap : Nat} {us : List Value} {zs : List Ans} (h : AnsO w B T E (.slice (some ⟨g, 0, none⟩) n cap) us zs) (hn : zs.length = n) : AnsS w B T E g n cap us (zs.map fun z => z.path.length) (ansCells us zs) := by
  subst hn
  refine ⟨h.len, by simp, h.outer, fun j hj => (ansCells_at h.len hj).2.1, fun j hj => ⟨_, (ansCells_at h.len hj).2.2⟩, fun j x hx => ⟨(zs.getD j ans0).path, ?_, h.row j x hx⟩, h.apart⟩
  have hj : j < zs.length := by rw [← h.len]; exact (List.getElem?_eq_some_iff.1 hx).1
  simp [List.getD, List.getElem?_eq_getElem hj]
end Go.Proofs.Ytmphbajnadbggab
