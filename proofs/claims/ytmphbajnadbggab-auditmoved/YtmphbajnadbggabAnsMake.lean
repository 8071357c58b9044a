/- Answers made empty, and one put anew whole, its path too. -/
import Derived.Test.YtmphbajnadbggabAnsPut
import Derived.Laws.MakeOwn
namespace Go.Proofs.Ytmphbajnadbggab
open Go.RowKit
set_option linter.unusedVariables false
set_option linter.unusedSimpArgs false
theorem made3_at (a b c : Value) (n i : Nat) (hi : i < n) : (madeCells #[a, b, c] (n * 3)).toList[i * 3]? = some a ∧ (madeCells #[a, b, c] (n * 3)).toList[i * 3 + 1]? = some b ∧ (madeCells #[a, b, c] (n * 3)).toList[i * 3 + 2]? = some c := by
  have h0 : i * 3 % 3 = 0 := by omega
  have h1 : (i * 3 + 1) % 3 = 1 := by omega
  have h2 : (i * 3 + 2) % 3 = 2 := by omega
  refine ⟨?_, ?_, ?_⟩ <;> simp only [madeCells, Array.getElem?_toList, Array.getElem?_map]
  · rw [Array.getElem?_range, if_pos (by omega)]; simp [h0]
  · rw [Array.getElem?_range, if_pos (by omega)]; simp [h1]
  · rw [Array.getElem?_range, if_pos (by omega)]; simp [h2]
theorem AnsO.made (w : World) {B : Nat} (T E : TypeId) (hB : B ≤ w.heap.size) (n : Nat) (hn : n ≤ 64) :
    AnsO (w.alloc (.cells (madeCells #[.string ByteArray.empty, .slice none 0 0, .int .i64 0] (n * 3)) T)) B T E (.slice (some ⟨w.heap.size, 0, none⟩) n n) (List.replicate n (.slice none 0 0)) (List.replicate n ans0) := by
  have hl : (List.replicate n (Value.slice none 0 0)).length = (List.replicate n ans0).length := by rw [List.length_replicate, List.length_replicate]
  have hz : ∀ j, (List.replicate n ans0).getD j ans0 = ans0 := fun j => by
    rw [List.getD, List.getElem?_replicate]; split <;> rfl
  have hu : ∀ (j : Nat) x, (List.replicate n (Value.slice none 0 0))[j]? = some x → x = .slice none 0 0 := fun j x h => by
    rw [List.getElem?_replicate] at h
    split at h
    · exact (Option.some.inj h).symm
    · exact absurd h (by simp)
  refine ⟨hl, ⟨by rw [ansCells_len hl], .inr ⟨w.heap.size, n, _, by rw [List.length_replicate], hB, heap_alloc_new w _, by rw [List.length_replicate]; exact Nat.le_refl _, by unfold maxLen; omega, size_madeCells _ _, ?_⟩⟩, fun j x hx => ?_, fun i j x y hx hy _ => ?_⟩
  · rw [List.length_replicate, List.take_of_length_le (by rw [Array.length_toList, size_madeCells]; exact Nat.le_refl _)]
    refine cells3_ext (n := n) (by rw [Array.length_toList, size_madeCells]) (by rw [ansCells_len hl, List.length_replicate]) (fun i hi => ?_)
    obtain ⟨a0, a1, a2⟩ := made3_at (.string ByteArray.empty) (.slice none 0 0) (.int .i64 0) n i hi
    obtain ⟨b0, b1, b2⟩ := ansCells_at hl (i := i) (by rw [List.length_replicate]; exact hi)
    rw [a0, a1, a2, b0, b1, b2, hz, List.getElem?_replicate, if_pos hi]
    exact ⟨rfl, rfl, rfl⟩
  · rw [hu j x hx, hz]; exact OwnL.nil _ _ _
  · rw [hu j y hy]; exact apt_nil x
theorem AnsO.putNew {w : World} {B : Nat} {T E : TypeId} {g n cap : Nat} {us : List Value} {zs : List Ans} (h : AnsO w B T E (.slice (some ⟨g, 0, none⟩) n cap) us zs) (hne : T ≠ E) (hn : zs.length = n) {j : Nat} (hj : j < zs.length) {z : Ans} {u : Value} (hu : OwnL w B E u (z.path.map (Value.int .i64)))
    (hnew : ∀ (i : Nat) x, us[i]? = some x → Apt u x) :
    AnsO (((w.setCell ⟨g, j * 3, none⟩ (.string z.blk)).setCell ⟨g, j * 3 + 1, none⟩ u).setCell ⟨g, j * 3 + 2, none⟩ (.int .i64 z.keyed)) B T E (.slice (some ⟨g, 0, none⟩) n cap) (us.set j u) (zs.set j z) := by
  subst hn
  have hlu := h.len
  have hc : (((ansCells us zs).set (j * 3) (.string z.blk)).set (j * 3 + 1) u).set (j * 3 + 2) (.int .i64 z.keyed) = ansCells (us.set j u) (zs.set j z) := by
    have hl := ansCells_len h.len
    have h' : (us.set j u).length = (zs.set j z).length := by rw [List.length_set, List.length_set]; exact h.len
    refine cells3_ext (n := zs.length) (by rw [List.length_set, List.length_set, List.length_set, hl]) (by rw [ansCells_len h', List.length_set]) (fun i hi => ?_)
    obtain ⟨a0, a1, a2⟩ := ansCells_at h.len hi
    obtain ⟨b0, b1, b2⟩ := ansCells_at h' (i := i) (by rw [List.length_set]; exact hi)
    rw [b0, b1, b2, set_getD hj]
    by_cases e : i = j
    · subst e
      rw [if_pos rfl]
      refine ⟨?_, ?_, ?_⟩
      · rw [List.getElem?_set_ne (by omega), List.getElem?_set_ne (by omega), List.getElem?_set_self (by omega)]
      · rw [List.getElem?_set_ne (by omega), List.getElem?_set_self (by rw [List.length_set]; omega), List.getElem?_set_self (by omega)]
      · rw [List.getElem?_set_self (by rw [List.length_set, List.length_set]; omega)]
    · rw [if_neg e]
      refine ⟨?_, ?_, ?_⟩
      · rw [List.getElem?_set_ne (by omega), List.getElem?_set_ne (by omega), List.getElem?_set_ne (by omega), a0]
      · rw [List.getElem?_set_ne (by omega), List.getElem?_set_ne (by omega), List.getElem?_set_ne (by omega), List.getElem?_set_ne (by omega), a1]
      · rw [List.getElem?_set_ne (by omega), List.getElem?_set_ne (by omega), List.getElem?_set_ne (by omega), a2]
  have hst := (World.ownsRow.stored (World.ownsRow.stored (World.ownsRow.stored h.outer (j * 3) (.string z.blk)).1 (j * 3 + 1) u).1 (j * 3 + 2) (.int .i64 z.keyed)).1
  rw [hc] at hst
  have hrow : ∀ {x : Value} {xs : List Value}, OwnL w B E x xs → OwnL (((w.setCell ⟨g, j * 3, none⟩ (.string z.blk)).setCell ⟨g, j * 3 + 1, none⟩ u).setCell ⟨g, j * 3 + 2, none⟩ (.int .i64 z.keyed)) B E x xs := by
    intro x xs hx
    have hg : ¬ x.ownBlock = some g := fun e => apt_typesZ hx h.outer (Ne.symm hne) g e rfl
    exact ownsRow_setCell_other (a := ⟨g, j * 3 + 2, none⟩) (ownsRow_setCell_other (a := ⟨g, j * 3 + 1, none⟩) (ownsRow_setCell_other (a := ⟨g, j * 3, none⟩) hx hg _) hg _) hg _
  refine ⟨by rw [List.length_set, List.length_set]; exact h.len, by rw [List.length_set]; exact hst, fun i x hx => ?_, fun a b x y hx hy hab => ?_⟩
  · rw [set_getD hj]
    rw [List.getElem?_set] at hx
    by_cases e : j = i
    · subst e
      rw [if_pos rfl, if_pos (by omega)] at hx
      rw [if_pos rfl, ← Option.some.inj hx]
      exact hrow hu
    · rw [if_neg e] at hx
      rw [if_neg (Ne.symm e)]
      exact hrow (h.row i x hx)
  · rw [List.getElem?_set] at hx hy
    by_cases ea : j = a
    · subst ea
      rw [if_pos rfl, if_pos (by omega)] at hx
      rw [if_neg hab] at hy
      rw [← Option.some.inj hx]
      exact hnew b y hy
    · rw [if_neg ea] at hx
      by_cases eb : j = b
      · subst eb
        rw [if_pos rfl, if_pos (by omega)] at hy
        rw [← Option.some.inj hy]
        exact (hnew a x hx).symm
      · rw [if_neg eb] at hy
        exact h.apart a b x y hx hy hab
end Go.Proofs.Ytmphbajnadbggab
