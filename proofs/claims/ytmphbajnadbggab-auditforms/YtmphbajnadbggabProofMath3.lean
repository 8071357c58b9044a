/- What Check says of paths that are right, and of such as are not: the numbers. -/
import Derived.Test.YtmphbajnadbggabProofRef2
namespace Go.Proofs.Ytmphbajnadbggab
open Go.RowKit
set_option linter.unusedVariables false
set_option linter.unusedSimpArgs false
theorem nats_nn (l : List Nat) : nats (nint l) = l := by
  unfold nats nint
  rw [List.map_map]
  conv => rhs; rw [← List.map_id l]
  apply List.map_congr_left
  intro x _
  rfl
theorem Tree.depth_pos {n i : Nat} (h : 2 ≤ n) : 1 ≤ Tree.depth n i := by
  rw [Tree.depth_two h]
  split <;> omega
theorem sls_nint {l : List Nat} (h : Tree.May l) : Sls (nint l) := by
  intro x hx
  unfold nint at hx
  obtain ⟨y, hy, rfl⟩ := List.mem_map.1 hx
  have := h y hy
  unfold Sl
  omega
theorem chk_iff {n i a : Nat} {p : List Nat} (r : Int) (h1 : 1 ≤ n) (h64 : n ≤ 64) (hi : i < n) (ha : a < 2147483647) (hm : Tree.May p) (hl : p.length = Tree.depth n i) : Chk r n i a (nint p) ↔ ((Tree.climb n i a p : Nat) : Int) = r := by
  have hd := Tree.depth_le n i h1 hi
  constructor
  · intro h
    have := h.2.2.2.2.2.2.2.2
    rw [nats_nn] at this
    simpa using this
  · intro h
    refine ⟨by omega, by omega, by omega, by omega, by unfold Sl; omega, sls_nint hm, by rw [nint_len]; omega, by rw [nint_len, Int.toNat_natCast, Int.toNat_natCast]; exact hl, ?_⟩
    rw [nats_nn]
    simpa using h
theorem pathP_nint {l : List Nat} {i : Nat} (h1 : 1 ≤ l.length) (h64 : l.length ≤ 64) (hi : i < l.length) (hm : Tree.May l) : pathP (nint l) (i : Int) = (nint (Tree.path l i), 0) := by
  have h : PMay (nint l) (i : Int) := ⟨⟨by rw [nint_len]; exact h1, by rw [nint_len]; exact h64, sls_nint hm⟩, by omega, by rw [nint_len]; omega⟩
  rw [pathP_yes h, nats_nn, Int.toNat_natCast]
theorem getD_lt {l : List Nat} (h : Tree.May l) (i : Nat) : l.getD i 0 < 2147483647 := by
  rcases Nat.lt_or_ge i l.length with hi | hi
  · have e : l.getD i 0 = l[i] := by simp [List.getD, List.getElem?_eq_getElem hi]
    rw [e]
    exact h _ (List.getElem_mem hi)
  · have e : l.getD i 0 = 0 := by simp [List.getD, List.getElem?_eq_none hi]
    rw [e]
    decide
/-- the path of a leaf is taken -/
theorem chk_path {l : List Nat} {n i : Nat} (hn : l.length = n) (h64 : n ≤ 64) (hi : i < n) (hm : Tree.May l) : decide (Chk (Tree.root l : Nat) n i (l.getD i 0 : Nat) (nint (Tree.path l i))) = true := by
  apply decide_eq_true
  rw [chk_iff _ (by omega) h64 hi (getD_lt hm i) (Tree.path_may n l i hn hi hm) (Tree.path_len n l i hn (by omega)), Tree.climb_path n l i hn hi]
/-- not with another leaf -/
theorem chk_leaf {l : List Nat} {n i a : Nat} (hn : l.length = n) (h64 : n ≤ 64) (hi : i < n) (hm : Tree.May l) (ha : a < 2147483647) (hne : l.getD i 0 ≠ a) : decide (Chk (Tree.root l : Nat) n i a (nint (Tree.path l i))) = false := by
  apply decide_eq_false
  rw [chk_iff _ (by omega) h64 hi ha (Tree.path_may n l i hn hi hm) (Tree.path_len n l i hn (by omega)), ← Tree.climb_path n l i hn hi]
  intro h
  have h' : Tree.climb n i a (Tree.path l i) = Tree.climb n i (l.getD i 0) (Tree.path l i) := by omega
  exact hne (Tree.climb_leaf n i a (l.getD i 0) _ (by omega) hi ha (getD_lt hm i) h').symm
/-- not with another number -/
theorem chk_set {l : List Nat} {n i k z : Nat} (hn : l.length = n) (h64 : n ≤ 64) (hi : i < n) (hm : Tree.May l) (hk : k < (Tree.path l i).length) (hz : z < 2147483647) (hne : (Tree.path l i).getD k 0 ≠ z) : decide (Chk (Tree.root l : Nat) n i (l.getD i 0 : Nat) (nint ((Tree.path l i).set k z))) = false := by
  apply decide_eq_false
  have hpm := Tree.path_may n l i hn hi hm
  have hpl := Tree.path_len n l i hn (by omega)
  have hsm : Tree.May ((Tree.path l i).set k z) := by
    intro x hx
    rcases List.mem_or_eq_of_mem_set hx with h | rfl
    · exact hpm x h
    · exact hz
  rw [chk_iff _ (by omega) h64 hi (getD_lt hm i) hsm (by rw [List.length_set]; exact hpl), ← Tree.climb_path n l i hn hi]
  intro h
  have h' : Tree.climb n i (l.getD i 0) (Tree.path l i) = Tree.climb n i (l.getD i 0) ((Tree.path l i).set k z) := by omega
  exact hne (Tree.climb_turned n i (l.getD i 0) _ k z (by omega) hi (getD_lt hm i) hpl hpm hk hz h')
/-- not where it is too long or too short -/
theorem chk_short {r a : Int} {n i : Nat} {p : List Int} (h : p.length ≠ Tree.depth n i) : decide (Chk r n i a p) = false := by
  apply decide_eq_false
  intro hc
  have := hc.2.2.2.2.2.2.2.1
  rw [Int.toNat_natCast, Int.toNat_natCast] at this
  exact h this
end Go.Proofs.Ytmphbajnadbggab
