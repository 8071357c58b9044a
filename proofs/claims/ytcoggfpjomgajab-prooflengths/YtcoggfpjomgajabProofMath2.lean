/- What Check says of paths that are right, and of such as are not. -/
import Derived.Test.YtcoggfpjomgajabProofRef2
import Derived.Test.YtcoggfpjomgajabTreeTurnedWalk
namespace Go.Proofs.Ytcoggfpjomgajab
open Go.RowKit
set_option linter.unusedVariables false
set_option linter.unusedSimpArgs false
theorem Tree.depth_pos {n i : Nat} (h : 2 ≤ n) : 1 ≤ Tree.depth n i := by
  rw [Tree.depth_two h]
  split <;> omega
theorem sls_nint {l : List Nat} (h : Tree.May l) : Sls (nint l) := by
  intro x hx
  unfold nint at hx
  obtain ⟨y, hy, rfl⟩ := List.mem_map.1 hx
  have := h y hy
  unfold Sl
  omega
theorem chk_iff {n i a : Nat} {p : List Nat} (r : Int) (h1 : 1 ≤ n) (h64 : n ≤ 64) (hi : i < n) (ha : a < 2147483647) (hm : Tree.May p) (hl : p.length = Tree.depth n i) : Chk r n i a (nint p) ↔ ((Tree.climb n i a p : Nat) : Int) = r := by
  have hd := Tree.depth_le n i h1 hi
  constructor
  · intro h
    have := h.2.2.2.2.2.2.2.2
    rw [nats_nint] at this
    simpa using this
  · intro h
    refine ⟨by omega, by omega, by omega, by omega, by unfold Sl; omega, sls_nint hm, by rw [nint_len]; omega, by rw [nint_len, Int.toNat_natCast, Int.toNat_natCast]; exact hl, ?_⟩
    rw [nats_nint]
    simpa using h
theorem pathP_nint {l : List Nat} {i : Nat} (h1 : 1 ≤ l.length) (h64 : l.length ≤ 64) (hi : i < l.length) (hm : Tree.May l) : pathP (nint l) (i : Int) = (nint (Tree.path l i), 0) := by
  have h : PMay (nint l) (i : Int) := ⟨⟨by rw [nint_len]; exact h1, by rw [nint_len]; exact h64, sls_nint hm⟩, by omega, by rw [nint_len]; omega⟩
  rw [pathP_yes h, nats_nint, Int.toNat_natCast]
theorem getD_lt {l : List Nat} (h : Tree.May l) (i : Nat) : l.getD i 0 < 2147483647 := by
  rcases Nat.lt_or_ge i l.length with hi | hi
  · have e : l.getD i 0 = l[i] := by simp [List.getD, List.getElem?_eq_getElem hi]
    rw [e]
    exact h _ (List.getElem_mem hi)
  · have e : l.getD i 0 = 0 := by simp [List.getD, List.getElem?_eq_none hi]
    rw [e]
    decide
/-- the path of a leaf is taken -/
theorem chk_path {l : List Nat} {n i : Nat} (hn : l.length = n) (h64 : n ≤ 64) (hi : i < n) (hm : Tree.May l) : decide (Chk (Tree.root l : Nat) n i (l.getD i 0 : Nat) (nint (Tree.path l i))) = true := by
  apply decide_eq_true
  rw [chk_iff _ (by omega) h64 hi (getD_lt hm i) (Tree.path_may n l i hn hi hm) (Tree.path_len n l i hn (by omega)), Tree.climb_path n l i hn hi]
/-- not with another leaf -/
theorem chk_leaf {l : List Nat} {n i a : Nat} (hn : l.length = n) (h64 : n ≤ 64) (hi : i < n) (hm : Tree.May l) (ha : a < 2147483647) (hne : l.getD i 0 ≠ a) : decide (Chk (Tree.root l : Nat) n i a (nint (Tree.path l i))) = false := by
  apply decide_eq_false
  rw [chk_iff _ (by omega) h64 hi ha (Tree.path_may n l i hn hi hm) (Tree.path_len n l i hn (by omega)), ← Tree.climb_path n l i hn hi]
  intro h
  have h' : Tree.climb n i a (Tree.path l i) = Tree.climb n i (l.getD i 0) (Tree.path l i) := by omega
  exact hne (Tree.climb_leaf n i a (l.getD i 0) _ (by omega) hi ha (getD_lt hm i) h').symm
/-- not with another number -/
theorem chk_set {l : List Nat} {n i k z : Nat} (hn : l.length = n) (h64 : n ≤ 64) (hi : i < n) (hm : Tree.May l) (hk : k < (Tree.path l i).length) (hz : z < 2147483647) (hne : (Tree.path l i).getD k 0 ≠ z) : decide (Chk (Tree.root l : Nat) n i (l.getD i 0 : Nat) (nint ((Tree.path l i).set k z))) = false := by
  apply decide_eq_false
  have hpm := Tree.path_may n l i hn hi hm
  have hpl := Tree.path_len n l i hn (by omega)
  have hsm : Tree.May ((Tree.path l i).set k z) := by
    intro x hx
    rcases List.mem_or_eq_of_mem_set hx with h | rfl
    · exact hpm x h
    · exact hz
  rw [chk_iff _ (by omega) h64 hi (getD_lt hm i) hsm (by rw [List.length_set]; exact hpl), ← Tree.climb_path n l i hn hi]
  intro h
  have h' : Tree.climb n i (l.getD i 0) (Tree.path l i) = Tree.climb n i (l.getD i 0) ((Tree.path l i).set k z) := by omega
  exact hne (Tree.climb_turned n i (l.getD i 0) _ k z (by omega) hi (getD_lt hm i) hpl hpm hk hz h')
/-- not where it is too long or too short -/
theorem chk_short {r a : Int} {n i : Nat} {p : List Int} (h : p.length ≠ Tree.depth n i) : decide (Chk r n i a p) = false := by
  apply decide_eq_false
  intro hc
  have := hc.2.2.2.2.2.2.2.1
  rw [Int.toNat_natCast, Int.toNat_natCast] at this
  exact h this
theorem turn2 (y k : Nat) (hy : y < 2147483647) (hk : k ≤ 65535) : ∃ z : Nat, z < 2147483647 ∧ y ≠ z ∧ (wrap64 (wrap64 ((y : Int) + 1) + (k : Int))).tmod 2147483647 = (z : Int) ∧ ((y : Int) + 1 + (k : Int)) % 2147483647 = (z : Int) := by
  have e1 : wrap64 ((y : Int) + 1) = (y : Int) + 1 := by unfold wrap64; omega
  have e2 : wrap64 ((y : Int) + 1 + (k : Int)) = (y : Int) + 1 + (k : Int) := by unfold wrap64; omega
  have h0 : 0 ≤ (y : Int) + 1 + (k : Int) := by omega
  refine ⟨(y + 1 + k) % 2147483647, by omega, by omega, ?_, by omega⟩
  rw [e1, e2, Int.tmod_eq_emod_of_nonneg h0]
  omega
/-- all but the first -/
theorem Ints.tail {w : World} {b o n cap : Nat} {l : List Nat} (h : Ints w (some ⟨b, o, none⟩) n cap (nint l)) (h0 : 0 < n) : Ints w (if cap = 1 then some ⟨b, o, none⟩ else some ⟨b, o + 1, none⟩) (n - 1) (cap - 1) (nint (l.drop 1)) := by
  have hc := (h.cap h0).1
  have e : nint (l.drop 1) = (nint l).drop 1 := by unfold nint; rw [List.map_drop]
  have hl := h.1
  by_cases h1 : n = 1
  · refine ⟨by rw [nint_len, List.length_drop]; rw [nint_len] at hl; omega, .inr (.inl ⟨by omega, ?_⟩)⟩
    split <;> exact ⟨_, rfl⟩
  · rw [if_neg (by omega), e]
    exact h.rest (by omega)
end Go.Proofs.Ytcoggfpjomgajab
