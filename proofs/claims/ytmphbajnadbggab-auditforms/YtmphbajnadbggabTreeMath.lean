/- Roots of leaves: pairs of roots, the greatest power of 2 first. -/
import Derived.Test.YtmphbajnadbggabSealMath
namespace Go.Proofs.Ytmphbajnadbggab
set_option linter.unusedVariables false
set_option linter.unusedSimpArgs false
namespace Tree
/-- the greatest power of 2 below n (from 2 on) -/
def half (n : Nat) : Nat := 2 ^ Nat.log2 (n - 1)
theorem half_lt {n : Nat} (h : 2 ≤ n) : half n < n := by
  have := Nat.log2_self_le (n := n - 1) (by omega)
  unfold half
  omega
theorem half_pos (n : Nat) : 0 < half n := Nat.two_pow_pos _
theorem half_le {n : Nat} (h : 2 ≤ n) : n ≤ 2 * half n := by
  have := Nat.lt_log2_self (n := n - 1)
  unfold half
  rw [Nat.pow_succ] at this
  omega
/-- it is the only one -/
theorem half_one {n i : Nat} (h1 : 2 ^ i < n) (h2 : n ≤ 2 * 2 ^ i) : half n = 2 ^ i := by
  have hp := Nat.two_pow_pos i
  unfold half
  congr 1
  have hn : n - 1 ≠ 0 := by omega
  refine (Nat.log2_eq_iff hn).2 ⟨by omega, ?_⟩
  rw [Nat.pow_succ]; omega
/-- the root, by a bound on the height -/
def rootF : Nat → List Nat → Nat
  | 0, l => l.getD 0 0
  | f + 1, l => if l.length ≤ 1 then l.getD 0 0 else Seal.pairN (rootF f (l.take (half l.length))) (rootF f (l.drop (half l.length)))
theorem rootF_more : ∀ (f g : Nat) (l : List Nat), l.length ≤ f + 1 → l.length ≤ g + 1 → rootF f l = rootF g l
  | 0, 0, l, _, _ => rfl
  | 0, g + 1, l, h, _ => by
    show l.getD 0 0 = if l.length ≤ 1 then l.getD 0 0 else _
    rw [if_pos h]
  | f + 1, 0, l, _, h => by
    show (if l.length ≤ 1 then l.getD 0 0 else _) = l.getD 0 0
    rw [if_pos h]
  | f + 1, g + 1, l, h1, h2 => by
    show (if l.length ≤ 1 then l.getD 0 0 else _) = if l.length ≤ 1 then l.getD 0 0 else _
    by_cases h : l.length ≤ 1
    · rw [if_pos h, if_pos h]
    · rw [if_neg h, if_neg h]
      have a1 := half_lt (n := l.length) (by omega)
      have a2 := half_pos l.length
      rw [rootF_more f g (l.take (half l.length)) (by rw [List.length_take]; omega) (by rw [List.length_take]; omega),
        rootF_more f g (l.drop (half l.length)) (by rw [List.length_drop]; omega) (by rw [List.length_drop]; omega)]
def root (l : List Nat) : Nat := rootF l.length l
theorem root_one (x : Nat) : root [x] = x := rfl
theorem root_two {l : List Nat} (h : 2 ≤ l.length) : root l = Seal.pairN (root (l.take (half l.length))) (root (l.drop (half l.length))) := by
  have a1 := half_lt h
  have a2 := half_pos l.length
  have e : root l = rootF (l.length - 1 + 1) l := rootF_more _ _ _ (by omega) (by omega)
  rw [e]
  show (if l.length ≤ 1 then l.getD 0 0 else _) = _
  rw [if_neg (by omega)]
  unfold root
  rw [rootF_more (l.length - 1) (l.take (half l.length)).length (l.take (half l.length)) (by rw [List.length_take]; omega) (by omega),
    rootF_more (l.length - 1) (l.drop (half l.length)).length (l.drop (half l.length)) (by rw [List.length_drop]; omega) (by omega)]
/-- leaves that may be -/
def May (l : List Nat) : Prop := ∀ x ∈ l, x < 2147483647
theorem root_lt {l : List Nat} (h0 : l ≠ []) (h : May l) : root l < 2147483647 := by
  by_cases h2 : 2 ≤ l.length
  · rw [root_two h2]; exact Seal.pairN_lt _ _
  · match l, h0 with
    | [x], _ => exact h x (by simp)
    | x :: y :: r, _ => exact absurd h2 (by simp)
/-- a leaf that is another one turns the root -/
theorem root_turned : ∀ (n : Nat) (l : List Nat) (i x : Nat), l.length = n → i < l.length → May l → x < 2147483647 → l.getD i 0 ≠ x → root l ≠ root (l.set i x) := by
  intro n
  induction n using Nat.strongRecOn with
  | ind n ih =>
    intro l i x hl hi hm hx hne
    by_cases h2 : 2 ≤ l.length
    · have a1 := half_lt h2
      have a2 := half_pos l.length
      have r1 := root_two h2
      have r2 := root_two (l := l.set i x) (by rw [List.length_set]; exact h2)
      rw [List.length_set] at r2
      rw [r1, r2]
      clear r1 r2
      generalize hk : half l.length = k at *
      have hmt : May (l.take k) := fun y hy => hm y (List.mem_of_mem_take hy)
      have hmd : May (l.drop k) := fun y hy => hm y (List.mem_of_mem_drop hy)
      have nt : l.take k ≠ [] := fun e => by have := congrArg List.length e; rw [List.length_take, List.length_nil] at this; omega
      have nd : l.drop k ≠ [] := fun e => by have := congrArg List.length e; rw [List.length_drop] at this; simp at this; omega
      have hms : May (l.set i x) := fun y hy => by
        rcases List.mem_or_eq_of_mem_set hy with h | h
        · exact hm y h
        · rw [h]; exact hx
      have hmt' : May ((l.set i x).take k) := fun y hy => hms y (List.mem_of_mem_take hy)
      have hmd' : May ((l.set i x).drop k) := fun y hy => hms y (List.mem_of_mem_drop hy)
      have nt' : (l.set i x).take k ≠ [] := fun e => by have := congrArg List.length e; rw [List.length_take, List.length_set, List.length_nil] at this; omega
      have nd' : (l.set i x).drop k ≠ [] := fun e => by have := congrArg List.length e; rw [List.length_drop, List.length_set] at this; simp at this; omega
      by_cases hik : i < k
      · have e1 : (l.set i x).take k = (l.take k).set i x := by rw [List.take_set]
        have e2 : (l.set i x).drop k = l.drop k := by rw [List.drop_set_of_lt hik]
        rw [e2]
        intro h
        have := Seal.pairN_left (root_lt nt hmt) (root_lt nt' hmt') h
        rw [e1] at this
        refine ih (l.take k).length (by rw [List.length_take]; omega) (l.take k) i x rfl (by rw [List.length_take]; omega) hmt hx ?_ this
        have e3 : (l.take k).getD i 0 = l.getD i 0 := by simp [List.getD, List.getElem?_take, hik]
        rw [e3]; exact hne
      · have e1 : (l.set i x).take k = l.take k := by rw [List.take_set, List.set_eq_of_length_le (by rw [List.length_take]; omega)]
        have e2 : (l.set i x).drop k = (l.drop k).set (i - k) x := by rw [List.drop_set, if_neg (by omega)]
        rw [e1]
        intro h
        have := Seal.pairN_right (root_lt nd hmd) (root_lt nd' hmd') h
        rw [e2] at this
        refine ih (l.drop k).length (by rw [List.length_drop]; omega) (l.drop k) (i - k) x rfl (by rw [List.length_drop]; omega) hmd hx ?_ this
        have e3 : (l.drop k).getD (i - k) 0 = l.getD i 0 := by simp [List.getD, List.getElem?_drop, show k + (i - k) = i by omega]
        rw [e3]; exact hne
    · match l, hi with
      | [y], h =>
        have : i = 0 := by simpa using h
        subst this
        exact hne
      | y :: z :: r, _ => exact absurd h2 (by simp)
/-- the roots of two and two -/
def pairs : List Nat → List Nat
  | a :: b :: r => Seal.pairN a b :: pairs r
  | _ => []
theorem pairs_append : ∀ (l r : List Nat), l.length % 2 = 0 → pairs (l ++ r) = pairs l ++ pairs r
  | [], r, _ => rfl
  | [a], r, h => by simp at h
  | a :: b :: l, r, h => by
    show Seal.pairN a b :: pairs (l ++ r) = Seal.pairN a b :: pairs l ++ pairs r
    rw [pairs_append l r (by simp at h; omega)]
    rfl
theorem pairs_len : ∀ (l : List Nat), (pairs l).length = l.length / 2
  | [] => rfl
  | [a] => by simp [pairs]
  | a :: b :: l => by
    show (pairs l).length + 1 = (l.length + 1 + 1) / 2
    rw [pairs_len l]; omega
theorem root_pair (a b : Nat) : root [a, b] = root (pairs [a, b]) := by
  have h := root_two (l := [a, b]) (by simp)
  have e : half [a, b].length = 1 := half_one (i := 0) (by simp) (by simp)
  rw [e] at h
  exact h
/-- the root of as many leaves as a power of 2 is that of the pairs' roots -/
theorem root_rows : ∀ (m : Nat) (l : List Nat), l.length = 2 ^ (m + 1) → root l = root (pairs l)
  | 0, l, h => by
    match l, h with
    | [a, b], _ => exact root_pair a b
  | m + 1, l, h => by
    have hp := Nat.two_pow_pos m
    have e1 : (2 : Nat) ^ (m + 1) = 2 * 2 ^ m := by rw [Nat.pow_succ]; omega
    have e2 : (2 : Nat) ^ (m + 1 + 1) = 2 * (2 * 2 ^ m) := by rw [Nat.pow_succ, e1]; omega
    have hh : half l.length = 2 ^ (m + 1) := half_one (by rw [h]; omega) (by rw [h]; omega)
    have hl : (l.take (2 ^ (m + 1))).length = 2 ^ (m + 1) := by rw [List.length_take, h]; omega
    have hr : (l.drop (2 ^ (m + 1))).length = 2 ^ (m + 1) := by rw [List.length_drop, h]; omega
    have hs : pairs l = pairs (l.take (2 ^ (m + 1))) ++ pairs (l.drop (2 ^ (m + 1))) := by
      rw [← pairs_append _ _ (by rw [hl]; omega), List.take_append_drop]
    have hpl : (pairs l).length = 2 ^ (m + 1) := by rw [pairs_len, h]; omega
    have hq : (pairs (l.take (2 ^ (m + 1)))).length = 2 ^ m := by rw [pairs_len, hl]; omega
    have hh2 : half (pairs l).length = 2 ^ m := half_one (by rw [hpl]; omega) (by rw [hpl]; omega)
    have r1 := root_two (l := l) (by rw [h]; omega)
    have r2 := root_two (l := pairs l) (by rw [hpl]; omega)
    rw [hh] at r1
    rw [hh2] at r2
    have t1 : (pairs l).take (2 ^ m) = pairs (l.take (2 ^ (m + 1))) := by rw [hs, List.take_append_of_le_length (by omega), List.take_of_length_le (by omega)]
    have t2 : (pairs l).drop (2 ^ m) = pairs (l.drop (2 ^ (m + 1))) := by rw [hs, List.drop_append_of_le_length (by omega), List.drop_of_length_le (by omega), List.nil_append]
    rw [r1, r2, t1, t2, root_rows m _ hl, root_rows m _ hr]
end Tree
end Go.Proofs.Ytmphbajnadbggab
