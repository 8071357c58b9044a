/- Paths: the roots of the other sides, from the leaf up; where a path leads. -/
import Derived.Test.YtmphbajnadbggabTreeMath
namespace Go.Proofs.Ytmphbajnadbggab
set_option linter.unusedVariables false
set_option linter.unusedSimpArgs false
namespace Tree
/-- how long a path is, by a bound -/
def depthF : Nat → Nat → Nat → Nat
  | 0, _, _ => 0
  | f + 1, n, i => if n ≤ 1 then 0 else if i < half n then depthF f (half n) i + 1 else depthF f (n - half n) (i - half n) + 1
theorem depthF_more : ∀ (f g n i : Nat), n ≤ f + 1 → n ≤ g + 1 → depthF f n i = depthF g n i
  | 0, 0, n, i, _, _ => rfl
  | 0, g + 1, n, i, h, _ => by
    show 0 = if n ≤ 1 then 0 else _
    rw [if_pos h]
  | f + 1, 0, n, i, _, h => by
    show (if n ≤ 1 then 0 else _) = 0
    rw [if_pos h]
  | f + 1, g + 1, n, i, h1, h2 => by
    show (if n ≤ 1 then 0 else _) = if n ≤ 1 then 0 else _
    by_cases h : n ≤ 1
    · rw [if_pos h, if_pos h]
    · have a1 := half_lt (n := n) (by omega)
      have a2 := half_pos n
      rw [if_neg h, if_neg h, depthF_more f g (half n) i (by omega) (by omega), depthF_more f g (n - half n) (i - half n) (by omega) (by omega)]
def depth (n i : Nat) : Nat := depthF n n i
theorem depth_one (i : Nat) : depth 1 i = 0 := rfl
theorem depth_two {n i : Nat} (h : 2 ≤ n) : depth n i = if i < half n then depth (half n) i + 1 else depth (n - half n) (i - half n) + 1 := by
  have a1 := half_lt h
  have a2 := half_pos n
  have e : depth n i = depthF (n - 1 + 1) n i := depthF_more _ _ _ _ (by omega) (by omega)
  rw [e]
  show (if n ≤ 1 then 0 else _) = _
  rw [if_neg (by omega)]
  unfold depth
  rw [depthF_more (n - 1) (half n) (half n) i (by omega) (by omega), depthF_more (n - 1) (n - half n) (n - half n) (i - half n) (by omega) (by omega)]
/-- the path, by a bound -/
def pathF : Nat → List Nat → Nat → List Nat
  | 0, _, _ => []
  | f + 1, l, i => if l.length ≤ 1 then [] else if i < half l.length then pathF f (l.take (half l.length)) i ++ [root (l.drop (half l.length))] else pathF f (l.drop (half l.length)) (i - half l.length) ++ [root (l.take (half l.length))]
theorem pathF_more : ∀ (f g : Nat) (l : List Nat) (i : Nat), l.length ≤ f + 1 → l.length ≤ g + 1 → pathF f l i = pathF g l i
  | 0, 0, l, i, _, _ => rfl
  | 0, g + 1, l, i, h, _ => by
    show [] = if l.length ≤ 1 then [] else _
    rw [if_pos h]
  | f + 1, 0, l, i, _, h => by
    show (if l.length ≤ 1 then [] else _) = []
    rw [if_pos h]
  | f + 1, g + 1, l, i, h1, h2 => by
    show (if l.length ≤ 1 then [] else _) = if l.length ≤ 1 then [] else _
    by_cases h : l.length ≤ 1
    · rw [if_pos h, if_pos h]
    · have a1 := half_lt (n := l.length) (by omega)
      have a2 := half_pos l.length
      rw [if_neg h, if_neg h, pathF_more f g (l.take (half l.length)) i (by rw [List.length_take]; omega) (by rw [List.length_take]; omega),
        pathF_more f g (l.drop (half l.length)) (i - half l.length) (by rw [List.length_drop]; omega) (by rw [List.length_drop]; omega)]
def path (l : List Nat) (i : Nat) : List Nat := pathF l.length l i
theorem path_one (x i : Nat) : path [x] i = [] := rfl
theorem path_two {l : List Nat} (i : Nat) (h : 2 ≤ l.length) : path l i = if i < half l.length then path (l.take (half l.length)) i ++ [root (l.drop (half l.length))] else path (l.drop (half l.length)) (i - half l.length) ++ [root (l.take (half l.length))] := by
  have a1 := half_lt h
  have a2 := half_pos l.length
  have e : path l i = pathF (l.length - 1 + 1) l i := pathF_more _ _ _ _ (by omega) (by omega)
  rw [e]
  show (if l.length ≤ 1 then [] else _) = _
  rw [if_neg (by omega)]
  unfold path
  rw [pathF_more (l.length - 1) (l.take (half l.length)).length (l.take (half l.length)) i (by rw [List.length_take]; omega) (by omega),
    pathF_more (l.length - 1) (l.drop (half l.length)).length (l.drop (half l.length)) (i - half l.length) (by rw [List.length_drop]; omega) (by omega)]
/-- where a path leads, by a bound -/
def climbF : Nat → Nat → Nat → Nat → List Nat → Nat
  | 0, _, _, a, _ => a
  | f + 1, n, i, a, p => if n ≤ 1 then a else if i < half n then Seal.pairN (climbF f (half n) i a (p.take (p.length - 1))) (p.getD (p.length - 1) 0) else Seal.pairN (p.getD (p.length - 1) 0) (climbF f (n - half n) (i - half n) a (p.take (p.length - 1)))
theorem climbF_more : ∀ (f g n i a : Nat) (p : List Nat), n ≤ f + 1 → n ≤ g + 1 → climbF f n i a p = climbF g n i a p
  | 0, 0, n, i, a, p, _, _ => rfl
  | 0, g + 1, n, i, a, p, h, _ => by
    show a = if n ≤ 1 then a else _
    rw [if_pos h]
  | f + 1, 0, n, i, a, p, _, h => by
    show (if n ≤ 1 then a else _) = a
    rw [if_pos h]
  | f + 1, g + 1, n, i, a, p, h1, h2 => by
    show (if n ≤ 1 then a else _) = if n ≤ 1 then a else _
    by_cases h : n ≤ 1
    · rw [if_pos h, if_pos h]
    · have a1 := half_lt (n := n) (by omega)
      have a2 := half_pos n
      rw [if_neg h, if_neg h, climbF_more f g (half n) i a _ (by omega) (by omega), climbF_more f g (n - half n) (i - half n) a _ (by omega) (by omega)]
def climb (n i a : Nat) (p : List Nat) : Nat := climbF n n i a p
theorem climb_one (i a : Nat) (p : List Nat) : climb 1 i a p = a := rfl
theorem climb_two {n : Nat} (i a : Nat) (p : List Nat) (h : 2 ≤ n) : climb n i a p = if i < half n then Seal.pairN (climb (half n) i a (p.take (p.length - 1))) (p.getD (p.length - 1) 0) else Seal.pairN (p.getD (p.length - 1) 0) (climb (n - half n) (i - half n) a (p.take (p.length - 1))) := by
  have a1 := half_lt h
  have a2 := half_pos n
  have e : climb n i a p = climbF (n - 1 + 1) n i a p := climbF_more _ _ _ _ _ _ (by omega) (by omega)
  rw [e]
  show (if n ≤ 1 then a else _) = _
  rw [if_neg (by omega)]
  unfold climb
  rw [climbF_more (n - 1) (half n) (half n) i a _ (by omega) (by omega), climbF_more (n - 1) (n - half n) (n - half n) (i - half n) a _ (by omega) (by omega)]
theorem climb_lt {n i a : Nat} {p : List Nat} (h1 : 1 ≤ n) (ha : a < 2147483647) : climb n i a p < 2147483647 := by
  by_cases h : 2 ≤ n
  · rw [climb_two i a p h]
    split <;> exact Seal.pairN_lt _ _
  · obtain rfl : n = 1 := by omega
    exact ha
/-- a path is as long as it is deep -/
theorem path_len : ∀ (n : Nat) (l : List Nat) (i : Nat), l.length = n → 1 ≤ n → (path l i).length = depth n i := by
  intro n
  induction n using Nat.strongRecOn with
  | ind n ih =>
    intro l i hl h1
    by_cases h2 : 2 ≤ n
    · have a1 := half_lt h2
      have a2 := half_pos n
      rw [path_two i (by omega), depth_two h2, hl]
      split
      · rw [List.length_append, ih (half n) a1 _ _ (by rw [List.length_take]; omega) a2]; rfl
      · rw [List.length_append, ih (n - half n) (by omega) _ _ (by rw [List.length_drop]; omega) (by omega)]; rfl
    · obtain rfl : n = 1 := by omega
      match l, hl with
      | [x], _ => rfl
/-- the path of a leaf leads to the root -/
theorem climb_path : ∀ (n : Nat) (l : List Nat) (i : Nat), l.length = n → i < n → climb n i (l.getD i 0) (path l i) = root l := by
  intro n
  induction n using Nat.strongRecOn with
  | ind n ih =>
    intro l i hl hi
    by_cases h2 : 2 ≤ n
    · have a1 := half_lt h2
      have a2 := half_pos n
      have hrt := root_two (l := l) (by omega)
      rw [hl] at hrt
      rw [climb_two _ _ _ h2, path_two i (by omega), hl, hrt]
      by_cases hik : i < half n
      · simp only [if_pos hik, List.length_append, List.length_cons, List.length_nil, Nat.add_sub_cancel, Nat.zero_add]
        have e1 : (path (l.take (half n)) i ++ [root (l.drop (half n))]).take (path (l.take (half n)) i).length = path (l.take (half n)) i := by simp
        have e2 : (path (l.take (half n)) i ++ [root (l.drop (half n))]).getD (path (l.take (half n)) i).length 0 = root (l.drop (half n)) := by simp [List.getD]
        rw [e1, e2]
        have e3 : l.getD i 0 = (l.take (half n)).getD i 0 := by simp [List.getD, List.getElem?_take, hik]
        rw [e3, ih (half n) a1 (l.take (half n)) i (by rw [List.length_take]; omega) hik]
      · simp only [if_neg hik, List.length_append, List.length_cons, List.length_nil, Nat.add_sub_cancel, Nat.zero_add]
        have e1 : (path (l.drop (half n)) (i - half n) ++ [root (l.take (half n))]).take (path (l.drop (half n)) (i - half n)).length = path (l.drop (half n)) (i - half n) := by simp
        have e2 : (path (l.drop (half n)) (i - half n) ++ [root (l.take (half n))]).getD (path (l.drop (half n)) (i - half n)).length 0 = root (l.take (half n)) := by simp [List.getD]
        rw [e1, e2]
        have e3 : l.getD i 0 = (l.drop (half n)).getD (i - half n) 0 := by simp [List.getD, List.getElem?_drop, show half n + (i - half n) = i by omega]
        rw [e3, ih (n - half n) (by omega) (l.drop (half n)) (i - half n) (by rw [List.length_drop]; omega) (by omega)]
    · obtain rfl : n = 1 := by omega
      match l, hl with
      | [x], _ =>
        obtain rfl : i = 0 := by omega
        rfl
/-- the numbers of a path may be -/
theorem path_may : ∀ (n : Nat) (l : List Nat) (i : Nat), l.length = n → i < n → May l → May (path l i) := by
  intro n
  induction n using Nat.strongRecOn with
  | ind n ih =>
    intro l i hl hi hm
    by_cases h2 : 2 ≤ n
    · have a1 := half_lt h2
      have a2 := half_pos n
      have hmt : May (l.take (half n)) := fun y hy => hm y (List.mem_of_mem_take hy)
      have hmd : May (l.drop (half n)) := fun y hy => hm y (List.mem_of_mem_drop hy)
      have nt : l.take (half n) ≠ [] := fun e => by have := congrArg List.length e; rw [List.length_take, List.length_nil] at this; omega
      have nd : l.drop (half n) ≠ [] := fun e => by have := congrArg List.length e; rw [List.length_drop] at this; simp at this; omega
      rw [path_two i (by omega), hl]
      split
      · intro y hy
        rcases List.mem_append.1 hy with h | h
        · exact ih (half n) a1 _ i (by rw [List.length_take]; omega) (by assumption) hmt y h
        · rw [List.mem_singleton.1 h]; exact root_lt nd hmd
      · intro y hy
        rcases List.mem_append.1 hy with h | h
        · exact ih (n - half n) (by omega) _ (i - half n) (by rw [List.length_drop]; omega) (by omega) hmd y h
        · rw [List.mem_singleton.1 h]; exact root_lt nt hmt
    · obtain rfl : n = 1 := by omega
      match l, hl with
      | [x], _ => intro y hy; simp [path_one] at hy
/-- another leaf leads elsewhere -/
theorem climb_leaf : ∀ (n i a b : Nat) (p : List Nat), 1 ≤ n → i < n → a < 2147483647 → b < 2147483647 → climb n i a p = climb n i b p → a = b := by
  intro n
  induction n using Nat.strongRecOn with
  | ind n ih =>
    intro i a b p h1 hi ha hb h
    by_cases h2 : 2 ≤ n
    · have a1 := half_lt h2
      have a2 := half_pos n
      rw [climb_two _ _ _ h2, climb_two _ _ _ h2] at h
      by_cases hik : i < half n
      · rw [if_pos hik, if_pos hik] at h
        exact ih (half n) a1 i a b _ a2 hik ha hb (Seal.pairN_left (climb_lt a2 ha) (climb_lt a2 hb) h)
      · rw [if_neg hik, if_neg hik] at h
        exact ih (n - half n) (by omega) (i - half n) a b _ (by omega) (by omega) ha hb (Seal.pairN_right (climb_lt (by omega) ha) (climb_lt (by omega) hb) h)
    · obtain rfl : n = 1 := by omega
      exact h
/-- a path one of whose numbers is another one leads elsewhere -/
theorem climb_turned : ∀ (n i a : Nat) (p : List Nat) (k x : Nat), 1 ≤ n → i < n → a < 2147483647 → p.length = depth n i → May p → k < p.length → x < 2147483647 → climb n i a p = climb n i a (p.set k x) → p.getD k 0 = x := by
  intro n
  induction n using Nat.strongRecOn with
  | ind n ih =>
    intro i a p k x h1 hi ha hp hm hk hx h
    by_cases h2 : 2 ≤ n
    · have a1 := half_lt h2
      have a2 := half_pos n
      rw [depth_two h2] at hp
      rw [climb_two _ _ _ h2, climb_two _ _ _ h2, List.length_set] at h
      have hpp : 1 ≤ p.length := by omega
      have hmp : May (p.take (p.length - 1)) := fun y hy => hm y (List.mem_of_mem_take hy)
      have hgm : ∀ j, j < p.length → p.getD j 0 < 2147483647 := fun j hj => by
        have e : p.getD j 0 = p[j] := by simp [List.getD, List.getElem?_eq_getElem hj]
        rw [e]; exact hm _ (List.getElem_mem hj)
      have hsm : (p.set k x).getD (p.length - 1) 0 < 2147483647 := by
        by_cases e : k = p.length - 1
        · have : (p.set k x).getD (p.length - 1) 0 = x := by simp [List.getD, List.getElem?_set, e, show p.length - 1 < p.length by omega]
          rw [this]; exact hx
        · have : (p.set k x).getD (p.length - 1) 0 = p.getD (p.length - 1) 0 := by simp [List.getD, List.getElem?_set, e]
          rw [this]; exact hgm _ (by omega)
      by_cases hkl : k = p.length - 1
      · have e1 : (p.set k x).take (p.length - 1) = p.take (p.length - 1) := by rw [List.take_set, List.set_eq_of_length_le (by rw [List.length_take]; omega)]
        have e2 : (p.set k x).getD (p.length - 1) 0 = x := by simp [List.getD, List.getElem?_set, hkl, show p.length - 1 < p.length by omega]
        rw [e1, e2] at h
        by_cases hik : i < half n
        · rw [if_pos hik, if_pos hik] at h
          rw [hkl]
          exact Seal.pairN_right (hgm _ (by omega)) hx h
        · rw [if_neg hik, if_neg hik] at h
          rw [hkl]
          exact Seal.pairN_left (hgm _ (by omega)) hx h
      · have e1 : (p.set k x).take (p.length - 1) = (p.take (p.length - 1)).set k x := by rw [List.take_set]
        have e2 : (p.set k x).getD (p.length - 1) 0 = p.getD (p.length - 1) 0 := by simp [List.getD, List.getElem?_set, hkl]
        have e3 : (p.take (p.length - 1)).getD k 0 = p.getD k 0 := by simp [List.getD, List.getElem?_take, List.getElem?_eq_getElem hk, show k < p.length - 1 by omega]
        rw [e1, e2] at h
        rw [← e3]
        by_cases hik : i < half n
        · rw [if_pos hik] at hp
          rw [if_pos hik, if_pos hik] at h
          exact ih (half n) a1 i a _ k x a2 hik ha (by rw [List.length_take]; omega) hmp (by rw [List.length_take]; omega) hx (Seal.pairN_left (climb_lt a2 ha) (climb_lt a2 ha) h)
        · rw [if_neg hik] at hp
          rw [if_neg hik, if_neg hik] at h
          exact ih (n - half n) (by omega) (i - half n) a _ k x (by omega) (by omega) ha (by rw [List.length_take]; omega) hmp (by rw [List.length_take]; omega) hx (Seal.pairN_right (climb_lt (by omega) ha) (climb_lt (by omega) ha) h)
    · obtain rfl : n = 1 := by omega
      rw [depth_one] at hp
      omega
theorem depth_le : ∀ (n i : Nat), 1 ≤ n → i < n → depth n i < n := by
  intro n
  induction n using Nat.strongRecOn with
  | ind n ih =>
    intro i h1 hi
    by_cases h2 : 2 ≤ n
    · have a1 := half_lt h2
      have a2 := half_pos n
      rw [depth_two h2]
      split
      · have := ih (half n) a1 i a2 (by assumption); omega
      · have := ih (n - half n) (by omega) (i - half n) (by omega) (by omega); omega
    · obtain rfl : n = 1 := by omega
      rw [depth_one]; omega
end Tree
end Go.Proofs.Ytmphbajnadbggab
