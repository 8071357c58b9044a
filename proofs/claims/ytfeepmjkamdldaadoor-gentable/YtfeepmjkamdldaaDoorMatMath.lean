/- Matrices over the field: three of them, the identity, picked rows. -/
import Derived.Test.YtfeepmjkamdldaaDoorRefMat2
import Derived.Test.YtfeepmjkamdldaaDoorRefMat4
namespace Go.Proofs.YtfeepmjkamdldaaDoor
open Go.RowKit
set_option linter.unusedVariables false
set_option linter.unusedSimpArgs false
/-- the first n of these numbers, added up -/
def xsum (f : Nat → Nat) : Nat → Nat
  | 0 => 0
  | n + 1 => xsum f n ^^^ f n
theorem xsum_congr {f g : Nat → Nat} : ∀ {n : Nat}, (∀ k, k < n → f k = g k) → xsum f n = xsum g n
  | 0, _ => rfl
  | n + 1, h => by unfold xsum; rw [xsum_congr (fun k hk => h k (by omega)), h n (by omega)]
theorem xsum_zero : ∀ n : Nat, xsum (fun _ => 0) n = 0
  | 0 => rfl
  | n + 1 => by unfold xsum; rw [xsum_zero n]; rfl
theorem xor4 (a b c d : Nat) : (a ^^^ b) ^^^ (c ^^^ d) = (a ^^^ c) ^^^ (b ^^^ d) := by
  rw [Nat.xor_assoc, ← Nat.xor_assoc b c d, Nat.xor_comm b c, Nat.xor_assoc c b d, ← Nat.xor_assoc]
theorem xsum_xor (f g : Nat → Nat) : ∀ n : Nat, xsum (fun k => f k ^^^ g k) n = xsum f n ^^^ xsum g n
  | 0 => by simp [xsum]
  | n + 1 => by
    unfold xsum
    rw [xsum_xor f g n, xor4]
theorem xsum_swap (f : Nat → Nat → Nat) (m : Nat) : ∀ n : Nat, xsum (fun k => xsum (f k) m) n = xsum (fun l => xsum (fun k => f k l) n) m
  | 0 => (xsum_zero m).symm
  | n + 1 => by
    show xsum (fun k => xsum (f k) m) n ^^^ xsum (f n) m = xsum (fun l => xsum (fun k => f k l) n ^^^ f n l) m
    rw [xsum_swap f m n, ← xsum_xor]
theorem mul_xsum (c : Nat) (f : Nat → Nat) : ∀ n : Nat, Gf.mul c (xsum f n) = xsum (fun k => Gf.mul c (f k)) n
  | 0 => Gf.mul_zero c
  | n + 1 => by
    show Gf.mul c (xsum f n ^^^ f n) = xsum (fun k => Gf.mul c (f k)) n ^^^ Gf.mul c (f n)
    rw [Gf.mul_xor_right, mul_xsum c f n]
theorem xsum_mul (c : Nat) (f : Nat → Nat) (n : Nat) : Gf.mul (xsum f n) c = xsum (fun k => Gf.mul (f k) c) n := by
  rw [Gf.mul_comm, mul_xsum]
  exact xsum_congr fun k _ => Gf.mul_comm _ _
/-- all but one of them are 0 -/
theorem xsum_one {f : Nat → Nat} {j : Nat} : ∀ {n : Nat}, j < n → (∀ k, k < n → k ≠ j → f k = 0) → xsum f n = f j
  | 0, hj, _ => absurd hj (Nat.not_lt_zero _)
  | n + 1, hj, h => by
    unfold xsum
    by_cases e : j = n
    · subst e
      rw [xsum_congr (g := fun _ => 0) (fun k hk => h k (by omega) (by omega)), xsum_zero, Nat.zero_xor]
    · rw [xsum_one (j := j) (by omega) (fun k hk hkj => h k (by omega) hkj), h n (by omega) (fun q => e q.symm), Nat.xor_zero]
theorem dot_xsum (A B : List (List Int)) (r c : Nat) : ∀ n : Nat, dot A B r c n = xsum (fun k => Gf.mul (entry A r k) (entry B k c)) n
  | 0 => rfl
  | n + 1 => by unfold dot xsum; rw [dot_xsum A B r c n]
theorem entry_matF {R C : Nat} {f : Nat → Nat → Nat} {r c : Nat} (hr : r < R) (hc : c < C) : entry (matF R C f) r c = f r c := by
  unfold entry; rw [matF_at _ _ _ _ _ hr hc]; simp
theorem matF_head {R C : Nat} {f : Nat → Nat → Nat} (hR : 0 < R) : ((matF R C f).getD 0 []).length = C := matF_rowlen _ _ _ _ hR
theorem entry_mulM {A B : List (List Int)} {r c : Nat} (hr : r < A.length) (hc : c < (B.getD 0 []).length) : entry (mulM A B) r c = dot A B r c B.length := entry_matF hr hc
theorem mulM_len (A B : List (List Int)) : (mulM A B).length = A.length := matF_len _ _ _
theorem mulM_head {A B : List (List Int)} (h : 0 < A.length) : ((mulM A B).getD 0 []).length = (B.getD 0 []).length := matF_head h
/-- of three matrices it is one which two are multiplied first -/
theorem mulM_assoc {A B C : List (List Int)} (hA : 0 < A.length) (hB : 0 < B.length) (h1 : (A.getD 0 []).length = B.length) (h2 : (B.getD 0 []).length = C.length) : mulM (mulM A B) C = mulM A (mulM B C) := by
  unfold mulM
  rw [matF_len, matF_len, matF_head hB]
  apply matF_congr
  intro r c hr hc
  rw [dot_xsum, dot_xsum]
  have e1 : ∀ k, k < C.length → Gf.mul (entry (matF A.length (B.getD 0 []).length fun r c => dot A B r c B.length) r k) (entry C k c) = xsum (fun l => Gf.mul (entry A r l) (Gf.mul (entry B l k) (entry C k c))) B.length := by
    intro k hk
    rw [entry_matF hr (by omega), dot_xsum, xsum_mul]
    exact xsum_congr fun l _ => Gf.mul_assoc _ _ _
  have e2 : ∀ l, l < B.length → Gf.mul (entry A r l) (entry (matF B.length (C.getD 0 []).length fun r c => dot B C r c C.length) l c) = xsum (fun k => Gf.mul (entry A r l) (Gf.mul (entry B l k) (entry C k c))) C.length := by
    intro l hl
    rw [entry_matF hl hc, dot_xsum, mul_xsum]
  rw [xsum_congr e1, xsum_congr e2, xsum_swap]
theorem get_getD {α : Type} {l : List α} {i : Nat} {d : α} (h : i < l.length) : l[i] = l.getD i d := by simp [List.getD, List.getElem?_eq_getElem h]
/-- a matrix that may be one is the matrix of its numbers -/
theorem mmay_matF {M : List (List Int)} (hm : MMay M) : M = matF M.length (M.getD 0 []).length (entry M) := by
  apply List.ext_getElem
  · rw [matF_len]
  · intro i h1 h2
    have hrow := hm.2.2.2.2 i h1
    have e1 : M[i] = M.getD i [] := get_getD h1
    have e2 : (matF M.length (M.getD 0 []).length (entry M))[i] = (matF M.length (M.getD 0 []).length (entry M)).getD i [] := get_getD h2
    rw [e1, e2, matF_row _ _ _ _ h1]
    apply List.ext_getElem
    · rw [hrow.1, List.length_map, List.length_range]
    · intro j h3 h4
      have hj : j < (M.getD 0 []).length := by rw [← hrow.1]; exact h3
      have e3 : (M.getD i [])[j] = (M.getD i []).getD j 0 := get_getD h3
      rw [e3, (mmay_at hm h1 hj).1]
      simp
theorem matF_may {R C : Nat} {f : Nat → Nat → Nat} (h1 : 1 ≤ R) (h2 : R ≤ 12) (h3 : 1 ≤ C) (h4 : C ≤ 12) (h : ∀ r c, r < R → c < C → f r c < 256) : MMay (matF R C f) := by
  refine ⟨by rw [matF_len]; exact h1, by rw [matF_len]; exact h2, by rw [matF_head h1]; exact h3, by rw [matF_head h1]; exact h4, fun i hi => ?_⟩
  rw [matF_len] at hi
  rw [matF_head h1]
  refine ⟨matF_rowlen _ _ _ _ hi, fun j hj => ?_⟩
  rw [matF_at _ _ _ _ _ hi hj]
  have := h i j hi hj
  unfold byteI
  omega
theorem mulM_may {A B : List (List Int)} (hA : MMay A) (hB : MMay B) : MMay (mulM A B) :=
  matF_may hA.1 hA.2.1 hB.2.2.1 hB.2.2.2.1 (fun r c _ _ => dot_lt _ _ _ _ _)
theorem idM_matF (k : Nat) : idM k = matF k k (fun r c => if r = c then 1 else 0) := by
  unfold idM matF
  apply List.map_congr_left
  intro r _
  apply List.map_congr_left
  intro c _
  by_cases h : r = c <;> simp [h]
theorem idM_len (k : Nat) : (idM k).length = k := by simp [idM]
theorem idM_may {k : Nat} (h1 : 1 ≤ k) (h2 : k ≤ 12) : MMay (idM k) := by
  rw [idM_matF]
  exact matF_may h1 h2 h1 h2 (fun r c _ _ => by by_cases h : r = c <;> simp [h])
theorem idM_head {k : Nat} (h : 0 < k) : ((idM k).getD 0 []).length = k := by rw [idM_matF]; exact matF_head h
/-- the identity turns nothing -/
theorem idM_mul {A : List (List Int)} (hA : MMay A) : mulM (idM A.length) A = A := by
  conv => rhs; rw [mmay_matF hA]
  unfold mulM
  rw [idM_len]
  apply matF_congr
  intro r c hr hc
  rw [dot_xsum, xsum_one (j := r) hr]
  · rw [idM_matF, entry_matF hr hr, if_pos rfl]
    exact Gf.one_mul (mmay_at hA hr hc).2
  · intro k hk hkr
    rw [idM_matF, entry_matF hr hk, if_neg (Ne.symm hkr), Gf.zero_mul]
theorem dot_row {A A' B : List (List Int)} {r r' : Nat} (h : A.getD r [] = A'.getD r' []) (c n : Nat) : dot A B r c n = dot A' B r' c n := by
  rw [dot_xsum, dot_xsum]
  exact xsum_congr fun k _ => by unfold entry; rw [h]
/-- rows picked of a product are those rows, multiplied -/
theorem mul_picked {A B : List (List Int)} {rs : List Int} (h : ∀ i, i < rs.length → (rs.getD i 0).toNat < A.length) :
    mulM (rs.map fun r => A.getD r.toNat []) B = rs.map fun r => (mulM A B).getD r.toNat [] := by
  apply List.ext_getElem
  · rw [mulM_len, List.length_map, List.length_map]
  · intro i h1 h2
    rw [mulM_len, List.length_map] at h1
    have hr := h i h1
    have e0 : rs[i] = rs.getD i 0 := get_getD h1
    rw [get_getD (d := []), List.getElem_map, e0]
    unfold mulM
    rw [matF_row _ _ _ _ (by rw [List.length_map]; exact h1), matF_row _ _ _ _ hr]
    apply List.map_congr_left
    intro c _
    have e1 : (rs.map fun r => A.getD r.toNat []).getD i [] = A.getD (rs.getD i 0).toNat [] := by
      rw [← get_getD (d := []) (by rw [List.length_map]; exact h1), List.getElem_map, e0]
    rw [dot_row e1]
end Go.Proofs.YtfeepmjkamdldaaDoor
