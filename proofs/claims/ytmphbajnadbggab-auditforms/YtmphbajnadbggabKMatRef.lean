/- Texts one behind the other: RefMat1, RefMat2, RefMat3, CopyMat, RefMat4, MatMath, RefMat5, RefMat6, RefMat7, Spoil, Law0M, MatFun. -/
import Derived.Test.YtmphbajnadbggabProg
import Derived.Test.YtmphbajnadbggabKCore
import Derived.Test.YtmphbajnadbggabKRegs
import Derived.Deep.DrawnRows
import Derived.Deep.RegionHeld
/- The document's own matrices of noughts (ossuaryref1.blank): a contract. -/
namespace Go.Proofs.Ytmphbajnadbggab
open Go.RowKit
set_option linter.unusedVariables false
set_option linter.unusedSimpArgs false
theorem Try.infoRow : (Try.prog.info? 26).map (fun i => (i.zero, i.size, i.bytes)) = some (some (.slice none 0 0), 1, 24) := by kernel_rfl
theorem two_old (w : World) (o o' : Obj) : ((w.alloc o).alloc o').heap[w.heap.size]? = some o := by
  rw [heap_alloc_old _ _ (by simp), heap_alloc_new]
theorem two_new (w : World) (o o' : Obj) : ((w.alloc o).alloc o').heap[w.heap.size + 1]? = some o' := by
  have := heap_alloc_new (w.alloc o) o'
  simpa using this
theorem two_over (w : World) (o o' : Obj) {k : Nat} {x : Obj} (h : w.heap[k]? = some x) : ((w.alloc o).alloc o').heap[k]? = some x := by
  have := lt_of_block h
  rw [heap_alloc_old _ _ (by simp; omega), heap_alloc_old _ _ this, h]
def zeroM (r c : Nat) : List (List Int) := List.replicate r (List.replicate c 0)
theorem own_made (w : World) (B n : Nat) (E : TypeId) (h : B ≤ w.heap.size) (hn : n ≤ maxLen) : OwnL (w.alloc (.cells (madeCells #[.int .i64 0] n) E)) B E (.slice (some ⟨w.heap.size, 0, none⟩) n n) ((List.replicate n (0 : Int)).map (Value.int .i64)) := by
  have := World.ownsRow_lit (e := E) (size := 1) w (madeCells #[.int .i64 0] n) n h hn (by rw [size_madeCells]; omega)
  rw [toList_madeCells_one] at this
  unfold OwnL
  simpa using this
attribute [local go_sem ↓] Go.wp_at_zero Go.wp_at_succ
end Go.Proofs.Ytmphbajnadbggab
/- The document's own identity (ossuaryref1.Identity): a contract. -/
namespace Go.Proofs.Ytmphbajnadbggab
open Go.RowKit
set_option linter.unusedVariables false
set_option linter.unusedSimpArgs false
/-- the identity's rows, where the first i are set -/
def idTo (k i : Nat) : List (List Int) := (List.range k).map fun r => (List.range k).map fun c => if r = c ∧ r < i then 1 else 0
def idM (k : Nat) : List (List Int) := (List.range k).map fun r => (List.range k).map fun c => if r = c then 1 else 0
theorem idTo_zero (k : Nat) : idTo k 0 = zeroM k k := by
  unfold idTo zeroM
  apply List.ext_getElem <;> simp
  intro i hi
  apply List.ext_getElem <;> simp
theorem idTo_all (k : Nat) : idTo k k = idM k := by
  unfold idTo idM
  apply List.map_congr_left
  intro r hr
  apply List.map_congr_left
  intro c hc
  simp only [List.mem_range] at hr
  simp [hr]
theorem idTo_row (k i r : Nat) (h : r < k) : (idTo k i).getD r [] = (List.range k).map fun c => if r = c ∧ r < i then 1 else 0 := by
  simp [idTo, List.getD, h]
theorem idTo_len (k i : Nat) : (idTo k i).length = k := by simp [idTo]
theorem idTo_rowlen (k i r : Nat) (h : r < k) : ((idTo k i).getD r []).length = k := by rw [idTo_row k i r h]; simp
theorem idTo_step (k i : Nat) (h : i < k) : (idTo k i).set i (((idTo k i).getD i []).set i 1) = idTo k (i + 1) := by
  rw [idTo_row k i i h]
  unfold idTo
  apply List.ext_getElem
  · simp
  · intro r h1 h2
    simp at h1
    rw [List.getElem_set]
    by_cases hr : i = r
    · subst hr
      rw [if_pos rfl]
      apply List.ext_getElem
      · simp
      · intro c h3 h4
        simp at h3
        rw [List.getElem_set]
        by_cases hc : i = c
        · subst hc; simp
        · simp [hc]
    · rw [if_neg hr]
      simp only [List.getElem_map, List.getElem_range]
      apply List.map_congr_left
      intro c hc
      have : (r = c ∧ r < i) ↔ (r = c ∧ r < i + 1) := by omega
      simp only [this]
end Go.Proofs.Ytmphbajnadbggab
/- The document's own test of a matrix (ossuaryref1.MatrixMay): a contract. -/
namespace Go.Proofs.Ytmphbajnadbggab
open Go.RowKit
set_option linter.unusedVariables false
set_option linter.unusedSimpArgs false
def byteI (x : Int) : Prop := 0 ≤ x ∧ x < 256
def rowMay (k : Nat) (r : List Int) : Prop := r.length = k ∧ ∀ j, j < k → byteI (r.getD j 0)
/-- may this be a matrix? -/
def MMay (M : List (List Int)) : Prop := 1 ≤ M.length ∧ M.length ≤ 12 ∧ 1 ≤ (M.getD 0 []).length ∧ (M.getD 0 []).length ≤ 12 ∧ ∀ i, i < M.length → rowMay (M.getD 0 []).length (M.getD i [])
end Go.Proofs.Ytmphbajnadbggab
/- A copy of a matrix (ossuarylaw0.CopyMatrix): a contract. -/
namespace Go.Proofs.Ytmphbajnadbggab
open Go.RowKit
set_option linter.unusedVariables false
set_option linter.unusedSimpArgs false
attribute [local go_sem ↓] Go.wp_at_zero Go.wp_at_succ
theorem three_old (w : World) (o o' o'' : Obj) : (((w.alloc o).alloc o').alloc o'').heap[w.heap.size]? = some o := by
  rw [heap_alloc_old _ _ (by simp; omega), two_old]
theorem three_mid (w : World) (o o' o'' : Obj) : (((w.alloc o).alloc o').alloc o'').heap[w.heap.size + 1]? = some o' := by
  rw [heap_alloc_old _ _ (by simp), two_new]
theorem three_new (w : World) (o o' o'' : Obj) : (((w.alloc o).alloc o').alloc o'').heap[w.heap.size + 1 + 1]? = some o'' := by
  have := heap_alloc_new ((w.alloc o).alloc o') o''
  simpa using this
theorem take_snoc_getD (M : List (List Int)) (k : Nat) (h : k < M.length) : M.take (k + 1) = M.take k ++ [M.getD k []] := by
  rw [List.take_succ_eq_append_getElem h]
  simp [List.getD, List.getElem?_eq_getElem h]
end Go.Proofs.Ytmphbajnadbggab
/- The document's own product of matrices (ossuaryref1.MulMatrix): a contract. -/
namespace Go.Proofs.Ytmphbajnadbggab
open Go.RowKit
set_option linter.unusedVariables false
set_option linter.unusedSimpArgs false
/-- R rows of C numbers, by their places -/
def matF (R C : Nat) (f : Nat → Nat → Nat) : List (List Int) := (List.range R).map fun r => (List.range C).map fun c => ((f r c : Nat) : Int)
theorem matF_len (R C : Nat) (f : Nat → Nat → Nat) : (matF R C f).length = R := by simp [matF]
theorem matF_row (R C : Nat) (f : Nat → Nat → Nat) (r : Nat) (h : r < R) : (matF R C f).getD r [] = (List.range C).map fun c => ((f r c : Nat) : Int) := by
  simp [matF, List.getD, h]
theorem matF_rowlen (R C : Nat) (f : Nat → Nat → Nat) (r : Nat) (h : r < R) : ((matF R C f).getD r []).length = C := by rw [matF_row R C f r h]; simp
theorem matF_at (R C : Nat) (f : Nat → Nat → Nat) (r c : Nat) (h : r < R) (hc : c < C) : ((matF R C f).getD r []).getD c 0 = ((f r c : Nat) : Int) := by
  rw [matF_row R C f r h]; simp [List.getD, hc]
theorem matF_congr {R C : Nat} {f g : Nat → Nat → Nat} (h : ∀ r c, r < R → c < C → f r c = g r c) : matF R C f = matF R C g := by
  unfold matF
  apply List.map_congr_left
  intro r hr
  apply List.map_congr_left
  intro c hc
  simp only [List.mem_range] at hr hc
  rw [h r c hr hc]
theorem matF_zero (R C : Nat) : matF R C (fun _ _ => 0) = zeroM R C := by
  unfold matF zeroM
  apply List.ext_getElem <;> simp
  intro i hi
  apply List.ext_getElem <;> simp
theorem matF_set (R C : Nat) (f : Nat → Nat → Nat) (i j x : Nat) (hi : i < R) (hj : j < C) :
    (matF R C f).set i (((matF R C f).getD i []).set j ((x : Nat) : Int)) = matF R C (fun r c => if r = i ∧ c = j then x else f r c) := by
  rw [matF_row R C f i hi]
  unfold matF
  apply List.ext_getElem
  · simp
  · intro r h1 h2
    simp at h1
    rw [List.getElem_set]
    by_cases hr : i = r
    · subst hr
      rw [if_pos rfl]
      apply List.ext_getElem
      · simp
      · intro c h3 h4
        simp at h3
        rw [List.getElem_set]
        by_cases hc : j = c
        · subst hc; simp
        · simp [hc, Ne.symm hc]
    · rw [if_neg hr]
      simp only [List.getElem_map, List.getElem_range]
      apply List.map_congr_left
      intro c hc
      rw [if_neg (by rintro ⟨h, _⟩; exact hr h.symm)]
/-- the number of a matrix at a place -/
def entry (M : List (List Int)) (r c : Nat) : Nat := ((M.getD r []).getD c 0).toNat
/-- the first n products of a row and a column, added up -/
def dot (A B : List (List Int)) (r c : Nat) : Nat → Nat
  | 0 => 0
  | n + 1 => dot A B r c n ^^^ Gf.mul (entry A r n) (entry B n c)
theorem dot_lt (A B : List (List Int)) (r c n : Nat) : dot A B r c n < 256 := by
  induction n with
  | zero => simp [dot]
  | succ n ih => exact Nat.xor_lt_two_pow (n := 8) ih (Gf.mul_lt _ _)
/-- the product of two matrices -/
def mulM (A B : List (List Int)) : List (List Int) := matF A.length (B.getD 0 []).length (fun r c => dot A B r c B.length)
/-- the product, as far as the loops are come -/
def part (A B : List (List Int)) (K i j k r c : Nat) : Nat := if r < i then dot A B r c K else if r = i then (if c < j then dot A B r c K else if c = j then dot A B r c k else 0) else 0
theorem mmay_at {M : List (List Int)} (h : MMay M) {r c : Nat} (hr : r < M.length) (hc : c < (M.getD 0 []).length) : (M.getD r []).getD c 0 = ((entry M r c : Nat) : Int) ∧ entry M r c < 256 := by
  have := (h.2.2.2.2 r hr).2 c hc
  unfold byteI at this
  unfold entry
  omega
theorem mul_open {pa pb : Option Addr} {na ca nb cb : Nat} {A B : List (List Int)} {w : World} (ha : MatV w (.agg #[.slice pa na ca]) A) (hb : MatV w (.agg #[.slice pb nb cb]) B) (hmA : MMay A) (hmB : MMay B) :
    ∃ ba oa, pa = some ⟨ba, oa, none⟩ ∧ 1 ≤ na ∧ ∃ x0 m0 q0, w.cell? ⟨ba, oa, none⟩ = some (.slice x0 m0 q0) ∧ (A.getD 0 []).length = m0 ∧ na ≤ 12 ∧ m0 ≤ 12 ∧ nb ≤ 12 ∧ A.length = na ∧ B.length = nb := by
  obtain ⟨a, n, c, e, R⟩ := ha
  simp only [Value.agg.injEq, Array.mk.injEq, List.cons.injEq, Value.slice.injEq, and_true] at e
  obtain ⟨rfl, rfl, rfl⟩ := e
  obtain ⟨a', n', c', e, R'⟩ := hb
  simp only [Value.agg.injEq, Array.mk.injEq, List.cons.injEq, Value.slice.injEq, and_true] at e
  obtain ⟨rfl, rfl, rfl⟩ := e
  have hlA : A.length = na := by obtain ⟨_, h, _⟩ := R; exact h
  have hlB : B.length = nb := by obtain ⟨_, h, _⟩ := R'; exact h
  have h1 := hmA.1
  have h2 := hmA.2.1
  have h3 := hmA.2.2.2.1
  have h4 := hmB.2.1
  rcases R.two with h0 | ⟨b, off, rfl, hc⟩
  · omega
  · obtain ⟨u, hu, x, n, q, rfl, hn, hx⟩ := hc 0 (by omega)
    exact ⟨b, off, rfl, by omega, x, n, q, hu, hx.1, by omega, by rw [← hx.1]; exact h3, by omega, hlA, hlB⟩
attribute [local go_sem ↓] Go.wp_at_zero Go.wp_at_succ
end Go.Proofs.Ytmphbajnadbggab
/- Matrices over the field: three of them, the identity, picked rows. -/
namespace Go.Proofs.Ytmphbajnadbggab
open Go.RowKit
set_option linter.unusedVariables false
set_option linter.unusedSimpArgs false
/-- the first n of these numbers, added up -/
def xsum (f : Nat → Nat) : Nat → Nat
  | 0 => 0
  | n + 1 => xsum f n ^^^ f n
theorem xsum_congr {f g : Nat → Nat} : ∀ {n : Nat}, (∀ k, k < n → f k = g k) → xsum f n = xsum g n
  | 0, _ => rfl
  | n + 1, h => by unfold xsum; rw [xsum_congr (fun k hk => h k (by omega)), h n (by omega)]
theorem xsum_zero : ∀ n : Nat, xsum (fun _ => 0) n = 0
  | 0 => rfl
  | n + 1 => by unfold xsum; rw [xsum_zero n]; rfl
theorem xor4 (a b c d : Nat) : (a ^^^ b) ^^^ (c ^^^ d) = (a ^^^ c) ^^^ (b ^^^ d) := by
  rw [Nat.xor_assoc, ← Nat.xor_assoc b c d, Nat.xor_comm b c, Nat.xor_assoc c b d, ← Nat.xor_assoc]
theorem xsum_xor (f g : Nat → Nat) : ∀ n : Nat, xsum (fun k => f k ^^^ g k) n = xsum f n ^^^ xsum g n
  | 0 => by simp [xsum]
  | n + 1 => by
    unfold xsum
    rw [xsum_xor f g n, xor4]
theorem xsum_swap (f : Nat → Nat → Nat) (m : Nat) : ∀ n : Nat, xsum (fun k => xsum (f k) m) n = xsum (fun l => xsum (fun k => f k l) n) m
  | 0 => (xsum_zero m).symm
  | n + 1 => by
    show xsum (fun k => xsum (f k) m) n ^^^ xsum (f n) m = xsum (fun l => xsum (fun k => f k l) n ^^^ f n l) m
    rw [xsum_swap f m n, ← xsum_xor]
theorem mul_xsum (c : Nat) (f : Nat → Nat) : ∀ n : Nat, Gf.mul c (xsum f n) = xsum (fun k => Gf.mul c (f k)) n
  | 0 => Gf.mul_zero c
  | n + 1 => by
    show Gf.mul c (xsum f n ^^^ f n) = xsum (fun k => Gf.mul c (f k)) n ^^^ Gf.mul c (f n)
    rw [Gf.mul_xor_right, mul_xsum c f n]
theorem xsum_mul (c : Nat) (f : Nat → Nat) (n : Nat) : Gf.mul (xsum f n) c = xsum (fun k => Gf.mul (f k) c) n := by
  rw [Gf.mul_comm, mul_xsum]
  exact xsum_congr fun k _ => Gf.mul_comm _ _
/-- all but one of them are 0 -/
theorem xsum_one {f : Nat → Nat} {j : Nat} : ∀ {n : Nat}, j < n → (∀ k, k < n → k ≠ j → f k = 0) → xsum f n = f j
  | 0, hj, _ => absurd hj (Nat.not_lt_zero _)
  | n + 1, hj, h => by
    unfold xsum
    by_cases e : j = n
    · subst e
      rw [xsum_congr (g := fun _ => 0) (fun k hk => h k (by omega) (by omega)), xsum_zero, Nat.zero_xor]
    · rw [xsum_one (j := j) (by omega) (fun k hk hkj => h k (by omega) hkj), h n (by omega) (fun q => e q.symm), Nat.xor_zero]
theorem dot_xsum (A B : List (List Int)) (r c : Nat) : ∀ n : Nat, dot A B r c n = xsum (fun k => Gf.mul (entry A r k) (entry B k c)) n
  | 0 => rfl
  | n + 1 => by unfold dot xsum; rw [dot_xsum A B r c n]
theorem entry_matF {R C : Nat} {f : Nat → Nat → Nat} {r c : Nat} (hr : r < R) (hc : c < C) : entry (matF R C f) r c = f r c := by
  unfold entry; rw [matF_at _ _ _ _ _ hr hc]; simp
theorem matF_head {R C : Nat} {f : Nat → Nat → Nat} (hR : 0 < R) : ((matF R C f).getD 0 []).length = C := matF_rowlen _ _ _ _ hR
theorem entry_mulM {A B : List (List Int)} {r c : Nat} (hr : r < A.length) (hc : c < (B.getD 0 []).length) : entry (mulM A B) r c = dot A B r c B.length := entry_matF hr hc
theorem mulM_len (A B : List (List Int)) : (mulM A B).length = A.length := matF_len _ _ _
theorem mulM_head {A B : List (List Int)} (h : 0 < A.length) : ((mulM A B).getD 0 []).length = (B.getD 0 []).length := matF_head h
/-- of three matrices it is one which two are multiplied first -/
theorem mulM_assoc {A B C : List (List Int)} (hA : 0 < A.length) (hB : 0 < B.length) (h1 : (A.getD 0 []).length = B.length) (h2 : (B.getD 0 []).length = C.length) : mulM (mulM A B) C = mulM A (mulM B C) := by
  unfold mulM
  rw [matF_len, matF_len, matF_head hB]
  apply matF_congr
  intro r c hr hc
  rw [dot_xsum, dot_xsum]
  have e1 : ∀ k, k < C.length → Gf.mul (entry (matF A.length (B.getD 0 []).length fun r c => dot A B r c B.length) r k) (entry C k c) = xsum (fun l => Gf.mul (entry A r l) (Gf.mul (entry B l k) (entry C k c))) B.length := by
    intro k hk
    rw [entry_matF hr (by omega), dot_xsum, xsum_mul]
    exact xsum_congr fun l _ => Gf.mul_assoc _ _ _
  have e2 : ∀ l, l < B.length → Gf.mul (entry A r l) (entry (matF B.length (C.getD 0 []).length fun r c => dot B C r c C.length) l c) = xsum (fun k => Gf.mul (entry A r l) (Gf.mul (entry B l k) (entry C k c))) C.length := by
    intro l hl
    rw [entry_matF hl hc, dot_xsum, mul_xsum]
  rw [xsum_congr e1, xsum_congr e2, xsum_swap]
theorem get_getD {α : Type} {l : List α} {i : Nat} {d : α} (h : i < l.length) : l[i] = l.getD i d := by simp [List.getD, List.getElem?_eq_getElem h]
/-- a matrix that may be one is the matrix of its numbers -/
theorem mmay_matF {M : List (List Int)} (hm : MMay M) : M = matF M.length (M.getD 0 []).length (entry M) := by
  apply List.ext_getElem
  · rw [matF_len]
  · intro i h1 h2
    have hrow := hm.2.2.2.2 i h1
    have e1 : M[i] = M.getD i [] := get_getD h1
    have e2 : (matF M.length (M.getD 0 []).length (entry M))[i] = (matF M.length (M.getD 0 []).length (entry M)).getD i [] := get_getD h2
    rw [e1, e2, matF_row _ _ _ _ h1]
    apply List.ext_getElem
    · rw [hrow.1, List.length_map, List.length_range]
    · intro j h3 h4
      have hj : j < (M.getD 0 []).length := by rw [← hrow.1]; exact h3
      have e3 : (M.getD i [])[j] = (M.getD i []).getD j 0 := get_getD h3
      rw [e3, (mmay_at hm h1 hj).1]
      simp
theorem matF_may {R C : Nat} {f : Nat → Nat → Nat} (h1 : 1 ≤ R) (h2 : R ≤ 12) (h3 : 1 ≤ C) (h4 : C ≤ 12) (h : ∀ r c, r < R → c < C → f r c < 256) : MMay (matF R C f) := by
  refine ⟨by rw [matF_len]; exact h1, by rw [matF_len]; exact h2, by rw [matF_head h1]; exact h3, by rw [matF_head h1]; exact h4, fun i hi => ?_⟩
  rw [matF_len] at hi
  rw [matF_head h1]
  refine ⟨matF_rowlen _ _ _ _ hi, fun j hj => ?_⟩
  rw [matF_at _ _ _ _ _ hi hj]
  have := h i j hi hj
  unfold byteI
  omega
theorem mulM_may {A B : List (List Int)} (hA : MMay A) (hB : MMay B) : MMay (mulM A B) :=
  matF_may hA.1 hA.2.1 hB.2.2.1 hB.2.2.2.1 (fun r c _ _ => dot_lt _ _ _ _ _)
theorem idM_matF (k : Nat) : idM k = matF k k (fun r c => if r = c then 1 else 0) := by
  unfold idM matF
  apply List.map_congr_left
  intro r _
  apply List.map_congr_left
  intro c _
  by_cases h : r = c <;> simp [h]
theorem idM_len (k : Nat) : (idM k).length = k := by simp [idM]
theorem idM_may {k : Nat} (h1 : 1 ≤ k) (h2 : k ≤ 12) : MMay (idM k) := by
  rw [idM_matF]
  exact matF_may h1 h2 h1 h2 (fun r c _ _ => by by_cases h : r = c <;> simp [h])
theorem idM_head {k : Nat} (h : 0 < k) : ((idM k).getD 0 []).length = k := by rw [idM_matF]; exact matF_head h
/-- the identity turns nothing -/
theorem idM_mul {A : List (List Int)} (hA : MMay A) : mulM (idM A.length) A = A := by
  conv => rhs; rw [mmay_matF hA]
  unfold mulM
  rw [idM_len]
  apply matF_congr
  intro r c hr hc
  rw [dot_xsum, xsum_one (j := r) hr]
  · rw [idM_matF, entry_matF hr hr, if_pos rfl]
    exact Gf.one_mul (mmay_at hA hr hc).2
  · intro k hk hkr
    rw [idM_matF, entry_matF hr hk, if_neg (Ne.symm hkr), Gf.zero_mul]
theorem dot_row {A A' B : List (List Int)} {r r' : Nat} (h : A.getD r [] = A'.getD r' []) (c n : Nat) : dot A B r c n = dot A' B r' c n := by
  rw [dot_xsum, dot_xsum]
  exact xsum_congr fun k _ => by unfold entry; rw [h]
/-- rows picked of a product are those rows, multiplied -/
theorem mul_picked {A B : List (List Int)} {rs : List Int} (h : ∀ i, i < rs.length → (rs.getD i 0).toNat < A.length) :
    mulM (rs.map fun r => A.getD r.toNat []) B = rs.map fun r => (mulM A B).getD r.toNat [] := by
  apply List.ext_getElem
  · rw [mulM_len, List.length_map, List.length_map]
  · intro i h1 h2
    rw [mulM_len, List.length_map] at h1
    have hr := h i h1
    have e0 : rs[i] = rs.getD i 0 := get_getD h1
    rw [get_getD (d := []), List.getElem_map, e0]
    unfold mulM
    rw [matF_row _ _ _ _ (by rw [List.length_map]; exact h1), matF_row _ _ _ _ hr]
    apply List.map_congr_left
    intro c _
    have e1 : (rs.map fun r => A.getD r.toNat []).getD i [] = A.getD (rs.getD i 0).toNat [] := by
      rw [← get_getD (d := []) (by rw [List.length_map]; exact h1), List.getElem_map, e0]
    rw [dot_row e1]
end Go.Proofs.Ytmphbajnadbggab
/- The document's own product of matrices (ossuaryref1.MulMatrix), where there is one. -/
namespace Go.Proofs.Ytmphbajnadbggab
open Go.RowKit
set_option linter.unusedVariables false
set_option linter.unusedSimpArgs false
/-- a matrix that may be one, in memory: its cells -/
theorem mat_at {p : Option Addr} {n c : Nat} {M : List (List Int)} {w : World} (h : MatV w (.agg #[.slice p n c]) M) (hm : MMay M) :
    M.length = n ∧ 1 ≤ n ∧ n ≤ 12 ∧ ∃ k b o, (M.getD 0 []).length = k ∧ 1 ≤ k ∧ k ≤ 12 ∧ p = some ⟨b, o, none⟩ ∧ ∀ i, i < n → ∃ g og cap, w.cell? ⟨b, o + i, none⟩ = some (.slice (some ⟨g, og, none⟩) k cap) ∧ ∀ j, j < k → w.cell? ⟨g, og + j, none⟩ = some (.int .i64 ((entry M i j : Nat) : Int)) ∧ entry M i j < 256 := by
  obtain ⟨a, n', c', e, R⟩ := h
  simp only [Value.agg.injEq, Array.mk.injEq, List.cons.injEq, Value.slice.injEq, and_true] at e
  obtain ⟨rfl, rfl, rfl⟩ := e
  have hl : M.length = n := by obtain ⟨_, h, _⟩ := R; exact h
  have h1 := hm.1
  have h2 := hm.2.1
  refine ⟨hl, by omega, by omega, ?_⟩
  rcases R.two with h0 | ⟨b, off, rfl, hc⟩
  · omega
  · refine ⟨(M.getD 0 []).length, b, off, rfl, hm.2.2.1, hm.2.2.2.1, rfl, fun i hi => ?_⟩
    obtain ⟨u, hu, x, m, q, rfl, hn, hx⟩ := hc i hi
    have hk : (M.getD i []).length = (M.getD 0 []).length := (hm.2.2.2.2 i (by omega)).1
    have hxl := hx.1
    rcases hx.2.two with h0 | ⟨g, og, rfl, hcell⟩
    · have := hm.2.2.1; omega
    · refine ⟨g, og, q, by rw [hu, ← hxl, hk], fun j hj => ?_⟩
      obtain ⟨e1, e2⟩ := mmay_at hm (r := i) (c := j) (by omega) hj
      exact ⟨by rw [hcell j (by omega), e1], e2⟩
theorem part_start (A B : List (List Int)) (R C K : Nat) : matF R C (part A B K 0 0 0) = zeroM R C := by
  rw [← matF_zero]
  apply matF_congr
  intro r c hr hc
  unfold part
  by_cases h : r = 0
  · subst h
    by_cases h2 : c = 0
    · subst h2; simp [dot]
    · simp [h2]
  · simp [h]
theorem part_col (A B : List (List Int)) (R C K i j : Nat) : matF R C (part A B K i j K) = matF R C (part A B K i (j + 1) 0) := by
  apply matF_congr
  intro r c hr hc
  unfold part
  by_cases h : r < i
  · simp [h]
  · by_cases h2 : r = i
    · subst h2
      by_cases h3 : c < j
      · simp [h3, show c < j + 1 by omega]
      · by_cases h4 : c = j
        · subst h4; simp
        · by_cases h5 : c = j + 1
          · subst h5; simp [dot, h3, h4]
          · simp [h3, h4, h5, show ¬ c < j + 1 by omega]
    · simp [h, h2]
theorem part_row (A B : List (List Int)) (R C K i : Nat) : matF R C (part A B K i C 0) = matF R C (part A B K (i + 1) 0 0) := by
  apply matF_congr
  intro r c hr hc
  unfold part
  by_cases h : r < i
  · simp [h, show r < i + 1 by omega]
  · by_cases h2 : r = i
    · subst h2; simp [hc]
    · by_cases h3 : r = i + 1
      · subst h3
        by_cases h4 : c = 0
        · subst h4; simp [dot, h]
        · simp [h4, h]
      · simp [h, h2, h3, show ¬ r < i + 1 by omega]
theorem part_end (A B : List (List Int)) (R C K : Nat) : matF R C (part A B K R 0 0) = matF R C (fun r c => dot A B r c K) := by
  apply matF_congr
  intro r c hr hc
  simp [part, hr]
theorem part_step (A B : List (List Int)) (R C K i j k : Nat) (hi : i < R) (hj : j < C) :
    (matF R C (part A B K i j k)).set i (((matF R C (part A B K i j k)).getD i []).set j ((dot A B i j (k + 1) : Nat) : Int)) = matF R C (part A B K i j (k + 1)) := by
  rw [matF_set _ _ _ _ _ _ hi hj]
  apply matF_congr
  intro r c hr hc
  unfold part
  by_cases h : r = i ∧ c = j
  · obtain ⟨rfl, rfl⟩ := h; simp
  · rw [if_neg h]
    by_cases h1 : r < i
    · simp [h1]
    · by_cases h2 : r = i
      · subst h2
        have h3 : c ≠ j := fun e => h ⟨rfl, e⟩
        simp [h3]
      · simp [h1, h2]
theorem part_here (A B : List (List Int)) (K i j k : Nat) : part A B K i j k i j = dot A B i j k := by simp [part]
theorem own_row_at {w : World} {B : Nat} {T E : TypeId} {gu na cu kb : Nat} {us : List Value} {f : Nat → Nat → Nat} (h : RowsO w B T E (.slice (some ⟨gu, 0, none⟩) na cu) us (matF na kb f)) {i : Nat} (hi : i < na) (hk : 1 ≤ kb) :
    ∃ g cap, us[i]? = some (.slice (some ⟨g, 0, none⟩) kb cap) ∧ w.cell? ⟨gu, i, none⟩ = some (.slice (some ⟨g, 0, none⟩) kb cap) := by
  obtain ⟨g, cap, hg, _, _, _⟩ := h.at (i := i) (by rw [matF_len]; exact hi) (by rw [matF_rowlen _ _ _ _ hi]; omega)
  rw [matF_rowlen _ _ _ _ hi] at hg
  obtain ⟨gu', cu', eu, _, hcu⟩ := h.form (by rw [matF_len]; omega)
  simp only [Value.slice.injEq, Option.some.injEq, Addr.mk.injEq, and_true, true_and] at eu
  obtain ⟨rfl, _, rfl⟩ := eu
  exact ⟨g, cap, hg, hcu i _ hg⟩
theorem own_cell_at {w : World} {B : Nat} {T E : TypeId} {gu na cu kb : Nat} {us : List Value} {f : Nat → Nat → Nat} (h : RowsO w B T E (.slice (some ⟨gu, 0, none⟩) na cu) us (matF na kb f)) {i j g cap : Nat} (hi : i < na) (hj : j < kb) (hg : us[i]? = some (.slice (some ⟨g, 0, none⟩) kb cap)) :
    w.cell? ⟨gu, i, none⟩ = some (.slice (some ⟨g, 0, none⟩) kb cap) ∧ w.cell? ⟨g, j, none⟩ = some (.int .i64 ((f i j : Nat) : Int)) ∧ w.frozen? ⟨g, j, none⟩ = false ∧ B ≤ g := by
  obtain ⟨g', cap', hg', hB, hcell, hfr⟩ := h.at (i := i) (by rw [matF_len]; exact hi) (by rw [matF_rowlen _ _ _ _ hi]; omega)
  rw [matF_rowlen _ _ _ _ hi] at hg' hcell
  rw [hg] at hg'
  simp only [Option.some.injEq, Value.slice.injEq, Addr.mk.injEq, and_true, true_and] at hg'
  obtain ⟨rfl, rfl⟩ := hg'
  obtain ⟨gu', cu', eu, _, hcu⟩ := h.form (by rw [matF_len]; omega)
  simp only [Value.slice.injEq, Option.some.injEq, Addr.mk.injEq, and_true, true_and] at eu
  obtain ⟨rfl, _, rfl⟩ := eu
  exact ⟨hcu i _ hg, by rw [hcell j hj, matF_at _ _ _ _ _ hi hj], hfr j, hB⟩
attribute [local go_sem ↓] Go.wp_at_zero Go.wp_at_succ
/-- may these be multiplied? -/
def MulMay (A B : List (List Int)) : Prop := MMay A ∧ MMay B ∧ (A.getD 0 []).length = B.length
end Go.Proofs.Ytmphbajnadbggab
/- The document's own choice of rows (ossuaryref1.Pick): a contract. -/
namespace Go.Proofs.Ytmphbajnadbggab
open Go.RowKit
set_option linter.unusedVariables false
set_option linter.unusedSimpArgs false
/-- may these rows be picked? -/
def PickMay (M : List (List Int)) (rs : List Int) : Prop := MMay M ∧ 1 ≤ rs.length ∧ rs.length ≤ 12 ∧ ∀ i, i < rs.length → 0 ≤ rs.getD i 0 ∧ rs.getD i 0 < M.length
def pickM (M : List (List Int)) (rs : List Int) : List (List Int) := rs.map fun r => M.getD r.toNat []
theorem mat_rows {p : Option Addr} {n c : Nat} {M : List (List Int)} {w : World} (h : MatV w (.agg #[.slice p n c]) M) (hm : MMay M) :
    M.length = n ∧ 1 ≤ n ∧ n ≤ 12 ∧ ∃ b o, p = some ⟨b, o, none⟩ ∧ ∀ i, i < n → ∃ u, w.cell? ⟨b, o + i, none⟩ = some u ∧ RowV w u (M.getD i []) := by
  obtain ⟨a, n', c', e, R⟩ := h
  simp only [Value.agg.injEq, Array.mk.injEq, List.cons.injEq, Value.slice.injEq, and_true] at e
  obtain ⟨rfl, rfl, rfl⟩ := e
  have hl : M.length = n := by obtain ⟨_, h, _⟩ := R; exact h
  have h1 := hm.1
  have h2 := hm.2.1
  refine ⟨hl, by omega, by omega, ?_⟩
  rcases R.two with h0 | ⟨b, off, rfl, hc⟩
  · omega
  · exact ⟨b, off, rfl, hc⟩
theorem mrow_le {M : List (List Int)} (hm : MMay M) (i : Nat) : (M.getD i []).length ≤ 12 := by
  by_cases h : i < M.length
  · rw [(hm.2.2.2.2 i h).1]; exact hm.2.2.2.1
  · simp [List.getD, List.getElem?_eq_none (Nat.le_of_not_lt h)]
theorem pick_snoc (M : List (List Int)) (rs : List Int) (k : Nat) (h : k < rs.length) : pickM M (rs.take (k + 1)) = pickM M (rs.take k) ++ [M.getD (rs.getD k 0).toNat []] := by
  unfold pickM
  rw [List.take_succ_eq_append_getElem h, List.map_append]
  simp [List.getD, List.getElem?_eq_getElem h]
attribute [local go_sem ↓] Go.wp_at_zero Go.wp_at_succ
end Go.Proofs.Ytmphbajnadbggab
/- The document's own Pick (ossuaryref1): the rows that it picks. -/
namespace Go.Proofs.Ytmphbajnadbggab
open Go.RowKit
set_option linter.unusedVariables false
set_option linter.unusedSimpArgs false
theorem pick_len {M : List (List Int)} {rs : List Int} (h : rs.length < 1 ∨ 12 < rs.length) : ¬ PickMay M rs := fun hm => by obtain ⟨_, h1, h2, _⟩ := hm; omega
/-- what Pick answers: the rows, the error's number -/
def pickR (M : List (List Int)) (rs : List Int) (r : List (List Int) × Int) : Prop := (PickMay M rs ∧ r = (pickM M rs, 0)) ∨ (¬ PickMay M rs ∧ r = ([], 300))
end Go.Proofs.Ytmphbajnadbggab
/- Writing over what a call has made: SpoilInts, SpoilMatrix (ossuarylaw0): contracts. -/
namespace Go.Proofs.Ytmphbajnadbggab
open Go.RowKit
set_option linter.unusedVariables false
set_option linter.unusedSimpArgs false
attribute [local go_sem ↓] Go.wp_at_zero Go.wp_at_succ
theorem OwnL.keep {w w' : World} {B : Nat} {e : TypeId} {v : Value} {xs : List Value} (h : OwnL w B e v xs) (hk : ∀ g, v.ownBlock = some g → w'.heap[g]? = w.heap[g]?) : OwnL w' B e v xs := by
  refine ⟨h.1, ?_⟩
  rcases h.2 with h | ⟨g, cap, cur, rfl, hb, hh, r⟩
  · exact .inl h
  · exact .inr ⟨g, cap, cur, rfl, hb, (hk g rfl).trans hh, r⟩
theorem RowsO.keep {w w' : World} {B : Nat} {T E : TypeId} {u : Value} {us : List Value} {M : List (List Int)} (h : RowsO w B T E u us M) (hk : ∀ k, B ≤ k → k < w.heap.size → w'.heap[k]? = w.heap[k]?) : RowsO w' B T E u us M :=
  ⟨h.len, h.outer.keep (fun g hg => hk g (h.outer.lt hg).1 (h.outer.lt hg).2), fun j v hv => (h.row j v hv).keep (fun g hg => hk g ((h.row j v hv).lt hg).1 ((h.row j v hv).lt hg).2), h.apart⟩
theorem OwnM.keep {w w' : World} {B : Nat} {T E : TypeId} {u : Value} {M : List (List Int)} (h : OwnM w B T E u M) (hk : ∀ k, B ≤ k → k < w.heap.size → w'.heap[k]? = w.heap[k]?) : OwnM w' B T E u M := by
  obtain ⟨us, h⟩ := h; exact ⟨us, h.keep hk⟩
theorem own_len {w : World} {B E g n cap : Nat} {xs : List Value} (h : OwnL w B E (.slice (some ⟨g, 0, none⟩) n cap) xs) : xs.length = n := by
  rcases h.2 with ⟨h1, _⟩ | ⟨g1, c1, cur, h1, _⟩
  · simp at h1
  · simp only [Value.slice.injEq] at h1
    exact h1.2.1.symm
theorem own_row' {w : World} {B E g n cap : Nat} {xs : List Value} (h : OwnL w B E (.slice (some ⟨g, 0, none⟩) n cap) xs) : w.ownsRow B E 1 (.slice (some ⟨g, 0, none⟩) n cap) n xs := by
  have := own_len h
  unfold OwnL at h
  rwa [this] at h
theorem own_cell {w : World} {B E g n cap : Nat} {xs : List Int} (h : OwnL w B E (.slice (some ⟨g, 0, none⟩) n cap) (xs.map (Value.int .i64))) (k : Nat) (hk : k < xs.length) : w.cell? ⟨g, k, none⟩ = some (.int .i64 (xs.getD k 0)) := by
  obtain ⟨g1, cap1, e, hb, _, _, hc⟩ := own_form (n := (xs.map (Value.int .i64)).length) h (by simp; omega)
  simp only [Value.slice.injEq, Option.some.injEq, Addr.mk.injEq, and_true, true_and] at e
  obtain ⟨rfl, _⟩ := e
  exact hc k _ (int_at rfl k hk)
theorem own_free {w : World} {B E g n cap : Nat} {xs : List Value} (h : OwnL w B E (.slice (some ⟨g, 0, none⟩) n cap) xs) (k : Nat) : w.frozen? ⟨g, k, none⟩ = false := World.ownsRow.frozenAt (own_row' h) k
theorem own_put {w : World} {B E g n cap : Nat} {xs : List Value} (h : OwnL w B E (.slice (some ⟨g, 0, none⟩) n cap) xs) (k : Nat) (x : Value) : OwnL (w.setCell ⟨g, k, none⟩ x) B E (.slice (some ⟨g, 0, none⟩) n cap) (xs.set k x) := by
  have := (World.ownsRow.stored (own_row' h) k x).1
  unfold OwnL
  rw [List.length_set, own_len h]
  exact this
/-- the rows are of the call's own, whatever they hold -/
def SpoilR (w : World) (B : Nat) (T E : TypeId) (u : Value) (us : List Value) (ns : List Nat) : Prop := ∃ M : List (List Int), M.map List.length = ns ∧ RowsO w B T E u us M
theorem set_same {l : List Nat} {k x : Nat} (h : l.getD k 0 = x) : l.set k x = l := by
  apply List.ext_getElem?
  intro i
  rw [List.getElem?_set]
  by_cases hk : k = i
  · subst hk
    by_cases hl : k < l.length
    · simp [hl, List.getD] at h ⊢; exact h.symm
    · simp [hl]
  · simp [hk]
theorem RowsO.setRow {w w' : World} {B : Nat} {T E : TypeId} {u v : Value} {us : List Value} {M : List (List Int)} {k : Nat} {ys : List Int} (h : RowsO w B T E u us M) (hne : T ≠ E) (hv : us[k]? = some v) (hy : OwnL w' B E v (ys.map (Value.int .i64)))
    (hf : ∀ k, v.ownBlock ≠ some k → k < w.heap.size → w'.heap[k]? = w.heap[k]?) : RowsO w' B T E u us (M.set k ys) := by
  have hrow := h.row k v hv
  refine ⟨by simp [h.len], h.outer.keep (fun g hg => hf g (fun e => apt_types hrow h.outer (Ne.symm hne) g e hg) (h.outer.lt hg).2), fun j x hx => ?_, h.apart⟩
  by_cases hjk : j = k
  · subst hjk
    rw [hv] at hx
    cases hx
    have hlt : j < M.length := by rw [← h.len]; exact (List.getElem?_eq_some_iff.1 hv).1
    have e : (M.set j ys).getD j [] = ys := by simp [List.getD, hlt]
    rw [e]; exact hy
  · have e : (M.set k ys).getD j [] = M.getD j [] := by simp [List.getD, List.getElem?_set, Ne.symm hjk]
    rw [e]
    exact (h.row j x hx).keep (fun g hg => hf g (fun e => h.apart k j v x hv hx (Ne.symm hjk) g e hg) ((h.row j x hx).lt hg).2)
theorem getD_len (M : List (List Int)) (k : Nat) : (M.map List.length).getD k 0 = (M.getD k []).length := by
  simp [List.getD]
  cases M[k]? <;> rfl
end Go.Proofs.Ytmphbajnadbggab
/- What the statements need of ossuarylaw0 on matrices: contracts, one a function. -/
namespace Go.Proofs.Ytmphbajnadbggab
open Go.RowKit
set_option linter.unusedVariables false
set_option linter.unusedSimpArgs false
end Go.Proofs.Ytmphbajnadbggab
/- What the calls over matrices answer, as functions of plain lists; the document's own calls answer so. -/
namespace Go.Proofs.Ytmphbajnadbggab
open Go.RowKit
set_option linter.unusedVariables false
set_option linter.unusedSimpArgs false
instance mmayDec (M : List (List Int)) : Decidable (MMay M) := by unfold MMay rowMay byteI; exact inferInstance
instance mulMayDec (A B : List (List Int)) : Decidable (MulMay A B) := by unfold MulMay; exact inferInstance
instance pickMayDec (M : List (List Int)) (rs : List Int) : Decidable (PickMay M rs) := by unfold PickMay; exact inferInstance
/-- the product, the error's number -/
def mulF (A B : List (List Int)) : List (List Int) × Int := if MulMay A B then (mulM A B, 0) else ([], 300)
def pickF (M : List (List Int)) (rs : List Int) : List (List Int) × Int := if PickMay M rs then (pickM M rs, 0) else ([], 300)
def idF (k : Int) : List (List Int) × Int := if 1 ≤ k ∧ k ≤ 12 then (idM k.toNat, 0) else ([], 300)
theorem rows_le {M : List (List Int)} (h : MMay M) : M.length ≤ maxLen ∧ ∀ j, (M.getD j []).length ≤ maxLen :=
  ⟨Nat.le_trans h.2.1 (by decide), fun j => Nat.le_trans (mrow_le h j) (by decide)⟩
theorem nil_le : ([] : List (List Int)).length ≤ maxLen ∧ ∀ j, (([] : List (List Int)).getD j []).length ≤ maxLen := ⟨by decide, fun j => by simp⟩
theorem pickM_len (M : List (List Int)) (rs : List Int) : (pickM M rs).length = rs.length := by simp [pickM]
theorem pickM_row {M : List (List Int)} {rs : List Int} {j : Nat} (h : j < rs.length) : (pickM M rs).getD j [] = M.getD (rs.getD j 0).toNat [] := by
  simp [pickM, List.getD, List.getElem?_eq_getElem h]
theorem pickM_may {M : List (List Int)} {rs : List Int} (h : PickMay M rs) : MMay (pickM M rs) := by
  obtain ⟨hm, h1, h2, h3⟩ := h
  have hrow : ∀ j, j < rs.length → rowMay (M.getD 0 []).length ((pickM M rs).getD j []) := fun j hj => by
    rw [pickM_row hj]
    have := h3 j hj
    exact hm.2.2.2.2 _ (by omega)
  have h0 : ((pickM M rs).getD 0 []).length = (M.getD 0 []).length := (hrow 0 h1).1
  refine ⟨by rw [pickM_len]; exact h1, by rw [pickM_len]; exact h2, by rw [h0]; exact hm.2.2.1, by rw [h0]; exact hm.2.2.2.1, fun i hi => ?_⟩
  rw [h0]
  exact hrow i (by rwa [pickM_len] at hi)
theorem mulF_le (A B : List (List Int)) : (mulF A B).1.length ≤ maxLen ∧ ∀ j, ((mulF A B).1.getD j []).length ≤ maxLen := by
  unfold mulF
  split
  · next h => exact rows_le (mulM_may h.1 h.2.1)
  · exact nil_le
theorem pickF_le (M : List (List Int)) (rs : List Int) : (pickF M rs).1.length ≤ maxLen ∧ ∀ j, ((pickF M rs).1.getD j []).length ≤ maxLen := by
  unfold pickF
  split
  · next h => exact rows_le (pickM_may h)
  · exact nil_le
theorem idF_le (k : Int) : (idF k).1.length ≤ maxLen ∧ ∀ j, ((idF k).1.getD j []).length ≤ maxLen := by
  unfold idF
  split
  · next h => exact rows_le (idM_may (by omega) (by omega))
  · exact nil_le
/-- a matrix of the call's own can be read -/
theorem OwnM.matV {w : World} {B : Nat} {T E : TypeId} {u : Value} {M : List (List Int)} (h : OwnM w B T E u M) (hM : M.length ≤ maxLen ∧ ∀ j, (M.getD j []).length ≤ maxLen) : MatV w (.agg #[u]) M := by
  obtain ⟨a, cap, rfl, hr⟩ := h.rows hM.1 hM.2
  exact ⟨a, _, cap, rfl, hr⟩
theorem OwnM.mono {w : World} {B B' : Nat} {T E : TypeId} {u : Value} {M : List (List Int)} (h : OwnM w B T E u M) (hB : B' ≤ B) : OwnM w B' T E u M := by
  obtain ⟨us, h⟩ := h; exact ⟨us, h.mono hB⟩
theorem OwnM.form {w : World} {B : Nat} {T E : TypeId} {u : Value} {M : List (List Int)} (h : OwnM w B T E u M) : ∃ p n c, u = .slice p n c ∧ n = M.length := by
  obtain ⟨us, h⟩ := h
  obtain ⟨a, cap, e⟩ := h.outer.form
  exact ⟨a, _, cap, e, h.len⟩
end Go.Proofs.Ytmphbajnadbggab
