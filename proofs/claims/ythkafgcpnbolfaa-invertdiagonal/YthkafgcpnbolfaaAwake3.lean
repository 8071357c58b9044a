/- 'awake' of the statements over package matrix returns true. -/
import Derived.Test.YthkafgcpnbolfaaMatWalk
namespace Go.Proofs.Ythkafgcpnbolfaa
open Go.RowKit
set_option linter.unusedVariables false
set_option linter.unusedSimpArgs false
theorem rows_of_cells {w : World} {b off n cap : Nat} {M : List (List Int)} (hl : M.length = n) (h1 : 1 ≤ n) (hc : n ≤ cap) (hn : n ≤ maxLen) (h : ∀ i, i < n → ∃ u, w.cell? ⟨b, off + i, none⟩ = some u ∧ RowV w u (M.getD i [])) : RowsV w (some ⟨b, off, none⟩) n cap M := by
  refine ⟨fun i => if h' : i < n then (h i h').choose else undef, hl, hn, .inr (.inr ⟨h1, hc, b, off, rfl, fun i hi => ?_⟩), fun i hi => ?_⟩
  · simp only [dif_pos hi]; exact (h i hi).choose_spec.1
  · simp only [dif_pos hi]; exact (h i hi).choose_spec.2
theorem ints_block {w : World} {b n : Nat} {xs : List Int} {T : TypeId} {m : Nat × Nat} {C : Array Value} (h : w.heap[b]? = some (.cells C T m)) (hC : C = (xs.map (Value.int .i64)).toArray) (hl : xs.length = n) : Ints w (some ⟨b, 0, none⟩) n n xs := by
  subst hl hC
  refine ⟨rfl, ?_⟩
  by_cases h0 : xs.length = 0
  · exact .inr (.inl ⟨h0, _, rfl⟩)
  · refine .inr (.inr ⟨by omega, Nat.le_refl _, _, _, rfl, fun i hi => ?_⟩)
    rw [Nat.zero_add, cell_of_row _ _ i _ T m h]
    simp [List.getElem?_eq_getElem hi]
theorem row_block {w : World} {b n : Nat} {xs : List Int} {T : TypeId} {m : Nat × Nat} {C : Array Value} (h : w.heap[b]? = some (.cells C T m)) (hC : C = (xs.map (Value.int .i64)).toArray) (hl : xs.length = n) (hn : n ≤ maxLen) : RowV w (.slice (some ⟨b, 0, none⟩) n n) xs :=
  ⟨_, _, _, rfl, hn, ints_block h hC hl⟩
theorem mat2_lit (w : World) (T S : TypeId) (x y z t : Int) : MatV (((w.alloc (.cells #[.int .i64 x, .int .i64 y] T)).alloc (.cells #[.int .i64 z, .int .i64 t] T)).alloc (.cells #[.slice (some ⟨w.heap.size, 0, none⟩) 2 2, .slice (some ⟨w.heap.size + 1, 0, none⟩) 2 2] S)) (.agg #[.slice (some ⟨w.heap.size + 1 + 1, 0, none⟩) 2 2]) [[x, y], [z, t]] := by
  refine ⟨_, _, _, rfl, rows_of_cells rfl (by decide) (Nat.le_refl _) (by decide) (fun i hi => ?_)⟩
  have hi' : i = 0 ∨ i = 1 := by omega
  rcases hi' with rfl | rfl
  · exact ⟨_, cell_of_row _ _ 0 _ S (0, 0) (three_new _ _ _ _), row_block (three_old _ _ _ _) rfl rfl (by decide)⟩
  · exact ⟨_, cell_of_row _ _ 1 _ S (0, 0) (three_new _ _ _ _), row_block (three_mid _ _ _ _) rfl rfl (by decide)⟩
theorem four_0 (w : World) (o o' o'' o3 : Obj) : ((((w.alloc o).alloc o').alloc o'').alloc o3).heap[w.heap.size]? = some o := by
  rw [heap_alloc_old _ _ (by simp; omega), three_old]
theorem four_1 (w : World) (o o' o'' o3 : Obj) : ((((w.alloc o).alloc o').alloc o'').alloc o3).heap[w.heap.size + 1]? = some o' := by
  rw [heap_alloc_old _ _ (by simp <;> omega), three_mid]
theorem four_2 (w : World) (o o' o'' o3 : Obj) : ((((w.alloc o).alloc o').alloc o'').alloc o3).heap[w.heap.size + 1 + 1]? = some o'' := by
  rw [heap_alloc_old _ _ (by simp), three_new]
theorem four_3 (w : World) (o o' o'' o3 : Obj) : ((((w.alloc o).alloc o').alloc o'').alloc o3).heap[w.heap.size + 1 + 1 + 1]? = some o3 := by
  have := heap_alloc_new (((w.alloc o).alloc o').alloc o'') o3
  simpa using this
theorem mat3_lit (w : World) (T S : TypeId) (x y z t r s : Int) : MatV ((((w.alloc (.cells #[.int .i64 x, .int .i64 y] T)).alloc (.cells #[.int .i64 z, .int .i64 t] T)).alloc (.cells #[.int .i64 r, .int .i64 s] T)).alloc (.cells #[.slice (some ⟨w.heap.size, 0, none⟩) 2 2, .slice (some ⟨w.heap.size + 1, 0, none⟩) 2 2, .slice (some ⟨w.heap.size + 1 + 1, 0, none⟩) 2 2] S)) (.agg #[.slice (some ⟨w.heap.size + 1 + 1 + 1, 0, none⟩) 3 3]) [[x, y], [z, t], [r, s]] := by
  refine ⟨_, _, _, rfl, rows_of_cells rfl (by decide) (Nat.le_refl _) (by decide) (fun i hi => ?_)⟩
  have hi' : i = 0 ∨ i = 1 ∨ i = 2 := by omega
  rcases hi' with rfl | rfl | rfl
  · exact ⟨_, cell_of_row _ _ 0 _ S (0, 0) (four_3 _ _ _ _ _), row_block (four_0 _ _ _ _ _) rfl rfl (by decide)⟩
  · exact ⟨_, cell_of_row _ _ 1 _ S (0, 0) (four_3 _ _ _ _ _), row_block (four_1 _ _ _ _ _) rfl rfl (by decide)⟩
  · exact ⟨_, cell_of_row _ _ 2 _ S (0, 0) (four_3 _ _ _ _ _), row_block (four_2 _ _ _ _ _) rfl rfl (by decide)⟩
theorem matV_nil (w : World) : MatV w (.agg #[.slice none 0 0]) [] := ⟨_, _, _, rfl, fun _ => undef, rfl, by decide, .inl ⟨rfl, rfl, rfl⟩, fun i hi => by omega⟩
theorem id2 : idF 2 = ([[1, 0], [0, 1]], 0) := by decide +kernel
theorem mul2 : mulF [[1, 2], [3, 4]] [[1, 0], [0, 1]] = ([[1, 2], [3, 4]], 0) := by decide +kernel
theorem pick2 : pickF [[1, 2], [3, 4]] [1, 1, 0] = ([[3, 4], [3, 4], [1, 2]], 0) := by decide +kernel
theorem pick2' : pickF [[1, 2], [3, 4]] [2] = ([], 300) := by decide +kernel
theorem mul2' : mulF [[1, 2], [3, 4]] [[3, 4], [3, 4], [1, 2]] = ([], 300) := by decide +kernel
theorem may2 : decide (MMay [[1, 2], [3, 4]]) = true := by decide +kernel
theorem may0 : decide (MMay []) = false := by decide +kernel
theorem small2 {x y z t : Int} : [[x, y], [z, t]].length ≤ maxLen ∧ ∀ j, ([[x, y], [z, t]].getD j []).length ≤ maxLen := by
  refine ⟨by show 2 ≤ maxLen; decide, fun j => ?_⟩
  match j with
  | 0 => show 2 ≤ maxLen; decide
  | 1 => show 2 ≤ maxLen; decide
  | j + 2 => simp
theorem small3 {a b c d e f : Int} : [[a, b], [c, d], [e, f]].length ≤ maxLen ∧ ∀ j, ([[a, b], [c, d], [e, f]].getD j []).length ≤ maxLen := by
  refine ⟨by show 3 ≤ maxLen; decide, fun j => ?_⟩
  match j with
  | 0 => show 2 ≤ maxLen; decide
  | 1 => show 2 ≤ maxLen; decide
  | 2 => show 2 ≤ maxLen; decide
  | j + 3 => simp
theorem ints_new (w : World) (o : Obj) (xs : List Int) (T : TypeId) (C : Array Value) (n : Nat) (hC : C = (xs.map (Value.int .i64)).toArray) (hl : xs.length = n) : Ints ((w.alloc o).alloc (.cells C T)) (some ⟨w.heap.size + 1, 0, none⟩) n n xs :=
  ints_block (two_new w o (.cells C T)) hC hl
theorem ints_new0 (w : World) (xs : List Int) (T : TypeId) (C : Array Value) (n : Nat) (hC : C = (xs.map (Value.int .i64)).toArray) (hl : xs.length = n) : Ints (w.alloc (.cells C T)) (some ⟨w.heap.size, 0, none⟩) n n xs :=
  ints_block (heap_alloc_new w (.cells C T)) hC hl
end Go.Proofs.Ythkafgcpnbolfaa
