/- MatrixForms: matrices and rows that are none. -/
import Derived.Test.YtpkofmpghhaobaaMatricesWalk
namespace Go.Proofs.Ytpkofmpghhaobaa
open Go.RowKit
set_option linter.unusedVariables false
set_option linter.unusedSimpArgs false
/-- rows of numbers that can be read -/
def RowsW (w : World) (v : Value) (M : List (List Int)) : Prop := ∃ a n cap, v = .slice a n cap ∧ RowsV w a n cap M
theorem RowsW.below {w w' : World} {v : Value} {M : List (List Int)} (h : RowsW w v M) (hb : Below w.heap.size w w') : RowsW w' v M := by
  obtain ⟨a, n, cap, e, h⟩ := h; exact ⟨a, n, cap, e, h.below hb⟩
theorem RowsW.mat {w : World} {v : Value} {M : List (List Int)} (h : RowsW w v M) : MatV w (.agg #[v]) M := by
  obtain ⟨a, n, cap, rfl, h⟩ := h; exact ⟨a, n, cap, rfl, h⟩
/-- a slice of matrices -/
def TabM (w : World) (v : Value) (t : List (List (List Int))) : Prop := ∃ g, v = .slice (some ⟨g, 0, none⟩) t.length t.length ∧ ∀ k, k < t.length → ∃ u, w.cell? ⟨g, k, none⟩ = some u ∧ MatV w (.agg #[u]) (t.getD k [])
theorem TabM.below {w w' : World} {v : Value} {t : List (List (List Int))} (h : TabM w v t) (hb : Below w.heap.size w w') : TabM w' v t := by
  obtain ⟨g, e, h⟩ := h
  refine ⟨g, e, fun k hk => ?_⟩
  obtain ⟨u, hu, hs⟩ := h k hk
  exact ⟨u, (hb.cell (cell_lt hu)).trans hu, hs.below hb⟩
def bads (d : Int) : List (List (List Int)) := [[], [[]], [[1], [1, 2]], [[255 + d]], [[-d]], List.replicate 13 [], [List.replicate 13 0]]
theorem row_new (w : World) (xs : List Int) (T : TypeId) (C : Array Value) (n : Nat) (hC : C = (xs.map (Value.int .i64)).toArray) (hl : xs.length = n) (hn : n ≤ maxLen) : RowV (w.alloc (.cells C T)) (.slice (some ⟨w.heap.size, 0, none⟩) n n) xs :=
  row_block (heap_alloc_new w _) hC hl hn
theorem rows1_new {w : World} {v : Value} {r : List Int} (h : RowV w v r) (T : TypeId) : RowsW (w.alloc (.cells #[v] T)) (.slice (some ⟨w.heap.size, 0, none⟩) 1 1) [r] := by
  refine ⟨_, _, _, rfl, rows_of_cells rfl (by decide) (Nat.le_refl _) (by decide) (fun i hi => ?_)⟩
  obtain rfl : i = 0 := by omega
  exact ⟨v, cell_of_row _ _ 0 _ T (0, 0) (heap_alloc_new w _), h.below (below_alloc _ _)⟩
theorem rows2_new {w : World} {v v' : Value} {r r' : List Int} (h : RowV w v r) (h' : RowV w v' r') (T : TypeId) : RowsW (w.alloc (.cells #[v, v'] T)) (.slice (some ⟨w.heap.size, 0, none⟩) 2 2) [r, r'] := by
  refine ⟨_, _, _, rfl, rows_of_cells rfl (by decide) (Nat.le_refl _) (by decide) (fun i hi => ?_)⟩
  have hi' : i = 0 ∨ i = 1 := by omega
  rcases hi' with rfl | rfl
  · exact ⟨v, cell_of_row _ _ 0 _ T (0, 0) (heap_alloc_new w _), h.below (below_alloc _ _)⟩
  · exact ⟨v', cell_of_row _ _ 1 _ T (0, 0) (heap_alloc_new w _), h'.below (below_alloc _ _)⟩
theorem row_made (w : World) (T : TypeId) : RowV (w.alloc (.cells (madeCells #[.int .i64 0] 13) T)) (.slice (some ⟨w.heap.size, 0, none⟩) 13 13) (List.replicate 13 0) := by
  have hr := World.rowIs_made w (.int .i64 0) 13 T
  refine ⟨_, _, _, rfl, by decide, rfl, .inr (.inr ⟨by omega, Nat.le_refl _, _, _, rfl, fun i hi => ?_⟩)⟩
  rw [Nat.zero_add, hr.cell hi]
  simp only [List.getD, List.getElem?_replicate, if_pos hi]
  rfl
theorem getD_nils (i : Nat) : (List.replicate 13 ([] : List Int)).getD i [] = [] := by
  simp only [List.getD, List.getElem?_replicate]
  split <;> rfl
theorem rows_made (w : World) (T : TypeId) : RowsW (w.alloc (.cells (madeCells #[.slice none 0 0] 13) T)) (.slice (some ⟨w.heap.size, 0, none⟩) 13 13) (List.replicate 13 []) := by
  have hr := World.rowIs_made w (.slice none 0 0) 13 T
  refine ⟨_, _, _, rfl, rows_of_cells rfl (by decide) (Nat.le_refl _) (by decide) (fun i hi => ⟨.slice none 0 0, ?_, ?_⟩)⟩
  · rw [Nat.zero_add, hr.cell hi]
  · rw [getD_nils]
    exact ⟨none, 0, 0, rfl, by decide, rfl, .inl ⟨rfl, rfl, rfl⟩⟩
theorem tab_new {w : World} {T : TypeId} {u0 u1 u2 u3 u4 u5 u6 : Value} {m0 m1 m2 m3 m4 m5 m6 : List (List Int)} (h0 : MatV w (.agg #[u0]) m0) (h1 : MatV w (.agg #[u1]) m1) (h2 : MatV w (.agg #[u2]) m2) (h3 : MatV w (.agg #[u3]) m3) (h4 : MatV w (.agg #[u4]) m4) (h5 : MatV w (.agg #[u5]) m5) (h6 : MatV w (.agg #[u6]) m6) :
    TabM (w.alloc (.cells #[u0, u1, u2, u3, u4, u5, u6] T)) (.slice (some ⟨w.heap.size, 0, none⟩) 7 7) [m0, m1, m2, m3, m4, m5, m6] := by
  refine ⟨_, rfl, fun k hk => ?_⟩
  have hk' : k = 0 ∨ k = 1 ∨ k = 2 ∨ k = 3 ∨ k = 4 ∨ k = 5 ∨ k = 6 := by simp at hk; omega
  rcases hk' with rfl | rfl | rfl | rfl | rfl | rfl | rfl
  · exact ⟨u0, cell_of_row _ _ 0 _ T (0, 0) (heap_alloc_new w _), h0.below (below_alloc _ _)⟩
  · exact ⟨u1, cell_of_row _ _ 1 _ T (0, 0) (heap_alloc_new w _), h1.below (below_alloc _ _)⟩
  · exact ⟨u2, cell_of_row _ _ 2 _ T (0, 0) (heap_alloc_new w _), h2.below (below_alloc _ _)⟩
  · exact ⟨u3, cell_of_row _ _ 3 _ T (0, 0) (heap_alloc_new w _), h3.below (below_alloc _ _)⟩
  · exact ⟨u4, cell_of_row _ _ 4 _ T (0, 0) (heap_alloc_new w _), h4.below (below_alloc _ _)⟩
  · exact ⟨u5, cell_of_row _ _ 5 _ T (0, 0) (heap_alloc_new w _), h5.below (below_alloc _ _)⟩
  · exact ⟨u6, cell_of_row _ _ 6 _ T (0, 0) (heap_alloc_new w _), h6.below (below_alloc _ _)⟩
/-- what each operation of the table's region leaves -/
def predB (d : Nat) : Nat → Value → World → Prop
  | 0, v, w => MatV w v []
  | 1, v, w => RowV w v []
  | 2, v, w => RowsW w v [[]]
  | 3, v, w => MatV w v [[]]
  | 4, v, w => RowV w v [1]
  | 5, v, w => RowV w v [1, 2]
  | 6, v, w => RowsW w v [[1], [1, 2]]
  | 7, v, w => MatV w v [[1], [1, 2]]
  | 8, v, _ => v = .int .i64 (1 + (d : Int))
  | 9, v, _ => v = .int .i64 (255 + (1 + (d : Int)))
  | 10, v, w => RowV w v [255 + (1 + (d : Int))]
  | 11, v, w => RowsW w v [[255 + (1 + (d : Int))]]
  | 12, v, w => MatV w v [[255 + (1 + (d : Int))]]
  | 13, v, _ => v = .int .i64 (1 + (d : Int))
  | 14, v, _ => v = .int .i64 (-(1 + (d : Int)))
  | 15, v, w => RowV w v [-(1 + (d : Int))]
  | 16, v, w => RowsW w v [[-(1 + (d : Int))]]
  | 17, v, w => MatV w v [[-(1 + (d : Int))]]
  | 18, v, w => RowsW w v (List.replicate 13 [])
  | 19, v, w => MatV w v (List.replicate 13 [])
  | 20, v, w => RowV w v (List.replicate 13 0)
  | 21, v, w => RowsW w v [List.replicate 13 0]
  | 22, v, w => MatV w v [List.replicate 13 0]
  | 23, v, w => TabM w v (bads (1 + (d : Int)))
  | 24, v, w => TabM w v (bads (1 + (d : Int)))
  | _, _, _ => True
theorem predB_stable (d : Nat) : ∀ i v w w', predB d i v w → Below w.heap.size w w' → predB d i v w' := by
  intro i v w w' h hb
  match i with
  | 0 => exact MatV.below h hb
  | 1 => exact RowV.below h hb
  | 2 => exact RowsW.below h hb
  | 3 => exact MatV.below h hb
  | 4 => exact RowV.below h hb
  | 5 => exact RowV.below h hb
  | 6 => exact RowsW.below h hb
  | 7 => exact MatV.below h hb
  | 8 => exact h
  | 9 => exact h
  | 10 => exact RowV.below h hb
  | 11 => exact RowsW.below h hb
  | 12 => exact MatV.below h hb
  | 13 => exact h
  | 14 => exact h
  | 15 => exact RowV.below h hb
  | 16 => exact RowsW.below h hb
  | 17 => exact MatV.below h hb
  | 18 => exact RowsW.below h hb
  | 19 => exact MatV.below h hb
  | 20 => exact RowV.below h hb
  | 21 => exact RowsW.below h hb
  | 22 => exact MatV.below h hb
  | 23 => exact TabM.below h hb
  | 24 => exact TabM.below h hb
  | n + 25 => trivial
theorem list25 {α : Type} {vs : List α} (h : vs.length = 25) : ∃ v0 v1 v2 v3 v4 v5 v6 v7 v8 v9 v10 v11 v12 v13 v14 v15 v16 v17 v18 v19 v20 v21 v22 v23 v24, vs = [v0, v1, v2, v3, v4, v5, v6, v7, v8, v9, v10, v11, v12, v13, v14, v15, v16, v17, v18, v19, v20, v21, v22, v23, v24] := by
  match vs, h with
  | [v0, v1, v2, v3, v4, v5, v6, v7, v8, v9, v10, v11, v12, v13, v14, v15, v16, v17, v18, v19, v20, v21, v22, v23, v24], _ => exact ⟨_, _, _, _, _, _, _, _, _, _, _, _, _, _, _, _, _, _, _, _, _, _, _, _, _, rfl⟩
theorem list7 {α : Type} {vs : List α} (h : vs.length = 7) : ∃ v0 v1 v2 v3 v4 v5 v6, vs = [v0, v1, v2, v3, v4, v5, v6] := by
  match vs, h with
  | [v0, v1, v2, v3, v4, v5, v6], _ => exact ⟨_, _, _, _, _, _, _, rfl⟩
theorem list9 {α : Type} {vs : List α} (h : vs.length = 9) : ∃ v0 v1 v2 v3 v4 v5 v6 v7 v8, vs = [v0, v1, v2, v3, v4, v5, v6, v7, v8] := by
  match vs, h with
  | [v0, v1, v2, v3, v4, v5, v6, v7, v8], _ => exact ⟨_, _, _, _, _, _, _, _, _, rfl⟩
theorem mod7 (a : Int) : ∃ i : Nat, i < 7 ∧ wrap64 ((IntKind.u64.wrap a).tmod 7) = (i : Int) := by
  have h0 : IntKind.u64.wrap a = a % 18446744073709551616 := by rw [IntKind.wrap_u64]
  refine ⟨(IntKind.u64.wrap a % 7).toNat, by omega, ?_⟩
  rw [h0, Int.tmod_eq_emod_of_nonneg (by omega)]
  unfold wrap64
  omega
theorem bads_no {d k : Nat} (hk : k < 7) : ¬ MMay ((bads (1 + (d : Int))).getD k []) := by
  have hk' : k = 0 ∨ k = 1 ∨ k = 2 ∨ k = 3 ∨ k = 4 ∨ k = 5 ∨ k = 6 := by omega
  rcases hk' with rfl | rfl | rfl | rfl | rfl | rfl | rfl
  · intro h; have := h.1; simp [bads] at this
  · intro h; have := h.2.2.1; simp [bads] at this
  · intro h; have := (h.2.2.2.2 1 (by simp [bads])).1; simp [bads] at this
  · intro h; have := ((h.2.2.2.2 0 (by simp [bads])).2 0 (by simp [bads])).2; simp [bads] at this; omega
  · intro h; have := ((h.2.2.2.2 0 (by simp [bads])).2 0 (by simp [bads])).1; simp [bads] at this; omega
  · intro h; have := h.2.1; simp [bads] at this
  · intro h; have := h.2.2.2.1; simp [bads] at this
theorem mulF_noA {A B : List (List Int)} (h : ¬ MMay A) : mulF A B = ([], 300) := mulF_no (fun h' => h h'.1)
theorem mulF_noB {A B : List (List Int)} (h : ¬ MMay B) : mulF A B = ([], 300) := mulF_no (fun h' => h h'.2.1)
theorem pickF_no {M : List (List Int)} {rs : List Int} (h : ¬ PickMay M rs) : pickF M rs = ([], 300) := by simp [pickF, h]
theorem pick_high (d : Nat) : pickF [[1, 2], [3, 4]] [1 + (1 + (d : Int))] = ([], 300) := pickF_no (fun h => by have := (h.2.2.2 0 (by simp)).2; simp at this; omega)
theorem pick_low (d : Nat) : pickF [[1, 2], [3, 4]] [-(1 + (d : Int))] = ([], 300) := pickF_no (fun h => by have := (h.2.2.2 0 (by simp)).1; simp at this; omega)
theorem pick_none : pickF [[1, 2], [3, 4]] [] = ([], 300) := pickF_no (fun h => by have := h.2.1; simp at this)
theorem pick_many : pickF [[1, 2], [3, 4]] (List.replicate 13 0) = ([], 300) := pickF_no (fun h => by have := h.2.2.1; simp at this)
theorem id_low (d : Nat) : idF (1 - (1 + (d : Int))) = ([], 300) := by simp only [idF]; rw [if_neg (by omega)]
theorem id_high (d : Nat) : idF (12 + (1 + (d : Int))) = ([], 300) := by simp only [idF]; rw [if_neg (by omega)]
/-- what each operation of the last pick's region leaves -/
def predP (H : Nat) (vg : Value) : Nat → Value → World → Prop
  | 0, v, _ => v = vg
  | 1, v, w => RowV w v (List.replicate 13 0)
  | 2, v, _ => ∃ p c, v = .tuple #[.agg #[.slice p 0 c], .int .i64 300]
  | 3, v, _ => ∃ p c, v = .tuple #[.agg #[.slice p 0 c], .int .i64 300]
  | 4, v, _ => ∃ p c, v = .agg #[.slice p 0 c]
  | 5, v, _ => v = .int .i64 300
  | 6, v, w => ∃ g p n c, v = .pointer (some ⟨g, 0, none⟩) ∧ H ≤ g ∧ w.heap[g]? = some (.cells #[.slice p n c] 24 (0, 0))
  | 7, _, _ => True
  | 8, v, _ => v = .int .i64 300
  | _, _, _ => True
theorem predP_stable (H : Nat) (vg : Value) : ∀ i v w w', predP H vg i v w → Below w.heap.size w w' → predP H vg i v w' := by
  intro i v w w' h hb
  match i with
  | 0 => exact h
  | 1 => exact RowV.below h hb
  | 2 => exact h
  | 3 => exact h
  | 4 => exact h
  | 5 => exact h
  | 6 => obtain ⟨g, p, n, c, e, h1, h⟩ := h; exact ⟨g, p, n, c, e, h1, (hb.block _ (lt_of_block h)).trans h⟩
  | 7 => trivial
  | 8 => exact h
  | n + 9 => trivial
theorem RowV.setBox {w : World} {v : Value} {xs : List Int} {g p n c} {T : TypeId} {m : Nat × Nat} (h : RowV w v xs) (hg : w.heap[g]? = some (.cells #[.slice p n c] T m)) (u : Value) : RowV (w.setCell ⟨g, 0, none⟩ u) v xs := by
  obtain ⟨a, k, cap, e, hk, hl, hr⟩ := h
  refine ⟨a, k, cap, e, hk, hl, ?_⟩
  rcases hr with h | h | ⟨h1, h2, b, off, rfl, hc⟩
  · exact .inl h
  · exact .inr (.inl h)
  · refine .inr (.inr ⟨h1, h2, b, off, rfl, fun i hi => ?_⟩)
    have hci := hc i hi
    by_cases hbg : b = g
    · exfalso
      subst hbg
      rw [cell_of_row _ _ (off + i) _ T m hg] at hci
      match hoi : off + i with
      | 0 => rw [hoi] at hci; simp at hci
      | j + 1 => rw [hoi] at hci; simp at hci
    · rw [← hci]
      exact World.cell?_of_block (w := w) (heap_set_other w g b u hbg)
theorem predP_store (H : Nat) (vg : Value) {w : World} {g p n c} (hg : w.heap[g]? = some (.cells #[.slice p n c] 24 (0, 0))) (p' : Option Addr) (n' c' : Nat) : ∀ j x, j ≠ 7 → predP H vg j x w → predP H vg j x (w.setCell ⟨g, 0, none⟩ (.slice p' n' c')) := by
  intro i v _ h
  match i with
  | 0 => exact h
  | 1 => exact RowV.setBox h hg _
  | 2 => exact h
  | 3 => exact h
  | 4 => exact h
  | 5 => exact h
  | 6 =>
    obtain ⟨k, q, m, d, e, h1, h⟩ := h
    by_cases hk : k = g
    · subst hk
      exact ⟨k, _, _, _, e, h1, one_setCell hg⟩
    · exact ⟨k, q, m, d, e, h1, (heap_set_other w g k _ hk).trans h⟩
  | 7 => trivial
  | 8 => exact h
  | n + 9 => trivial
set_option maxRecDepth 100000 in
set_option maxHeartbeats 4000000 in
theorem MatrixForms_walk {w : World} (a0 : Int) (w0 : (Lit.int .i64 a0).wf = true) (a1 : Int) (w1 : (Lit.int .i64 a1).wf = true) :
    Calls Try.prog 5 #[.int .i64 a0, .int .i64 a1] w fun e w' => e = .returned (.bool true) ∧ Below w.heap.size w w' := by
  have hx : ∃ d : Nat, d < 1024 ∧ bits .and .i64 a1 1023 = (d : Int) := by
    refine ⟨(a1 % 1024).toNat, by omega, ?_⟩
    rw [and_1023]; omega
  obtain ⟨d, hd, hx⟩ := hx
  obtain ⟨k, hk, ek⟩ := mod7 a0
  have hmk1 : ∀ w, (Instr.makeSlice 25 (.int .i64 13) (.int .i64 13)).run Try.prog w = .ok (.slice (some ⟨w.heap.size, 0, none⟩) 13 13) (w.alloc (.cells (madeCells #[.int .i64 0] 13) 3)) := fun w => run_make_row' (P := Try.prog) 25 3 (.int .i64 0) 8 Try.underlying25 Try.infoInt rfl .i64 .i64 13 (by omega) (by omega) w
  have hmk2 : ∀ w, (Instr.makeSlice 22 (.int .i64 13) (.int .i64 13)).run Try.prog w = .ok (.slice (some ⟨w.heap.size, 0, none⟩) 13 13) (w.alloc (.cells (madeCells #[.slice none 0 0] 13) 25)) := fun w => run_make_row' (P := Try.prog) 22 25 (.slice none 0 0) 24 Try.underlying22 Try.infoRow rfl .i64 .i64 13 (by omega) (by omega) w
  go_enter Try.func5, Try.ntmps5
  go_wp2_with (go_at_call 19; refine (awake3_any _).mono ?_; rintro e w1 ⟨rfl, hb1⟩)
  have M0 := mat2_lit w1 3 25 1 2 3 4
  have hM : Below w1.heap.size w1 (((w1.alloc (.cells #[.int .i64 1, .int .i64 2] 3)).alloc (.cells #[.int .i64 3, .int .i64 4] 3)).alloc (.cells #[.slice (some ⟨w1.heap.size, 0, none⟩) 2 2, .slice (some ⟨w1.heap.size + 1, 0, none⟩) 2 2] 25)) := by go_grown
  have sM : (((w1.alloc (.cells #[.int .i64 1, .int .i64 2] 3)).alloc (.cells #[.int .i64 3, .int .i64 4] 3)).alloc (.cells #[.slice (some ⟨w1.heap.size, 0, none⟩) 2 2, .slice (some ⟨w1.heap.size + 1, 0, none⟩) 2 2] 25)).heap.size = w1.heap.size + 1 + 1 + 1 := by simp
  generalize (((w1.alloc (.cells #[.int .i64 1, .int .i64 2] 3)).alloc (.cells #[.int .i64 3, .int .i64 4] 3)).alloc (.cells #[.slice (some ⟨w1.heap.size, 0, none⟩) 2 2, .slice (some ⟨w1.heap.size + 1, 0, none⟩) 2 2] 25)) = W2 at *
  have BG := hide (heap_alloc_new W2 (.cells #[.slice (some ⟨w1.heap.size + 1 + 1, 0, none⟩) 2 2] 24))
  rw [sM] at BG
  have hx2 := below_alloc W2 (.cells #[.slice (some ⟨w1.heap.size + 1 + 1, 0, none⟩) 2 2] 24)
  have MG := hide (M0.below hx2)
  have HB := hide (bt (bt hb1 hM) hx2)
  clear M0 hM sM hb1 hx2
  generalize (W2.alloc (.cells #[.slice (some ⟨w1.heap.size + 1 + 1, 0, none⟩) 2 2] 24)) = W3 at *
  refine wp_region_each (by kernel_rfl) [36, 37, 38, 39, 40, 41, 42, 43, 44, 45, 46, 47, 48, 49, 50, 51, 52, 53, 54, 55, 56, 57, 58, 59, 7] (predB d) rfl ?_ (by kernel_rfl) (predB_stable d) ?_ ?_
  · refine ⟨List.replicate 25 undef, rfl, ?_⟩
    kernel_rfl
  · intro i o vs w' ho hlen hb hdep
    obtain ⟨v0, v1, v2, v3, v4, v5, v6, v7, v8, v9, v10, v11, v12, v13, v14, v15, v16, v17, v18, v19, v20, v21, v22, v23, v24, rfl⟩ := list25 hlen
    match i with
    | 0 =>
      refine wpOp_of_list rfl ?_
      simp only [putAll]
      go_wp2
      exact ⟨.agg #[.slice none 0 0], by kernel_rfl, matV_nil _, Below.refl _ _⟩
    | 1 =>
      refine wpOp_of_list rfl ?_
      simp only [putAll]
      go_wp2
      exact ⟨.slice (some ⟨w'.heap.size, 0, none⟩) 0 0, by kernel_rfl, row_new _ [] _ _ 0 rfl rfl (by decide), below_alloc _ _⟩
    | 2 =>
      have r1 : RowV w' v1 [] := hdep ⟨1, .data⟩ (by cases ho; simp) rfl
      have R1 := hide r1
      obtain ⟨a1, n1, c1, rfl, _⟩ := r1
      refine wpOp_of_list rfl ?_
      simp only [putAll]
      go_wp2
      exact ⟨.slice (some ⟨w'.heap.size, 0, none⟩) 1 1, by kernel_rfl, rows1_new (unhide R1) _, below_alloc _ _⟩
    | 3 =>
      have r2 : RowsW w' v2 [[]] := hdep ⟨2, .data⟩ (by cases ho; simp) rfl
      have R2 := hide r2
      obtain ⟨a2, n2, c2, rfl, _⟩ := r2
      refine wpOp_of_list rfl ?_
      simp only [putAll]
      go_wp2
      exact ⟨.agg #[.slice a2 n2 c2], by kernel_rfl, (unhide R2).mat, Below.refl _ _⟩
    | 4 =>
      refine wpOp_of_list rfl ?_
      simp only [putAll]
      go_wp2
      exact ⟨.slice (some ⟨w'.heap.size, 0, none⟩) 1 1, by kernel_rfl, row_new _ [1] _ _ 1 rfl rfl (by decide), below_alloc _ _⟩
    | 5 =>
      refine wpOp_of_list rfl ?_
      simp only [putAll]
      go_wp2
      exact ⟨.slice (some ⟨w'.heap.size, 0, none⟩) 2 2, by kernel_rfl, row_new _ [1, 2] _ _ 2 rfl rfl (by decide), below_alloc _ _⟩
    | 6 =>
      have r4 : RowV w' v4 [1] := hdep ⟨4, .data⟩ (by cases ho; simp) rfl
      have R4 := hide r4
      obtain ⟨a4, n4, c4, rfl, _⟩ := r4
      have r5 : RowV w' v5 [1, 2] := hdep ⟨5, .data⟩ (by cases ho; simp) rfl
      have R5 := hide r5
      obtain ⟨a5, n5, c5, rfl, _⟩ := r5
      refine wpOp_of_list rfl ?_
      simp only [putAll]
      go_wp2
      exact ⟨.slice (some ⟨w'.heap.size, 0, none⟩) 2 2, by kernel_rfl, rows2_new (unhide R4) (unhide R5) _, below_alloc _ _⟩
    | 7 =>
      have r6 : RowsW w' v6 [[1], [1, 2]] := hdep ⟨6, .data⟩ (by cases ho; simp) rfl
      have R6 := hide r6
      obtain ⟨a6, n6, c6, rfl, _⟩ := r6
      refine wpOp_of_list rfl ?_
      simp only [putAll]
      go_wp2
      exact ⟨.agg #[.slice a6 n6 c6], by kernel_rfl, (unhide R6).mat, Below.refl _ _⟩
    | 8 =>
      refine wpOp_of_list rfl ?_
      simp only [putAll]
      go_wp2
      exact ⟨.int .i64 (1 + (d : Int)), by kernel_rfl, rfl, Below.refl _ _⟩
    | 9 =>
      obtain rfl : v8 = _ := hdep ⟨8, .data⟩ (by cases ho; simp) rfl
      refine wpOp_of_list rfl ?_
      simp only [putAll]
      go_wp2
      exact ⟨.int .i64 (255 + (1 + (d : Int))), by kernel_rfl, rfl, Below.refl _ _⟩
    | 10 =>
      obtain rfl : v9 = _ := hdep ⟨9, .data⟩ (by cases ho; simp) rfl
      refine wpOp_of_list rfl ?_
      simp only [putAll]
      go_wp2
      exact ⟨.slice (some ⟨w'.heap.size, 0, none⟩) 1 1, by kernel_rfl, row_new _ [255 + (1 + (d : Int))] _ _ 1 rfl rfl (by decide), below_alloc _ _⟩
    | 11 =>
      have r10 : RowV w' v10 [255 + (1 + (d : Int))] := hdep ⟨10, .data⟩ (by cases ho; simp) rfl
      have R10 := hide r10
      obtain ⟨a10, n10, c10, rfl, _⟩ := r10
      refine wpOp_of_list rfl ?_
      simp only [putAll]
      go_wp2
      exact ⟨.slice (some ⟨w'.heap.size, 0, none⟩) 1 1, by kernel_rfl, rows1_new (unhide R10) _, below_alloc _ _⟩
    | 12 =>
      have r11 : RowsW w' v11 [[255 + (1 + (d : Int))]] := hdep ⟨11, .data⟩ (by cases ho; simp) rfl
      have R11 := hide r11
      obtain ⟨a11, n11, c11, rfl, _⟩ := r11
      refine wpOp_of_list rfl ?_
      simp only [putAll]
      go_wp2
      exact ⟨.agg #[.slice a11 n11 c11], by kernel_rfl, (unhide R11).mat, Below.refl _ _⟩
    | 13 =>
      refine wpOp_of_list rfl ?_
      simp only [putAll]
      go_wp2
      exact ⟨.int .i64 (1 + (d : Int)), by kernel_rfl, rfl, Below.refl _ _⟩
    | 14 =>
      obtain rfl : v13 = _ := hdep ⟨13, .data⟩ (by cases ho; simp) rfl
      refine wpOp_of_list rfl ?_
      simp only [putAll]
      go_wp2
      exact ⟨.int .i64 (-(1 + (d : Int))), by kernel_rfl, rfl, Below.refl _ _⟩
    | 15 =>
      obtain rfl : v14 = _ := hdep ⟨14, .data⟩ (by cases ho; simp) rfl
      refine wpOp_of_list rfl ?_
      simp only [putAll]
      go_wp2
      exact ⟨.slice (some ⟨w'.heap.size, 0, none⟩) 1 1, by kernel_rfl, row_new _ [-(1 + (d : Int))] _ _ 1 rfl rfl (by decide), below_alloc _ _⟩
    | 16 =>
      have r15 : RowV w' v15 [-(1 + (d : Int))] := hdep ⟨15, .data⟩ (by cases ho; simp) rfl
      have R15 := hide r15
      obtain ⟨a15, n15, c15, rfl, _⟩ := r15
      refine wpOp_of_list rfl ?_
      simp only [putAll]
      go_wp2
      exact ⟨.slice (some ⟨w'.heap.size, 0, none⟩) 1 1, by kernel_rfl, rows1_new (unhide R15) _, below_alloc _ _⟩
    | 17 =>
      have r16 : RowsW w' v16 [[-(1 + (d : Int))]] := hdep ⟨16, .data⟩ (by cases ho; simp) rfl
      have R16 := hide r16
      obtain ⟨a16, n16, c16, rfl, _⟩ := r16
      refine wpOp_of_list rfl ?_
      simp only [putAll]
      go_wp2
      exact ⟨.agg #[.slice a16 n16 c16], by kernel_rfl, (unhide R16).mat, Below.refl _ _⟩
    | 18 =>
      refine wpOp_of_list rfl ?_
      simp only [putAll]
      go_wp2
      exact ⟨.slice (some ⟨w'.heap.size, 0, none⟩) 13 13, by kernel_rfl, rows_made _ _, below_alloc _ _⟩
    | 19 =>
      have r18 : RowsW w' v18 (List.replicate 13 []) := hdep ⟨18, .data⟩ (by cases ho; simp) rfl
      have R18 := hide r18
      obtain ⟨a18, n18, c18, rfl, _⟩ := r18
      refine wpOp_of_list rfl ?_
      simp only [putAll]
      go_wp2
      exact ⟨.agg #[.slice a18 n18 c18], by kernel_rfl, (unhide R18).mat, Below.refl _ _⟩
    | 20 =>
      refine wpOp_of_list rfl ?_
      simp only [putAll]
      go_wp2
      exact ⟨.slice (some ⟨w'.heap.size, 0, none⟩) 13 13, by kernel_rfl, row_made _ _, below_alloc _ _⟩
    | 21 =>
      have r20 : RowV w' v20 (List.replicate 13 0) := hdep ⟨20, .data⟩ (by cases ho; simp) rfl
      have R20 := hide r20
      obtain ⟨a20, n20, c20, rfl, _⟩ := r20
      refine wpOp_of_list rfl ?_
      simp only [putAll]
      go_wp2
      exact ⟨.slice (some ⟨w'.heap.size, 0, none⟩) 1 1, by kernel_rfl, rows1_new (unhide R20) _, below_alloc _ _⟩
    | 22 =>
      have r21 : RowsW w' v21 [List.replicate 13 0] := hdep ⟨21, .data⟩ (by cases ho; simp) rfl
      have R21 := hide r21
      obtain ⟨a21, n21, c21, rfl, _⟩ := r21
      refine wpOp_of_list rfl ?_
      simp only [putAll]
      go_wp2
      exact ⟨.agg #[.slice a21 n21 c21], by kernel_rfl, (unhide R21).mat, Below.refl _ _⟩
    | 23 =>
      have r0 : MatV w' v0 [] := hdep ⟨0, .data⟩ (by cases ho; simp) rfl
      have R0 := hide r0
      obtain ⟨a0, n0, c0, rfl, _⟩ := r0
      have r3 : MatV w' v3 [[]] := hdep ⟨3, .data⟩ (by cases ho; simp) rfl
      have R3 := hide r3
      obtain ⟨a3, n3, c3, rfl, _⟩ := r3
      have r7 : MatV w' v7 [[1], [1, 2]] := hdep ⟨7, .data⟩ (by cases ho; simp) rfl
      have R7 := hide r7
      obtain ⟨a7, n7, c7, rfl, _⟩ := r7
      have r12 : MatV w' v12 [[255 + (1 + (d : Int))]] := hdep ⟨12, .data⟩ (by cases ho; simp) rfl
      have R12 := hide r12
      obtain ⟨a12, n12, c12, rfl, _⟩ := r12
      have r17 : MatV w' v17 [[-(1 + (d : Int))]] := hdep ⟨17, .data⟩ (by cases ho; simp) rfl
      have R17 := hide r17
      obtain ⟨a17, n17, c17, rfl, _⟩ := r17
      have r19 : MatV w' v19 (List.replicate 13 []) := hdep ⟨19, .data⟩ (by cases ho; simp) rfl
      have R19 := hide r19
      obtain ⟨a19, n19, c19, rfl, _⟩ := r19
      have r22 : MatV w' v22 [List.replicate 13 0] := hdep ⟨22, .data⟩ (by cases ho; simp) rfl
      have R22 := hide r22
      obtain ⟨a22, n22, c22, rfl, _⟩ := r22
      refine wpOp_of_list rfl ?_
      simp only [putAll]
      go_wp2
      exact ⟨.slice (some ⟨w'.heap.size, 0, none⟩) 7 7, by kernel_rfl, tab_new (unhide R0) (unhide R3) (unhide R7) (unhide R12) (unhide R17) (unhide R19) (unhide R22), below_alloc _ _⟩
    | 24 =>
      have r : TabM w' v23 (bads (1 + (d : Int))) := hdep ⟨23, .data⟩ (by cases ho; simp) rfl
      have R := hide r
      obtain ⟨g, e, _⟩ := r
      subst e
      refine wpOp_of_list rfl ?_
      simp only [putAll]
      go_wp2
      exact ⟨_, by kernel_rfl, unhide R, Below.refl _ _⟩
    | n + 25 => simp at ho
  · intro vs w' hlen hb hp
    obtain ⟨v0, v1, v2, v3, v4, v5, v6, v7, v8, v9, v10, v11, v12, v13, v14, v15, v16, v17, v18, v19, v20, v21, v22, v23, v24, rfl⟩ := list25 hlen
    obtain ⟨gt, et, hT⟩ : TabM w' v24 (bads (1 + (d : Int))) := hp 24 (by simp)
    have et' : v24 = .slice (some ⟨gt, 0, none⟩) 7 7 := et
    subst et'
    clear et
    obtain ⟨u, hu, hU⟩ := hT k hk
    replace BG := hide ((hb.block _ (lt_of_block (unhide BG))).trans (unhide BG))
    replace MG := hide ((unhide MG).below hb)
    replace HB := hide (bt (unhide HB) hb)
    have MU := hide hU
    obtain ⟨au, nu, cu, eu, _⟩ := hU
    simp only [Value.agg.injEq, Array.mk.injEq, List.cons.injEq, and_true] at eu
    subst eu
    clear hT hp hb
    have hk' : (k : Int) < 7 := by omega
    simp only [putAll]
    have cBG := cell_of_one (unhide BG)
    have dBG := fun o => ((below_alloc w' o).cell (cell_lt cBG)).trans cBG
    go_wp2_with fail
    have hno := bads_no (d := d) hk
    generalize (bads (1 + (d : Int))).getD k [] = U at MU hno
    have HN := hide hno
    clear hno
    have hx := below_alloc w' (.cells #[.slice au nu cu] 24)
    have BU := hide (heap_alloc_new w' (.cells #[.slice au nu cu] 24))
    refine (matMul_fun _ _ U [[1, 2], [3, 4]] _ ((unhide MU).below hx) ((unhide MG).below hx)).mono ?_
    rintro e y1 ⟨z1, he, O1, b1⟩
    rw [mulF_noA (unhide HN)] at he O1
    subst he
    obtain ⟨p1, m1, q1, rfl, e1⟩ := O1.form
    replace BU := hide ((b1.block _ (lt_of_block (unhide BU))).trans (unhide BU))
    replace b1 := bt hx b1
    replace BG := hide ((b1.block _ (lt_of_block (unhide BG))).trans (unhide BG))
    replace MG := hide ((unhide MG).below b1)
    replace MU := hide ((unhide MU).below b1)
    replace HB := hide (bt (unhide HB) b1)
    clear O1 b1 e1 hx cBG dBG
    have cBG := cell_of_one (unhide BG)
    have dBG := fun o => ((below_alloc y1 o).cell (cell_lt cBG)).trans cBG
    have cBU := cell_of_one (unhide BU)
    have dBU := fun o => ((below_alloc y1 o).cell (cell_lt cBU)).trans cBU
    go_wp2_with fail
    have hx := below_alloc y1 (.cells #[.slice p1 m1 q1] 24)
    refine (matMul_fun _ _ [[1, 2], [3, 4]] U _ ((unhide MG).below hx) ((unhide MU).below hx)).mono ?_
    rintro e y2 ⟨z2, he, O2, b2⟩
    rw [mulF_noB (unhide HN)] at he O2
    subst he
    obtain ⟨p2, m2, q2, rfl, e2⟩ := O2.form
    replace b2 := bt hx b2
    replace BG := hide ((b2.block _ (lt_of_block (unhide BG))).trans (unhide BG))
    replace BU := hide ((b2.block _ (lt_of_block (unhide BU))).trans (unhide BU))
    replace MG := hide ((unhide MG).below b2)
    replace MU := hide ((unhide MU).below b2)
    replace HB := hide (bt (unhide HB) b2)
    clear O2 b2 e2 hx cBG dBG cBU dBU
    have cBG := cell_of_one (unhide BG)
    have dBG := fun o => ((below_alloc y2 o).cell (cell_lt cBG)).trans cBG
    have cBU := cell_of_one (unhide BU)
    have dBU := fun o => ((below_alloc y2 o).cell (cell_lt cBU)).trans cBU
    go_wp2_with fail
    have hx := below_alloc y2 (.cells #[.slice p2 m2 q2] 24)
    have hy := bt hx (below_alloc (y2.alloc (.cells #[.slice p2 m2 q2] 24)) (.cells #[.int .i64 0] 3))
    refine (matPick_fun _ _ _ _ U [0] _ ((unhide MU).below hy) (ints_new y2 _ [0] _ _ 1 rfl rfl) (by decide)).mono ?_
    rintro e y3 ⟨z3, he, O3, b3⟩
    rw [pickF_no (fun h => unhide HN h.1)] at he O3
    subst he
    obtain ⟨p3, m3, q3, rfl, e3⟩ := O3.form
    replace b3 := bt hy b3
    replace BG := hide ((b3.block _ (lt_of_block (unhide BG))).trans (unhide BG))
    replace BU := hide ((b3.block _ (lt_of_block (unhide BU))).trans (unhide BU))
    replace MG := hide ((unhide MG).below b3)
    replace MU := hide ((unhide MU).below b3)
    replace HB := hide (bt (unhide HB) b3)
    clear O3 b3 e3 hx hy cBG dBG cBU dBU
    have cBG := cell_of_one (unhide BG)
    have dBG := fun o => ((below_alloc y3 o).cell (cell_lt cBG)).trans cBG
    have cBU := cell_of_one (unhide BU)
    have dBU := fun o => ((below_alloc y3 o).cell (cell_lt cBU)).trans cBU
    go_wp2_with fail
    have hx := below_alloc y3 (.cells #[.slice p3 m3 q3] 24)
    have hy := bt hx (below_alloc (y3.alloc (.cells #[.slice p3 m3 q3] 24)) (.cells #[.int .i64 (1 + (1 + (d : Int)))] 3))
    refine (matPick_fun _ _ _ _ [[1, 2], [3, 4]] [1 + (1 + (d : Int))] _ ((unhide MG).below hy) (ints_new y3 _ [1 + (1 + (d : Int))] _ _ 1 rfl rfl) (by decide)).mono ?_
    rintro e y4 ⟨z4, he, O4, b4⟩
    rw [pick_high] at he O4
    subst he
    obtain ⟨p4, m4, q4, rfl, e4⟩ := O4.form
    replace b4 := bt hy b4
    replace BG := hide ((b4.block _ (lt_of_block (unhide BG))).trans (unhide BG))
    replace BU := hide ((b4.block _ (lt_of_block (unhide BU))).trans (unhide BU))
    replace MG := hide ((unhide MG).below b4)
    replace MU := hide ((unhide MU).below b4)
    replace HB := hide (bt (unhide HB) b4)
    clear O4 b4 e4 hx hy cBG dBG cBU dBU
    have cBG := cell_of_one (unhide BG)
    have dBG := fun o => ((below_alloc y4 o).cell (cell_lt cBG)).trans cBG
    have cBU := cell_of_one (unhide BU)
    have dBU := fun o => ((below_alloc y4 o).cell (cell_lt cBU)).trans cBU
    go_wp2_with fail
    have hx := below_alloc y4 (.cells #[.slice p4 m4 q4] 24)
    have hy := bt hx (below_alloc (y4.alloc (.cells #[.slice p4 m4 q4] 24)) (.cells #[.int .i64 (-(1 + (d : Int)))] 3))
    refine (matPick_fun _ _ _ _ [[1, 2], [3, 4]] [-(1 + (d : Int))] _ ((unhide MG).below hy) (ints_new y4 _ [-(1 + (d : Int))] _ _ 1 rfl rfl) (by decide)).mono ?_
    rintro e y5 ⟨z5, he, O5, b5⟩
    rw [pick_low] at he O5
    subst he
    obtain ⟨p5, m5, q5, rfl, e5⟩ := O5.form
    replace b5 := bt hy b5
    replace BG := hide ((b5.block _ (lt_of_block (unhide BG))).trans (unhide BG))
    replace BU := hide ((b5.block _ (lt_of_block (unhide BU))).trans (unhide BU))
    replace MG := hide ((unhide MG).below b5)
    replace MU := hide ((unhide MU).below b5)
    replace HB := hide (bt (unhide HB) b5)
    clear O5 b5 e5 hx hy cBG dBG cBU dBU
    have cBG := cell_of_one (unhide BG)
    have dBG := fun o => ((below_alloc y5 o).cell (cell_lt cBG)).trans cBG
    have cBU := cell_of_one (unhide BU)
    have dBU := fun o => ((below_alloc y5 o).cell (cell_lt cBU)).trans cBU
    go_wp2_with fail
    have hx := below_alloc y5 (.cells #[.slice p5 m5 q5] 24)
    have hy := hx
    refine (matPick_fun _ _ _ _ [[1, 2], [3, 4]] [] _ ((unhide MG).below hy) ⟨rfl, .inl ⟨rfl, rfl, rfl⟩⟩ (by decide)).mono ?_
    rintro e y6 ⟨z6, he, O6, b6⟩
    rw [pick_none] at he O6
    subst he
    obtain ⟨p6, m6, q6, rfl, e6⟩ := O6.form
    replace b6 := bt hy b6
    replace BG := hide ((b6.block _ (lt_of_block (unhide BG))).trans (unhide BG))
    replace BU := hide ((b6.block _ (lt_of_block (unhide BU))).trans (unhide BU))
    replace MG := hide ((unhide MG).below b6)
    replace MU := hide ((unhide MU).below b6)
    replace HB := hide (bt (unhide HB) b6)
    clear O6 b6 e6 hx hy cBG dBG cBU dBU
    have cBG := cell_of_one (unhide BG)
    have dBG := fun o => ((below_alloc y6 o).cell (cell_lt cBG)).trans cBG
    have cBU := cell_of_one (unhide BU)
    have dBU := fun o => ((below_alloc y6 o).cell (cell_lt cBU)).trans cBU
    go_wp2_with fail
    have hx := below_alloc y6 (.cells #[.slice p6 m6 q6] 24)
    generalize (y6.alloc (.cells #[.slice p6 m6 q6] 24)) = Y at *
    replace BG := hide ((hx.block _ (lt_of_block (unhide BG))).trans (unhide BG))
    replace BU := hide ((hx.block _ (lt_of_block (unhide BU))).trans (unhide BU))
    replace MG := hide ((unhide MG).below hx)
    replace MU := hide ((unhide MU).below hx)
    replace HB := hide (bt (unhide HB) hx)
    clear hx cBG dBG cBU dBU
    refine wp_region_keep (by kernel_rfl) [107, 108, 109, 106, 110, 111, 21, 100000, 22] (predP Y.heap.size (.agg #[.slice (some ⟨w1.heap.size + 1 + 1, 0, none⟩) 2 2])) rfl ?_ (by kernel_rfl) ?_ ?_
    · refine ⟨[undef, undef, undef, undef, undef, undef, undef, undef, undef], rfl, ?_⟩
      kernel_rfl
    · intro i o vs y' ho hlen hb hdep
      obtain ⟨x0, x1, x2, x3, x4, x5, x6, x7, x8, rfl⟩ := list9 hlen
      have cG := cell_of_one ((hb.block _ (lt_of_block (unhide BG))).trans (unhide BG))
      match i with
      | 0 =>
        refine wpOp_of_list rfl ?_
        simp only [putAll]
        go_wp2
        exact ⟨(.agg #[.slice (some ⟨w1.heap.size + 1 + 1, 0, none⟩) 2 2]), by kernel_rfl, rfl, (keeps_of_below (predP_stable _ _) hb (Below.refl _ _))⟩
      | 1 =>
        refine wpOp_of_list rfl ?_
        simp only [putAll]
        go_wp2
        exact ⟨.slice (some ⟨y'.heap.size, 0, none⟩) 13 13, by kernel_rfl, row_made _ _, (keeps_of_below (predP_stable _ _) hb (below_alloc _ _))⟩
      | 2 =>
        obtain rfl : x0 = _ := hdep ⟨0, .data⟩ (by cases ho; simp) rfl
        obtain ⟨a, n, c, rfl, hn, hI⟩ : RowV y' x1 (List.replicate 13 0) := hdep ⟨1, .data⟩ (by cases ho; simp) rfl
        have HI := hide hI
        clear hI
        refine wpOp_of_list rfl ?_
        simp only [putAll]
        go_wp2_with (go_at_call 10; refine (matPick_fun _ _ _ _ [[1, 2], [3, 4]] (List.replicate 13 0) _ ((unhide MG).below hb) (unhide HI) hn).mono ?_; rintro e y7 ⟨z7, he, O7, b7⟩; rw [pick_many] at he O7; subst he; obtain ⟨p7, m7, q7, rfl, rfl⟩ := O7.form)
        exact ⟨.tuple #[.agg #[.slice p7 0 q7], .int .i64 300], by kernel_rfl, ⟨p7, q7, rfl⟩, (keeps_of_below (predP_stable _ _) hb b7)⟩
      | 3 =>
        obtain ⟨p, c, rfl⟩ : ∃ p c, x2 = .tuple #[.agg #[.slice p 0 c], .int .i64 300] := hdep ⟨2, .data⟩ (by cases ho; simp) rfl
        refine wpOp_of_list rfl ?_
        simp only [putAll]
        go_wp2
        exact ⟨.tuple #[.agg #[.slice p 0 c], .int .i64 300], by kernel_rfl, ⟨p, c, rfl⟩, (keeps_of_below (predP_stable _ _) hb (Below.refl _ _))⟩
      | 4 =>
        obtain ⟨p, c, rfl⟩ : ∃ p c, x3 = .tuple #[.agg #[.slice p 0 c], .int .i64 300] := hdep ⟨3, .data⟩ (by cases ho; simp) rfl
        refine wpOp_of_list rfl ?_
        simp only [putAll]
        go_wp2
        exact ⟨.agg #[.slice p 0 c], by kernel_rfl, ⟨p, c, rfl⟩, (keeps_of_below (predP_stable _ _) hb (Below.refl _ _))⟩
      | 5 =>
        obtain ⟨p, c, rfl⟩ : ∃ p c, x3 = .tuple #[.agg #[.slice p 0 c], .int .i64 300] := hdep ⟨3, .data⟩ (by cases ho; simp) rfl
        refine wpOp_of_list rfl ?_
        simp only [putAll]
        go_wp2
        exact ⟨.int .i64 300, by kernel_rfl, rfl, (keeps_of_below (predP_stable _ _) hb (Below.refl _ _))⟩
      | 6 =>
        refine wpOp_of_list rfl ?_
        simp only [putAll]
        go_wp2
        exact ⟨.pointer (some ⟨y'.heap.size, 0, none⟩), by kernel_rfl, ⟨_, _, _, _, rfl, hb.size, heap_alloc_new _ _⟩, (keeps_of_below (predP_stable _ _) hb (below_alloc _ _))⟩
      | 7 =>
        obtain ⟨p, c, rfl⟩ : ∃ p c, x4 = .agg #[.slice p 0 c] := hdep ⟨4, .data⟩ (by cases ho; simp) rfl
        obtain ⟨g, q, n, k', rfl, hg, hh⟩ : ∃ g p n c, x6 = .pointer (some ⟨g, 0, none⟩) ∧ Y.heap.size ≤ g ∧ y'.heap[g]? = some (.cells #[.slice p n c] 24 (0, 0)) := hdep ⟨6, .data⟩ (by cases ho; simp) rfl
        have cg := cell_of_one hh
        have fg := free_of_one hh
        refine wpOp_of_list rfl ?_
        simp only [putAll]
        go_wp2
        exact ⟨undef, by kernel_rfl, trivial, hb.setCell hg _, predP_store _ _ hh _ _ _⟩
      | 8 =>
        obtain rfl : x5 = _ := hdep ⟨5, .data⟩ (by cases ho; simp) rfl
        refine wpOp_of_list rfl ?_
        simp only [putAll]
        go_wp2
        exact ⟨.int .i64 300, by kernel_rfl, rfl, (keeps_of_below (predP_stable _ _) hb (Below.refl _ _))⟩
      | i + 9 => simp at ho
    · intro vs y7 hlen hb hp
      obtain ⟨x0, x1, x2, x3, x4, x5, x6, x7, x8, rfl⟩ := list9 hlen
      obtain rfl : x8 = _ := hp 8 (by simp)
      replace BG := hide ((hb.block _ (lt_of_block (unhide BG))).trans (unhide BG))
      replace BU := hide ((hb.block _ (lt_of_block (unhide BU))).trans (unhide BU))
      replace MG := hide ((unhide MG).below hb)
      replace MU := hide ((unhide MU).below hb)
      replace HB := hide (bt (unhide HB) hb)
      clear hp hb
      have cBG := cell_of_one (unhide BG)
      have dBG := fun o => ((below_alloc y7 o).cell (cell_lt cBG)).trans cBG
      have cBU := cell_of_one (unhide BU)
      have dBU := fun o => ((below_alloc y7 o).cell (cell_lt cBU)).trans cBU
      simp only [putAll]
      go_wp2_with fail
      refine (matIdentity_fun _ _).mono ?_
      rintro e y8 ⟨z8, he, O8, b8⟩
      rw [id_low] at he O8
      subst he
      obtain ⟨p8, m8, q8, rfl, e8⟩ := O8.form
      replace BG := hide ((b8.block _ (lt_of_block (unhide BG))).trans (unhide BG))
      replace BU := hide ((b8.block _ (lt_of_block (unhide BU))).trans (unhide BU))
      replace MG := hide ((unhide MG).below b8)
      replace MU := hide ((unhide MU).below b8)
      replace HB := hide (bt (unhide HB) b8)
      clear O8 b8 e8 cBG dBG cBU dBU
      have cBG := cell_of_one (unhide BG)
      have dBG := fun o => ((below_alloc y8 o).cell (cell_lt cBG)).trans cBG
      have cBU := cell_of_one (unhide BU)
      have dBU := fun o => ((below_alloc y8 o).cell (cell_lt cBU)).trans cBU
      go_wp2_with fail
      have hx := below_alloc y8 (.cells #[.slice p8 m8 q8] 24)
      refine (matIdentity_fun _ _).mono ?_
      rintro e y9 ⟨z9, he, O9, b9⟩
      rw [id_high] at he O9
      subst he
      obtain ⟨p9, m9, q9, rfl, e9⟩ := O9.form
      replace b9 := bt hx b9
      replace BG := hide ((b9.block _ (lt_of_block (unhide BG))).trans (unhide BG))
      replace BU := hide ((b9.block _ (lt_of_block (unhide BU))).trans (unhide BU))
      replace MG := hide ((unhide MG).below b9)
      replace MU := hide ((unhide MU).below b9)
      replace HB := hide (bt (unhide HB) b9)
      clear O9 b9 e9 hx cBG dBG cBU dBU
      have cBG := cell_of_one (unhide BG)
      have dBG := fun o => ((below_alloc y9 o).cell (cell_lt cBG)).trans cBG
      have cBU := cell_of_one (unhide BU)
      have dBU := fun o => ((below_alloc y9 o).cell (cell_lt cBU)).trans cBU
      go_wp2_with fail
      have hx := below_alloc y9 (.cells #[.slice p9 m9 q9] 24)
      refine (matMay_fun _ U _ ((unhide MU).below hx)).mono ?_
      rintro e ya ⟨he, ba⟩
      rw [decide_eq_false (unhide HN)] at he
      subst he
      replace ba := bt hx ba
      replace BG := hide ((ba.block _ (lt_of_block (unhide BG))).trans (unhide BG))
      replace MG := hide ((unhide MG).below ba)
      replace HB := hide (bt (unhide HB) ba)
      clear ba hx cBG dBG cBU dBU
      have cBG := cell_of_one (unhide BG)
      have dBG := fun o => ((below_alloc ya o).cell (cell_lt cBG)).trans cBG
      go_wp2_with fail
      refine (matMay_fun _ [[1, 2], [3, 4]] _ (unhide MG)).mono ?_
      rintro e yb ⟨he, bb⟩
      rw [may2] at he
      subst he
      replace HB := hide (bt (unhide HB) bb)
      clear bb cBG dBG
      go_wp2_with (go_at_call 15; refine (num_any _ _).mono ?_; rintro e w' ⟨rfl, rfl⟩)
      go_ret
      exact ⟨rfl, unhide HB⟩
end Go.Proofs.Ytpkofmpghhaobaa
