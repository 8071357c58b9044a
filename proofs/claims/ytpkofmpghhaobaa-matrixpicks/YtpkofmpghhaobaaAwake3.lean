/- 'awake' of the statements over package matrix returns true. -/
import Derived.Test.YtpkofmpghhaobaaMatWalk
namespace Go.Proofs.Ytpkofmpghhaobaa
open Go.RowKit
set_option linter.unusedVariables false
set_option linter.unusedSimpArgs false
theorem rows_of_cells {w : World} {b off n cap : Nat} {M : List (List Int)} (hl : M.length = n) (h1 : 1 ≤ n) (hc : n ≤ cap) (hn : n ≤ maxLen) (h : ∀ i, i < n → ∃ u, w.cell? ⟨b, off + i, none⟩ = some u ∧ RowV w u (M.getD i [])) : RowsV w (some ⟨b, off, none⟩) n cap M := by
  refine ⟨fun i => if h' : i < n then (h i h').choose else undef, hl, hn, .inr (.inr ⟨h1, hc, b, off, rfl, fun i hi => ?_⟩), fun i hi => ?_⟩
  · simp only [dif_pos hi]; exact (h i hi).choose_spec.1
  · simp only [dif_pos hi]; exact (h i hi).choose_spec.2
theorem ints_block {w : World} {b n : Nat} {xs : List Int} {T : TypeId} {m : Nat × Nat} {C : Array Value} (h : w.heap[b]? = some (.cells C T m)) (hC : C = (xs.map (Value.int .i64)).toArray) (hl : xs.length = n) : Ints w (some ⟨b, 0, none⟩) n n xs := by
  subst hl hC
  refine ⟨rfl, ?_⟩
  by_cases h0 : xs.length = 0
  · exact .inr (.inl ⟨h0, _, rfl⟩)
  · refine .inr (.inr ⟨by omega, Nat.le_refl _, _, _, rfl, fun i hi => ?_⟩)
    rw [Nat.zero_add, cell_of_row _ _ i _ T m h]
    simp [List.getElem?_eq_getElem hi]
theorem row_block {w : World} {b n : Nat} {xs : List Int} {T : TypeId} {m : Nat × Nat} {C : Array Value} (h : w.heap[b]? = some (.cells C T m)) (hC : C = (xs.map (Value.int .i64)).toArray) (hl : xs.length = n) (hn : n ≤ maxLen) : RowV w (.slice (some ⟨b, 0, none⟩) n n) xs :=
  ⟨_, _, _, rfl, hn, ints_block h hC hl⟩
theorem mat2_lit (w : World) (T S : TypeId) (x y z t : Int) : MatV (((w.alloc (.cells #[.int .i64 x, .int .i64 y] T)).alloc (.cells #[.int .i64 z, .int .i64 t] T)).alloc (.cells #[.slice (some ⟨w.heap.size, 0, none⟩) 2 2, .slice (some ⟨w.heap.size + 1, 0, none⟩) 2 2] S)) (.agg #[.slice (some ⟨w.heap.size + 1 + 1, 0, none⟩) 2 2]) [[x, y], [z, t]] := by
  refine ⟨_, _, _, rfl, rows_of_cells rfl (by decide) (Nat.le_refl _) (by decide) (fun i hi => ?_)⟩
  have hi' : i = 0 ∨ i = 1 := by omega
  rcases hi' with rfl | rfl
  · exact ⟨_, cell_of_row _ _ 0 _ S (0, 0) (three_new _ _ _ _), row_block (three_old _ _ _ _) rfl rfl (by decide)⟩
  · exact ⟨_, cell_of_row _ _ 1 _ S (0, 0) (three_new _ _ _ _), row_block (three_mid _ _ _ _) rfl rfl (by decide)⟩
theorem four_0 (w : World) (o o' o'' o3 : Obj) : ((((w.alloc o).alloc o').alloc o'').alloc o3).heap[w.heap.size]? = some o := by
  rw [heap_alloc_old _ _ (by simp; omega), three_old]
theorem four_1 (w : World) (o o' o'' o3 : Obj) : ((((w.alloc o).alloc o').alloc o'').alloc o3).heap[w.heap.size + 1]? = some o' := by
  rw [heap_alloc_old _ _ (by simp <;> omega), three_mid]
theorem four_2 (w : World) (o o' o'' o3 : Obj) : ((((w.alloc o).alloc o').alloc o'').alloc o3).heap[w.heap.size + 1 + 1]? = some o'' := by
  rw [heap_alloc_old _ _ (by simp), three_new]
theorem four_3 (w : World) (o o' o'' o3 : Obj) : ((((w.alloc o).alloc o').alloc o'').alloc o3).heap[w.heap.size + 1 + 1 + 1]? = some o3 := by
  have := heap_alloc_new (((w.alloc o).alloc o').alloc o'') o3
  simpa using this
theorem mat3_lit (w : World) (T S : TypeId) (x y z t r s : Int) : MatV ((((w.alloc (.cells #[.int .i64 x, .int .i64 y] T)).alloc (.cells #[.int .i64 z, .int .i64 t] T)).alloc (.cells #[.int .i64 r, .int .i64 s] T)).alloc (.cells #[.slice (some ⟨w.heap.size, 0, none⟩) 2 2, .slice (some ⟨w.heap.size + 1, 0, none⟩) 2 2, .slice (some ⟨w.heap.size + 1 + 1, 0, none⟩) 2 2] S)) (.agg #[.slice (some ⟨w.heap.size + 1 + 1 + 1, 0, none⟩) 3 3]) [[x, y], [z, t], [r, s]] := by
  refine ⟨_, _, _, rfl, rows_of_cells rfl (by decide) (Nat.le_refl _) (by decide) (fun i hi => ?_)⟩
  have hi' : i = 0 ∨ i = 1 ∨ i = 2 := by omega
  rcases hi' with rfl | rfl | rfl
  · exact ⟨_, cell_of_row _ _ 0 _ S (0, 0) (four_3 _ _ _ _ _), row_block (four_0 _ _ _ _ _) rfl rfl (by decide)⟩
  · exact ⟨_, cell_of_row _ _ 1 _ S (0, 0) (four_3 _ _ _ _ _), row_block (four_1 _ _ _ _ _) rfl rfl (by decide)⟩
  · exact ⟨_, cell_of_row _ _ 2 _ S (0, 0) (four_3 _ _ _ _ _), row_block (four_2 _ _ _ _ _) rfl rfl (by decide)⟩
theorem matV_nil (w : World) : MatV w (.agg #[.slice none 0 0]) [] := ⟨_, _, _, rfl, fun _ => undef, rfl, by decide, .inl ⟨rfl, rfl, rfl⟩, fun i hi => by omega⟩
theorem id2 : idF 2 = ([[1, 0], [0, 1]], 0) := by decide +kernel
theorem mul2 : mulF [[1, 2], [3, 4]] [[1, 0], [0, 1]] = ([[1, 2], [3, 4]], 0) := by decide +kernel
theorem pick2 : pickF [[1, 2], [3, 4]] [1, 1, 0] = ([[3, 4], [3, 4], [1, 2]], 0) := by decide +kernel
theorem pick2' : pickF [[1, 2], [3, 4]] [2] = ([], 300) := by decide +kernel
theorem mul2' : mulF [[1, 2], [3, 4]] [[3, 4], [3, 4], [1, 2]] = ([], 300) := by decide +kernel
theorem may2 : decide (MMay [[1, 2], [3, 4]]) = true := by decide +kernel
theorem may0 : decide (MMay []) = false := by decide +kernel
theorem small2 {x y z t : Int} : [[x, y], [z, t]].length ≤ maxLen ∧ ∀ j, ([[x, y], [z, t]].getD j []).length ≤ maxLen := by
  refine ⟨by show 2 ≤ maxLen; decide, fun j => ?_⟩
  match j with
  | 0 => show 2 ≤ maxLen; decide
  | 1 => show 2 ≤ maxLen; decide
  | j + 2 => simp
theorem small3 {a b c d e f : Int} : [[a, b], [c, d], [e, f]].length ≤ maxLen ∧ ∀ j, ([[a, b], [c, d], [e, f]].getD j []).length ≤ maxLen := by
  refine ⟨by show 3 ≤ maxLen; decide, fun j => ?_⟩
  match j with
  | 0 => show 2 ≤ maxLen; decide
  | 1 => show 2 ≤ maxLen; decide
  | 2 => show 2 ≤ maxLen; decide
  | j + 3 => simp
theorem ints_new (w : World) (o : Obj) (xs : List Int) (T : TypeId) (C : Array Value) (n : Nat) (hC : C = (xs.map (Value.int .i64)).toArray) (hl : xs.length = n) : Ints ((w.alloc o).alloc (.cells C T)) (some ⟨w.heap.size + 1, 0, none⟩) n n xs :=
  ints_block (two_new w o (.cells C T)) hC hl
theorem ints_new0 (w : World) (xs : List Int) (T : TypeId) (C : Array Value) (n : Nat) (hC : C = (xs.map (Value.int .i64)).toArray) (hl : xs.length = n) : Ints (w.alloc (.cells C T)) (some ⟨w.heap.size, 0, none⟩) n n xs :=
  ints_block (heap_alloc_new w (.cells C T)) hC hl
set_option maxRecDepth 100000 in
set_option maxHeartbeats 1000000 in
theorem awake3_any (w : World) : Calls Try.prog 19 #[] w fun e w' => e = .returned (.bool true) ∧ Below w.heap.size w w' := by
  go_enter Try.func19, Try.ntmps19
  go_wp2_with fail
  have m0 := mat2_lit w 3 25 1 2 3 4
  have b0 : Below w.heap.size w (((w.alloc (.cells #[.int .i64 1, .int .i64 2] 3)).alloc (.cells #[.int .i64 3, .int .i64 4] 3)).alloc (.cells #[.slice (some ⟨w.heap.size, 0, none⟩) 2 2, .slice (some ⟨w.heap.size + 1, 0, none⟩) 2 2] 25)) := by go_grown
  have s0 : (((w.alloc (.cells #[.int .i64 1, .int .i64 2] 3)).alloc (.cells #[.int .i64 3, .int .i64 4] 3)).alloc (.cells #[.slice (some ⟨w.heap.size, 0, none⟩) 2 2, .slice (some ⟨w.heap.size + 1, 0, none⟩) 2 2] 25)).heap.size = w.heap.size + 1 + 1 + 1 := by simp
  have S0 := hide s0
  have B0 := hide b0
  have M0 := hide m0
  clear s0 b0 m0
  generalize (((w.alloc (.cells #[.int .i64 1, .int .i64 2] 3)).alloc (.cells #[.int .i64 3, .int .i64 4] 3)).alloc (.cells #[.slice (some ⟨w.heap.size, 0, none⟩) 2 2, .slice (some ⟨w.heap.size + 1, 0, none⟩) 2 2] 25)) = W0 at *
  refine (matIdentity_fun 2 _).mono ?_
  rintro e w1 ⟨u1, he, O1, b1⟩
  rw [id2] at he O1
  subst he
  obtain ⟨p1, n1, c1, rfl, e1⟩ := O1.form
  have BA := hide ((b1.block _ (by simp)).trans (heap_alloc_new W0 (.cells #[.slice (some ⟨w.heap.size + 1 + 1, 0, none⟩) 2 2] 24)))
  rw [unhide S0] at BA
  have hb1 := bt (below_alloc _ _) b1
  replace M0 := hide ((unhide M0).below hb1)
  have H1 := hide ((bt (unhide B0) hb1))
  have M1 := hide (O1.matV (M := [[1, 0], [0, 1]]) small2)
  clear O1 b1 hb1 e1
  have cBA := cell_of_one (unhide BA)
  have dBA := fun o => ((below_alloc w1 o).cell (cell_lt cBA)).trans cBA
  go_wp2_with fail
  have hbx := below_alloc w1 (.cells #[.slice p1 n1 c1] 24)
  refine (matMul_fun _ _ [[1, 2], [3, 4]] [[1, 0], [0, 1]] _ ((unhide M0).below hbx) ((unhide M1).below hbx)).mono ?_
  rintro e w2 ⟨u2, he, O2, b2⟩
  rw [mul2] at he O2
  subst he
  obtain ⟨p2, n2, c2, rfl, e2⟩ := O2.form
  have hb2 := bt hbx b2
  replace BA := hide ((hb2.block _ (lt_of_block (unhide BA))).trans (unhide BA))
  replace M0 := hide ((unhide M0).below hb2)
  replace H1 := hide (bt (unhide H1) hb2)
  have M2 := hide (O2.matV (M := [[1, 2], [3, 4]]) small2)
  clear O2 b2 hb2 e2 hbx M1 cBA dBA
  have cBA := cell_of_one (unhide BA)
  have dBA := fun o => ((below_alloc w2 o).cell (cell_lt cBA)).trans cBA
  go_wp2_with fail
  have hb3a := below_alloc w2 (.cells #[.slice p2 n2 c2] 24)
  have BB := hide (heap_alloc_new w2 (.cells #[.slice p2 n2 c2] 24))
  have hb3b := bt hb3a (below_alloc (w2.alloc (.cells #[.slice p2 n2 c2] 24)) (.cells #[.int .i64 1, .int .i64 1, .int .i64 0] 3))
  refine (matPick_fun _ _ _ _ [[1, 2], [3, 4]] [1, 1, 0] _ ((unhide M0).below hb3b) (ints_new w2 _ [1, 1, 0] _ _ 3 rfl rfl) (by decide)).mono ?_
  rintro e w3 ⟨u3, he, O3, b3⟩
  rw [pick2] at he O3
  subst he
  obtain ⟨p3, n3, c3, rfl, e3⟩ := O3.form
  have hb3 := bt hb3b b3
  replace BB := hide (((bt (below_alloc _ _) b3).block _ (by simp)).trans (unhide BB))
  replace BA := hide ((hb3.block _ (lt_of_block (unhide BA))).trans (unhide BA))
  replace M0 := hide ((unhide M0).below hb3)
  replace M2 := hide ((unhide M2).below hb3)
  replace H1 := hide (bt (unhide H1) hb3)
  have M3 := hide (O3.matV small3)
  clear O3 b3 hb3 e3 hb3a hb3b cBA dBA
  have cBA := cell_of_one (unhide BA)
  have dBA := fun o => ((below_alloc w3 o).cell (cell_lt cBA)).trans cBA
  have cBB := cell_of_one (unhide BB)
  have dBB := fun o => ((below_alloc w3 o).cell (cell_lt cBB)).trans cBB
  go_wp2_with fail
  have BC := hide (heap_alloc_new w3 (.cells #[.slice p3 n3 c3] 24))
  have hb4b := bt (below_alloc w3 (.cells #[.slice p3 n3 c3] 24)) (below_alloc (w3.alloc (.cells #[.slice p3 n3 c3] 24)) (.cells #[.int .i64 2] 3))
  refine (matPick_fun _ _ _ _ [[1, 2], [3, 4]] [2] _ ((unhide M0).below hb4b) (ints_new w3 _ [2] _ _ 1 rfl rfl) (by decide)).mono ?_
  rintro e w4 ⟨u4, he, O4, b4⟩
  rw [pick2'] at he O4
  subst he
  obtain ⟨p4, n4, c4, rfl, e4⟩ := O4.form
  have hb4 := bt hb4b b4
  replace BC := hide (((bt (below_alloc _ _) b4).block _ (by simp)).trans (unhide BC))
  replace BA := hide ((hb4.block _ (lt_of_block (unhide BA))).trans (unhide BA))
  replace BB := hide ((hb4.block _ (lt_of_block (unhide BB))).trans (unhide BB))
  replace M0 := hide ((unhide M0).below hb4)
  replace M2 := hide ((unhide M2).below hb4)
  replace M3 := hide ((unhide M3).below hb4)
  replace H1 := hide (bt (unhide H1) hb4)
  clear O4 b4 hb4 e4 hb4b cBA dBA cBB dBB
  have cBA := cell_of_one (unhide BA)
  have dBA := fun o => ((below_alloc w4 o).cell (cell_lt cBA)).trans cBA
  have cBB := cell_of_one (unhide BB)
  have dBB := fun o => ((below_alloc w4 o).cell (cell_lt cBB)).trans cBB
  have cBC := cell_of_one (unhide BC)
  have dBC := fun o => ((below_alloc w4 o).cell (cell_lt cBC)).trans cBC
  go_wp2_with fail
  have hb5 := below_alloc w4 (.cells #[.slice p4 n4 c4] 24)
  refine (matMul_fun _ _ [[1, 2], [3, 4]] [[3, 4], [3, 4], [1, 2]] _ ((unhide M0).below hb5) ((unhide M3).below hb5)).mono ?_
  rintro e w5 ⟨u5, he, O5, b5⟩
  replace b5 := bt hb5 b5
  rw [mul2'] at he O5
  subst he
  obtain ⟨p5, n5, c5, rfl, e5⟩ := O5.form
  replace BA := hide ((b5.block _ (lt_of_block (unhide BA))).trans (unhide BA))
  replace BB := hide ((b5.block _ (lt_of_block (unhide BB))).trans (unhide BB))
  replace BC := hide ((b5.block _ (lt_of_block (unhide BC))).trans (unhide BC))
  replace M0 := hide ((unhide M0).below b5)
  replace M2 := hide ((unhide M2).below b5)
  replace M3 := hide ((unhide M3).below b5)
  replace H1 := hide (bt (unhide H1) b5)
  clear O5 b5 hb5 e5 cBA dBA cBB dBB cBC dBC
  have cBA := cell_of_one (unhide BA)
  have dBA := fun o => ((below_alloc w5 o).cell (cell_lt cBA)).trans cBA
  have cBB := cell_of_one (unhide BB)
  have dBB := fun o => ((below_alloc w5 o).cell (cell_lt cBB)).trans cBB
  have cBC := cell_of_one (unhide BC)
  have dBC := fun o => ((below_alloc w5 o).cell (cell_lt cBC)).trans cBC
  go_wp2_with fail
  have hb6 := below_alloc w5 (.cells #[.slice p5 n5 c5] 24)
  refine (sameMatrix_any _ _ [[1, 2], [3, 4]] [[1, 2], [3, 4]] _ ((unhide M0).below hb6) ((unhide M2).below hb6)).mono ?_
  rintro e w6 ⟨he, b6⟩
  replace b6 := bt hb6 b6
  rw [show ([[1, 2], [3, 4]] == ([[1, 2], [3, 4]] : List (List Int))) = true from by decide +kernel] at he
  subst he
  replace BA := hide ((b6.block _ (lt_of_block (unhide BA))).trans (unhide BA))
  replace BB := hide ((b6.block _ (lt_of_block (unhide BB))).trans (unhide BB))
  replace BC := hide ((b6.block _ (lt_of_block (unhide BC))).trans (unhide BC))
  replace M0 := hide ((unhide M0).below b6)
  replace M2 := hide ((unhide M2).below b6)
  replace M3 := hide ((unhide M3).below b6)
  replace H1 := hide (bt (unhide H1) b6)
  clear b6 hb6 cBA dBA cBB dBB cBC dBC
  have cBA := cell_of_one (unhide BA)
  have dBA := fun o => ((below_alloc w6 o).cell (cell_lt cBA)).trans cBA
  have cBB := cell_of_one (unhide BB)
  have dBB := fun o => ((below_alloc w6 o).cell (cell_lt cBB)).trans cBB
  have cBC := cell_of_one (unhide BC)
  have dBC := fun o => ((below_alloc w6 o).cell (cell_lt cBC)).trans cBC
  go_wp2_with (go_at_call 15; refine (num_any _ _).mono ?_; rintro e w' ⟨rfl, rfl⟩)
  have m7 := mat3_lit w' 3 25 3 4 3 4 1 2
  have hb7 : Below w'.heap.size w' ((((w'.alloc (.cells #[.int .i64 3, .int .i64 4] 3)).alloc (.cells #[.int .i64 3, .int .i64 4] 3)).alloc (.cells #[.int .i64 1, .int .i64 2] 3)).alloc (.cells #[.slice (some ⟨w'.heap.size, 0, none⟩) 2 2, .slice (some ⟨w'.heap.size + 1, 0, none⟩) 2 2, .slice (some ⟨w'.heap.size + 1 + 1, 0, none⟩) 2 2] 25)) := by go_grown
  refine (sameMatrix_any _ _ [[3, 4], [3, 4], [1, 2]] [[3, 4], [3, 4], [1, 2]] _ ((unhide M3).below hb7) m7).mono ?_
  rintro e w7 ⟨he, b7⟩
  rw [show ([[3, 4], [3, 4], [1, 2]] == ([[3, 4], [3, 4], [1, 2]] : List (List Int))) = true from by decide +kernel] at he
  subst he
  replace b7 := bt hb7 b7
  replace BA := hide ((b7.block _ (lt_of_block (unhide BA))).trans (unhide BA))
  replace M0 := hide ((unhide M0).below b7)
  replace H1 := hide (bt (unhide H1) b7)
  clear b7 hb7 m7 cBA dBA cBB dBB cBC dBC
  have cBA := cell_of_one (unhide BA)
  have dBA := fun o => ((below_alloc w7 o).cell (cell_lt cBA)).trans cBA
  go_wp2_with (go_at_call 15; refine (num_any _ _).mono ?_; rintro e w' ⟨rfl, rfl⟩)
  refine (matMay_fun _ [[1, 2], [3, 4]] _ (unhide M0)).mono ?_
  rintro e w8 ⟨he, b8⟩
  rw [may2] at he
  subst he
  replace H1 := hide (bt (unhide H1) b8)
  clear b8 cBA dBA
  go_wp2_with (go_at_call 15; refine (num_any _ _).mono ?_; rintro e w' ⟨rfl, rfl⟩)
  refine (matMay_fun _ [] _ (matV_nil _)).mono ?_
  rintro e w9 ⟨he, b9⟩
  rw [may0] at he
  subst he
  replace H1 := hide (bt (unhide H1) b9)
  clear b9
  go_wp2
  go_ret
  exact ⟨rfl, unhide H1⟩
end Go.Proofs.Ytpkofmpghhaobaa
