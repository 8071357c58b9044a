/- 'awake' of the statements over package invert returns true. -/
import Derived.Test.YthkafgcpnbolfaaInvWalk
import Derived.Test.YthkafgcpnbolfaaInvLaws
import Derived.Test.YthkafgcpnbolfaaAwake3
namespace Go.Proofs.Ythkafgcpnbolfaa
open Go.RowKit
set_option linter.unusedVariables false
set_option linter.unusedSimpArgs false
theorem inv_e1 {r : List (List Int) × Int} (h : invR [[0, 1], [2, 0]] r) : r = ([[0, 142], [1, 0]], 0) :=
  invR_one h (.inr (.inl ⟨⟨by decide +kernel, rfl⟩, [[0, 142], [1, 0]], ⟨by decide +kernel, rfl, rfl, by decide +kernel, by decide +kernel⟩, rfl⟩))
theorem inv_e2 {r : List (List Int) × Int} (h : invR [[1, 1], [1, 1]] r) : r = ([], 401) := by
  have hs : SqMay [[1, 1], [1, 1]] := ⟨by decide +kernel, rfl⟩
  exact invR_one h (.inr (.inr ⟨hs, no_inv_rows (k := 2) ⟨hs, rfl⟩ (i := 0) (j := 1) (by decide) (by decide) (by decide) rfl, rfl⟩))
theorem inv_e3 {r : List (List Int) × Int} (h : invR [[1, 2]] r) : r = ([], 400) :=
  invR_one h (.inl ⟨fun h => by have := h.2; simp at this, rfl⟩)
theorem mat1_lit (w : World) (T S : TypeId) (x y : Int) : MatV ((w.alloc (.cells #[.int .i64 x, .int .i64 y] T)).alloc (.cells #[.slice (some ⟨w.heap.size, 0, none⟩) 2 2] S)) (.agg #[.slice (some ⟨w.heap.size + 1, 0, none⟩) 1 1]) [[x, y]] := by
  refine ⟨_, _, _, rfl, rows_of_cells rfl (by decide) (Nat.le_refl _) (by decide) (fun i hi => ?_)⟩
  obtain rfl : i = 0 := by omega
  exact ⟨_, cell_of_row _ _ 0 _ S (0, 0) (two_new _ _ _), row_block (two_old _ _ _) rfl rfl (by decide)⟩
theorem mat1_at (w : World) (T S : TypeId) (x y : Int) (H : Nat) (hH : w.heap.size = H) : MatV ((w.alloc (.cells #[.int .i64 x, .int .i64 y] T)).alloc (.cells #[.slice (some ⟨H, 0, none⟩) 2 2] S)) (.agg #[.slice (some ⟨H + 1, 0, none⟩) 1 1]) [[x, y]] := by
  subst hH; exact mat1_lit w T S x y
theorem mat2_at (w : World) (T S : TypeId) (x y z t : Int) (H : Nat) (hH : w.heap.size = H) : MatV (((w.alloc (.cells #[.int .i64 x, .int .i64 y] T)).alloc (.cells #[.int .i64 z, .int .i64 t] T)).alloc (.cells #[.slice (some ⟨H, 0, none⟩) 2 2, .slice (some ⟨H + 1, 0, none⟩) 2 2] S)) (.agg #[.slice (some ⟨H + 1 + 1, 0, none⟩) 2 2]) [[x, y], [z, t]] := by
  subst hH; exact mat2_lit w T S x y z t
set_option maxRecDepth 100000 in
set_option maxHeartbeats 1000000 in
theorem awake4_any (w : World) : Calls Try.prog 13 #[] w fun e w' => e = .returned (.bool true) ∧ Below w.heap.size w w' := by
  go_enter Try.func13, Try.ntmps13
  go_wp2_with fail
  have m0 := mat2_lit w 3 38 0 1 2 0
  refine (invInvert_any _ _ _ m0).mono ?_
  rintro e w1 ⟨u1, r1, hr1, he, O1, b1⟩
  obtain rfl := inv_e1 hr1
  subst he
  obtain ⟨p1, n1, c1, rfl, e1⟩ := O1.form
  have hb1 : Below w.heap.size w w1 := bt (by go_grown) b1
  have M1 := hide (O1.matV small2)
  have HB := hide hb1
  clear O1 b1 hb1 e1 m0 hr1
  go_wp2_with fail
  have BA := hide (heap_alloc_new w1 (.cells #[.slice p1 n1 c1] 24))
  have hx := below_alloc w1 (.cells #[.slice p1 n1 c1] 24)
  have m2 := mat2_at (w1.alloc (.cells #[.slice p1 n1 c1] 24)) 3 38 1 1 1 1 (w1.heap.size + 1) (by simp)
  refine (invInvert_any _ _ _ m2).mono ?_
  rintro e w2 ⟨u2, r2, hr2, he, O2, b2⟩
  obtain rfl := inv_e2 hr2
  subst he
  obtain ⟨p2, n2, c2, rfl, e2⟩ := O2.form
  replace b2 : Below (w1.alloc (.cells #[.slice p1 n1 c1] 24)).heap.size (w1.alloc (.cells #[.slice p1 n1 c1] 24)) w2 := bt (by go_grown) b2
  replace BA := hide ((b2.block _ (lt_of_block (unhide BA))).trans (unhide BA))
  replace b2 := bt hx b2
  replace M1 := hide ((unhide M1).below b2)
  replace HB := hide (bt (unhide HB) b2)
  clear O2 b2 e2 m2 hr2 hx
  have cBA := cell_of_one (unhide BA)
  have dBA := fun o => ((below_alloc w2 o).cell (cell_lt cBA)).trans cBA
  go_wp2_with fail
  have m3 := mat1_at (w2.alloc (.cells #[.slice p2 n2 c2] 24)) 3 38 1 2 (w2.heap.size + 1) (by simp)
  refine (invInvert_any _ _ _ m3).mono ?_
  rintro e w3 ⟨u3, r3, hr3, he, O3, b3⟩
  obtain rfl := inv_e3 hr3
  subst he
  obtain ⟨p3, n3, c3, rfl, e3⟩ := O3.form
  replace b3 : Below w2.heap.size w2 w3 := bt (by go_grown) b3
  replace BA := hide ((b3.block _ (lt_of_block (unhide BA))).trans (unhide BA))
  replace M1 := hide ((unhide M1).below b3)
  replace HB := hide (bt (unhide HB) b3)
  clear O3 b3 e3 m3 hr3 cBA dBA
  have cBA := cell_of_one (unhide BA)
  have dBA := fun o => ((below_alloc w3 o).cell (cell_lt cBA)).trans cBA
  go_wp2_with fail
  have m4 := mat2_at (w3.alloc (.cells #[.slice p3 n3 c3] 24)) 3 38 0 142 1 0 (w3.heap.size + 1) (by simp)
  refine (sameMatrix_any _ _ [[0, 142], [1, 0]] [[0, 142], [1, 0]] _ ((unhide M1).below (by go_grown)) m4).mono ?_
  rintro e w4 ⟨he, b4⟩
  rw [beq_self_eq_true] at he
  subst he
  replace b4 : Below w3.heap.size w3 w4 := bt (by go_grown) b4
  replace HB := hide (bt (unhide HB) b4)
  clear b4 m4 cBA dBA
  go_wp2_with (go_at_call 11; refine (num_any _ _).mono ?_; rintro e w' ⟨rfl, rfl⟩)
  go_ret
  exact ⟨rfl, unhide HB⟩
end Go.Proofs.Ythkafgcpnbolfaa
