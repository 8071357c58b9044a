/- The Go text of the statement TreeForms returns true, whatever the numbers. -/
import Derived.Test.YtcoggfpjomgajaaTreeTurnedWalk
import Derived.Test.YtcoggfpjomgajaaAllocs
import Derived.Test.YtcoggfpjomgajaaKMatRef
namespace Go.Proofs.Ytcoggfpjomgajaa
open Go.RowKit
set_option linter.unusedVariables false
set_option linter.unusedSimpArgs false
theorem rootP_no {xs : List Int} (h : ¬ RMay xs) : rootP xs = (0, 1000) := by unfold rootP; rw [if_neg h]
theorem root_top : rootP [2147483646] = (2147483646, 0) := by decide +kernel
/-- leaves that are none -/
def badObjs (T S : TypeId) (H D M : Nat) : List Obj := [.cells #[.int .i64 (-(D : Int))] T, .cells #[.int .i64 (2147483646 + (D : Int))] T, .cells #[.int .i64 1, .int .i64 2, .int .i64 (-(D : Int))] T, .cells (madeCells #[.int .i64 0] M) T,
  .cells #[.slice none 0 0, .slice (some ⟨H, 0, none⟩) 1 1, .slice (some ⟨H + 1, 0, none⟩) 1 1, .slice (some ⟨H + 2, 0, none⟩) 3 3, .slice (some ⟨H + 3, 0, none⟩) M M] S]
theorem ints_obj {w : World} {g : Nat} {xs : List Int} {T : TypeId} {C : Array Value} {n : Nat} (h : w.heap[g]? = some (.cells C T (0, 0))) (hC : C = (xs.map (Value.int .i64)).toArray) (hl : xs.length = n) : Ints w (some ⟨g, 0, none⟩) n n xs := by
  subst hC hl
  refine ⟨rfl, ?_⟩
  by_cases h0 : xs.length = 0
  · exact .inr (.inl ⟨h0, _, rfl⟩)
  · refine .inr (.inr ⟨by omega, Nat.le_refl _, _, _, rfl, fun i hi => ?_⟩)
    rw [Nat.zero_add, cell_of_row _ _ i _ T (0, 0) h]
    simp [List.getElem?_eq_getElem hi]
theorem bad_cells (T S : TypeId) (D M i : Nat) (w : World) (hD : 1 ≤ D) (hM : 64 < M) (hM2 : M ≤ 2000) (hi : i < 5) : ∃ a n c xs, (allocs w (badObjs T S w.heap.size D M)).cell? ⟨w.heap.size + 4, i, none⟩ = some (.slice a n c) ∧ Ints (allocs w (badObjs T S w.heap.size D M)) a n c xs ∧ n ≤ 2000 ∧ rootP xs = (0, 1000) := by
  have h4 := allocs_heap w (badObjs T S w.heap.size D M) 4 _ rfl
  have h : i = 0 ∨ i = 1 ∨ i = 2 ∨ i = 3 ∨ i = 4 := by omega
  rcases h with rfl | rfl | rfl | rfl | rfl
  · exact ⟨none, 0, 0, [], by rw [cell_of_row _ _ _ _ _ _ h4]; rfl, ⟨rfl, .inl ⟨rfl, rfl, rfl⟩⟩, by omega, by decide +kernel⟩
  · exact ⟨_, 1, 1, [-(D : Int)], by rw [cell_of_row _ _ _ _ _ _ h4]; rfl, ints_obj (allocs_heap w (badObjs T S w.heap.size D M) 0 _ rfl) rfl rfl, by omega, rootP_no (fun h => by have := h.2.2 _ (List.mem_singleton.2 rfl); unfold Sl at this; omega)⟩
  · exact ⟨_, 1, 1, [2147483646 + (D : Int)], by rw [cell_of_row _ _ _ _ _ _ h4]; rfl, ints_obj (allocs_heap w (badObjs T S w.heap.size D M) 1 _ rfl) rfl rfl, by omega, rootP_no (fun h => by have := h.2.2 _ (List.mem_singleton.2 rfl); unfold Sl at this; omega)⟩
  · exact ⟨_, 3, 3, [1, 2, -(D : Int)], by rw [cell_of_row _ _ _ _ _ _ h4]; rfl, ints_obj (allocs_heap w (badObjs T S w.heap.size D M) 2 _ rfl) rfl rfl, by omega, rootP_no (fun h => by have := h.2.2 (-(D : Int)) (by simp); unfold Sl at this; omega)⟩
  · refine ⟨_, M, M, List.replicate M 0, by rw [cell_of_row _ _ _ _ _ _ h4]; rfl, ints_obj (allocs_heap w (badObjs T S w.heap.size D M) 3 _ rfl) ?_ (by simp), hM2, rootP_no (fun h => by have := h.2.1; simp at this; omega)⟩
    apply Array.toList_inj.1
    rw [toList_madeCells_one]
    simp
theorem leaves_none : nint (leavesL ⟨#[]⟩) = [] := by decide +kernel
set_option maxRecDepth 100000 in
set_option maxHeartbeats 2000000 in
theorem TreeForms_walk {w : World} (a0 : Int) (w0 : (Lit.int .i64 a0).wf = true) (a1 : Int) (w1 : (Lit.int .i64 a1).wf = true) : Calls Try.prog 6 #[.int .i64 a0, .int .i64 a1] w fun e w' => e = .returned (.bool true) ∧ Below w.heap.size w w' := by
  obtain ⟨i, hi, ei⟩ := modT a0 5 (by decide) (by decide)
  have hx : ∃ d : Nat, d < 1024 ∧ bits .and .i64 a1 1023 = (d : Int) := by
    refine ⟨(a1 % 1024).toNat, by omega, ?_⟩
    rw [and_1023]; omega
  obtain ⟨d, hd, ed⟩ := hx
  obtain ⟨D, eD⟩ : ∃ D : Nat, 1 + (d : Int) = (D : Int) := ⟨1 + d, by omega⟩
  have hD1 : 1 ≤ D := by omega
  have hD2 : D ≤ 1024 := by omega
  obtain ⟨M, eM⟩ : ∃ M : Nat, 64 + (D : Int) = (M : Int) := ⟨64 + D, by omega⟩
  have hM1 : 64 < M := by omega
  have hM2 : M ≤ 2000 := by omega
  have hmk := fun w => run_make_row' (P := Try.prog) 22 3 (.int .i64 0) 8 Try.underlying22 Try.infoInt rfl .i64 .i64 M (by omega) (by omega) w
  go_enter Try.func6, Try.ntmps6
  go_wp2_with fail
  refine (awake10_any _).mono ?_
  rintro e w2 ⟨rfl, b2⟩
  have HB := hide b2
  clear b2
  obtain ⟨a, n, c, xs, hc, hI, hn, hr⟩ := bad_cells 3 22 D M i w2 hD1 hM1 hM2 (by omega)
  have HI := hide hI
  have HR := hide hr
  replace HB := hide (bt (unhide HB) (allocs_below w2 (badObjs 3 22 w2.heap.size D M)))
  clear hI hr
  go_upto_region 5 with fail
  replace hc : (((((w2.alloc (.cells #[.int .i64 (-(D : Int))] 3)).alloc (.cells #[.int .i64 (2147483646 + (D : Int))] 3)).alloc (.cells #[.int .i64 1, .int .i64 2, .int .i64 (-(D : Int))] 3)).alloc (.cells (madeCells #[.int .i64 0] M) 3)).alloc (.cells #[.slice none 0 0, .slice (some ⟨w2.heap.size, 0, none⟩) 1 1, .slice (some ⟨w2.heap.size + 1, 0, none⟩) 1 1, .slice (some ⟨w2.heap.size + 1 + 1, 0, none⟩) 3 3, .slice (some ⟨w2.heap.size + 1 + 1 + 1, 0, none⟩) M M] 22)).cell? ⟨w2.heap.size + 1 + 1 + 1 + 1, i, none⟩ = some (.slice a n c) := hc
  replace HI : Hid (Ints (((((w2.alloc (.cells #[.int .i64 (-(D : Int))] 3)).alloc (.cells #[.int .i64 (2147483646 + (D : Int))] 3)).alloc (.cells #[.int .i64 1, .int .i64 2, .int .i64 (-(D : Int))] 3)).alloc (.cells (madeCells #[.int .i64 0] M) 3)).alloc (.cells #[.slice none 0 0, .slice (some ⟨w2.heap.size, 0, none⟩) 1 1, .slice (some ⟨w2.heap.size + 1, 0, none⟩) 1 1, .slice (some ⟨w2.heap.size + 1 + 1, 0, none⟩) 3 3, .slice (some ⟨w2.heap.size + 1 + 1 + 1, 0, none⟩) M M] 22)) a n c xs) := HI
  replace HB : Hid (Below w.heap.size w (((((w2.alloc (.cells #[.int .i64 (-(D : Int))] 3)).alloc (.cells #[.int .i64 (2147483646 + (D : Int))] 3)).alloc (.cells #[.int .i64 1, .int .i64 2, .int .i64 (-(D : Int))] 3)).alloc (.cells (madeCells #[.int .i64 0] M) 3)).alloc (.cells #[.slice none 0 0, .slice (some ⟨w2.heap.size, 0, none⟩) 1 1, .slice (some ⟨w2.heap.size + 1, 0, none⟩) 1 1, .slice (some ⟨w2.heap.size + 1 + 1, 0, none⟩) 3 3, .slice (some ⟨w2.heap.size + 1 + 1 + 1, 0, none⟩) M M] 22))) := HB
  generalize (((((w2.alloc (.cells #[.int .i64 (-(D : Int))] 3)).alloc (.cells #[.int .i64 (2147483646 + (D : Int))] 3)).alloc (.cells #[.int .i64 1, .int .i64 2, .int .i64 (-(D : Int))] 3)).alloc (.cells (madeCells #[.int .i64 0] M) 3)).alloc (.cells #[.slice none 0 0, .slice (some ⟨w2.heap.size, 0, none⟩) 1 1, .slice (some ⟨w2.heap.size + 1, 0, none⟩) 1 1, .slice (some ⟨w2.heap.size + 1 + 1, 0, none⟩) 3 3, .slice (some ⟨w2.heap.size + 1 + 1 + 1, 0, none⟩) M M] 22)) = W at *
  go_wp2_with fail
  refine (treeRoot_any _ _ _ xs _ (unhide HI) (by omega)).mono ?_
  rintro e w3 ⟨rfl, b3⟩
  rw [unhide HR]
  replace HB := hide (bt (unhide HB) b3)
  clear b3 hc HI
  go_wp2_with fail
  refine (treeRoot_any _ _ _ [2147483646] _ (int_lit w3 [2147483646] 3 w3.heap.size _ 1 rfl rfl rfl) (by decide)).mono ?_
  rintro e w4 ⟨rfl, b4⟩
  rw [root_top]
  replace HB := hide (bt (unhide HB) ((below_alloc w3 _).trans (b4.mono (by simp))))
  clear b4
  go_wp2_with (go_at_call 14; refine (num_any _ _).mono ?_; rintro e w' ⟨rfl, rfl⟩)
  refine (treeLeaves_any _ _ (by decide)).mono ?_
  rintro e w5 ⟨v5, rfl, O5, b5⟩
  rw [leaves_none] at O5
  obtain ⟨p5, c5, rfl⟩ := O5.form
  simp only [List.map_nil, List.length_nil]
  have hB := bt (unhide HB) b5
  have HB5 := hide hB
  clear hB b5 O5
  go_wp2
  go_ret
  exact ⟨rfl, unhide HB5⟩
end Go.Proofs.Ytcoggfpjomgajaa
