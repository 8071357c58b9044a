/- The Go text of the statement TreeForms returns true, whatever the numbers. -/
import Derived.Test.YtmphbajnadbggabTreeTurnedWalk
import Derived.Test.YtmphbajnadbggabAllocs
import Derived.Test.YtmphbajnadbggabKMatRef
namespace Go.Proofs.Ytmphbajnadbggab
open Go.RowKit
set_option linter.unusedVariables false
set_option linter.unusedSimpArgs false
theorem rootP_no {xs : List Int} (h : ¬ RMay xs) : rootP xs = (0, 1000) := by unfold rootP; rw [if_neg h]
theorem root_top : rootP [2147483646] = (2147483646, 0) := by decide +kernel
/-- leaves that are none -/
def badObjs (T S : TypeId) (H D M : Nat) : List Obj := [.cells #[.int .i64 (-(D : Int))] T, .cells #[.int .i64 (2147483646 + (D : Int))] T, .cells #[.int .i64 1, .int .i64 2, .int .i64 (-(D : Int))] T, .cells (madeCells #[.int .i64 0] M) T,
  .cells #[.slice none 0 0, .slice (some ⟨H, 0, none⟩) 1 1, .slice (some ⟨H + 1, 0, none⟩) 1 1, .slice (some ⟨H + 2, 0, none⟩) 3 3, .slice (some ⟨H + 3, 0, none⟩) M M] S]
theorem ints_obj {w : World} {g : Nat} {xs : List Int} {T : TypeId} {C : Array Value} {n : Nat} (h : w.heap[g]? = some (.cells C T (0, 0))) (hC : C = (xs.map (Value.int .i64)).toArray) (hl : xs.length = n) : Ints w (some ⟨g, 0, none⟩) n n xs := by
  subst hC hl
  refine ⟨rfl, ?_⟩
  by_cases h0 : xs.length = 0
  · exact .inr (.inl ⟨h0, _, rfl⟩)
  · refine .inr (.inr ⟨by omega, Nat.le_refl _, _, _, rfl, fun i hi => ?_⟩)
    rw [Nat.zero_add, cell_of_row _ _ i _ T (0, 0) h]
    simp [List.getElem?_eq_getElem hi]
theorem bad_cells (T S : TypeId) (D M i : Nat) (w : World) (hD : 1 ≤ D) (hM : 64 < M) (hM2 : M ≤ 2000) (hi : i < 5) : ∃ a n c xs, (allocs w (badObjs T S w.heap.size D M)).cell? ⟨w.heap.size + 4, i, none⟩ = some (.slice a n c) ∧ Ints (allocs w (badObjs T S w.heap.size D M)) a n c xs ∧ n ≤ 2000 ∧ rootP xs = (0, 1000) := by
  have h4 := allocs_heap w (badObjs T S w.heap.size D M) 4 _ rfl
  have h : i = 0 ∨ i = 1 ∨ i = 2 ∨ i = 3 ∨ i = 4 := by omega
  rcases h with rfl | rfl | rfl | rfl | rfl
  · exact ⟨none, 0, 0, [], by rw [cell_of_row _ _ _ _ _ _ h4]; rfl, ⟨rfl, .inl ⟨rfl, rfl, rfl⟩⟩, by omega, by decide +kernel⟩
  · exact ⟨_, 1, 1, [-(D : Int)], by rw [cell_of_row _ _ _ _ _ _ h4]; rfl, ints_obj (allocs_heap w (badObjs T S w.heap.size D M) 0 _ rfl) rfl rfl, by omega, rootP_no (fun h => by have := h.2.2 _ (List.mem_singleton.2 rfl); unfold Sl at this; omega)⟩
  · exact ⟨_, 1, 1, [2147483646 + (D : Int)], by rw [cell_of_row _ _ _ _ _ _ h4]; rfl, ints_obj (allocs_heap w (badObjs T S w.heap.size D M) 1 _ rfl) rfl rfl, by omega, rootP_no (fun h => by have := h.2.2 _ (List.mem_singleton.2 rfl); unfold Sl at this; omega)⟩
  · exact ⟨_, 3, 3, [1, 2, -(D : Int)], by rw [cell_of_row _ _ _ _ _ _ h4]; rfl, ints_obj (allocs_heap w (badObjs T S w.heap.size D M) 2 _ rfl) rfl rfl, by omega, rootP_no (fun h => by have := h.2.2 (-(D : Int)) (by simp); unfold Sl at this; omega)⟩
  · refine ⟨_, M, M, List.replicate M 0, by rw [cell_of_row _ _ _ _ _ _ h4]; rfl, ints_obj (allocs_heap w (badObjs T S w.heap.size D M) 3 _ rfl) ?_ (by simp), hM2, rootP_no (fun h => by have := h.2.1; simp at this; omega)⟩
    apply Array.toList_inj.1
    rw [toList_madeCells_one]
    simp
theorem leaves_none : nint (leavesL ⟨#[]⟩) = [] := by decide +kernel
end Go.Proofs.Ytmphbajnadbggab
