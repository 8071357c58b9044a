/- 'awake' of the statements over package vec returns true. -/
import Derived.Test.YtpcjhcjfclnjjaaVecWalk
import Derived.Test.YtpcjhcjfclnjjaaLaw0
namespace Go.Proofs.Ytpcjhcjfclnjjaa
open Go.RowKit
set_option linter.unusedVariables false
theorem ints_lit (w : World) (xs : List Int) (T : TypeId) : Ints (w.alloc (.cells (xs.map (Value.int .i64)).toArray T)) (some ⟨w.heap.size, 0, none⟩) xs.length xs.length xs := by
  refine ⟨rfl, ?_⟩
  by_cases h : xs.length = 0
  · exact .inr (.inl ⟨h, _, rfl⟩)
  · refine .inr (.inr ⟨by omega, Nat.le_refl _, _, _, rfl, fun i hi => ?_⟩)
    rw [Nat.zero_add, cell_of_row _ _ i _ T (0, 0) (heap_alloc_new w _)]
    simp [List.getElem?_eq_getElem hi]
theorem strs_lit (w : World) (ss : List ByteArray) (T : TypeId) : Strs (w.alloc (.cells (ss.map Value.string).toArray T)) (some ⟨w.heap.size, 0, none⟩) ss.length ss.length ss := by
  refine ⟨rfl, ?_⟩
  by_cases h : ss.length = 0
  · exact .inr (.inl ⟨h, _, rfl⟩)
  · refine .inr (.inr ⟨by omega, Nat.le_refl _, _, _, rfl, fun i hi => ?_⟩)
    rw [Nat.zero_add, cell_of_row _ _ i _ T (0, 0) (heap_alloc_new w _)]
    simp [List.getElem?_eq_getElem hi]
theorem ints_nil (w : World) : Ints w none 0 0 [] := ⟨rfl, .inl ⟨rfl, rfl, rfl⟩⟩
theorem strs_nil (w : World) : Strs w none 0 0 [] := ⟨rfl, .inl ⟨rfl, rfl, rfl⟩⟩
theorem strs_lit_at (w : World) (ss : List ByteArray) (T : TypeId) (H : Nat) (hH : w.heap.size = H) : Strs (w.alloc (.cells (ss.map Value.string).toArray T)) (some ⟨H, 0, none⟩) ss.length ss.length ss := by
  subst hH; exact strs_lit w ss T
/-- Combine over two slices that were just written down -/
theorem vecCombine_two (w : World) (cs : List Int) (ss : List ByteArray) (n n' : Nat) (C D : Array Value) (hn : cs.length = n) (hn' : ss.length = n') (hC : (cs.map (Value.int .i64)).toArray = C) (hD : (ss.map Value.string).toArray = D) (hb : n ≤ 140737488355328) :
    Calls Try.prog 8 #[.slice (some ⟨w.heap.size, 0, none⟩) n n, .slice (some ⟨w.heap.size + 1, 0, none⟩) n' n'] ((w.alloc (.cells C 3)).alloc (.cells D 9)) fun e w' => ∃ r, combR cs ss r ∧ e = .returned (.tuple #[.string r.1, .int .i64 r.2]) ∧ Below w.heap.size w w' := by
  subst hn hn' hC hD
  refine (vecCombine_any _ _ _ _ _ _ cs ss _ ((ints_lit w cs 3).below (below_alloc _ _)) (strs_lit_at (w.alloc (.cells (cs.map (Value.int .i64)).toArray 3)) ss 9 (w.heap.size + 1) (by simp)) hb).mono ?_
  rintro e w' ⟨r, hr, rfl, hb⟩
  exact ⟨r, hr, rfl, (below_two w _ _).trans (hb.mono (by simp; omega))⟩
theorem awk2 {r : ByteArray × Int} (h : combR [1, 2] [⟨#[97, 98]⟩, ⟨#[128, 1]⟩] r) : r = (⟨#[124, 96]⟩, 0) := by
  rcases h with ⟨_, rfl⟩ | ⟨h, _⟩
  · have : Vec.out [1, 2] [⟨#[97, 98]⟩, ⟨#[128, 1]⟩] = ⟨#[124, 96]⟩ := by decide +kernel
    rw [this]
  · exfalso
    apply h
    refine ⟨by decide, by decide, rfl, ?_, ?_⟩
    · intro i hi
      have : i = 0 ∨ i = 1 := by simp at hi; omega
      rcases this with rfl | rfl <;> exact ⟨rfl, by decide⟩
    · intro i hi
      have : i = 0 ∨ i = 1 := by simp at hi; omega
      rcases this with rfl | rfl <;> decide
theorem comb_len {cs : List Int} {ss : List ByteArray} {r : ByteArray × Int} (h : combR cs ss r) (hl : cs.length < 1 ∨ 12 < cs.length ∨ ss.length ≠ cs.length) : r = (ByteArray.empty, 200) := by
  rcases h with ⟨⟨h1, h2, h3, _⟩, _⟩ | ⟨_, rfl⟩
  · omega
  · rfl
set_option maxRecDepth 100000 in
theorem awake2_any (w : World) : Calls Try.prog 13 #[] w fun e w' => e = .returned (.bool true) ∧ Below w.heap.size w w' := by
  go_enter Try.func13, Try.ntmps13
  go_wp2_with fail
  refine (vecCombine_two _ [1, 2] [⟨#[97, 98]⟩, ⟨#[128, 1]⟩] 2 2 _ _ rfl rfl rfl rfl (by omega)).mono ?_
  rintro e w1 ⟨r, hr, rfl, hb1⟩
  rw [awk2 hr]
  clear hr r
  go_wp2_with fail
  refine (vecCombine_two _ [1] [⟨#[97]⟩, ⟨#[98]⟩] 1 2 _ _ rfl rfl rfl rfl (by omega)).mono ?_
  rintro e w2 ⟨r, hr, rfl, hb2⟩
  rw [comb_len hr (by simp)]
  clear hr r
  go_wp2_with fail
  refine (vecCombine_any _ _ 0 0 0 0 [] [] _ (ints_nil _) (strs_nil _) (by omega)).mono ?_
  rintro e w3 ⟨r, hr, rfl, hb3⟩
  rw [comb_len hr (by simp)]
  clear hr r
  go_wp2_with (go_at_call 10; refine (num_any _ _).mono ?_; rintro e w' ⟨rfl, rfl⟩)
  go_ret
  exact ⟨rfl, (hb1.trans (hb2.mono hb1.size)).trans (hb3.mono (Nat.le_trans hb1.size hb2.size))⟩
end Go.Proofs.Ytpcjhcjfclnjjaa
