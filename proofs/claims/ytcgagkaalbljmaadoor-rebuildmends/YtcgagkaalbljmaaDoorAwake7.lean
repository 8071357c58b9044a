/- 'awake' of the statements over package decode returns true. -/
import Derived.Test.YtcgagkaalbljmaaDoorDecWalk
namespace Go.Proofs.YtcgagkaalbljmaaDoor
open Go.RowKit
set_option linter.unusedVariables false
set_option linter.unusedSimpArgs false
instance decFormDec (d p : Int) (ss : List ByteArray) (bs : List Bool) : Decidable (DecForm d p ss bs) := by unfold DecForm; exact inferInstance
theorem dec_a : decR 2 1 [⟨#[]⟩, ⟨#[98]⟩, ⟨#[103]⟩] [false, true, true] ([⟨#[97]⟩, ⟨#[98]⟩], 0) :=
  .inr (.inr ⟨by decide +kernel, by decide +kernel, [[245, 244], [1, 0]], by decide +kernel, by decide +kernel⟩)
theorem dec_b : decR 2 1 [⟨#[]⟩, ⟨#[98]⟩, ⟨#[]⟩] [false, true, false] ([], 701) := .inr (.inl ⟨by decide +kernel, by decide +kernel, rfl⟩)
theorem dec_c : decR 2 1 [⟨#[]⟩, ⟨#[98]⟩] [false, true] ([], 700) := .inl ⟨by decide +kernel, rfl⟩
theorem txt_lit (w : World) (ss : List ByteArray) (T : TypeId) (H : Nat) (C : Array Value) (n : Nat) (hH : w.heap.size = H) (hC : C = (ss.map Value.string).toArray) (hl : ss.length = n) : Strs (w.alloc (.cells C T)) (some ⟨H, 0, none⟩) n n ss := by
  subst hC hl hH
  refine ⟨rfl, ?_⟩
  by_cases h : ss.length = 0
  · exact .inr (.inl ⟨h, _, rfl⟩)
  · refine .inr (.inr ⟨by omega, Nat.le_refl _, _, _, rfl, fun i hi => ?_⟩)
    rw [Nat.zero_add, cell_of_row _ _ i _ T (0, 0) (heap_alloc_new w _)]
    simp [List.getElem?_eq_getElem hi]
theorem bool_lit (w : World) (bs : List Bool) (T : TypeId) (H : Nat) (C : Array Value) (n : Nat) (hH : w.heap.size = H) (hC : C = (bs.map Value.bool).toArray) (hl : bs.length = n) : Bools (w.alloc (.cells C T)) (some ⟨H, 0, none⟩) n n bs := by
  subst hC hl hH
  refine ⟨rfl, ?_⟩
  by_cases h : bs.length = 0
  · exact .inr (.inl ⟨h, _, rfl⟩)
  · refine .inr (.inr ⟨by omega, Nat.le_refl _, _, _, rfl, fun i hi => ?_⟩)
    rw [Nat.zero_add, cell_of_row _ _ i _ T (0, 0) (heap_alloc_new w _)]
    simp [List.getElem?_eq_getElem hi]
/-- Decode over two lists that were just written down -/
theorem dec_two (w : World) (hM : Made w) (d p : Int) (ss : List ByteArray) (bs : List Bool) (n m : Nat) (C D : Array Value) (hC : C = (ss.map Value.string).toArray) (hD : D = (bs.map Value.bool).toArray) (hn : ss.length = n) (hm : bs.length = m) (h1 : n * 16 ≤ 140737488351232) (h2 : m ≤ 140737488351232) (r : List ByteArray × Int) (hr : decR d p ss bs r) :
    Calls Tryd.prog 17 #[.agg #[.int .i64 d, .int .i64 p], .slice (some ⟨w.heap.size, 0, none⟩) n n, .slice (some ⟨w.heap.size + 1, 0, none⟩) m m] ((w.alloc (.cells C 9)).alloc (.cells D 4)) fun e w' =>
      ∃ q c, e = .returned (.tuple #[.slice q r.1.length c, .int .i64 r.2]) ∧ Strs w' q r.1.length c r.1 ∧ Below w.heap.size w w' := by
  refine (decDecode_any d p _ _ _ _ _ _ ss bs _ ((txt_lit w ss 9 w.heap.size C n rfl hC hn).below (below_alloc _ _)) (bool_lit (w.alloc (.cells C 9)) bs 4 (w.heap.size + 1) D m (by simp) hD hm) h1 h2 (hM.up (below_two w _ _))).mono ?_
  rintro e w' ⟨v, r', hr', rfl, ho, hb⟩
  obtain rfl := decR_one hr hr'
  obtain ⟨q, c, rfl, hs⟩ := ho.strs
  exact ⟨q, c, rfl, hs, (below_two w _ _).trans (hb.mono (by simp; omega))⟩
end Go.Proofs.YtcgagkaalbljmaaDoor
