/- 'awake' of the statements over package decode returns true. -/
import Derived.Test.YtncehpbghnokpaaDoorDecWalk
namespace Go.Proofs.YtncehpbghnokpaaDoor
open Go.RowKit
set_option linter.unusedVariables false
set_option linter.unusedSimpArgs false
instance decFormDec (d p : Int) (ss : List ByteArray) (bs : List Bool) : Decidable (DecForm d p ss bs) := by unfold DecForm; exact inferInstance
theorem dec_a : decR 2 1 [⟨#[]⟩, ⟨#[98]⟩, ⟨#[103]⟩] [false, true, true] ([⟨#[97]⟩, ⟨#[98]⟩], 0) :=
  .inr (.inr ⟨by decide +kernel, by decide +kernel, [[245, 244], [1, 0]], by decide +kernel, by decide +kernel⟩)
theorem dec_b : decR 2 1 [⟨#[]⟩, ⟨#[98]⟩, ⟨#[]⟩] [false, true, false] ([], 701) := .inr (.inl ⟨by decide +kernel, by decide +kernel, rfl⟩)
theorem dec_c : decR 2 1 [⟨#[]⟩, ⟨#[98]⟩] [false, true] ([], 700) := .inl ⟨by decide +kernel, rfl⟩
theorem txt_lit (w : World) (ss : List ByteArray) (T : TypeId) (H : Nat) (C : Array Value) (n : Nat) (hH : w.heap.size = H) (hC : C = (ss.map Value.string).toArray) (hl : ss.length = n) : Strs (w.alloc (.cells C T)) (some ⟨H, 0, none⟩) n n ss := by
  subst hC hl hH
  refine ⟨rfl, ?_⟩
  by_cases h : ss.length = 0
  · exact .inr (.inl ⟨h, _, rfl⟩)
  · refine .inr (.inr ⟨by omega, Nat.le_refl _, _, _, rfl, fun i hi => ?_⟩)
    rw [Nat.zero_add, cell_of_row _ _ i _ T (0, 0) (heap_alloc_new w _)]
    simp [List.getElem?_eq_getElem hi]
theorem bool_lit (w : World) (bs : List Bool) (T : TypeId) (H : Nat) (C : Array Value) (n : Nat) (hH : w.heap.size = H) (hC : C = (bs.map Value.bool).toArray) (hl : bs.length = n) : Bools (w.alloc (.cells C T)) (some ⟨H, 0, none⟩) n n bs := by
  subst hC hl hH
  refine ⟨rfl, ?_⟩
  by_cases h : bs.length = 0
  · exact .inr (.inl ⟨h, _, rfl⟩)
  · refine .inr (.inr ⟨by omega, Nat.le_refl _, _, _, rfl, fun i hi => ?_⟩)
    rw [Nat.zero_add, cell_of_row _ _ i _ T (0, 0) (heap_alloc_new w _)]
    simp [List.getElem?_eq_getElem hi]
/-- Decode over two lists that were just written down -/
theorem dec_two (w : World) (hM : Made w) (d p : Int) (ss : List ByteArray) (bs : List Bool) (n m : Nat) (C D : Array Value) (hC : C = (ss.map Value.string).toArray) (hD : D = (bs.map Value.bool).toArray) (hn : ss.length = n) (hm : bs.length = m) (h1 : n * 16 ≤ 140737488351232) (h2 : m ≤ 140737488351232) (r : List ByteArray × Int) (hr : decR d p ss bs r) :
    Calls Tryd.prog 7 #[.agg #[.int .i64 d, .int .i64 p], .slice (some ⟨w.heap.size, 0, none⟩) n n, .slice (some ⟨w.heap.size + 1, 0, none⟩) m m] ((w.alloc (.cells C 9)).alloc (.cells D 4)) fun e w' =>
      ∃ q c, e = .returned (.tuple #[.slice q r.1.length c, .int .i64 r.2]) ∧ Strs w' q r.1.length c r.1 ∧ Below w.heap.size w w' := by
  refine (decDecode_any d p _ _ _ _ _ _ ss bs _ ((txt_lit w ss 9 w.heap.size C n rfl hC hn).below (below_alloc _ _)) (bool_lit (w.alloc (.cells C 9)) bs 4 (w.heap.size + 1) D m (by simp) hD hm) h1 h2 (hM.up (below_two w _ _))).mono ?_
  rintro e w' ⟨v, r', hr', rfl, ho, hb⟩
  obtain rfl := decR_one hr hr'
  obtain ⟨q, c, rfl, hs⟩ := ho.strs
  exact ⟨q, c, rfl, hs, (below_two w _ _).trans (hb.mono (by simp; omega))⟩
set_option maxRecDepth 100000 in
set_option maxHeartbeats 1000000 in
theorem awake7_any (w : World) (hM : Made w) : Calls Tryd.prog 12 #[] w fun e w' => e = .returned (.bool true) ∧ Below w.heap.size w w' := by
  have MD := hide hM
  clear hM
  go_enter Tryd.func12, Tryd.ntmps12
  have BS := hide (heap_alloc_new w (.cells #[.int .i64 2, .int .i64 1] 23))
  have hx := below_alloc w (.cells #[.int .i64 2, .int .i64 1] 23)
  have hs0 : (w.alloc (.cells #[.int .i64 2, .int .i64 1] 23)).heap.size = w.heap.size + 1 := by simp
  go_wp2_with fail
  generalize (w.alloc (.cells #[.int .i64 2, .int .i64 1] 23)) = W0 at *
  rw [← hs0]
  have HB := hide hx
  refine (dec_two W0 ((unhide MD).up (unhide HB)) 2 1 [⟨#[]⟩, ⟨#[98]⟩, ⟨#[103]⟩] [false, true, true] 3 3 _ _ rfl rfl rfl rfl (by decide) (by decide) _ dec_a).mono ?_
  rintro e w1 ⟨q1, c1, rfl, S1, b1⟩
  replace BS := hide ((b1.block _ (lt_of_block (unhide BS))).trans (unhide BS))
  replace HB := hide (bt (unhide HB) b1)
  have T1 := hide S1
  clear S1 b1 hx hs0
  have cs0 := (box_two (unhide BS)).1
  have cs1 := (box_two (unhide BS)).2
  go_wp2_with fail
  refine (dec_two w1 ((unhide MD).up (unhide HB)) 2 1 [⟨#[]⟩, ⟨#[98]⟩, ⟨#[]⟩] [false, true, false] 3 3 _ _ rfl rfl rfl rfl (by decide) (by decide) _ dec_b).mono ?_
  rintro e w2 ⟨q2, c2, rfl, _, b2⟩
  replace BS := hide ((b2.block _ (lt_of_block (unhide BS))).trans (unhide BS))
  replace T1 := hide ((unhide T1).below b2)
  replace HB := hide (bt (unhide HB) b2)
  clear b2 cs0 cs1
  have cs0 := (box_two (unhide BS)).1
  have cs1 := (box_two (unhide BS)).2
  go_wp2_with fail
  refine (dec_two w2 ((unhide MD).up (unhide HB)) 2 1 [⟨#[]⟩, ⟨#[98]⟩] [false, true] 2 2 _ _ rfl rfl rfl rfl (by decide) (by decide) _ dec_c).mono ?_
  rintro e w3 ⟨q3, c3, rfl, _, b3⟩
  replace T1 := hide ((unhide T1).below b3)
  replace HB := hide (bt (unhide HB) b3)
  clear b3 cs0 cs1
  go_wp2_with fail
  have hx := below_alloc w3 (.cells #[.string ⟨#[97]⟩, .string ⟨#[98]⟩] 9)
  refine (sameTexts_any _ _ _ _ _ _ [⟨#[97]⟩, ⟨#[98]⟩] [⟨#[97]⟩, ⟨#[98]⟩] _ ((unhide T1).below hx) (txt_lit w3 [⟨#[97]⟩, ⟨#[98]⟩] 9 w3.heap.size _ 2 rfl rfl rfl) (by decide)).mono ?_
  rintro e w5 ⟨he, hd⟩
  rw [decide_eq_true rfl] at he
  subst he
  replace HB := hide (bt (unhide HB) (bt hx (below_drews hd)))
  clear hx hd
  go_wp2_with (go_at_call 10; refine (num_any _ _).mono ?_; rintro e w' ⟨rfl, rfl⟩)
  go_ret
  exact ⟨rfl, unhide HB⟩
end Go.Proofs.YtncehpbghnokpaaDoor
