/- 'awake' of the statements over package rebuild returns true. -/
import Derived.Test.YtcgagkaalbljmaaDoorRebWalk
import Derived.Test.YtcgagkaalbljmaaDoorAwake7
namespace Go.Proofs.YtcgagkaalbljmaaDoor
open Go.RowKit
set_option linter.unusedVariables false
set_option linter.unusedSimpArgs false
theorem reb_a : rebR 2 1 [⟨#[97]⟩, ⟨#[]⟩, ⟨#[103]⟩] [true, false, true] ([⟨#[97]⟩, ⟨#[98]⟩, ⟨#[103]⟩], 0) :=
  ⟨([⟨#[97]⟩, ⟨#[98]⟩], 0), .inr (.inr ⟨by decide +kernel, by decide +kernel, [[1, 0], [143, 142]], by decide +kernel, by decide +kernel⟩), .inr (.inr ⟨rfl, by decide +kernel⟩)⟩
theorem reb_b : rebR 2 1 [⟨#[97]⟩, ⟨#[]⟩, ⟨#[]⟩] [true, false, false] ([], 801) := ⟨([], 701), .inr (.inl ⟨by decide +kernel, by decide +kernel, rfl⟩), .inr (.inl ⟨by decide, by decide, rfl⟩)⟩
theorem reb_c : rebR 2 1 [] [] ([], 800) := ⟨([], 700), .inl ⟨by decide +kernel, rfl⟩, .inl ⟨rfl, rfl⟩⟩
/-- Rebuild over two lists that were just written down -/
theorem reb_two (w : World) (hM : Made w) (d p : Int) (ss : List ByteArray) (bs : List Bool) (n m : Nat) (C D : Array Value) (hC : C = (ss.map Value.string).toArray) (hD : D = (bs.map Value.bool).toArray) (hn : ss.length = n) (hm : bs.length = m) (h1 : n * 16 ≤ 140737488351232) (h2 : m ≤ 140737488351232) (r : List ByteArray × Int) (hr : rebR d p ss bs r) :
    Calls Tryd.prog 8 #[.agg #[.int .i64 d, .int .i64 p], .slice (some ⟨w.heap.size, 0, none⟩) n n, .slice (some ⟨w.heap.size + 1, 0, none⟩) m m] ((w.alloc (.cells C 9)).alloc (.cells D 4)) fun e w' =>
      ∃ q c, e = .returned (.tuple #[.slice q r.1.length c, .int .i64 r.2]) ∧ Strs w' q r.1.length c r.1 ∧ Below w.heap.size w w' := by
  refine (rebRebuild_any d p _ _ _ _ _ _ ss bs _ ((txt_lit w ss 9 w.heap.size C n rfl hC hn).below (below_alloc _ _)) (bool_lit (w.alloc (.cells C 9)) bs 4 (w.heap.size + 1) D m (by simp) hD hm) h1 h2 (hM.up (below_two w _ _))).mono ?_
  rintro e w' ⟨v, r', hr', rfl, ho, hb⟩
  obtain rfl := rebR_one hr hr'
  obtain ⟨q, c, rfl, hs⟩ := ho.strs
  exact ⟨q, c, rfl, hs, (below_two w _ _).trans (hb.mono (by simp; omega))⟩
set_option maxRecDepth 100000 in
set_option maxHeartbeats 1000000 in
theorem awake8_any (w : World) (hM : Made w) : Calls Tryd.prog 13 #[] w fun e w' => e = .returned (.bool true) ∧ Below w.heap.size w w' := by
  have MD := hide hM
  clear hM
  go_enter Tryd.func13, Tryd.ntmps13
  have BS := hide (heap_alloc_new w (.cells #[.int .i64 2, .int .i64 1] 23))
  have hx := below_alloc w (.cells #[.int .i64 2, .int .i64 1] 23)
  have hs0 : (w.alloc (.cells #[.int .i64 2, .int .i64 1] 23)).heap.size = w.heap.size + 1 := by simp
  go_wp2_with fail
  generalize (w.alloc (.cells #[.int .i64 2, .int .i64 1] 23)) = W0 at *
  rw [← hs0]
  have HB := hide hx
  refine (reb_two W0 ((unhide MD).up (unhide HB)) 2 1 [⟨#[97]⟩, ⟨#[]⟩, ⟨#[103]⟩] [true, false, true] 3 3 _ _ rfl rfl rfl rfl (by decide) (by decide) _ reb_a).mono ?_
  rintro e w1 ⟨q1, c1, rfl, S1, b1⟩
  replace BS := hide ((b1.block _ (lt_of_block (unhide BS))).trans (unhide BS))
  replace HB := hide (bt (unhide HB) b1)
  have T1 := hide S1
  clear S1 b1 hx hs0
  have cs0 := (box_two (unhide BS)).1
  have cs1 := (box_two (unhide BS)).2
  go_wp2_with fail
  refine (reb_two w1 ((unhide MD).up (unhide HB)) 2 1 [⟨#[97]⟩, ⟨#[]⟩, ⟨#[]⟩] [true, false, false] 3 3 _ _ rfl rfl rfl rfl (by decide) (by decide) _ reb_b).mono ?_
  rintro e w2 ⟨q2, c2, rfl, _, b2⟩
  replace BS := hide ((b2.block _ (lt_of_block (unhide BS))).trans (unhide BS))
  replace T1 := hide ((unhide T1).below b2)
  replace HB := hide (bt (unhide HB) b2)
  clear b2 cs0 cs1
  have cs0 := (box_two (unhide BS)).1
  have cs1 := (box_two (unhide BS)).2
  go_wp2_with fail
  refine (rebRebuild_any 2 1 _ _ _ _ _ _ [] [] w2 ⟨rfl, .inl ⟨rfl, rfl, rfl⟩⟩ ⟨rfl, .inl ⟨rfl, rfl, rfl⟩⟩ (by decide) (by decide) ((unhide MD).up (unhide HB))).mono ?_
  rintro e w3 ⟨v3, r3, hr3, rfl, O3, b3⟩
  obtain rfl := rebR_one reb_c hr3
  obtain ⟨q3, c3, rfl, _⟩ := O3.strs
  replace T1 := hide ((unhide T1).below b3)
  replace HB := hide (bt (unhide HB) b3)
  clear b3 cs0 cs1
  go_wp2_with fail
  have hx := below_alloc w3 (.cells #[.string ⟨#[97]⟩, .string ⟨#[98]⟩, .string ⟨#[103]⟩] 9)
  refine (sameTexts_any _ _ _ _ _ _ [⟨#[97]⟩, ⟨#[98]⟩, ⟨#[103]⟩] [⟨#[97]⟩, ⟨#[98]⟩, ⟨#[103]⟩] _ ((unhide T1).below hx) (txt_lit w3 [⟨#[97]⟩, ⟨#[98]⟩, ⟨#[103]⟩] 9 w3.heap.size _ 3 rfl rfl rfl) (by decide)).mono ?_
  rintro e w5 ⟨he, hd⟩
  rw [decide_eq_true rfl] at he
  subst he
  replace HB := hide (bt (unhide HB) (bt hx (below_drews hd)))
  clear hx hd
  go_wp2_with (go_at_call 11; refine (num_any _ _).mono ?_; rintro e w' ⟨rfl, rfl⟩)
  go_ret
  exact ⟨rfl, unhide HB⟩
end Go.Proofs.YtcgagkaalbljmaaDoor
