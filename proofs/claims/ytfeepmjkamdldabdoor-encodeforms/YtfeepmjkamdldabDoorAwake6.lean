/- 'awake' of the statements over package encode returns true. -/
import Derived.Test.YtfeepmjkamdldabDoorKEnc
namespace Go.Proofs.YtfeepmjkamdldabDoor
open Go.RowKit
set_option linter.unusedVariables false
set_option linter.unusedSimpArgs false
theorem sts_lit (w : World) (ss : List ByteArray) (T : TypeId) (C : Array Value) (n : Nat) (hC : C = (ss.map Value.string).toArray) (hl : ss.length = n) : Strs (w.alloc (.cells C T)) (some ⟨w.heap.size, 0, none⟩) n n ss := by
  subst hC hl
  refine ⟨rfl, ?_⟩
  by_cases h : ss.length = 0
  · exact .inr (.inl ⟨h, _, rfl⟩)
  · refine .inr (.inr ⟨by omega, Nat.le_refl _, _, _, rfl, fun i hi => ?_⟩)
    rw [Nat.zero_add, cell_of_row _ _ i _ T (0, 0) (heap_alloc_new w _)]
    simp [List.getElem?_eq_getElem hi]
theorem enc_a : encF 2 1 [⟨#[97]⟩, ⟨#[98]⟩] = ([⟨#[103]⟩], 0) := by decide +kernel
theorem enc_b : encF 2 1 [⟨#[97]⟩] = ([], 600) := by decide +kernel
theorem enc_c : encF 2 1 [⟨#[97]⟩, ⟨#[98, 99]⟩] = ([], 600) := by decide +kernel
theorem enc_d : encF 1 0 [⟨#[]⟩] = ([], 0) := by decide +kernel
set_option maxRecDepth 100000 in
set_option maxHeartbeats 1000000 in
theorem awake6_any (w : World) (hm : Made w) : Calls Tryd.prog 4 #[] w fun e w' => e = .returned (.bool true) ∧ Below w.heap.size w w' := by
  have MD := hide hm
  clear hm
  go_enter Tryd.func4, Tryd.ntmps4
  go_wp2_with fail
  refine (encEncode_fun 2 1 _ _ _ [⟨#[97]⟩, ⟨#[98]⟩] _ (sts_lit w [⟨#[97]⟩, ⟨#[98]⟩] 9 _ 2 rfl rfl) (by decide) ((unhide MD).up (below_alloc w _))).mono ?_
  rintro e w1 ⟨v1, he, O1, b1⟩
  rw [enc_a] at he O1
  subst he
  obtain ⟨p1, c1, rfl, S1⟩ := O1.strs
  have HB := hide (bt (below_alloc w _) b1)
  have T1 := hide S1
  clear O1 b1 S1
  go_wp2_with fail
  refine (encEncode_fun 2 1 _ _ _ [⟨#[97]⟩] _ (sts_lit w1 [⟨#[97]⟩] 9 _ 1 rfl rfl) (by decide) ((unhide MD).up (bt (unhide HB) (below_alloc w1 _)))).mono ?_
  rintro e w2 ⟨v2, he, O2, b2⟩
  rw [enc_b] at he O2
  subst he
  obtain ⟨p2, c2, rfl, S2⟩ := O2.strs
  replace b2 := bt (below_alloc w1 _) b2
  replace T1 := hide ((unhide T1).below b2)
  replace HB := hide (bt (unhide HB) b2)
  clear O2 b2 S2
  go_wp2_with fail
  refine (encEncode_fun 2 1 _ _ _ [⟨#[97]⟩, ⟨#[98, 99]⟩] _ (sts_lit w2 [⟨#[97]⟩, ⟨#[98, 99]⟩] 9 _ 2 rfl rfl) (by decide) ((unhide MD).up (bt (unhide HB) (below_alloc w2 _)))).mono ?_
  rintro e w3 ⟨v3, he, O3, b3⟩
  rw [enc_c] at he O3
  subst he
  obtain ⟨p3, c3, rfl, S3⟩ := O3.strs
  replace b3 := bt (below_alloc w2 _) b3
  replace T1 := hide ((unhide T1).below b3)
  replace HB := hide (bt (unhide HB) b3)
  clear O3 b3 S3
  go_wp2_with fail
  refine (encEncode_fun 1 0 _ _ _ [⟨#[]⟩] _ (sts_lit w3 [⟨#[]⟩] 9 _ 1 rfl rfl) (by decide) ((unhide MD).up (bt (unhide HB) (below_alloc w3 _)))).mono ?_
  rintro e w4 ⟨v4, he, O4, b4⟩
  rw [enc_d] at he O4
  subst he
  obtain ⟨p4, c4, rfl, S4⟩ := O4.strs
  replace b4 := bt (below_alloc w3 _) b4
  replace T1 := hide ((unhide T1).below b4)
  replace HB := hide (bt (unhide HB) b4)
  clear O4 b4 S4
  go_wp2_with fail
  have hx := below_alloc w4 (.cells #[.string ⟨#[103]⟩] 9)
  refine (sameTexts_any _ _ _ _ _ _ [⟨#[103]⟩] [⟨#[103]⟩] _ ((unhide T1).below hx) (sts_lit w4 [⟨#[103]⟩] 9 _ 1 rfl rfl) (by decide)).mono ?_
  rintro e w5 ⟨he, hd⟩
  rw [decide_eq_true rfl] at he
  subst he
  replace HB := hide (bt (unhide HB) (bt hx (below_drews hd)))
  clear hx hd
  go_wp2_with (go_at_call 6; refine (num_any _ _).mono ?_; rintro e w' ⟨rfl, rfl⟩)
  go_ret
  exact ⟨rfl, unhide HB⟩
end Go.Proofs.YtfeepmjkamdldabDoor
