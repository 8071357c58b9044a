/- 'awake' of the statements over package proof returns true. -/
import Derived.Test.YtcoggfpjomgajabProofWalk
import Derived.Test.YtcoggfpjomgajabAwake10
namespace Go.Proofs.Ytcoggfpjomgajab
open Go.RowKit
set_option linter.unusedVariables false
set_option linter.unusedSimpArgs false
theorem path_1 : pathP [1, 2, 3] 1 = ([1, 3], 0) := by decide +kernel
theorem path_2 : pathP [1, 2, 3] 2 = ([(q12 : Int)], 0) := by decide +kernel
theorem path_3 : pathP [1, 2, 3] 3 = ([], 1100) := by decide +kernel
theorem chk_1 : decide (Chk (q123 : Int) 3 1 2 [1, 3]) = true := by decide +kernel
theorem chk_2 : decide (Chk (q123 : Int) 3 0 2 [1, 3]) = false := by decide +kernel
theorem chk_3 : decide (Chk (q123 : Int) 3 1 2 [(q12 : Int)]) = false := by decide +kernel
set_option maxRecDepth 100000 in
set_option maxHeartbeats 2000000 in
theorem awake11_any (w : World) : Calls Try.prog 17 #[] w fun e w' => e = .returned (.bool true) ∧ Below w.heap.size w w' := by
  go_enter Try.func17, Try.ntmps17
  have h0 := int_lit w [1, 2, 3] 3 w.heap.size #[.int .i64 1, .int .i64 2, .int .i64 3] 3 rfl rfl rfl
  have hB := below_alloc w (.cells #[.int .i64 1, .int .i64 2, .int .i64 3] 3)
  have HL := hide h0
  have B := hide hB
  clear h0 hB
  go_wp2_with fail
  refine (treeRoot_any _ _ _ [1, 2, 3] _ (unhide HL) (by decide)).mono ?_
  rintro e w1 ⟨rfl, b1⟩
  rw [root_123]
  replace HL := hide ((unhide HL).below b1)
  replace B := hide (bt (unhide B) b1)
  clear b1
  generalize hq : q123 = Q
  have HQ := hide hq
  clear hq
  go_wp2_with fail
  refine (proofPath_any _ _ _ [1, 2, 3] 1 _ (unhide HL) (by decide)).mono ?_
  rintro e w2 ⟨v2, he, O2, b2⟩
  rw [path_1] at he O2
  subst he
  obtain ⟨p2, c2, rfl, S2⟩ := O2.ints
  have HP := hide S2
  replace HL := hide ((unhide HL).below b2)
  replace B := hide (bt (unhide B) b2)
  clear b2 O2 S2
  go_wp2_with fail
  refine (proofPath_any _ _ _ [1, 2, 3] 2 _ (unhide HL) (by decide)).mono ?_
  rintro e w3 ⟨v3, he, O3, b3⟩
  rw [path_2] at he O3
  subst he
  obtain ⟨p3, c3, rfl, S3⟩ := O3.ints
  have HR := hide S3
  replace HL := hide ((unhide HL).below b3)
  replace HP := hide ((unhide HP).below b3)
  replace B := hide (bt (unhide B) b3)
  clear b3 O3 S3
  go_wp2_with fail
  refine (proofPath_any _ _ _ [1, 2, 3] 3 _ (unhide HL) (by decide)).mono ?_
  rintro e w4 ⟨v4, he, O4, b4⟩
  rw [path_3] at he O4
  subst he
  obtain ⟨p4, c4, rfl, S4⟩ := O4.ints
  replace HP := hide ((unhide HP).below b4)
  replace HR := hide ((unhide HR).below b4)
  replace B := hide (bt (unhide B) b4)
  clear b4 O4 S4 HL
  replace HP : Hid (Ints w4 p2 2 c2 [1, 3]) := HP
  replace HR : Hid (Ints w4 p3 1 c3 [(q12 : Int)]) := HR
  go_wp2_with fail
  refine (num_any _ _).mono ?_
  rintro e w5 ⟨rfl, rfl⟩
  go_wp2_with fail
  have hx := below_alloc w5 (.cells #[.int .i64 1, .int .i64 3] 3)
  refine (sameInts_any _ _ _ _ _ _ [1, 3] [1, 3] _ ((unhide HP).below hx) (int_lit w5 [1, 3] 3 w5.heap.size _ 2 rfl rfl rfl) (by decide)).mono ?_
  rintro e w6 ⟨he, dm, rfl⟩
  rw [show (([1, 3] : List Int) == [1, 3]) = true from beq_self_eq_true _] at he
  subst he
  have hx2 := bt hx (below_drewN _ _ dm)
  replace HP := hide ((unhide HP).below hx2)
  replace HR := hide ((unhide HR).below hx2)
  replace B := hide (bt (unhide B) hx2)
  clear hx hx2
  generalize ((w5.alloc (.cells #[.int .i64 1, .int .i64 3] 3)).drewN dm) = w6 at *
  go_wp2_with (go_at_call 12; refine (num_any _ _).mono ?_; rintro e w' ⟨rfl, hw'⟩; rw [hw']; clear hw' w')
  refine (proofCheck_any _ _ _ _ _ _ _ [1, 3] _ (unhide HP) (by decide)).mono ?_
  rintro e w7 ⟨he, b7⟩
  rw [← unhide HQ, chk_1] at he
  subst he
  replace HP := hide ((unhide HP).below b7)
  replace HR := hide ((unhide HR).below b7)
  replace B := hide (bt (unhide B) b7)
  clear b7
  go_wp2_with fail
  refine (proofCheck_any _ _ _ _ _ _ _ [1, 3] _ (unhide HP) (by decide)).mono ?_
  rintro e w8 ⟨he, b8⟩
  rw [← unhide HQ, chk_2] at he
  subst he
  replace HR := hide ((unhide HR).below b8)
  replace B := hide (bt (unhide B) b8)
  clear b8
  go_wp2_with fail
  refine (proofCheck_any _ _ _ _ _ _ _ [(q12 : Int)] _ (unhide HR) (by decide)).mono ?_
  rintro e w9 ⟨he, b9⟩
  rw [← unhide HQ, chk_3] at he
  subst he
  replace B := hide (bt (unhide B) b9)
  clear b9
  go_wp2
  go_ret
  exact ⟨rfl, unhide B⟩
end Go.Proofs.Ytcoggfpjomgajab
