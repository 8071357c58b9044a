/- MatrixThree: whichever two are multiplied first. -/
import Derived.Test.YtpkofmpghhaobaaAwake3
namespace Go.Proofs.Ytpkofmpghhaobaa
open Go.RowKit
set_option linter.unusedVariables false
set_option linter.unusedSimpArgs false
theorem mulF_yes {A B : List (List Int)} (h : MulMay A B) : mulF A B = (mulM A B, 0) := by simp [mulF, h]
theorem mulF_no {A B : List (List Int)} (h : ¬ MulMay A B) : mulF A B = ([], 300) := by simp [mulF, h]
theorem three_ab {A B C : List (List Int)} (h1 : MulMay A B) (h2 : MulMay B C) : MulMay (mulM A B) C := ⟨mulM_may h1.1 h1.2.1, h2.2.1, by rw [mulM_head h1.1.1]; exact h2.2.2⟩
theorem three_bc {A B C : List (List Int)} (h1 : MulMay A B) (h2 : MulMay B C) : MulMay A (mulM B C) := ⟨h1.1, mulM_may h2.1 h2.2.1, by rw [mulM_len]; exact h1.2.2⟩
theorem three_id {A : List (List Int)} (h : MMay A) : MulMay (idM A.length) A := ⟨idM_may h.1 h.2.1, h, idM_head h.1⟩
theorem idF_len {A : List (List Int)} (h : MMay A) : idF (A.length : Int) = (idM A.length, 0) := by
  have h1 := h.1
  have h2 := h.2.1
  simp only [idF]
  rw [if_pos (by omega), Int.toNat_natCast]
set_option maxRecDepth 100000 in
set_option maxHeartbeats 2000000 in
theorem MatrixThree_go (v0 v1 v2 : Value) (A B C : List (List Int)) (w : World) (h0 : MatV w v0 A) (h1 : MatV w v1 B) (h2 : MatV w v2 C) :
    Calls Try.prog 4 #[v0, v1, v2] w fun e w' => e = .returned (.bool true) ∧ Below w.heap.size w w' := by
  have MA := hide h0
  have MB := hide h1
  have MC := hide h2
  obtain ⟨pa, na, ca, rfl, Ra⟩ := h0
  obtain ⟨pb, nb, cb, rfl, Rb⟩ := h1
  obtain ⟨pc, nc, cc, rfl, Rc⟩ := h2
  have hna : A.length = na := by obtain ⟨_, h, _⟩ := Ra; exact h
  have HNA := hide hna
  clear Ra Rb Rc hna
  go_enter Try.func4, Try.ntmps4
  go_wp2_with fail
  have BA := hide (three_old w (.cells #[.slice pa na ca] 24) (.cells #[.slice pb nb cb] 24) (.cells #[.slice pc nc cc] 24))
  have BB := hide (three_mid w (.cells #[.slice pa na ca] 24) (.cells #[.slice pb nb cb] 24) (.cells #[.slice pc nc cc] 24))
  have BC := hide (three_new w (.cells #[.slice pa na ca] 24) (.cells #[.slice pb nb cb] 24) (.cells #[.slice pc nc cc] 24))
  have hb0 : Below w.heap.size w (((w.alloc (.cells #[.slice pa na ca] 24)).alloc (.cells #[.slice pb nb cb] 24)).alloc (.cells #[.slice pc nc cc] 24)) := by go_grown
  generalize (((w.alloc (.cells #[.slice pa na ca] 24)).alloc (.cells #[.slice pb nb cb] 24)).alloc (.cells #[.slice pc nc cc] 24)) = W0 at *
  replace MA := hide ((unhide MA).below hb0)
  replace MB := hide ((unhide MB).below hb0)
  replace MC := hide ((unhide MC).below hb0)
  have HB := hide hb0
  clear hb0
  refine (awake3_any _).mono ?_
  rintro e w1 ⟨rfl, b1⟩
  replace BA := hide ((b1.block _ (lt_of_block (unhide BA))).trans (unhide BA))
  replace BB := hide ((b1.block _ (lt_of_block (unhide BB))).trans (unhide BB))
  replace BC := hide ((b1.block _ (lt_of_block (unhide BC))).trans (unhide BC))
  replace MA := hide ((unhide MA).below b1)
  replace MB := hide ((unhide MB).below b1)
  replace MC := hide ((unhide MC).below b1)
  replace HB := hide (bt (unhide HB) b1)
  clear b1 W0
  have cBA := cell_of_one (unhide BA)
  have dBA := fun o => ((below_alloc w1 o).cell (cell_lt cBA)).trans cBA
  have cBB := cell_of_one (unhide BB)
  have dBB := fun o => ((below_alloc w1 o).cell (cell_lt cBB)).trans cBB
  have cBC := cell_of_one (unhide BC)
  have dBC := fun o => ((below_alloc w1 o).cell (cell_lt cBC)).trans cBC
  go_wp2_with fail
  refine (matMul_fun _ _ A B _ (unhide MA) (unhide MB)).mono ?_
  rintro e w2 ⟨u2, rfl, O2, b2⟩
  obtain ⟨p2, n2, c2, rfl, e2⟩ := O2.form
  replace BA := hide ((b2.block _ (lt_of_block (unhide BA))).trans (unhide BA))
  replace BB := hide ((b2.block _ (lt_of_block (unhide BB))).trans (unhide BB))
  replace BC := hide ((b2.block _ (lt_of_block (unhide BC))).trans (unhide BC))
  replace MA := hide ((unhide MA).below b2)
  replace MB := hide ((unhide MB).below b2)
  replace MC := hide ((unhide MC).below b2)
  replace HB := hide (bt (unhide HB) b2)
  have M2 := hide (O2.matV (mulF_le _ _))
  have E2 := hide e2
  clear O2 b2 e2 cBA cBB cBC dBA dBB dBC
  have cBA := cell_of_one (unhide BA)
  have dBA := fun o => ((below_alloc w2 o).cell (cell_lt cBA)).trans cBA
  have cBB := cell_of_one (unhide BB)
  have dBB := fun o => ((below_alloc w2 o).cell (cell_lt cBB)).trans cBB
  have cBC := cell_of_one (unhide BC)
  have dBC := fun o => ((below_alloc w2 o).cell (cell_lt cBC)).trans cBC
  go_wp2_with fail
  have hx3 := below_alloc w2 (.cells #[.slice p2 n2 c2] 24)
  have B2 := hide (heap_alloc_new w2 (.cells #[.slice p2 n2 c2] 24))
  refine (matMul_fun _ _ B C _ ((unhide MB).below hx3) ((unhide MC).below hx3)).mono ?_
  rintro e w3 ⟨u3, rfl, O3, b3⟩
  obtain ⟨p3, n3, c3, rfl, e3⟩ := O3.form
  replace B2 := hide ((b3.block _ (lt_of_block (unhide B2))).trans (unhide B2))
  replace b3 := bt hx3 b3
  replace BA := hide ((b3.block _ (lt_of_block (unhide BA))).trans (unhide BA))
  replace BB := hide ((b3.block _ (lt_of_block (unhide BB))).trans (unhide BB))
  replace BC := hide ((b3.block _ (lt_of_block (unhide BC))).trans (unhide BC))
  replace MA := hide ((unhide MA).below b3)
  replace MB := hide ((unhide MB).below b3)
  replace MC := hide ((unhide MC).below b3)
  replace M2 := hide ((unhide M2).below b3)
  replace HB := hide (bt (unhide HB) b3)
  have M3 := hide (O3.matV (mulF_le _ _))
  have E3 := hide e3
  clear O3 b3 hx3 e3 cBA cBB cBC dBA dBB dBC
  have cBA := cell_of_one (unhide BA)
  have dBA := fun o => ((below_alloc w3 o).cell (cell_lt cBA)).trans cBA
  have cBB := cell_of_one (unhide BB)
  have dBB := fun o => ((below_alloc w3 o).cell (cell_lt cBB)).trans cBB
  have cBC := cell_of_one (unhide BC)
  have dBC := fun o => ((below_alloc w3 o).cell (cell_lt cBC)).trans cBC
  have cB2 := cell_of_one (unhide B2)
  have dB2 := fun o => ((below_alloc w3 o).cell (cell_lt cB2)).trans cB2
  by_cases hAB : MulMay A B
  · rw [mulF_yes hAB] at E2 M2 ⊢
    by_cases hBC : MulMay B C
    · rw [mulF_yes hBC] at E3 M3 ⊢
      go_wp2_with (go_at_call 15; refine (num_any _ _).mono ?_; rintro e w' ⟨rfl, rfl⟩)
      have hx4 := below_alloc w3 (.cells #[.slice p3 n3 c3] 24)
      have B3 := hide (heap_alloc_new w3 (.cells #[.slice p3 n3 c3] 24))
      refine (matMul_fun _ _ (mulM A B) C _ ((unhide M2).below hx4) ((unhide MC).below hx4)).mono ?_
      rintro e w4 ⟨u4, he, O4, b4⟩
      rw [mulF_yes (three_ab hAB hBC)] at he O4
      subst he
      obtain ⟨p4, n4, c4, rfl, e4⟩ := O4.form
      replace B3 := hide ((b4.block _ (lt_of_block (unhide B3))).trans (unhide B3))
      replace b4 := bt hx4 b4
      replace BA := hide ((b4.block _ (lt_of_block (unhide BA))).trans (unhide BA))
      replace BB := hide ((b4.block _ (lt_of_block (unhide BB))).trans (unhide BB))
      replace BC := hide ((b4.block _ (lt_of_block (unhide BC))).trans (unhide BC))
      replace B2 := hide ((b4.block _ (lt_of_block (unhide B2))).trans (unhide B2))
      replace MA := hide ((unhide MA).below b4)
      replace MB := hide ((unhide MB).below b4)
      replace MC := hide ((unhide MC).below b4)
      replace M2 := hide ((unhide M2).below b4)
      replace M3 := hide ((unhide M3).below b4)
      replace HB := hide (bt (unhide HB) b4)
      have M4 := hide (O4.matV (rows_le (mulM_may (mulM_may hAB.1 hAB.2.1) hBC.2.1)))
      clear O4 b4 hx4 e4 cBA cBB cBC cB2 dBA dBB dBC dB2
      have cBA := cell_of_one (unhide BA)
      have dBA := fun o => ((below_alloc w4 o).cell (cell_lt cBA)).trans cBA
      have cBB := cell_of_one (unhide BB)
      have dBB := fun o => ((below_alloc w4 o).cell (cell_lt cBB)).trans cBB
      have cBC := cell_of_one (unhide BC)
      have dBC := fun o => ((below_alloc w4 o).cell (cell_lt cBC)).trans cBC
      have cB2 := cell_of_one (unhide B2)
      have dB2 := fun o => ((below_alloc w4 o).cell (cell_lt cB2)).trans cB2
      have cB3 := cell_of_one (unhide B3)
      have dB3 := fun o => ((below_alloc w4 o).cell (cell_lt cB3)).trans cB3
      go_wp2_with (go_at_call 15; refine (num_any _ _).mono ?_; rintro e w' ⟨rfl, rfl⟩)
      have hx5 := below_alloc w4 (.cells #[.slice p4 n4 c4] 24)
      have B4 := hide (heap_alloc_new w4 (.cells #[.slice p4 n4 c4] 24))
      refine (matMul_fun _ _ A (mulM B C) _ ((unhide MA).below hx5) ((unhide M3).below hx5)).mono ?_
      rintro e w5 ⟨u5, he, O5, b5⟩
      rw [mulF_yes (three_bc hAB hBC)] at he O5
      subst he
      obtain ⟨p5, n5, c5, rfl, e5⟩ := O5.form
      replace B4 := hide ((b5.block _ (lt_of_block (unhide B4))).trans (unhide B4))
      replace b5 := bt hx5 b5
      replace BA := hide ((b5.block _ (lt_of_block (unhide BA))).trans (unhide BA))
      replace BB := hide ((b5.block _ (lt_of_block (unhide BB))).trans (unhide BB))
      replace BC := hide ((b5.block _ (lt_of_block (unhide BC))).trans (unhide BC))
      replace B2 := hide ((b5.block _ (lt_of_block (unhide B2))).trans (unhide B2))
      replace B3 := hide ((b5.block _ (lt_of_block (unhide B3))).trans (unhide B3))
      replace MA := hide ((unhide MA).below b5)
      replace MB := hide ((unhide MB).below b5)
      replace MC := hide ((unhide MC).below b5)
      replace M2 := hide ((unhide M2).below b5)
      replace M3 := hide ((unhide M3).below b5)
      replace M4 := hide ((unhide M4).below b5)
      replace HB := hide (bt (unhide HB) b5)
      have M5 := hide (O5.matV (rows_le (mulM_may hAB.1 (mulM_may hBC.1 hBC.2.1))))
      clear O5 b5 hx5 e5 cBA cBB cBC cB2 cB3 dBA dBB dBC dB2 dB3
      have cBA := cell_of_one (unhide BA)
      have dBA := fun o => ((below_alloc w5 o).cell (cell_lt cBA)).trans cBA
      have cB4 := cell_of_one (unhide B4)
      have dB4 := fun o => ((below_alloc w5 o).cell (cell_lt cB4)).trans cB4
      go_wp2_with (go_at_call 15; refine (num_any _ _).mono ?_; rintro e w' ⟨rfl, rfl⟩)
      have hx6 := below_alloc w5 (.cells #[.slice p5 n5 c5] 24)
      have B5 := hide (heap_alloc_new w5 (.cells #[.slice p5 n5 c5] 24))
      refine (matIdentity_fun _ _).mono ?_
      rintro e w6 ⟨u6, he, O6, b6⟩
      rw [← unhide HNA, idF_len hAB.1] at he O6
      subst he
      obtain ⟨p6, n6, c6, rfl, e6⟩ := O6.form
      replace B5 := hide ((b6.block _ (lt_of_block (unhide B5))).trans (unhide B5))
      replace b6 := bt hx6 b6
      replace BA := hide ((b6.block _ (lt_of_block (unhide BA))).trans (unhide BA))
      replace B4 := hide ((b6.block _ (lt_of_block (unhide B4))).trans (unhide B4))
      replace MA := hide ((unhide MA).below b6)
      replace M4 := hide ((unhide M4).below b6)
      replace M5 := hide ((unhide M5).below b6)
      replace HB := hide (bt (unhide HB) b6)
      have M6 := hide (O6.matV (rows_le (idM_may hAB.1.1 hAB.1.2.1)))
      clear O6 b6 hx6 e6 cBA cB4 dBA dB4
      have cBA := cell_of_one (unhide BA)
      have dBA := fun o => ((below_alloc w6 o).cell (cell_lt cBA)).trans cBA
      have cB4 := cell_of_one (unhide B4)
      have dB4 := fun o => ((below_alloc w6 o).cell (cell_lt cB4)).trans cB4
      have cB5 := cell_of_one (unhide B5)
      have dB5 := fun o => ((below_alloc w6 o).cell (cell_lt cB5)).trans cB5
      go_wp2_with (go_at_call 15; refine (num_any _ _).mono ?_; rintro e w' ⟨rfl, rfl⟩)
      have hx7 := below_alloc w6 (.cells #[.slice p6 n6 c6] 24)
      refine (matMul_fun _ _ (idM A.length) A _ ((unhide M6).below hx7) ((unhide MA).below hx7)).mono ?_
      rintro e w7 ⟨u7, he, O7, b7⟩
      rw [mulF_yes (three_id hAB.1), idM_mul hAB.1] at he O7
      subst he
      obtain ⟨p7, n7, c7, rfl, e7⟩ := O7.form
      replace b7 := bt hx7 b7
      replace BA := hide ((b7.block _ (lt_of_block (unhide BA))).trans (unhide BA))
      replace B4 := hide ((b7.block _ (lt_of_block (unhide B4))).trans (unhide B4))
      replace B5 := hide ((b7.block _ (lt_of_block (unhide B5))).trans (unhide B5))
      replace MA := hide ((unhide MA).below b7)
      replace M4 := hide ((unhide M4).below b7)
      replace M5 := hide ((unhide M5).below b7)
      replace HB := hide (bt (unhide HB) b7)
      have M7 := hide (O7.matV (rows_le hAB.1))
      clear O7 b7 hx7 e7 cBA cB4 cB5 dBA dB4 dB5
      have cBA := cell_of_one (unhide BA)
      have dBA := fun o => ((below_alloc w7 o).cell (cell_lt cBA)).trans cBA
      have cB4 := cell_of_one (unhide B4)
      have dB4 := fun o => ((below_alloc w7 o).cell (cell_lt cB4)).trans cB4
      have cB5 := cell_of_one (unhide B5)
      have dB5 := fun o => ((below_alloc w7 o).cell (cell_lt cB5)).trans cB5
      go_wp2_with (go_at_call 15; refine (num_any _ _).mono ?_; rintro e w' ⟨rfl, rfl⟩)
      have hx8 := below_alloc w7 (.cells #[.slice p7 n7 c7] 24)
      have B7 := hide (heap_alloc_new w7 (.cells #[.slice p7 n7 c7] 24))
      refine (sameMatrix_any _ _ _ _ _ ((unhide M4).below hx8) ((unhide M5).below hx8)).mono ?_
      rintro e w8 ⟨he, b8⟩
      rw [mulM_assoc hAB.1.1 hBC.1.1 hAB.2.2 hBC.2.2, beq_self_eq_true] at he
      subst he
      replace B7 := hide ((b8.block _ (lt_of_block (unhide B7))).trans (unhide B7))
      replace b8 := bt hx8 b8
      replace BA := hide ((b8.block _ (lt_of_block (unhide BA))).trans (unhide BA))
      replace MA := hide ((unhide MA).below b8)
      replace M7 := hide ((unhide M7).below b8)
      replace HB := hide (bt (unhide HB) b8)
      clear b8 hx8 cBA cB4 cB5 dBA dB4 dB5
      have cBA := cell_of_one (unhide BA)
      have dBA := fun o => ((below_alloc w8 o).cell (cell_lt cBA)).trans cBA
      have cB7 := cell_of_one (unhide B7)
      have dB7 := fun o => ((below_alloc w8 o).cell (cell_lt cB7)).trans cB7
      go_wp2_with (go_at_call 15; refine (num_any _ _).mono ?_; rintro e w' ⟨rfl, rfl⟩)
      refine (sameMatrix_any _ _ _ _ _ (unhide M7) (unhide MA)).mono ?_
      rintro e w9 ⟨he, b9⟩
      rw [beq_self_eq_true] at he
      subst he
      replace HB := hide (bt (unhide HB) b9)
      clear b9 cBA cB7 dBA dB7
      go_wp2
      go_ret
      exact ⟨rfl, unhide HB⟩
    · rw [mulF_no hBC] at E3 M3 ⊢
      obtain rfl : n3 = 0 := unhide E3
      go_wp2_with (go_at_call 15; refine (num_any _ _).mono ?_; rintro e w' ⟨rfl, rfl⟩)
      go_ret
      exact ⟨rfl, bt (unhide HB) (below_alloc _ _)⟩
  · rw [mulF_no hAB] at E2 M2 ⊢
    obtain rfl : n2 = 0 := unhide E2
    by_cases hBC : MulMay B C
    · rw [mulF_yes hBC] at E3 M3 ⊢
      go_wp2_with (go_at_call 15; refine (num_any _ _).mono ?_; rintro e w' ⟨rfl, rfl⟩)
      go_ret
      exact ⟨rfl, bt (unhide HB) (below_alloc _ _)⟩
    · rw [mulF_no hBC] at E3 M3 ⊢
      obtain rfl : n3 = 0 := unhide E3
      go_wp2_with (go_at_call 15; refine (num_any _ _).mono ?_; rintro e w' ⟨rfl, rfl⟩)
      go_ret
      exact ⟨rfl, bt (unhide HB) (below_alloc _ _)⟩
theorem MatrixThree_walk {w : World} (v0 : Value) (M0 : List (List Int)) (h0 : MatV w v0 M0) (s0 : (M0.length * 24 ≤ 140737488351232 ∧ ∀ i, (M0.getD i []).length * 8 ≤ 140737488351232)) (v1 : Value) (M1 : List (List Int)) (h1 : MatV w v1 M1) (s1 : (M1.length * 24 ≤ 140737488351232 ∧ ∀ i, (M1.getD i []).length * 8 ≤ 140737488351232)) (v2 : Value) (M2 : List (List Int)) (h2 : MatV w v2 M2) (s2 : (M2.length * 24 ≤ 140737488351232 ∧ ∀ i, (M2.getD i []).length * 8 ≤ 140737488351232)) :
    Calls Try.prog 4 #[v0, v1, v2] w fun e w' => e = .returned (.bool true) ∧ Below w.heap.size w w' := MatrixThree_go v0 v1 v2 M0 M1 M2 w h0 h1 h2
end Go.Proofs.Ytpkofmpghhaobaa
