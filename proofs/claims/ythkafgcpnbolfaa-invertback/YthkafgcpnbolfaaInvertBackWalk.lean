/- InvertBack: an inverse leads to the identity, from either side; its own is the matrix. -/
import Derived.Test.YthkafgcpnbolfaaInvertsWalk
namespace Go.Proofs.Ythkafgcpnbolfaa
open Go.RowKit
set_option linter.unusedVariables false
set_option linter.unusedSimpArgs false
theorem mulF_sq {k : Nat} {A B : List (List Int)} (hA : Sq k A) (hB : Sq k B) : mulF A B = (mulM A B, 0) := by simp [mulF, sq_may hA hB]
theorem idF_sq {k : Nat} {A : List (List Int)} (hA : Sq k A) : idF (k : Int) = (idM k, 0) := by
  have := hA.pos
  simp only [idF]
  rw [if_pos (by omega), Int.toNat_natCast]
set_option maxRecDepth 100000 in
set_option maxHeartbeats 2000000 in
theorem InvertBack_walk {w : World} (v0 : Value) (M0 : List (List Int)) (h0 : MatV w v0 M0) (s0 : (M0.length * 24 ≤ 140737488351232 ∧ ∀ i, (M0.getD i []).length * 8 ≤ 140737488351232)) :
    Calls Try.prog 4 #[v0] w fun e w' => e = .returned (.bool true) ∧ Below w.heap.size w w' := by
  have MA := hide h0
  obtain ⟨pa, na, ca, rfl, Ra⟩ := h0
  have hna : M0.length = na := by obtain ⟨_, h, _⟩ := Ra; exact h
  have HNA := hide hna
  clear Ra s0 hna
  go_enter Try.func4, Try.ntmps4
  go_wp2_with fail
  have BA := hide (heap_alloc_new w (.cells #[.slice pa na ca] 24))
  have hb0 := below_alloc w (.cells #[.slice pa na ca] 24)
  generalize (w.alloc (.cells #[.slice pa na ca] 24)) = W0 at *
  replace MA := hide ((unhide MA).below hb0)
  have HB := hide hb0
  clear hb0
  refine (awake4_any _).mono ?_
  rintro e w1 ⟨rfl, b1⟩
  replace BA := hide ((b1.block _ (lt_of_block (unhide BA))).trans (unhide BA))
  replace MA := hide ((unhide MA).below b1)
  replace HB := hide (bt (unhide HB) b1)
  clear b1
  have cBA := cell_of_one (unhide BA)
  have dBA := fun o => ((below_alloc w1 o).cell (cell_lt cBA)).trans cBA
  go_wp2_with fail
  refine (invInvert_any _ M0 _ (unhide MA)).mono ?_
  rintro e w2 ⟨u2, r2, hr2, rfl, O2, b2⟩
  obtain ⟨p2, n2, c2, rfl, e2⟩ := O2.form
  replace BA := hide ((b2.block _ (lt_of_block (unhide BA))).trans (unhide BA))
  replace MA := hide ((unhide MA).below b2)
  replace HB := hide (bt (unhide HB) b2)
  have M2 := hide (O2.matV (invR_le hr2))
  clear O2 b2 cBA dBA
  have cBA := cell_of_one (unhide BA)
  have dBA := fun o => ((below_alloc w2 o).cell (cell_lt cBA)).trans cBA
  rcases hr2 with ⟨_, rfl⟩ | ⟨hsq, N, hN, rfl⟩ | ⟨_, _, rfl⟩
  · obtain rfl : n2 = 0 := e2
    go_wp2_with (go_at_call 11; refine (num_any _ _).mono ?_; rintro e w' ⟨rfl, rfl⟩)
    go_ret
    exact ⟨rfl, bt (unhide HB) (below_alloc _ _)⟩
  · have sM : Sq na M0 := ⟨hsq, unhide HNA⟩
    have sN := hN.sq sM
    have HN := hide hN
    have HSM := hide sM
    have HSN := hide sN
    clear hN sM sN hsq e2
    go_wp2_with (go_at_call 11; refine (num_any _ _).mono ?_; rintro e w' ⟨rfl, rfl⟩)
    have B2 := hide (heap_alloc_new w2 (.cells #[.slice p2 n2 c2] 24))
    have hx := below_alloc w2 (.cells #[.slice p2 n2 c2] 24)
    refine (matIdentity_fun _ _).mono ?_
    rintro e w3 ⟨u3, he, O3, b3⟩
    rw [idF_sq (unhide HSM)] at he O3
    subst he
    obtain ⟨p3, n3, c3, rfl, e3⟩ := O3.form
    replace B2 := hide ((b3.block _ (lt_of_block (unhide B2))).trans (unhide B2))
    replace b3 := bt hx b3
    replace BA := hide ((b3.block _ (lt_of_block (unhide BA))).trans (unhide BA))
    replace MA := hide ((unhide MA).below b3)
    replace M2 := hide ((unhide M2).below b3)
    replace HB := hide (bt (unhide HB) b3)
    have M3 := hide (O3.matV (rows_le (idM_may (unhide HSM).pos.1 (unhide HSM).pos.2)))
    clear O3 b3 hx e3 cBA dBA
    have cBA := cell_of_one (unhide BA)
    have dBA := fun o => ((below_alloc w3 o).cell (cell_lt cBA)).trans cBA
    have cB2 := cell_of_one (unhide B2)
    have dB2 := fun o => ((below_alloc w3 o).cell (cell_lt cB2)).trans cB2
    go_wp2_with (go_at_call 11; refine (num_any _ _).mono ?_; rintro e w' ⟨rfl, rfl⟩)
    have B3 := hide (heap_alloc_new w3 (.cells #[.slice p3 n3 c3] 24))
    have hx := below_alloc w3 (.cells #[.slice p3 n3 c3] 24)
    refine (matMul_fun _ _ N M0 _ ((unhide M2).below hx) ((unhide MA).below hx)).mono ?_
    rintro e w4 ⟨u4, he, O4, b4⟩
    rw [mulF_sq (unhide HSN) (unhide HSM), (unhide HN).left (unhide HSM)] at he O4
    subst he
    obtain ⟨p4, n4, c4, rfl, e4⟩ := O4.form
    replace B3 := hide ((b4.block _ (lt_of_block (unhide B3))).trans (unhide B3))
    replace b4 := bt hx b4
    replace BA := hide ((b4.block _ (lt_of_block (unhide BA))).trans (unhide BA))
    replace B2 := hide ((b4.block _ (lt_of_block (unhide B2))).trans (unhide B2))
    replace MA := hide ((unhide MA).below b4)
    replace M2 := hide ((unhide M2).below b4)
    replace M3 := hide ((unhide M3).below b4)
    replace HB := hide (bt (unhide HB) b4)
    have M4 := hide (O4.matV (rows_le (idM_may (unhide HSM).pos.1 (unhide HSM).pos.2)))
    clear O4 b4 hx e4 cBA dBA cB2 dB2
    have cBA := cell_of_one (unhide BA)
    have dBA := fun o => ((below_alloc w4 o).cell (cell_lt cBA)).trans cBA
    have cB2 := cell_of_one (unhide B2)
    have dB2 := fun o => ((below_alloc w4 o).cell (cell_lt cB2)).trans cB2
    have cB3 := cell_of_one (unhide B3)
    have dB3 := fun o => ((below_alloc w4 o).cell (cell_lt cB3)).trans cB3
    go_wp2_with (go_at_call 11; refine (num_any _ _).mono ?_; rintro e w' ⟨rfl, rfl⟩)
    have B4 := hide (heap_alloc_new w4 (.cells #[.slice p4 n4 c4] 24))
    have hx := below_alloc w4 (.cells #[.slice p4 n4 c4] 24)
    refine (matMul_fun _ _ M0 N _ ((unhide MA).below hx) ((unhide M2).below hx)).mono ?_
    rintro e w5 ⟨u5, he, O5, b5⟩
    rw [mulF_sq (unhide HSM) (unhide HSN), (unhide HN).right (unhide HSM)] at he O5
    subst he
    obtain ⟨p5, n5, c5, rfl, e5⟩ := O5.form
    replace B4 := hide ((b5.block _ (lt_of_block (unhide B4))).trans (unhide B4))
    replace b5 := bt hx b5
    replace BA := hide ((b5.block _ (lt_of_block (unhide BA))).trans (unhide BA))
    replace B2 := hide ((b5.block _ (lt_of_block (unhide B2))).trans (unhide B2))
    replace B3 := hide ((b5.block _ (lt_of_block (unhide B3))).trans (unhide B3))
    replace MA := hide ((unhide MA).below b5)
    replace M2 := hide ((unhide M2).below b5)
    replace M3 := hide ((unhide M3).below b5)
    replace M4 := hide ((unhide M4).below b5)
    replace HB := hide (bt (unhide HB) b5)
    have M5 := hide (O5.matV (rows_le (idM_may (unhide HSM).pos.1 (unhide HSM).pos.2)))
    clear O5 b5 hx e5 cBA dBA cB2 dB2 cB3 dB3
    have cBA := cell_of_one (unhide BA)
    have dBA := fun o => ((below_alloc w5 o).cell (cell_lt cBA)).trans cBA
    have cB2 := cell_of_one (unhide B2)
    have dB2 := fun o => ((below_alloc w5 o).cell (cell_lt cB2)).trans cB2
    have cB3 := cell_of_one (unhide B3)
    have dB3 := fun o => ((below_alloc w5 o).cell (cell_lt cB3)).trans cB3
    have cB4 := cell_of_one (unhide B4)
    have dB4 := fun o => ((below_alloc w5 o).cell (cell_lt cB4)).trans cB4
    go_wp2_with (go_at_call 11; refine (num_any _ _).mono ?_; rintro e w' ⟨rfl, rfl⟩)
    have B5 := hide (heap_alloc_new w5 (.cells #[.slice p5 n5 c5] 24))
    have hx := below_alloc w5 (.cells #[.slice p5 n5 c5] 24)
    refine (invInvert_any _ N _ ((unhide M2).below hx)).mono ?_
    rintro e w6 ⟨u6, r6, hr6, rfl, O6, b6⟩
    obtain rfl : r6 = (M0, 0) := invR_one hr6 (.inr (.inl ⟨(unhide HSN).1, M0, (unhide HN).back (unhide HSM), rfl⟩))
    obtain ⟨p6, n6, c6, rfl, e6⟩ := O6.form
    replace B5 := hide ((b6.block _ (lt_of_block (unhide B5))).trans (unhide B5))
    replace b6 := bt hx b6
    replace BA := hide ((b6.block _ (lt_of_block (unhide BA))).trans (unhide BA))
    replace B3 := hide ((b6.block _ (lt_of_block (unhide B3))).trans (unhide B3))
    replace B4 := hide ((b6.block _ (lt_of_block (unhide B4))).trans (unhide B4))
    replace MA := hide ((unhide MA).below b6)
    replace M3 := hide ((unhide M3).below b6)
    replace M4 := hide ((unhide M4).below b6)
    replace M5 := hide ((unhide M5).below b6)
    replace HB := hide (bt (unhide HB) b6)
    have M6 := hide (O6.matV (rows_le (unhide HSM).1.1))
    clear O6 b6 hx e6 hr6 cBA dBA cB2 dB2 cB3 dB3 cB4 dB4
    have cBA := cell_of_one (unhide BA)
    have dBA := fun o => ((below_alloc w6 o).cell (cell_lt cBA)).trans cBA
    have cB3 := cell_of_one (unhide B3)
    have dB3 := fun o => ((below_alloc w6 o).cell (cell_lt cB3)).trans cB3
    have cB4 := cell_of_one (unhide B4)
    have dB4 := fun o => ((below_alloc w6 o).cell (cell_lt cB4)).trans cB4
    have cB5 := cell_of_one (unhide B5)
    have dB5 := fun o => ((below_alloc w6 o).cell (cell_lt cB5)).trans cB5
    go_wp2_with (go_at_call 11; refine (num_any _ _).mono ?_; rintro e w' ⟨rfl, rfl⟩)
    have B6 := hide (heap_alloc_new w6 (.cells #[.slice p6 n6 c6] 24))
    have hx := below_alloc w6 (.cells #[.slice p6 n6 c6] 24)
    refine (sameMatrix_any _ _ _ _ _ ((unhide M4).below hx) ((unhide M3).below hx)).mono ?_
    rintro e w7 ⟨he, b7⟩
    rw [beq_self_eq_true] at he
    subst he
    replace B6 := hide ((b7.block _ (lt_of_block (unhide B6))).trans (unhide B6))
    replace b7 := bt hx b7
    replace BA := hide ((b7.block _ (lt_of_block (unhide BA))).trans (unhide BA))
    replace B3 := hide ((b7.block _ (lt_of_block (unhide B3))).trans (unhide B3))
    replace B5 := hide ((b7.block _ (lt_of_block (unhide B5))).trans (unhide B5))
    replace MA := hide ((unhide MA).below b7)
    replace M3 := hide ((unhide M3).below b7)
    replace M5 := hide ((unhide M5).below b7)
    replace M6 := hide ((unhide M6).below b7)
    replace HB := hide (bt (unhide HB) b7)
    clear b7 hx cBA dBA cB3 dB3 cB4 dB4 cB5 dB5
    have cBA := cell_of_one (unhide BA)
    have dBA := fun o => ((below_alloc w7 o).cell (cell_lt cBA)).trans cBA
    have cB3 := cell_of_one (unhide B3)
    have dB3 := fun o => ((below_alloc w7 o).cell (cell_lt cB3)).trans cB3
    have cB5 := cell_of_one (unhide B5)
    have dB5 := fun o => ((below_alloc w7 o).cell (cell_lt cB5)).trans cB5
    have cB6 := cell_of_one (unhide B6)
    have dB6 := fun o => ((below_alloc w7 o).cell (cell_lt cB6)).trans cB6
    go_wp2_with (go_at_call 11; refine (num_any _ _).mono ?_; rintro e w' ⟨rfl, rfl⟩)
    refine (sameMatrix_any _ _ _ _ _ (unhide M5) (unhide M3)).mono ?_
    rintro e w8 ⟨he, b8⟩
    rw [beq_self_eq_true] at he
    subst he
    replace BA := hide ((b8.block _ (lt_of_block (unhide BA))).trans (unhide BA))
    replace B6 := hide ((b8.block _ (lt_of_block (unhide B6))).trans (unhide B6))
    replace MA := hide ((unhide MA).below b8)
    replace M6 := hide ((unhide M6).below b8)
    replace HB := hide (bt (unhide HB) b8)
    clear b8 cBA dBA cB3 dB3 cB5 dB5 cB6 dB6
    have cBA := cell_of_one (unhide BA)
    have dBA := fun o => ((below_alloc w8 o).cell (cell_lt cBA)).trans cBA
    have cB6 := cell_of_one (unhide B6)
    have dB6 := fun o => ((below_alloc w8 o).cell (cell_lt cB6)).trans cB6
    go_wp2_with (go_at_call 11; refine (num_any _ _).mono ?_; rintro e w' ⟨rfl, rfl⟩)
    refine (sameMatrix_any _ _ _ _ _ (unhide M6) (unhide MA)).mono ?_
    rintro e w9 ⟨he, b9⟩
    rw [beq_self_eq_true] at he
    subst he
    replace HB := hide (bt (unhide HB) b9)
    clear b9 cBA dBA cB6 dB6
    go_wp2
    go_ret
    exact ⟨rfl, unhide HB⟩
  · obtain rfl : n2 = 0 := e2
    go_wp2_with (go_at_call 11; refine (num_any _ _).mono ?_; rintro e w' ⟨rfl, rfl⟩)
    go_ret
    exact ⟨rfl, bt (unhide HB) (below_alloc _ _)⟩
end Go.Proofs.Ythkafgcpnbolfaa
