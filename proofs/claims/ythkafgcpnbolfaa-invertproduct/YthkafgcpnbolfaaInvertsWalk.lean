/- Inverts: every call answers as the document's own; what came in stays. -/
import Derived.Test.YthkafgcpnbolfaaAwake4
namespace Go.Proofs.Ythkafgcpnbolfaa
open Go.RowKit
set_option linter.unusedVariables false
set_option linter.unusedSimpArgs false
theorem sizes_le' {M : List (List Int)} (h : M.length * 24 ≤ 140737488351232 ∧ ∀ i, (M.getD i []).length * 8 ≤ 140737488351232) : M.length ≤ maxLen ∧ ∀ j, (M.getD j []).length ≤ maxLen := by
  unfold maxLen
  exact ⟨by have := h.1; omega, fun j => by have := h.2 j; omega⟩
theorem invR_le {M : List (List Int)} {r : List (List Int) × Int} (h : invR M r) : r.1.length ≤ maxLen ∧ ∀ j, (r.1.getD j []).length ≤ maxLen := by
  rcases h with ⟨_, rfl⟩ | ⟨_, N, hN, rfl⟩ | ⟨_, _, rfl⟩
  · exact nil_le
  · exact rows_le hN.1
  · exact nil_le
set_option maxRecDepth 100000 in
set_option maxHeartbeats 2000000 in
theorem Inverts_walk {w : World} (v0 : Value) (M0 : List (List Int)) (h0 : MatV w v0 M0) (s0 : (M0.length * 24 ≤ 140737488351232 ∧ ∀ i, (M0.getD i []).length * 8 ≤ 140737488351232)) :
    Calls Try.prog 3 #[v0] w fun e w' => e = .returned (.bool true) ∧ Below w.heap.size w w' := by
  have MA := hide h0
  have SA := hide s0
  obtain ⟨pa, na, ca, rfl, Ra⟩ := h0
  clear Ra s0
  go_enter Try.func3, Try.ntmps3
  go_wp2_with fail
  have BA := hide (heap_alloc_new w (.cells #[.slice pa na ca] 24))
  have hb0 := below_alloc w (.cells #[.slice pa na ca] 24)
  generalize (w.alloc (.cells #[.slice pa na ca] 24)) = W0 at *
  replace MA := hide ((unhide MA).below hb0)
  have HB := hide hb0
  clear hb0
  refine (copyMatrix_any _ M0 _ (unhide MA) (unhide SA).1 (unhide SA).2).mono ?_
  rintro e w1 ⟨u1, rfl, O1, b1⟩
  obtain ⟨p1, n1, c1, rfl, e1⟩ := O1.form
  replace BA := hide ((b1.block _ (lt_of_block (unhide BA))).trans (unhide BA))
  replace MA := hide ((unhide MA).below b1)
  replace HB := hide (bt (unhide HB) b1)
  have MX := hide (O1.matV (sizes_le' (unhide SA)))
  clear O1 b1 e1
  have cBA := cell_of_one (unhide BA)
  have dBA := fun o => ((below_alloc w1 o).cell (cell_lt cBA)).trans cBA
  go_wp2_with fail
  have BX := hide (heap_alloc_new w1 (.cells #[.slice p1 n1 c1] 24))
  have hx := below_alloc w1 (.cells #[.slice p1 n1 c1] 24)
  generalize (w1.alloc (.cells #[.slice p1 n1 c1] 24)) = W2 at *
  replace BA := hide ((hx.block _ (lt_of_block (unhide BA))).trans (unhide BA))
  replace MA := hide ((unhide MA).below hx)
  replace MX := hide ((unhide MX).below hx)
  replace HB := hide (bt (unhide HB) hx)
  clear hx cBA dBA
  have ZA := BA
  have ZX := BX
  have NA := MA
  have NX := MX
  have HB2 := HB
  refine (invInvert_any _ M0 _ (unhide MX)).mono ?_
  rintro e w3 ⟨u3, r3, hr3, rfl, O3, b3⟩
  obtain ⟨p3, n3, c3, rfl, e3⟩ := O3.form
  replace BA := hide ((b3.block _ (lt_of_block (unhide BA))).trans (unhide BA))
  replace BX := hide ((b3.block _ (lt_of_block (unhide BX))).trans (unhide BX))
  replace MA := hide ((unhide MA).below b3)
  replace MX := hide ((unhide MX).below b3)
  have K2 := hide b3
  have S23 := hide b3.size
  have HO3 := hide O3
  have M3 := hide (O3.matV (invR_le hr3))
  have HR3 := hide hr3
  clear O3 b3 e3 hr3
  have cBA := cell_of_one (unhide BA)
  have dBA := fun o => ((below_alloc w3 o).cell (cell_lt cBA)).trans cBA
  have cBX := cell_of_one (unhide BX)
  have dBX := fun o => ((below_alloc w3 o).cell (cell_lt cBX)).trans cBX
  go_wp2_with fail
  have C3 := hide (heap_alloc_new w3 (.cells #[.slice p3 n3 c3] 24))
  have hx := below_alloc w3 (.cells #[.slice p3 n3 c3] 24)
  refine (refInvert_any _ M0 _ ((unhide MA).below hx)).mono ?_
  rintro e w4 ⟨u4, r4, hr4, rfl, O4, b4⟩
  obtain rfl := invR_one (unhide HR3) hr4
  obtain ⟨p4, n4, c4, rfl, e4⟩ := O4.form
  replace C3 := hide ((b4.block _ (lt_of_block (unhide C3))).trans (unhide C3))
  replace b4 := bt hx b4
  replace BA := hide ((b4.block _ (lt_of_block (unhide BA))).trans (unhide BA))
  replace BX := hide ((b4.block _ (lt_of_block (unhide BX))).trans (unhide BX))
  replace MA := hide ((unhide MA).below b4)
  replace MX := hide ((unhide MX).below b4)
  replace M3 := hide ((unhide M3).below b4)
  replace K2 := hide (bt (unhide K2) b4)
  have K3 := hide b4
  have M4 := hide (O4.matV (invR_le (unhide HR3)))
  clear O4 b4 e4 hr4 hx cBA dBA cBX dBX
  have cC3 := cell_of_one (unhide C3)
  have dC3 := fun o => ((below_alloc w4 o).cell (cell_lt cC3)).trans cC3
  go_wp2_with fail
  have hx := below_alloc w4 (.cells #[.slice p4 n4 c4] 24)
  refine (sameMatrix_any _ _ _ _ _ ((unhide M3).below hx) ((unhide M4).below hx)).mono ?_
  rintro e w5 ⟨he, b5⟩
  rw [beq_self_eq_true] at he
  subst he
  replace b5 := bt hx b5
  replace C3 := hide ((b5.block _ (lt_of_block (unhide C3))).trans (unhide C3))
  replace K2 := hide (bt (unhide K2) b5)
  replace K3 := hide (bt (unhide K3) b5)
  clear b5 hx cC3 dC3
  have cC3 := cell_of_one (unhide C3)
  have dC3 := fun o => ((below_alloc w5 o).cell (cell_lt cC3)).trans cC3
  go_wp2_with (go_at_call 11; refine (num_any _ _).mono ?_; rintro e w' ⟨rfl, rfl⟩)
  have hB2 := (unhide K2).size
  refine (spoilMatrix_any W2.heap.size w3.heap.size _ _ w3 w' (unhide HO3) (Nat.le_refl _) (fun j _ hj => (unhide K3).block j hj) (invR_le (unhide HR3)).1 (invR_le (unhide HR3)).2 hB2).mono ?_
  rintro e w6 ⟨rfl, _, hb6⟩
  have hall : Below W2.heap.size W2 w6 := (unhide K2).trans hb6
  replace ZA := hide ((hall.block _ (lt_of_block (unhide ZA))).trans (unhide ZA))
  replace ZX := hide ((hall.block _ (lt_of_block (unhide ZX))).trans (unhide ZX))
  replace NA := hide ((unhide NA).below hall)
  replace NX := hide ((unhide NX).below hall)
  replace HB2 := hide (bt (unhide HB2) hall)
  clear hb6 hall cC3 dC3
  have cZA := cell_of_one (unhide ZA)
  have dZA := fun o => ((below_alloc w6 o).cell (cell_lt cZA)).trans cZA
  have cZX := cell_of_one (unhide ZX)
  have dZX := fun o => ((below_alloc w6 o).cell (cell_lt cZX)).trans cZX
  go_wp2_with fail
  refine (sameMatrix_any _ _ _ _ _ (unhide NX) (unhide NA)).mono ?_
  rintro e w7 ⟨he, b7⟩
  rw [beq_self_eq_true] at he
  subst he
  replace HB2 := hide (bt (unhide HB2) b7)
  clear b7 cZA dZA cZX dZX
  go_wp2_with fail
  refine (awake4_any _).mono ?_
  rintro e w8 ⟨rfl, b8⟩
  replace HB2 := hide (bt (unhide HB2) b8)
  clear b8
  go_wp2
  go_ret
  exact ⟨rfl, unhide HB2⟩
end Go.Proofs.Ythkafgcpnbolfaa
