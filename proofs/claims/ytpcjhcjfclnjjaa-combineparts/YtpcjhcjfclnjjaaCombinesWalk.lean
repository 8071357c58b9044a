/- The Go text of the statement Combines returns true, whatever the numbers and rows. -/
import Derived.Test.YtpcjhcjfclnjjaaAwake2
namespace Go.Proofs.Ytpcjhcjfclnjjaa
open Go.RowKit
set_option linter.unusedVariables false
theorem Try.infoStr : (Try.prog.info? 9).map (fun i => (i.zero, i.size, i.bytes)) = some (some (.string ByteArray.empty), 1, 16) := by kernel_rfl
set_option maxRecDepth 100000 in
set_option maxHeartbeats 1000000 in
theorem Combines_walk {w : World} (a0 : Option Addr) (n0 c0 : Nat) (xs : List Int) (h0 : Ints w a0 n0 c0 xs) (r0 : n0 * 8 ≤ 140737488351232) (_ : ∀ x ∈ xs, (Lit.int .i64 x).wf = true)
    (a1 : Option Addr) (n1 c1 : Nat) (ss : List ByteArray) (h1 : Strs w a1 n1 c1 ss) (r1 : n1 * 16 ≤ 140737488351232) (_ : ∀ x ∈ ss, x.size ≤ maxLen) :
    Calls Try.prog 3 #[.slice a0 n0 c0, .slice a1 n1 c1] w fun e w' => e = .returned (.bool true) ∧ Below w.heap.size w w' := by
  have H0 := hide h0
  have H1 := hide h1
  clear h0 h1
  go_enter Try.func3, Try.ntmps3
  go_wp2_with fail
  refine (lendInts_any _ _ _ xs _ (unhide H0) r0).mono ?_
  rintro e w1 ⟨g, cap, rfl, hl, hb1⟩
  have HL := hide hl
  clear hl
  have HS := hide (((unhide H1).below hb1).below (below_alloc w1 (.cells #[] 9)))
  go_wp2_with (at_builtin; refine wpList_append_row _ (by rfl) _ _ 23 (by rfl) w1.heap.size 9 (.string ByteArray.empty) 16 Try.underlying23 Try.infoStr rfl _ _ _ (by rfl) (own_empty w1 9) a1 n1 c1 _ (ss.map Value.string) (by rfl) (unhide HS).2 (by simpa using (unhide HS).1) (str_at (unhide HS).1) (strs_oneCell _) (by unfold maxLen; omega) (by omega) (by simp) ?_; intro v' w2 hown2 hgrow2; simp only [Nat.zero_add, List.nil_append] at hown2; have hb2 : Below w1.heap.size w1 w2 := (below_alloc w1 _).grown hgrow2 (by simp) (by intro k hk; simp [Value.ownBlock] at hk; omega); obtain ⟨a2, c2, hv, hS2⟩ := own_strs hown2 (unhide HS).1; subst hv; have HS2 := hide hS2; clear hS2 hown2 hgrow2)
  have hb02 := hide (bt hb1 hb2)
  have HL2 := hide ((unhide HL).below hb2)
  clear HL HS
  refine (vecCombine_any _ _ _ _ _ _ xs ss _ (unhide HL2).ints (unhide HS2) (by omega)).mono ?_
  rintro e w3 ⟨r, hr, rfl, hb3⟩
  have hb03 := hide (bt (unhide hb02) hb3)
  go_wp2_with fail
  refine (refCombine_any _ _ _ _ _ _ xs ss _ ((unhide H0).below (unhide hb03)) ((unhide H1).below (unhide hb03)) (by omega)).mono ?_
  rintro e w4 ⟨r', hr', rfl, hb4⟩
  obtain rfl := combR_one hr hr'
  have hb04 := hide (bt (unhide hb03) hb4)
  have hb24 := hide (bt hb3 hb4)
  clear hr hr'
  obtain ⟨s, e⟩ := r
  have t1 : (s.toList == s.toList) = true := by simp
  have t2 : (e == e) = true := by simp
  go_wp2_with (go_at_call 10; refine (num_any _ _).mono ?_; rintro e w' ⟨rfl, rfl⟩)
  refine (keptInts_yes _ _ _ _ _ _ xs _ ((unhide H0).below (unhide hb04)) ((unhide HL2).below (unhide hb24)) r0).mono ?_
  rintro e w5 ⟨rfl, m, rfl⟩
  go_wp2_with fail
  refine (sameTexts_any _ _ _ _ _ _ ss ss _ (((unhide HS2).below (unhide hb24)).below (below_drewN _ _ m)) (((unhide H1).below (unhide hb04)).below (below_drewN _ _ m)) (by unfold maxLen; omega)).mono ?_
  rintro e w6 ⟨rfl, m', rfl⟩
  simp only [decide_true]
  go_wp2_with fail
  refine (awake2_any _).mono ?_
  rintro e w7 ⟨rfl, hb7⟩
  go_wp2
  go_ret
  exact ⟨rfl, bt (bt (unhide hb04) (below_drewN _ _ (m + m'))) hb7⟩
end Go.Proofs.Ytpcjhcjfclnjjaa
