/- The Go text of the statement ProofForms returns true, whatever the numbers. -/
import Derived.Test.YtcoggfpjomgajabAwake11
import Derived.Test.YtcoggfpjomgajabProofMath2
import Derived.Test.YtcoggfpjomgajabKMatRef
namespace Go.Proofs.Ytcoggfpjomgajab
open Go.RowKit
set_option linter.unusedVariables false
set_option linter.unusedSimpArgs false
def q1234 : Nat := Seal.pairN q12 (Seal.pairN 3 4)
theorem root_1234 : rootP [1, 2, 3, 4] = ((q1234 : Int), 0) := by decide +kernel
theorem path_1234 : pathP [1, 2, 3, 4] 2 = ([4, (q12 : Int)], 0) := by decide +kernel
theorem chk_1234 : decide (Chk (q1234 : Int) 4 2 3 [4, (q12 : Int)]) = true := by decide +kernel
theorem path_out {xs : List Int} {i : Int} (h : i < 0 ∨ (xs.length : Int) ≤ i) : pathP xs i = ([], 1100) := pathP_no (fun hp => by have h1 := hp.2.1; have h2 := hp.2.2; omega)
theorem path_neg {d : Nat} (h : 1 ≤ d) : pathP [-(d : Int)] 0 = ([], 1100) := pathP_no (fun hp => by have := hp.1.2.2 _ (List.mem_singleton.2 rfl); unfold Sl at this; omega)
theorem path_nil : pathP [] 0 = ([], 1100) := by decide +kernel
theorem chk_count {r n i a : Int} {p : List Int} (h : n < 1 ∨ 64 < n) : decide (Chk r n i a p) = false := decide_eq_false (fun hc => by have h1 := hc.1; have h2 := hc.2.1; omega)
theorem chk_place {r n i a : Int} {p : List Int} (h : i < 0 ∨ n ≤ i) : decide (Chk r n i a p) = false := decide_eq_false (fun hc => by have h1 := hc.2.2.1; have h2 := hc.2.2.2.1; omega)
theorem chk_noleaf {r n i a : Int} {p : List Int} (h : a < 0 ∨ 2147483647 ≤ a) : decide (Chk r n i a p) = false := decide_eq_false (fun hc => by have h1 := hc.2.2.2.2.1; unfold Sl at h1; omega)
theorem chk_nonum {r n i a x : Int} {p : List Int} (hx : x ∈ p) (h : x < 0 ∨ 2147483647 ≤ x) : decide (Chk r n i a p) = false := decide_eq_false (fun hc => by have h1 := hc.2.2.2.2.2.1 x hx; unfold Sl at h1; omega)
theorem dep_42 : Tree.depth 4 2 = 2 := by decide +kernel
theorem chk_long {r a : Int} {p : List Int} (h : p.length ≠ 2) : decide (Chk r 4 2 a p) = false := decide_eq_false (fun hc => by have h1 := hc.2.2.2.2.2.2.2.1; rw [show Tree.depth (4 : Int).toNat (2 : Int).toNat = 2 from dep_42] at h1; exact h h1)
theorem mod9 (a : Int) : ∃ s : Nat, s < 9 ∧ (IntKind.u64.wrap a).tmod 9 = (s : Int) := by
  have h0 : IntKind.u64.wrap a = a % 18446744073709551616 := IntKind.wrap_u64 a
  have : 0 ≤ a % 18446744073709551616 := Int.emod_nonneg _ (by decide)
  rw [h0, Int.tmod_eq_emod_of_nonneg (by omega)]
  exact ⟨(a % 18446744073709551616 % 9).toNat, by omega, by omega⟩
set_option maxRecDepth 100000 in
set_option maxHeartbeats 4000000 in
theorem ProofForms_walk {w : World} (a0 : Int) (w0 : (Lit.int .i64 a0).wf = true) (a1 : Int) (w1 : (Lit.int .i64 a1).wf = true) : Calls Try.prog 5 #[.int .i64 a0, .int .i64 a1] w fun e w' => e = .returned (.bool true) ∧ Below w.heap.size w w' := by
  obtain ⟨s, hs, es⟩ := mod9 a0
  have hx : ∃ d : Nat, d < 1024 ∧ bits .and .i64 a1 1023 = (d : Int) := by
    refine ⟨(a1 % 1024).toNat, by omega, ?_⟩
    rw [and_1023]; omega
  obtain ⟨d, hd, ed⟩ := hx
  obtain ⟨D, eD⟩ : ∃ D : Nat, 1 + (d : Int) = (D : Int) := ⟨1 + d, by omega⟩
  have hD1 : 1 ≤ D := by omega
  have hD2 : D ≤ 1024 := by omega
  clear hd
  go_enter Try.func5, Try.ntmps5
  go_wp2_with fail
  refine (awake11_any _).mono ?_
  rintro e w2 ⟨rfl, b2⟩
  have HB := hide (bt b2 (below_alloc w2 (.cells #[.int .i64 1, .int .i64 2, .int .i64 3, .int .i64 4] 3)))
  have HL := hide (int_lit w2 [1, 2, 3, 4] 3 w2.heap.size #[.int .i64 1, .int .i64 2, .int .i64 3, .int .i64 4] 4 rfl rfl rfl)
  clear b2
  go_wp2_with fail
  refine (treeRoot_any _ _ _ [1, 2, 3, 4] _ (unhide HL) (by decide)).mono ?_
  rintro e w3 ⟨rfl, b3⟩
  rw [root_1234]
  replace HL := hide ((unhide HL).below b3)
  replace HB := hide (bt (unhide HB) b3)
  clear b3
  generalize hq : q1234 = Q
  have HQ := hide hq
  clear hq
  go_wp2_with fail
  refine (proofPath_any _ _ _ [1, 2, 3, 4] 2 _ (unhide HL) (by decide)).mono ?_
  rintro e w4 ⟨v4, he, O4, b4⟩
  rw [path_1234] at he O4
  subst he
  obtain ⟨p4, c4, rfl, S4⟩ := O4.ints
  have HP : Hid (Ints w4 p4 2 c4 [4, (q12 : Int)]) := hide S4
  replace HL := hide ((unhide HL).below b4)
  replace HB := hide (bt (unhide HB) b4)
  clear b4 O4 S4
  go_wp2_with fail
  refine (proofPath_any _ _ _ [1, 2, 3, 4] _ _ (unhide HL) (by decide)).mono ?_
  rintro e w5 ⟨v5, he, O5, b5⟩
  rw [path_out (.inr (by simp; omega))] at he O5
  subst he
  obtain ⟨p5, c5, rfl, _⟩ := O5.ints
  replace HL := hide ((unhide HL).below b5)
  replace HP := hide ((unhide HP).below b5)
  replace HB := hide (bt (unhide HB) b5)
  clear b5 O5
  go_wp2_with fail
  refine (proofPath_any _ _ _ [1, 2, 3, 4] _ _ (unhide HL) (by decide)).mono ?_
  rintro e w6 ⟨v6, he, O6, b6⟩
  rw [path_out (.inl (by omega))] at he O6
  subst he
  obtain ⟨p6, c6, rfl, _⟩ := O6.ints
  replace HP := hide ((unhide HP).below b6)
  replace HB := hide (bt (unhide HB) b6)
  clear b6 O6 HL
  go_wp2_with fail
  refine (proofPath_any _ _ _ [] 0 _ ⟨rfl, .inl ⟨rfl, rfl, rfl⟩⟩ (by decide)).mono ?_
  rintro e w7 ⟨v7, he, O7, b7⟩
  rw [path_nil] at he O7
  subst he
  obtain ⟨p7, c7, rfl, _⟩ := O7.ints
  replace HP := hide ((unhide HP).below b7)
  replace HB := hide (bt (unhide HB) b7)
  clear b7 O7
  go_wp2_with fail
  refine (proofPath_any _ _ _ [-(D : Int)] 0 _ (int_lit w7 [-(D : Int)] 3 w7.heap.size _ 1 rfl rfl rfl) (by decide)).mono ?_
  rintro e w8 ⟨v8, he, O8, b8⟩
  rw [path_neg hD1] at he O8
  subst he
  obtain ⟨p8, c8, rfl, _⟩ := O8.ints
  have b8' := bt (below_alloc w7 (.cells #[.int .i64 (-(D : Int))] 3)) b8
  replace HP := hide ((unhide HP).below b8')
  replace HB := hide (bt (unhide HB) b8')
  clear b8 O8 b8'
  go_wp2_with (go_at_call 12; refine (num_any _ _).mono ?_; rintro e w' ⟨rfl, hw'⟩; rw [hw']; clear hw' w')
  refine (proofCheck_any _ _ _ _ _ _ _ [4, (q12 : Int)] _ (unhide HP) (by decide)).mono ?_
  rintro e w9 ⟨he, b9⟩
  rw [← unhide HQ, chk_1234] at he
  subst he
  replace HP := hide ((unhide HP).below b9)
  replace HB := hide (bt (unhide HB) b9)
  clear b9
  obtain ⟨x, ex⟩ : ∃ x : Int, x = (q12 : Int) := ⟨_, rfl⟩
  rw [← ex] at HP
  clear ex
  have hrow := hide ((unhide HP).below (below_alloc w9 (.cells #[] 3))).2
  go_upto_region 15 with (at_builtin; refine wpList_append_row _ (by rfl) _ _ 22 (by rfl) w9.heap.size 3 (.int .i64 0) 8 Try.underlying22 Try.infoInt rfl _ _ _ (by rfl) (own_empty w9 3) p4 2 c4 _ (([4, x] : List Int).map (Value.int .i64)) (by rfl) (unhide hrow) (by rfl) (int_at (by rfl)) (ints_oneCell _ _) (by unfold maxLen; omega) (by omega) (by simp) ?_; intro v10 w10 O10 P10; simp only [Nat.zero_add, List.nil_append] at O10; have HB10 : Hid (Below w9.heap.size w9 w10) := hide ((below_alloc w9 _).grown P10 (by simp) (by intro k hk; simp [Value.ownBlock] at hk; omega)); have O10' : OwnL w10 w9.heap.size 3 v10 (([4, x] : List Int).map (Value.int .i64)) := O10; obtain ⟨g, c, ev, hg, hc, hc', _⟩ := own_form O10 (by omega); subst ev; have HO := hide O10'; clear O10 O10' P10)
  have HB9 := HB
  have hs9 := (unhide HB).size
  replace HB := hide (bt (unhide HB) (unhide HB10))
  have hszB := (unhide HB10).size
  have cg := own_cell (unhide HO) 0 (by simp)
  have fg := own_free (unhide HO) 0
  have cg' : w10.cell? ⟨g, 0, none⟩ = some (.int .i64 4) := cg
  clear cg hrow HP
  obtain ⟨q', c'', e', hI⟩ := (unhide HO).ints
  simp only [Value.slice.injEq, List.length_cons, List.length_nil, true_and] at e'
  obtain ⟨e1, e2⟩ := e'
  rw [← e1, ← e2] at hI
  have HI : Hid (Ints w10 (some ⟨g, 0, none⟩) 2 c [4, x]) := hide hI
  clear hI e1 e2
  have hss : s = 0 ∨ s = 1 ∨ s = 2 ∨ s = 3 ∨ s = 4 ∨ s = 5 ∨ s = 6 ∨ s = 7 ∨ s = 8 := by omega
  rcases hss with rfl | rfl | rfl | rfl | rfl | rfl | rfl | rfl | rfl
  · go_upto_region 33 with fail
    go_wp2_with fail
    refine (proofCheck_any _ _ _ _ _ _ _ [4, x] _ (unhide HI) (by decide)).mono ?_
    rintro e wz ⟨he, bz⟩
    rw [chk_count (.inl (by decide))] at he
    subst he
    have HZ := hide (bt (unhide HB) bz)
    clear bz
    go_wp2_with (go_at_call 12; refine (num_any _ _).mono ?_; rintro e w' ⟨rfl, hw'⟩; rw [hw']; clear hw' w')
    go_ret
    exact ⟨rfl, unhide HZ⟩
  · go_upto_region 33 with fail
    go_wp2_with fail
    refine (proofCheck_any _ _ _ _ _ _ _ [4, x] _ (unhide HI) (by decide)).mono ?_
    rintro e wz ⟨he, bz⟩
    rw [chk_count (.inr (by omega))] at he
    subst he
    have HZ := hide (bt (unhide HB) bz)
    clear bz
    go_wp2_with (go_at_call 12; refine (num_any _ _).mono ?_; rintro e w' ⟨rfl, hw'⟩; rw [hw']; clear hw' w')
    go_ret
    exact ⟨rfl, unhide HZ⟩
  · go_upto_region 33 with fail
    go_wp2_with fail
    refine (proofCheck_any _ _ _ _ _ _ _ [4, x] _ (unhide HI) (by decide)).mono ?_
    rintro e wz ⟨he, bz⟩
    rw [chk_place (.inr (by omega))] at he
    subst he
    have HZ := hide (bt (unhide HB) bz)
    clear bz
    go_wp2_with (go_at_call 12; refine (num_any _ _).mono ?_; rintro e w' ⟨rfl, hw'⟩; rw [hw']; clear hw' w')
    go_ret
    exact ⟨rfl, unhide HZ⟩
  · go_upto_region 33 with fail
    go_wp2_with fail
    refine (proofCheck_any _ _ _ _ _ _ _ [4, x] _ (unhide HI) (by decide)).mono ?_
    rintro e wz ⟨he, bz⟩
    rw [chk_place (.inl (by omega))] at he
    subst he
    have HZ := hide (bt (unhide HB) bz)
    clear bz
    go_wp2_with (go_at_call 12; refine (num_any _ _).mono ?_; rintro e w' ⟨rfl, hw'⟩; rw [hw']; clear hw' w')
    go_ret
    exact ⟨rfl, unhide HZ⟩
  · go_upto_region 33 with fail
    go_wp2_with fail
    refine (proofCheck_any _ _ _ _ _ _ _ [4, x] _ (unhide HI) (by decide)).mono ?_
    rintro e wz ⟨he, bz⟩
    rw [chk_noleaf (.inl (by decide))] at he
    subst he
    have HZ := hide (bt (unhide HB) bz)
    clear bz
    go_wp2_with (go_at_call 12; refine (num_any _ _).mono ?_; rintro e w' ⟨rfl, hw'⟩; rw [hw']; clear hw' w')
    go_ret
    exact ⟨rfl, unhide HZ⟩
  · have HP5 : OwnL (w10.setCell ⟨g, 0, none⟩ (.int .i64 2147483651)) w9.heap.size 3 (.slice (some ⟨g, 0, none⟩) 2 c) (([2147483651, x] : List Int).map (Value.int .i64)) := own_put (unhide HO) 0 (.int .i64 2147483651)
    obtain ⟨q5, c5, e5, S5⟩ := HP5.ints
    simp only [Value.slice.injEq, List.length_cons, List.length_nil, true_and] at e5
    obtain ⟨e1, e2⟩ := e5
    rw [← e1, ← e2] at S5
    have HS5 : Hid (Ints (w10.setCell ⟨g, 0, none⟩ (.int .i64 2147483651)) (some ⟨g, 0, none⟩) 2 c [2147483651, x]) := hide S5
    have HB5 := hide ((unhide HB).setCell (p := ⟨g, 0, none⟩) (show w.heap.size ≤ g by omega) (.int .i64 2147483651))
    clear HP5 S5 e1 e2
    go_upto_region 33 with fail
    go_wp2_with fail
    refine (proofCheck_any _ _ _ _ _ _ _ [2147483651, x] _ (unhide HS5) (by decide)).mono ?_
    rintro e wz ⟨he, bz⟩
    rw [chk_nonum (x := 2147483651) (by simp) (.inr (by decide))] at he
    subst he
    have HZ := hide (bt (unhide HB5) bz)
    clear bz
    go_wp2_with (go_at_call 12; refine (num_any _ _).mono ?_; rintro e w' ⟨rfl, hw'⟩; rw [hw']; clear hw' w')
    go_ret
    exact ⟨rfl, unhide HZ⟩
  · go_upto_region 33 with (at_builtin; refine wpList_push w10 (by rfl) (.tmp 115) (.tmp 116) 22 (by rfl) w9.heap.size 3 (.int .i64 0) 8 Try.underlying22 Try.infoInt rfl _ _ (by rfl) (unhide HO) _ (by rfl) (by rfl) (by simp) (by omega) hszB ?_; intro v6 w6' O6 P6; have HB6 := hide (P6.below (unhide HO) (unhide HB10) (Nat.le_refl _) hszB); obtain ⟨p6', c6', e6, S6⟩ := OwnL.ints (ss := [4, x, 1]) O6; subst e6; have HS6 : Hid (Ints w6' p6' 3 c6' [4, x, 1]) := hide S6; clear O6 P6 S6)
    replace HB9 := hide (bt (unhide HB9) (unhide HB6))
    go_wp2_with fail
    refine (proofCheck_any _ _ _ _ _ _ _ [4, x, 1] _ (unhide HS6) (by decide)).mono ?_
    rintro e wz ⟨he, bz⟩
    rw [chk_long (by simp)] at he
    subst he
    have HZ := hide (bt (unhide HB9) bz)
    clear bz
    go_wp2_with (go_at_call 12; refine (num_any _ _).mono ?_; rintro e w' ⟨rfl, hw'⟩; rw [hw']; clear hw' w')
    go_ret
    exact ⟨rfl, unhide HZ⟩
  · go_upto_region 33 with fail
    go_wp2_with fail
    refine (proofCheck_any _ _ _ _ _ _ _ [] _ ⟨rfl, .inl ⟨rfl, rfl, rfl⟩⟩ (by decide)).mono ?_
    rintro e wz ⟨he, bz⟩
    rw [chk_long (by decide)] at he
    subst he
    have HZ := hide (bt (unhide HB) bz)
    clear bz
    go_wp2_with (go_at_call 12; refine (num_any _ _).mono ?_; rintro e w' ⟨rfl, hw'⟩; rw [hw']; clear hw' w')
    go_ret
    exact ⟨rfl, unhide HZ⟩
  · go_upto_region 33 with fail
    go_wp2_with fail
    refine (proofCheck_any _ _ _ _ _ _ _ [4, x] _ (unhide HI) (by decide)).mono ?_
    rintro e wz ⟨he, bz⟩
    rw [chk_noleaf (.inr (by decide))] at he
    subst he
    have HZ := hide (bt (unhide HB) bz)
    clear bz
    go_wp2_with (go_at_call 12; refine (num_any _ _).mono ?_; rintro e w' ⟨rfl, hw'⟩; rw [hw']; clear hw' w')
    go_ret
    exact ⟨rfl, unhide HZ⟩
end Go.Proofs.Ytcoggfpjomgajab
