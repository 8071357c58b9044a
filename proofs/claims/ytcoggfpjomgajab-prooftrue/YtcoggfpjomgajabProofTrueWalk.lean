/- The Go text of the statement ProofTrue returns true, whatever the leaves and the numbers. -/
import Derived.Test.YtcoggfpjomgajabAwake11
import Derived.Test.YtcoggfpjomgajabProofMath2
import Derived.Test.YtcoggfpjomgajabKMatRef
namespace Go.Proofs.Ytcoggfpjomgajab
open Go.RowKit
set_option linter.unusedVariables false
set_option linter.unusedSimpArgs false
set_option maxRecDepth 100000 in
set_option maxHeartbeats 4000000 in
theorem ProofTrue_walk {w : World} (a0 : Option Addr) (n0 c0 : Nat) (xs : List Int) (h0 : Ints w a0 n0 c0 xs) (r0 : n0 * 8 ≤ 140737488351232) (wf0 : ∀ x ∈ xs, (Lit.int .i64 x).wf = true)
    (at_ : Int) (wf1 : (Lit.int .i64 at_).wf = true) (by_ : Int) (wf2 : (Lit.int .i64 by_).wf = true) (which : Int) (wf3 : (Lit.int .i64 which).wf = true) :
    Calls Try.prog 4 #[.slice a0 n0 c0, .int .i64 at_, .int .i64 by_, .int .i64 which] w fun e w' => e = .returned (.bool true) ∧ Below w.heap.size w w' := by
  have H0 := hide h0
  have hlen := h0.1
  clear h0
  go_enter Try.func4, Try.ntmps4
  go_wp2_with fail
  refine (awake11_any _).mono ?_
  rintro e w1 ⟨rfl, b1⟩
  have HW1 := hide b1
  have hs1 := b1.size
  clear b1
  go_wp2
  go_loopw [9, 10] (fun ov iv wr => ∃ j : Nat, j ≤ n0 ∧ j ≤ 64 ∧ iv = .int .i64 j ∧ Hid (OwnL wr w.heap.size 3 ov ((nint (lows xs j)).map (Value.int .i64))) ∧ Hid (Below w.heap.size w wr)) (fun _ iv _ => 64 - (intOf iv).toNat)
  case atStart => exact ⟨0, by omega, by omega, rfl, hide (OwnL.nil _ _ _), HW1⟩
  case round =>
    obtain ⟨j, hj, hj64, rfl, HO, HW⟩ := hrel
    obtain ⟨pv, cv, ev⟩ := (unhide HO).form
    rw [List.length_map, nint_len, lows_len _ _ (by omega)] at ev
    subst ev
    have hszW := (unhide HW).size
    by_cases hlt : j < n0 ∧ j < 64
    · have hlt1 : (j : Int) < n0 := by omega
      have hlt2 : (j : Int) < 64 := by omega
      obtain ⟨b, o, ea, hcell⟩ : ∃ b off, a0 = some ⟨b, off, none⟩ ∧ ∀ i, i < n0 → wr.cell? ⟨b, off + i, none⟩ = some (.int .i64 (xs.getD i 0)) := by
        rcases ((unhide H0).below (unhide HW)).2.two with h | h
        · omega
        · exact h
      subst ea
      have cj := hcell j hlt.1
      clear hcell
      obtain ⟨x, ex⟩ : ∃ x, x = xs.getD j 0 := ⟨_, rfl⟩
      rw [← ex] at cj
      have EX := hide ex
      clear ex
      have hlow : (x % 4294967296 / 4) = ((low30 x : Nat) : Int) := by unfold low30; omega
      have HLOW := hide hlow
      have hll := lows_len xs j (by omega)
      clear hlow
      go_wp2_with (at_builtin; refine wpList_push wr (by rfl) (.tmp 31) (.tmp 39) 22 (by rfl) w.heap.size 3 (.int .i64 0) 8 Try.underlying22 Try.infoInt rfl _ _ (by rfl) (unhide HO) _ (by rfl) (by rfl) (by simp [nint_len, hll]; omega) (by omega) hszW ?_; intro v1 wa O1 P1; have HBa := hide (P1.below (unhide HO) (unhide HW) (Nat.le_refl _) hszW); have HO1 := hide O1; clear O1 P1 HO HW)
      go_roundw
      case rel =>
        refine ⟨j + 1, by omega, by omega, by go_num, hide ?_, HBa⟩
        have := unhide HO1
        rw [unhide HLOW, unhide EX] at this
        rw [lows_snoc _ _ (by omega)]
        simpa [nint] using this
      case measure => simp [intOf]; omega
    · have hex : (¬ (j : Int) < n0) ∨ ((j : Int) < n0 ∧ ¬ (j : Int) < 64) := by omega
      clear hlt
      by_cases hz : j = 0
      · subst hz
        rcases hex with h1 | ⟨h1, h2⟩
        · go_wp2
          go_ret
          exact ⟨rfl, unhide HW⟩
        · omega
      · have hz1 : ¬ (j : Int) < 1 := by omega
        have hz2 : ¬ (j : Int) = 0 := by omega
        obtain ⟨i, hij, ei⟩ := modT at_ j (by omega) (by omega)
        obtain ⟨k, hk, ek⟩ := and_65535 by_
        obtain ⟨l, el⟩ : ∃ l, l = lows xs j := ⟨_, rfl⟩
        have hll : l.length = j := by rw [el]; exact lows_len xs j (by omega)
        have hm : Tree.May l := by rw [el]; exact lows_may xs j
        rw [← el] at HO
        clear el
        have hO := unhide HO
        obtain ⟨g, cap, eg, hg, hcap, hcap2, _⟩ := own_form (n := ((nint l).map (Value.int .i64)).length) hO (by simp [nint_len]; omega)
        simp only [Value.slice.injEq, List.length_map, nint_len, hll, true_and] at eg
        obtain ⟨rfl, rfl⟩ := eg
        obtain ⟨p', c', e', hI⟩ := hO.ints
        simp only [Value.slice.injEq, nint_len, hll, true_and] at e'
        obtain ⟨e1, e2⟩ := e'
        subst e2
        rw [← e1, nint_len, hll] at hI
        have hr := rootP_nint (by omega) (by omega) hm
        have hp := pathP_nint (i := i) (by omega) (by omega) (by omega) hm
        have hpm := Tree.path_may j l i hll (by omega) hm
        have hpl := Tree.path_len j l i hll (by omega)
        have hpd := Tree.depth_le j i (by omega) (by omega)
        have c1 := chk_path hll (by omega) (by omega : i < j) hm
        obtain ⟨z, hz3, hz4, ez, -⟩ := turn2 (l.getD i 0) k (getD_lt hm i) hk
        have c2 := chk_leaf (a := z) hll (by omega) (by omega : i < j) hm hz3 hz4
        have c3 := fun kk zz h1 h2 h3 => chk_set (k := kk) (z := zz) hll (by omega) (by omega : i < j) hm h1 h2 h3
        obtain ⟨x, ex⟩ : ∃ x, x = l.getD i 0 := ⟨_, rfl⟩
        obtain ⟨R, eR⟩ : ∃ R, R = Tree.root l := ⟨_, rfl⟩
        obtain ⟨P, eP⟩ : ∃ P, P = Tree.path l i := ⟨_, rfl⟩
        rw [← eP] at hp hpm hpl c1 c2 c3
        rw [← eR] at hr c1 c2 c3
        rw [← ex] at ez c1 c3
        have hP1 : j = 1 ∨ 1 ≤ P.length := by
          by_cases h : j = 1
          · exact .inl h
          · rw [hpl]; exact .inr (Tree.depth_pos (by omega))
        have c4 : ∀ a : Int, 1 ≤ P.length → decide (Chk (R : Int) (j : Int) (i : Int) a (nint (P.drop 1))) = false := fun a h => chk_short (by rw [nint_len, List.length_drop]; omega)
        have hPl : P.length < 64 := by omega
        have cx : ∀ W : World, OwnL W w.heap.size 3 (.slice (some ⟨g, 0, none⟩) j cv) ((nint l).map (Value.int .i64)) → W.cell? ⟨g, i, none⟩ = some (.int .i64 x) := fun W h => by
          have := own_cell h i (by rw [nint_len]; omega)
          rw [nint_at, ← ex] at this
          exact this
        have CX := hide cx
        have HI := hide hI
        have HM := hide hm
        have HR := hide hr
        have HP := hide hp
        have HPM := hide hpm
        have C1 := hide c1
        have C2 := hide c2
        have C3 := hide c3
        have C4 := hide c4
        clear hI hO hm hr e1 hp hpm c1 c2 c3 c4 cx ex eR eP hpl hpd hz3 hz4
        rcases hex with h1 | ⟨h1, h2⟩
        all_goals
          go_wp2_with fail
          refine (treeRoot_any _ _ _ (nint l) _ (unhide HI) (by omega)).mono ?_
          rintro e w2 ⟨rfl, b2⟩
          rw [unhide HR]
          replace HO := hide ((unhide HO).below b2)
          replace HI := hide ((unhide HI).below b2)
          replace HW := hide (bt (unhide HW) b2)
          clear b2
          go_wp2_with fail
          refine (proofPath_any _ _ _ (nint l) _ _ (unhide HI) (by omega)).mono ?_
          rintro e w3 ⟨v3, he, O3, b3⟩
          rw [unhide HP] at he O3
          subst he
          obtain ⟨p3, c3, ev⟩ := O3.form
          rw [List.length_map, nint_len] at ev
          subst ev
          have HQ := hide O3
          have hb3 := b3.size
          replace HO := hide ((unhide HO).below b3)
          replace HW := hide (bt (unhide HW) b3)
          clear O3 b3 HI
          have ci := unhide CX _ (unhide HO)
          obtain ⟨p3', c3', e3, S3⟩ := (unhide HQ).ints
          simp only [Value.slice.injEq, nint_len, true_and] at e3
          obtain ⟨rfl, rfl⟩ := e3
          rw [nint_len] at S3
          have HS := hide S3
          clear S3
          go_wp2_with (go_at_call 12; refine (num_any _ _).mono ?_; rintro e w' ⟨rfl, hw'⟩; rw [hw']; clear hw' w')
          refine (proofCheck_any _ _ _ _ _ _ _ (nint P) _ (unhide HS) (by omega)).mono ?_
          rintro e w4 ⟨he, b4⟩
          rw [unhide C1] at he
          subst he
          replace HS := hide ((unhide HS).below b4)
          replace HQ := hide ((unhide HQ).below b4)
          replace HO := hide ((unhide HO).below b4)
          replace HW := hide (bt (unhide HW) b4)
          clear b4 ci
          have ci := unhide CX _ (unhide HO)
          go_wp2_with fail
          refine (proofCheck_any _ _ _ _ _ _ _ (nint P) _ (unhide HS) (by omega)).mono ?_
          rintro e w5 ⟨he, b5⟩
          rw [unhide C2] at he
          subst he
          replace HS := hide ((unhide HS).below b5)
          replace HO := hide ((unhide HO).below b5)
          replace HW := hide (bt (unhide HW) b5)
          clear b5 ci
          by_cases hp0 : P.length = 0
          · have hj1 : j = 1 := by omega
            subst hj1
            have hp1 : (P.length : Int) < 1 := by omega
            go_wp2
            go_ret
            exact ⟨rfl, unhide HW⟩
          · clear hP1
            have hp1 : ¬ (P.length : Int) < 1 := by omega
            have hp2 : ¬ (P.length : Int) = 0 := by omega
            obtain ⟨kk, hkk, ekk⟩ := modT which P.length (by omega) (by omega)
            have ekk6 := hide ekk
            clear ekk
            have hrow := hide ((unhide HS).below (below_alloc w5 (.cells #[] 3))).2
            go_upto_region 22 with (at_builtin; refine wpList_append_row _ (by rfl) _ _ 22 (by rfl) w5.heap.size 3 (.int .i64 0) 8 Try.underlying22 Try.infoInt rfl _ _ _ (by rfl) (own_empty w5 3) p3 P.length c3 _ ((nint P).map (Value.int .i64)) (by rfl) (unhide hrow) (by simp [nint_len]) (int_at (nint_len P)) (ints_oneCell _ _) (by unfold maxLen; omega) (by omega) (by simp) ?_; intro v6 w6 O6 P6; simp only [Nat.zero_add, List.nil_append] at O6; have HB6 : Hid (Below w5.heap.size w5 w6) := hide ((below_alloc w5 _).grown P6 (by simp) (by intro k hk; simp [Value.ownBlock] at hk; omega)); have O6' : OwnL w6 w5.heap.size 3 v6 ((nint P).map (Value.int .i64)) := (by unfold OwnL; rw [List.length_map, nint_len]; exact O6); obtain ⟨g6, c6, ev6, hg6, hc6, hc6', _⟩ := own_form O6 (by omega); subst ev6; have HO6 := hide O6'; clear O6 O6' P6; have e6 := unhide ekk6; clear ekk6)
            have hyl := getD_lt (unhide HPM) kk
            obtain ⟨y, ey⟩ : ∃ y, y = P.getD kk 0 := ⟨_, rfl⟩
            obtain ⟨z2, hz5, hz6, ez2, ez2'⟩ := turn2 (P.getD kk 0) k hyl hk
            have cq := unhide C3 kk z2 (by omega) hz5 hz6
            rw [← ey] at ez2 ez2' hyl
            have cy := own_cell (unhide HO6) kk (by rw [nint_len]; omega)
            rw [nint_at, ← ey] at cy
            have fy := own_free (unhide HO6) kk
            have ty1 : ¬ (y : Int) < 0 := by omega
            have ty2 : decide ((2147483647 : Int) ≤ (y : Int)) = false := by simp; omega
            have ty3 : ¬ (2147483647 : Int) ≤ (y : Int) := by omega
            have HP6 := own_put (unhide HO6) kk (.int .i64 (z2 : Int))
            rw [nint_set] at HP6
            obtain ⟨q7, c7, e7, S7⟩ := HP6.ints
            simp only [Value.slice.injEq, nint_len, List.length_set, true_and] at e7
            obtain ⟨rfl, rfl⟩ := e7
            rw [nint_len, List.length_set] at S7
            have HS7 := hide S7
            have CQ := hide cq
            have hB7 := hide ((unhide HB6).setCell (p := ⟨g6, kk, none⟩) hg6 (.int .i64 (z2 : Int)))
            clear ey hyl hz5 hz6 cq HP6 S7 hrow
            go_upto_region 25 with fail
            have hO7 := (unhide HO).below (unhide hB7)
            have hS7 := (unhide HS).below (unhide hB7)
            have HW7 := hide (bt (unhide HW) (unhide hB7))
            generalize (w6.setCell ⟨g6, kk, none⟩ (.int .i64 (z2 : Int))) = W7 at *
            obtain ⟨hc3, b3, o3, e3⟩ := hS7.cap (by omega)
            subst e3
            have ci := unhide CX _ hO7
            have k1 := kept_cell (B := W7.heap.size) ci (cell_lt ci)
            have HSp := hide hS7
            clear hO7 hS7 ci cy fy hB7 HB6 HO6 HO HS HW
            have hc1 : (1 : Int) ≤ P.length := by omega
            have hc2 : (P.length : Int) ≤ c3 := by omega
            refine wp_region_ord_then (S := Below W7.heap.size W7) [(true, 0), (true, 1), (true, 2), (true, 3), (true, 4), (true, 5), (true, 6), (true, 7), (true, 8), (false, 9), (true, 10), (true, 11), (true, 12), (true, 13), (true, 14), (true, 15), (true, 16), (true, 17), (true, 18), (true, 19), (true, 20), (true, 21), (false, 22), (true, 23), (true, 24)] (List.cons_ne_nil _ _) (by kernel_rfl) (by kernel_rfl) (by kernel_rfl) (by kernel_rfl) (by kernel_rfl) ((Below.refl _ _).drew) ?_
            simp only [List.dropLast_cons_cons, List.dropLast_singleton, List.getLast_cons_cons, List.getLast_singleton, withOps, List.map_cons, List.map_nil, List.getElem?_cons_succ, List.getElem?_cons_zero]
            repeat (refine walkH_read (by rfl) (by (intro gx; go_simp; try (with_reducible rfl))) ?_; try simp only [Act.put, List.setIfInBounds_toArray, List.set_cons_zero, List.set_cons_succ])
            refine walkH_do rfl (fun K hK => ?_)
            go_simp
            refine (proofCheck_any _ _ _ _ _ _ _ (nint (P.set kk z2)) _ ((unhide HS7).below ((Below.refl _ _).drew)) (by omega)).mono ?_
            rintro e w8 ⟨he, b8⟩
            rw [unhide CQ] at he
            subst he
            have hb8 : Below W7.heap.size W7 w8 := ((Below.refl _ _).drew).trans b8
            refine hK _ _ hb8 ?_
            clear hK K
            try simp only [Act.put, List.setIfInBounds_toArray, List.set_cons_zero, List.set_cons_succ]
            repeat (refine walkH_read (by rfl) (by (intro gx; go_simp; try (with_reducible rfl))) ?_; try simp only [Act.put, List.setIfInBounds_toArray, List.set_cons_zero, List.set_cons_succ])
            refine walkH_do rfl (fun K hK => ?_)
            go_simp
            refine (proofCheck_any _ _ _ _ _ _ _ (nint (P.drop 1)) _ (((unhide HSp).below hb8).tail (by omega)) (by omega)).mono ?_
            rintro e w9 ⟨he, b9⟩
            rw [unhide C4 _ (by omega)] at he
            subst he
            have hb9 : Below W7.heap.size W7 w9 := bt hb8 b9
            refine hK _ _ hb9 ?_
            clear hK K k1 ez ez2 ez2' ty1 ty2 ty3 hc1 hc2 ek ei e6 hkk hij
            try simp only [Act.put, List.setIfInBounds_toArray, List.set_cons_zero, List.set_cons_succ]
            repeat (refine walkH_read (by rfl) (by (intro gx; go_simp; try (with_reducible rfl))) ?_; try simp only [Act.put, List.setIfInBounds_toArray, List.set_cons_zero, List.set_cons_succ])
            refine lastPost_of_list ?_
            simp only [List.cons_append, List.nil_append]
            go_wp2
            all_goals
              refine NoPanic.normal ?_
              go_wp2
              go_ret
              exact ⟨rfl, bt (unhide HW7) hb9⟩
end Go.Proofs.Ytcoggfpjomgajab
