/- The Go text of the statement ProofApart returns true, whatever the leaves and the numbers. -/
import Derived.Test.YtcoggfpjomgajabAwake11
import Derived.Test.YtcoggfpjomgajabProofMath2
import Derived.Test.YtcoggfpjomgajabKMatRef
namespace Go.Proofs.Ytcoggfpjomgajab
open Go.RowKit
set_option linter.unusedVariables false
set_option linter.unusedSimpArgs false
theorem modU (a : Int) (j : Nat) (h1 : 0 < j) (h2 : j ≤ 1000) : ∃ i : Nat, i < j ∧ (IntKind.u64.wrap a).tmod (j : Int) = (i : Int) := by
  have h0 : IntKind.u64.wrap a = a % 18446744073709551616 := IntKind.wrap_u64 a
  have : 0 ≤ a % 18446744073709551616 := Int.emod_nonneg _ (by decide)
  rw [h0, Int.tmod_eq_emod_of_nonneg (by omega)]
  have h3 := Int.emod_nonneg (a % 18446744073709551616) (show (j : Int) ≠ 0 by omega)
  have h4 := Int.emod_lt_of_pos (a % 18446744073709551616) (show 0 < (j : Int) by omega)
  exact ⟨(a % 18446744073709551616 % j).toNat, by omega, by omega⟩
theorem wrap_u (i : Nat) (h : i ≤ 1000) : IntKind.u64.wrap (i : Int) = (i : Int) := by rw [IntKind.wrap_u64]; omega
theorem wrap_i (i : Nat) (h : i ≤ 1000) : IntKind.i64.wrap (i : Int) = (i : Int) := by simp only [IntKind.wrap_i64]; omega
set_option maxRecDepth 100000 in
set_option maxHeartbeats 4000000 in
theorem ProofApart_walk {w : World} (a0 : Option Addr) (n0 c0 : Nat) (xs : List Int) (h0 : Ints w a0 n0 c0 xs) (r0 : n0 * 8 ≤ 140737488351232) (wf0 : ∀ x ∈ xs, (Lit.int .i64 x).wf = true)
    (at_ : Int) (wf1 : (Lit.int .i64 at_).wf = true) (other : Int) (wf2 : (Lit.int .i64 other).wf = true) :
    Calls Try.prog 7 #[.slice a0 n0 c0, .int .i64 at_, .int .i64 other] w fun e w' => e = .returned (.bool true) ∧ Below w.heap.size w w' := by
  have H0 := hide h0
  have hlen := h0.1
  clear h0
  go_enter Try.func7, Try.ntmps7
  go_wp2_with fail
  refine (awake11_any _).mono ?_
  rintro e w1 ⟨rfl, b1⟩
  have HW1 := hide b1
  have hs1 := b1.size
  clear b1
  go_wp2
  go_loopw [7, 8] (fun ov iv wr => ∃ j : Nat, j ≤ n0 ∧ j ≤ 64 ∧ iv = .int .i64 j ∧ Hid (OwnL wr w.heap.size 3 ov ((nint (lows xs j)).map (Value.int .i64))) ∧ Hid (Below w.heap.size w wr)) (fun _ iv _ => 64 - (intOf iv).toNat)
  case atStart => exact ⟨0, by omega, by omega, rfl, hide (OwnL.nil _ _ _), HW1⟩
  case round =>
    obtain ⟨j, hj, hj64, rfl, HO, HW⟩ := hrel
    obtain ⟨pv, cv, ev⟩ := (unhide HO).form
    rw [List.length_map, nint_len, lows_len _ _ (by omega)] at ev
    subst ev
    have hszW := (unhide HW).size
    by_cases hlt : j < n0 ∧ j < 64
    · have hlt1 : (j : Int) < n0 := by omega
      have hlt2 : (j : Int) < 64 := by omega
      obtain ⟨b, o, ea, hcell⟩ : ∃ b off, a0 = some ⟨b, off, none⟩ ∧ ∀ i, i < n0 → wr.cell? ⟨b, off + i, none⟩ = some (.int .i64 (xs.getD i 0)) := by
        rcases ((unhide H0).below (unhide HW)).2.two with h | h
        · omega
        · exact h
      subst ea
      have cj := hcell j hlt.1
      clear hcell
      obtain ⟨x, ex⟩ : ∃ x, x = xs.getD j 0 := ⟨_, rfl⟩
      rw [← ex] at cj
      have EX := hide ex
      clear ex
      have hlow : (x % 4294967296 / 4) = ((low30 x : Nat) : Int) := by unfold low30; omega
      have HLOW := hide hlow
      have hll := lows_len xs j (by omega)
      clear hlow
      go_wp2_with (at_builtin; refine wpList_push wr (by rfl) (.tmp 29) (.tmp 37) 22 (by rfl) w.heap.size 3 (.int .i64 0) 8 Try.underlying22 Try.infoInt rfl _ _ (by rfl) (unhide HO) _ (by rfl) (by rfl) (by simp [nint_len, hll]; omega) (by omega) hszW ?_; intro v1 wa O1 P1; have HBa := hide (P1.below (unhide HO) (unhide HW) (Nat.le_refl _) hszW); have HO1 := hide O1; clear O1 P1 HO HW)
      go_roundw
      case rel =>
        refine ⟨j + 1, by omega, by omega, by go_num, hide ?_, HBa⟩
        have := unhide HO1
        rw [unhide HLOW, unhide EX] at this
        rw [lows_snoc _ _ (by omega)]
        simpa [nint] using this
      case measure => simp [intOf]; omega
    · have hex : (¬ (j : Int) < n0) ∨ ((j : Int) < n0 ∧ ¬ (j : Int) < 64) := by omega
      clear hlt
      by_cases hz : j < 2
      · have hz1 : (j : Int) < 2 := by omega
        rcases hex with h1 | ⟨h1, h2⟩
        · go_wp2
          go_ret
          exact ⟨rfl, unhide HW⟩
        · omega
      · have hz1 : ¬ (j : Int) < 2 := by omega
        have hz2 : ¬ (j : Int) = 0 := by omega
        have hz3 : ¬ j = 0 := by omega
        have hz4 : ((j : Int) == 0) = false := by simp; omega
        obtain ⟨i, hij, ei⟩ := modU at_ j (by omega) (by omega)
        obtain ⟨k, hk, ek⟩ := modU other j (by omega) (by omega)
        have wj := wrap_u j (by omega)
        have wi := wrap_u i (by omega)
        have wk := wrap_u k (by omega)
        have vi := wrap_i i (by omega)
        have vk := wrap_i k (by omega)
        obtain ⟨l, el⟩ : ∃ l, l = lows xs j := ⟨_, rfl⟩
        have hll : l.length = j := by rw [el]; exact lows_len xs j (by omega)
        have hm : Tree.May l := by rw [el]; exact lows_may xs j
        rw [← el] at HO
        clear el
        have hO := unhide HO
        obtain ⟨g, cap, eg, hg, hcap, hcap2, _⟩ := own_form (n := ((nint l).map (Value.int .i64)).length) hO (by simp [nint_len]; omega)
        simp only [Value.slice.injEq, List.length_map, nint_len, hll, true_and] at eg
        obtain ⟨rfl, rfl⟩ := eg
        obtain ⟨p', c', e', hI⟩ := hO.ints
        simp only [Value.slice.injEq, nint_len, hll, true_and] at e'
        obtain ⟨e1, e2⟩ := e'
        subst e2
        rw [← e1, nint_len, hll] at hI
        have hr := rootP_nint (by omega) (by omega) hm
        have hp := pathP_nint (i := i) (by omega) (by omega) (by omega) hm
        have hp' := pathP_nint (i := k) (by omega) (by omega) (by omega) hm
        have hpl := Tree.path_len j l i hll (by omega)
        have hpd := Tree.depth_le j i (by omega) (by omega)
        have hpl' := Tree.path_len j l k hll (by omega)
        have hpd' := Tree.depth_le j k (by omega) (by omega)
        have c1 := chk_path hll (by omega) (by omega : i < j) hm
        have c2 := chk_path hll (by omega) (by omega : k < j) hm
        have c3 := fun h => chk_leaf (a := l.getD i 0) hll (by omega) (by omega : k < j) hm (getD_lt hm i) h
        obtain ⟨x, ex⟩ : ∃ x, x = l.getD i 0 := ⟨_, rfl⟩
        obtain ⟨y, ey⟩ : ∃ y, y = l.getD k 0 := ⟨_, rfl⟩
        obtain ⟨R, eR⟩ : ∃ R, R = Tree.root l := ⟨_, rfl⟩
        obtain ⟨P, eP⟩ : ∃ P, P = Tree.path l i := ⟨_, rfl⟩
        obtain ⟨Q, eQ⟩ : ∃ Q, Q = Tree.path l k := ⟨_, rfl⟩
        rw [← eP] at hp hpl c1
        rw [← eQ] at hp' hpl' c2 c3
        rw [← eR] at hr c1 c2 c3
        rw [← ex] at c1 c3
        rw [← ey] at c2 c3
        have hPl : P.length < 64 := by omega
        have hQl : Q.length < 64 := by omega
        have cx : ∀ W : World, OwnL W w.heap.size 3 (.slice (some ⟨g, 0, none⟩) j cv) ((nint l).map (Value.int .i64)) → W.cell? ⟨g, i, none⟩ = some (.int .i64 x) ∧ W.cell? ⟨g, k, none⟩ = some (.int .i64 y) := fun W h => by
          have := own_cell h i (by rw [nint_len]; omega)
          rw [nint_at, ← ex] at this
          refine ⟨this, ?_⟩
          have := own_cell h k (by rw [nint_len]; omega)
          rw [nint_at, ← ey] at this
          exact this
        have CX := hide cx
        have HI := hide hI
        have HR := hide hr
        have HP := hide hp
        have HP' := hide hp'
        have C1 := hide c1
        have C2 := hide c2
        have C3 := hide c3
        clear hI hO hm hr e1 hp hp' c1 c2 c3 cx ex ey eR eP eQ hpl hpd hpl' hpd'
        rcases hex with h1 | ⟨h1, h2⟩
        all_goals
          go_upto_region 10 with fail
          refine wp_region_ord_then (S := Below wr.heap.size wr) [(true, 0), (true, 1), (true, 2), (true, 3), (true, 4), (true, 5), (true, 6), (true, 7), (true, 8), (true, 9), (true, 10), (true, 11), (true, 12), (true, 13), (true, 14)] (List.cons_ne_nil _ _) (by kernel_rfl) (by kernel_rfl) (by kernel_rfl) (by kernel_rfl) (by kernel_rfl) ((Below.refl _ _).drew) ?_
          simp only [List.dropLast_cons_cons, List.dropLast_singleton, List.getLast_cons_cons, List.getLast_singleton, withOps, List.map_cons, List.map_nil, List.getElem?_cons_succ, List.getElem?_cons_zero]
          repeat (refine walkH_read (by rfl) (by (intro gx; go_simp; try (with_reducible rfl))) ?_; try simp only [Act.put, List.setIfInBounds_toArray, List.set_cons_zero, List.set_cons_succ])
          refine lastPost_of_list ?_
          simp only [List.cons_append, List.nil_append]
          go_wp2_with fail
          refine NoPanic.normal ?_
          have bd := (Below.refl wr.heap.size wr).drew
          replace HO := hide ((unhide HO).below bd)
          replace HI := hide ((unhide HI).below bd)
          replace HW := hide (bt (unhide HW) bd)
          clear bd ei ek wj wi wk vi vk
          generalize wr.drew = w1' at *
          go_wp2_with fail
          refine (refRoot_any _ _ _ (nint l) _ (unhide HI) (by omega)).mono ?_
          rintro e w2 ⟨rfl, b2⟩
          rw [unhide HR]
          replace HO := hide ((unhide HO).below b2)
          replace HI := hide ((unhide HI).below b2)
          replace HW := hide (bt (unhide HW) b2)
          clear b2
          go_wp2_with fail
          refine (proofPath_any _ _ _ (nint l) _ _ (unhide HI) (by omega)).mono ?_
          rintro e w3 ⟨v3, he, O3, b3⟩
          rw [unhide HP] at he O3
          subst he
          obtain ⟨p3, c3, rfl, S3⟩ := O3.ints
          rw [nint_len] at S3 ⊢
          have HS := hide S3
          replace HO := hide ((unhide HO).below b3)
          replace HI := hide ((unhide HI).below b3)
          replace HW := hide (bt (unhide HW) b3)
          clear O3 b3 S3
          obtain ⟨ci, ck⟩ := unhide CX _ (unhide HO)
          go_wp2_with (go_at_call 12; refine (num_any _ _).mono ?_; rintro e w' ⟨rfl, hw'⟩; rw [hw']; clear hw' w')
          refine (proofCheck_any _ _ _ _ _ _ _ (nint P) _ (unhide HS) (by omega)).mono ?_
          rintro e w4 ⟨he, b4⟩
          rw [unhide C1] at he
          subst he
          replace HO := hide ((unhide HO).below b4)
          replace HI := hide ((unhide HI).below b4)
          replace HW := hide (bt (unhide HW) b4)
          clear b4 ci ck HS
          go_wp2_with fail
          refine (refPath_any _ _ _ (nint l) _ _ (unhide HI) (by omega)).mono ?_
          rintro e w5 ⟨v5, he, O5, b5⟩
          rw [unhide HP'] at he O5
          subst he
          obtain ⟨p5, c5, rfl, S5⟩ := O5.ints
          rw [nint_len] at S5 ⊢
          have HS := hide S5
          replace HO := hide ((unhide HO).below b5)
          replace HW := hide (bt (unhide HW) b5)
          clear O5 b5 S5 HI
          obtain ⟨ci, ck⟩ := unhide CX _ (unhide HO)
          have k1 := kept_cell (B := w5.heap.size) ci (cell_lt ci)
          have k2 := kept_cell (B := w5.heap.size) ck (cell_lt ck)
          clear ci ck
          by_cases hxy : x = y
          · subst hxy
            have txy : ((x : Int) == (x : Int)) = true := by simp
            go_upto_region 16 with fail
            refine wp_region_ord_then (S := Below w5.heap.size w5) [(true, 0), (true, 1), (true, 2), (true, 3), (true, 4), (true, 5), (true, 6), (true, 7), (true, 8), (true, 9), (true, 10), (true, 11), (false, 12), (true, 13), (true, 14), (true, 15), (true, 16), (true, 17), (true, 18), (true, 19), (true, 20), (true, 21), (true, 22), (true, 23), (true, 24), (true, 25), (true, 26), (true, 27), (true, 28), (true, 29), (true, 30), (true, 31), (true, 32), (true, 33), (false, 34), (true, 35), (true, 36), (true, 37)] (List.cons_ne_nil _ _) (by kernel_rfl) (by kernel_rfl) (by kernel_rfl) (by kernel_rfl) (by kernel_rfl) ((Below.refl _ _).drew) ?_
            simp only [List.dropLast_cons_cons, List.dropLast_singleton, List.getLast_cons_cons, List.getLast_singleton, withOps, List.map_cons, List.map_nil, List.getElem?_cons_succ, List.getElem?_cons_zero]
            repeat (refine walkH_read (by rfl) (by (intro gx; go_simp; try (with_reducible rfl))) ?_; try simp only [Act.put, List.setIfInBounds_toArray, List.set_cons_zero, List.set_cons_succ])
            refine walkH_do rfl (fun K hK => ?_)
            go_simp
            refine (proofCheck_any _ _ _ _ _ _ _ (nint Q) _ ((unhide HS).below ((Below.refl _ _).drew)) (by omega)).mono ?_
            rintro e w6 ⟨he, b6⟩
            rw [unhide C2] at he
            subst he
            have hb6 : Below w5.heap.size w5 w6 := ((Below.refl _ _).drew).trans b6
            refine hK _ _ hb6 ?_
            clear hK K
            try simp only [Act.put, List.setIfInBounds_toArray, List.set_cons_zero, List.set_cons_succ]
            repeat (refine walkH_read (by rfl) (by (intro gx; go_simp; try (with_reducible rfl))) ?_; try simp only [Act.put, List.setIfInBounds_toArray, List.set_cons_zero, List.set_cons_succ])
            repeat (refine walkH_skip (by rfl) ?_; try simp only [Act.put, List.setIfInBounds_toArray, List.set_cons_zero, List.set_cons_succ])
            refine walkH_do rfl (fun K hK => ?_)
            go_simp
            refine hK _ _ hb6 ?_
            clear hK K
            try simp only [Act.put, List.setIfInBounds_toArray, List.set_cons_zero, List.set_cons_succ]
            repeat (refine walkH_skip (by rfl) ?_; try simp only [Act.put, List.setIfInBounds_toArray, List.set_cons_zero, List.set_cons_succ])
            repeat (refine walkH_read (by rfl) (by (intro gx; go_simp; try (with_reducible rfl))) ?_; try simp only [Act.put, List.setIfInBounds_toArray, List.set_cons_zero, List.set_cons_succ])
            refine lastPost_of_list ?_
            simp only [List.cons_append, List.nil_append]
            go_wp2
            refine NoPanic.normal ?_
            go_wp2
            go_ret
            exact ⟨rfl, bt (unhide HW) hb6⟩
          · have txy : ((x : Int) == (y : Int)) = false := by simp; omega
            have c3 := hide (unhide C3 (fun h => hxy h.symm))
            clear hxy
            go_upto_region 16 with fail
            refine wp_region_ord_then (S := Below w5.heap.size w5) [(true, 0), (true, 1), (true, 2), (true, 3), (true, 4), (true, 5), (true, 6), (true, 7), (true, 8), (true, 9), (true, 10), (true, 11), (false, 12), (true, 13), (true, 14), (true, 15), (true, 16), (true, 17), (true, 18), (true, 19), (true, 20), (true, 21), (true, 22), (true, 23), (true, 24), (true, 25), (true, 26), (true, 27), (true, 28), (true, 29), (true, 30), (true, 31), (true, 32), (true, 33), (false, 34), (true, 35), (true, 36), (true, 37)] (List.cons_ne_nil _ _) (by kernel_rfl) (by kernel_rfl) (by kernel_rfl) (by kernel_rfl) (by kernel_rfl) ((Below.refl _ _).drew) ?_
            simp only [List.dropLast_cons_cons, List.dropLast_singleton, List.getLast_cons_cons, List.getLast_singleton, withOps, List.map_cons, List.map_nil, List.getElem?_cons_succ, List.getElem?_cons_zero]
            repeat (refine walkH_read (by rfl) (by (intro gx; go_simp; try (with_reducible rfl))) ?_; try simp only [Act.put, List.setIfInBounds_toArray, List.set_cons_zero, List.set_cons_succ])
            refine walkH_do rfl (fun K hK => ?_)
            go_simp
            refine (proofCheck_any _ _ _ _ _ _ _ (nint Q) _ ((unhide HS).below ((Below.refl _ _).drew)) (by omega)).mono ?_
            rintro e w6 ⟨he, b6⟩
            rw [unhide C2] at he
            subst he
            have hb6 : Below w5.heap.size w5 w6 := ((Below.refl _ _).drew).trans b6
            refine hK _ _ hb6 ?_
            clear hK K
            try simp only [Act.put, List.setIfInBounds_toArray, List.set_cons_zero, List.set_cons_succ]
            repeat (refine walkH_read (by rfl) (by (intro gx; go_simp; try (with_reducible rfl))) ?_; try simp only [Act.put, List.setIfInBounds_toArray, List.set_cons_zero, List.set_cons_succ])
            refine walkH_do rfl (fun K hK => ?_)
            go_simp
            refine (proofCheck_any _ _ _ _ _ _ _ (nint Q) _ ((unhide HS).below hb6) (by omega)).mono ?_
            rintro e w7 ⟨he, b7⟩
            rw [unhide c3] at he
            subst he
            have hb7 : Below w5.heap.size w5 w7 := bt hb6 b7
            refine hK _ _ hb7 ?_
            clear hK K
            try simp only [Act.put, List.setIfInBounds_toArray, List.set_cons_zero, List.set_cons_succ]
            repeat (refine walkH_read (by rfl) (by (intro gx; go_simp; try (with_reducible rfl))) ?_; try simp only [Act.put, List.setIfInBounds_toArray, List.set_cons_zero, List.set_cons_succ])
            refine lastPost_of_list ?_
            simp only [List.cons_append, List.nil_append]
            go_wp2
            refine NoPanic.normal ?_
            go_wp2
            go_ret
            exact ⟨rfl, bt (unhide HW) hb7⟩
end Go.Proofs.Ytcoggfpjomgajab
