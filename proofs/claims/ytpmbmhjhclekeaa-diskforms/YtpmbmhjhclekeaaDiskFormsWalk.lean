/- The Go text of the statement DiskForms returns true, whatever the numbers. -/
import Derived.Test.YtpmbmhjhclekeaaDskForms
import Derived.Deep.Cut
import Derived.Deep.CutRange
namespace Go.Proofs.Ytpmbmhjhclekeaa
open Go.RowKit
set_option linter.unusedVariables false
set_option linter.unusedSimpArgs false
attribute [local go_sem ↓] Go.wp_at_zero Go.wp_at_succ
theorem modD8 (a : Int) : ∃ i : Nat, i < 8 ∧ wrap64 ((IntKind.u64.wrap a).tmod 8) = (i : Int) := by
  have h0 : IntKind.u64.wrap a = a % 18446744073709551616 := IntKind.wrap_u64 a
  have : 0 ≤ a % 18446744073709551616 := Int.emod_nonneg _ (by decide)
  rw [h0, Int.tmod_eq_emod_of_nonneg (by omega)]
  exact ⟨(a % 18446744073709551616 % 8).toNat, by omega, by unfold wrap64; omega⟩
theorem low10 (a : Int) : ∃ d : Nat, d < 1024 ∧ bits .and .i64 a 1023 = (d : Int) := by
  rw [and_1k]
  have h1 := Int.emod_nonneg a (show (1024 : Int) ≠ 0 by decide)
  have h2 := Int.emod_lt_of_pos a (show (0 : Int) < 1024 by decide)
  exact ⟨(a % 1024).toNat, by omega, by omega⟩
set_option maxRecDepth 100000 in
set_option maxHeartbeats 8000000 in
theorem DiskForms_walk {w : World} (a0 : Int) (w0 : (Lit.int .i64 a0).wf = true) (a1 : Int) (w1 : (Lit.int .i64 a1).wf = true) : Calls Try.prog 6 #[.int .i64 a0, .int .i64 a1] w fun e w' => e = .returned (.bool true) ∧ Below w.heap.size w w' := by
  clear w0 w1
  obtain ⟨i, hi, ei⟩ := modD8 a0
  obtain ⟨d, hd, ed⟩ := low10 a1
  have HI := hide hi
  have HEI := hide ei
  have HD := hide hd
  clear hi ei
  have hd' : (d : Int) < 1024 := by omega
  have h97 := s97_size
  go_enter Try.func6, Try.ntmps6
  go_wp2_with fail
  refine (awake13_any _).mono ?_
  rintro e w0 ⟨rfl, b0⟩
  have HB := hide b0
  clear b0
  go_wp2_with fail
  refine (diskNew_any 2 _).mono ?_
  rintro e wr1 ⟨v, he, O, b1⟩
  rw [a_new] at he O
  obtain ⟨pa1, ka1, pc1, kc1, ev, hS1, hC1⟩ := O.read
  subst ev
  subst he
  replace HB := hide (bt (unhide HB) b1)
  clear b1  O
  go_upto_region 5 with fail
  have VG : Hid (DVar (wr1.alloc (.cells #[.bool aD0.lost, .slice pa1 aD0.secs.length ka1, .slice pc1 aD0.cache.length kc1] 25)) w.heap.size wr1.heap.size aD0) := hide ⟨⟨pa1, ka1, pc1, kc1, heap_alloc_new wr1 _, hS1.below (below_alloc _ _), hC1.below (below_alloc _ _)⟩, (unhide HB).size, by simp⟩
  have bb1 := below_alloc wr1 (.cells #[.bool aD0.lost, .slice pa1 aD0.secs.length ka1, .slice pc1 aD0.cache.length kc1] 25)
  replace HB := hide (bt (unhide HB) bb1)
  clear bb1 hS1 hC1
  generalize (wr1.alloc (.cells #[.bool aD0.lost, .slice pa1 aD0.secs.length ka1, .slice pc1 aD0.cache.length kc1] 25)) = WD1 at *
  generalize wr1.heap.size = g6 at *
  clear ed
  have hsl : aD0.secs.length = 2 := rfl
  obtain ⟨⟨sa, sc, ca, cc, hbx, hS, hC⟩, hlt⟩ := unhide VG
  obtain ⟨x0, x1, x2⟩ := box_dsk hbx
  clear hbx hS hC hlt
  go_wp2_with (go_at_call 12; refine (num_any _ _).mono ?_; rintro e w' ⟨rfl, hw'⟩; rw [hw']; clear hw' w')
  refine (full_any 97 (by decide) _).mono ?_
  rintro e wf ⟨rfl, bf⟩
  replace VG := hide ((unhide VG).below bf)
  replace HB := hide (bt (unhide HB) bf)
  clear bf x0 x1 x2
  rw [show fullB 97 = s97 from rfl]
  go_upto_region 8 with fail
  obtain ⟨⟨sa, sc, ca, cc, hbx, hS, hC⟩, hlt⟩ := unhide VG
  obtain ⟨x0, x1, x2⟩ := box_dsk hbx
  rw [hsl] at x1 hS
  clear hbx hC x0 x2 hsl
  have HS := hide hS
  clear hS
  refine wp_region_each (by kernel_rfl) [60, 61, 62, 63, 64, 65, 66, 67, 68, 69, 70, 71, 72, 73, 74, 75, 76, 77, 78, 79, 80, 81, 82, 83, 84, 85, 86, 87, 88, 89, 90, 91, 92, 93, 9] (predF d g6 (.slice sa 2 sc)) rfl ?_ (by kernel_rfl) (predF_stable d g6 (.slice sa 2 sc)) ?_ ?_
  · refine ⟨List.replicate 35 undef, rfl, ?_⟩
    kernel_rfl
  · intro ix o vs w' ho hlen hb hdep
    obtain ⟨v0, v1, v2, v3, v4, v5, v6, v7, v8, v9, v10, v11, v12, v13, v14, v15, v16, v17, v18, v19, v20, v21, v22, v23, v24, v25, v26, v27, v28, v29, v30, v31, v32, v33, v34, rfl⟩ := list35 hlen
    match ix with
    | 0 =>
      refine wpOp_of_list rfl ?_
      simp only [putAll]
      go_wp2
      exact ⟨.agg #[.bool false, .slice none 0 0, .slice none 0 0], by kernel_rfl, rfl, Below.refl _ _⟩
    | 1 =>
      refine wpOp_of_list rfl ?_
      simp only [putAll]
      go_wp2
      exact ⟨.slice (some ⟨w'.heap.size, 0, none⟩) 1 1, by kernel_rfl, sv_one _ sh5 _, below_alloc _ _⟩
    | 2 =>
      have r1 : SV w' v1 [sh5] := hdep ⟨1, .data⟩ (by cases ho; simp) rfl
      have R1 := hide r1
      obtain ⟨a1, c1, rfl, -⟩ := r1
      refine wpOp_of_list rfl ?_
      simp only [putAll]
      go_wp2
      exact ⟨.agg #[.bool false, .slice a1 1 c1, .slice none 0 0], by kernel_rfl, (unhide R1).dv (wv_nil _) false, Below.refl _ _⟩
    | 3 =>
      refine wpOp_of_list rfl ?_
      simp only [putAll]
      go_wp2
      exact ⟨.pointer (some ⟨g6, 1, none⟩), by kernel_rfl, rfl, Below.refl _ _⟩
    | 4 =>
      obtain rfl : v3 = _ := hdep ⟨3, .data⟩ (by cases ho; simp) rfl
      have x1' := (hb.cell (cell_lt x1)).trans x1
      refine wpOp_of_list rfl ?_
      simp only [putAll]
      go_wp2
      exact ⟨.slice sa 2 sc, by kernel_rfl, rfl, Below.refl _ _⟩
    | 5 =>
      refine wpOp_of_list rfl ?_
      simp only [putAll]
      go_wp2
      exact ⟨.string s97, by kernel_rfl, rfl, Below.refl _ _⟩
    | 6 =>
      obtain rfl : v5 = _ := hdep ⟨5, .data⟩ (by cases ho; simp) rfl
      refine wpOp_of_list rfl ?_
      simp only [putAll]
      go_wp2
      exact ⟨.agg #[.int .i64 2, .string s97], by kernel_rfl, rfl, Below.refl _ _⟩
    | 7 =>
      obtain rfl : v6 = _ := hdep ⟨6, .data⟩ (by cases ho; simp) rfl
      refine wpOp_of_list rfl ?_
      simp only [putAll]
      go_wp2
      exact ⟨.slice (some ⟨w'.heap.size, 0, none⟩) 1 1, by kernel_rfl, wv_one _ 2 s97 _, below_alloc _ _⟩
    | 8 =>
      obtain rfl : v4 = _ := hdep ⟨4, .data⟩ (by cases ho; simp) rfl
      have r7 : WV w' v7 [(2, s97)] := hdep ⟨7, .data⟩ (by cases ho; simp) rfl
      have R7 := hide r7
      obtain ⟨a7, c7, rfl, -⟩ := r7
      refine wpOp_of_list rfl ?_
      simp only [putAll]
      go_wp2
      exact ⟨.agg #[.bool false, .slice sa 2 sc, .slice a7 1 c7], by kernel_rfl, (show SV w' (.slice sa 2 sc) [aZ, aZ] from ⟨sa, sc, rfl, (unhide HS).below hb⟩).dv (unhide R7) false, Below.refl _ _⟩
    | 9 =>
      refine wpOp_of_list rfl ?_
      simp only [putAll]
      go_wp2
      exact ⟨.pointer (some ⟨g6, 1, none⟩), by kernel_rfl, rfl, Below.refl _ _⟩
    | 10 =>
      obtain rfl : v9 = _ := hdep ⟨9, .data⟩ (by cases ho; simp) rfl
      have x1' := (hb.cell (cell_lt x1)).trans x1
      refine wpOp_of_list rfl ?_
      simp only [putAll]
      go_wp2
      exact ⟨.slice sa 2 sc, by kernel_rfl, rfl, Below.refl _ _⟩
    | 11 =>
      refine wpOp_of_list rfl ?_
      simp only [putAll]
      go_wp2
      exact ⟨.int .i64 (1 + (d : Int)), by kernel_rfl, rfl, Below.refl _ _⟩
    | 12 =>
      obtain rfl : v11 = _ := hdep ⟨11, .data⟩ (by cases ho; simp) rfl
      refine wpOp_of_list rfl ?_
      simp only [putAll]
      go_wp2
      exact ⟨.int .i64 (-(1 + (d : Int))), by kernel_rfl, rfl, Below.refl _ _⟩
    | 13 =>
      refine wpOp_of_list rfl ?_
      simp only [putAll]
      go_wp2
      exact ⟨.string s97, by kernel_rfl, rfl, Below.refl _ _⟩
    | 14 =>
      obtain rfl : v12 = _ := hdep ⟨12, .data⟩ (by cases ho; simp) rfl
      obtain rfl : v13 = _ := hdep ⟨13, .data⟩ (by cases ho; simp) rfl
      refine wpOp_of_list rfl ?_
      simp only [putAll]
      go_wp2
      exact ⟨.agg #[.int .i64 (-(1 + (d : Int))), .string s97], by kernel_rfl, rfl, Below.refl _ _⟩
    | 15 =>
      obtain rfl : v14 = _ := hdep ⟨14, .data⟩ (by cases ho; simp) rfl
      refine wpOp_of_list rfl ?_
      simp only [putAll]
      go_wp2
      exact ⟨.slice (some ⟨w'.heap.size, 0, none⟩) 1 1, by kernel_rfl, wv_one _ (-(1 + (d : Int))) s97 _, below_alloc _ _⟩
    | 16 =>
      obtain rfl : v10 = _ := hdep ⟨10, .data⟩ (by cases ho; simp) rfl
      have r15 : WV w' v15 [(-(1 + (d : Int)), s97)] := hdep ⟨15, .data⟩ (by cases ho; simp) rfl
      have R15 := hide r15
      obtain ⟨a15, c15, rfl, -⟩ := r15
      refine wpOp_of_list rfl ?_
      simp only [putAll]
      go_wp2
      exact ⟨.agg #[.bool false, .slice sa 2 sc, .slice a15 1 c15], by kernel_rfl, (show SV w' (.slice sa 2 sc) [aZ, aZ] from ⟨sa, sc, rfl, (unhide HS).below hb⟩).dv (unhide R15) false, Below.refl _ _⟩
    | 17 =>
      refine wpOp_of_list rfl ?_
      simp only [putAll]
      go_wp2
      exact ⟨.pointer (some ⟨g6, 1, none⟩), by kernel_rfl, rfl, Below.refl _ _⟩
    | 18 =>
      obtain rfl : v17 = _ := hdep ⟨17, .data⟩ (by cases ho; simp) rfl
      have x1' := (hb.cell (cell_lt x1)).trans x1
      refine wpOp_of_list rfl ?_
      simp only [putAll]
      go_wp2
      exact ⟨.slice sa 2 sc, by kernel_rfl, rfl, Below.refl _ _⟩
    | 19 =>
      refine wpOp_of_list rfl ?_
      simp only [putAll]
      go_wp2
      exact ⟨.agg #[.int .i64 0, .string sx1], by kernel_rfl, rfl, Below.refl _ _⟩
    | 20 =>
      obtain rfl : v19 = _ := hdep ⟨19, .data⟩ (by cases ho; simp) rfl
      refine wpOp_of_list rfl ?_
      simp only [putAll]
      go_wp2
      exact ⟨.slice (some ⟨w'.heap.size, 0, none⟩) 1 1, by kernel_rfl, wv_one _ 0 sx1 _, below_alloc _ _⟩
    | 21 =>
      obtain rfl : v18 = _ := hdep ⟨18, .data⟩ (by cases ho; simp) rfl
      have r20 : WV w' v20 [(0, sx1)] := hdep ⟨20, .data⟩ (by cases ho; simp) rfl
      have R20 := hide r20
      obtain ⟨a20, c20, rfl, -⟩ := r20
      refine wpOp_of_list rfl ?_
      simp only [putAll]
      go_wp2
      exact ⟨.agg #[.bool false, .slice sa 2 sc, .slice a20 1 c20], by kernel_rfl, (show SV w' (.slice sa 2 sc) [aZ, aZ] from ⟨sa, sc, rfl, (unhide HS).below hb⟩).dv (unhide R20) false, Below.refl _ _⟩
    | 22 =>
      refine wpOp_of_list rfl ?_
      simp only [putAll]
      go_wp2
      exact ⟨.pointer (some ⟨g6, 1, none⟩), by kernel_rfl, rfl, Below.refl _ _⟩
    | 23 =>
      obtain rfl : v22 = _ := hdep ⟨22, .data⟩ (by cases ho; simp) rfl
      have x1' := (hb.cell (cell_lt x1)).trans x1
      refine wpOp_of_list rfl ?_
      simp only [putAll]
      go_wp2
      exact ⟨.slice sa 2 sc, by kernel_rfl, rfl, Below.refl _ _⟩
    | 24 =>
      obtain rfl : v23 = _ := hdep ⟨23, .data⟩ (by cases ho; simp) rfl
      refine wpOp_of_list rfl ?_
      simp only [putAll]
      go_wp2
      exact ⟨.agg #[.bool true, .slice sa 2 sc, .slice none 0 0], by kernel_rfl, (show SV w' (.slice sa 2 sc) [aZ, aZ] from ⟨sa, sc, rfl, (unhide HS).below hb⟩).dv (wv_nil _) true, Below.refl _ _⟩
    | 25 =>
      refine wpOp_of_list rfl ?_
      simp only [putAll]
      go_wp2
      exact ⟨.string s97, by kernel_rfl, rfl, Below.refl _ _⟩
    | 26 =>
      obtain rfl : v25 = _ := hdep ⟨25, .data⟩ (by cases ho; simp) rfl
      refine wpOp_of_list rfl ?_
      simp only [putAll]
      go_wp2
      exact ⟨.agg #[.int .i64 0, .string s97], by kernel_rfl, rfl, Below.refl _ _⟩
    | 27 =>
      obtain rfl : v26 = _ := hdep ⟨26, .data⟩ (by cases ho; simp) rfl
      refine wpOp_of_list rfl ?_
      simp only [putAll]
      go_wp2
      exact ⟨.slice (some ⟨w'.heap.size, 0, none⟩) 1 1, by kernel_rfl, wv_one _ 0 s97 _, below_alloc _ _⟩
    | 28 =>
      have r27 : WV w' v27 [(0, s97)] := hdep ⟨27, .data⟩ (by cases ho; simp) rfl
      have R27 := hide r27
      obtain ⟨a27, c27, rfl, -⟩ := r27
      refine wpOp_of_list rfl ?_
      simp only [putAll]
      go_wp2
      exact ⟨.agg #[.bool true, .slice none 0 0, .slice a27 1 c27], by kernel_rfl, (sv_nil _).dv (unhide R27) true, Below.refl _ _⟩
    | 29 =>
      refine wpOp_of_list rfl ?_
      simp only [putAll]
      go_wp2
      exact ⟨.int .i64 (1 + (d : Int)), by kernel_rfl, rfl, Below.refl _ _⟩
    | 30 =>
      obtain rfl : v29 = _ := hdep ⟨29, .data⟩ (by cases ho; simp) rfl
      refine wpOp_of_list rfl ?_
      simp only [putAll]
      go_wp2
      exact ⟨.int .i64 (72 + (1 + (d : Int))), by kernel_rfl, rfl, Below.refl _ _⟩
    | 31 =>
      have hml : 72 + (1 + d) ≤ maxLen := by have := unhide HD; unfold maxLen; omega
      have hmk : ∀ w, (Instr.makeSlice 22 (.int .i64 (72 + (1 + (d : Int)))) (.int .i64 (72 + (1 + (d : Int))))).run Try.prog w = .ok (.slice (some ⟨w.heap.size, 0, none⟩) (72 + (1 + d)) (72 + (1 + d))) (w.alloc (.cells (madeCells #[.string ByteArray.empty] (72 + (1 + d))) 9)) := fun w => by
        rw [show (72 : Int) + (1 + (d : Int)) = ((72 + (1 + d) : Nat) : Int) by omega]
        exact run_make_row' (P := Try.prog) 22 9 (.string ByteArray.empty) 16 Try.underlying22 Try.infoText rfl .i64 .i64 (72 + (1 + d)) (by omega) (by omega) w
      obtain rfl : v30 = _ := hdep ⟨30, .data⟩ (by cases ho; simp) rfl
      refine wpOp_of_list rfl ?_
      simp only [putAll]
      go_wp2
      exact ⟨.slice (some ⟨w'.heap.size, 0, none⟩) (72 + (1 + d)) (72 + (1 + d)), by kernel_rfl, sv_made _ _ _ hml, below_alloc _ _⟩
    | 32 =>
      have r31 : SV w' v31 (List.replicate (72 + (1 + d)) ByteArray.empty) := hdep ⟨31, .data⟩ (by cases ho; simp) rfl
      have R31 := hide r31
      obtain ⟨a31, c31, rfl, -⟩ := r31
      have r32x : DV w' (.agg #[.bool false, .slice a31 (List.replicate (72 + (1 + d)) ByteArray.empty).length c31, .slice none 0 0]) (badD d 7) := (unhide R31).dv (wv_nil _) false
      rw [List.length_replicate] at r32x ⊢
      refine wpOp_of_list rfl ?_
      simp only [putAll]
      go_wp2
      exact ⟨.agg #[.bool false, .slice a31 (72 + (1 + d)) c31, .slice none 0 0], by kernel_rfl, r32x, Below.refl _ _⟩
    | 33 =>
      obtain rfl : v0 = _ := hdep ⟨0, .data⟩ (by cases ho; simp) rfl
      have r2 : DV w' v2 (badD d 1) := hdep ⟨2, .data⟩ (by cases ho; simp) rfl
      have R2 := hide r2
      obtain ⟨sa2, sc2, ca2, cc2, rfl, hS2, hC2⟩ := r2
      have HS2 := hide hS2
      have HC2 := hide hC2
      clear hS2 hC2
      have r8 : DV w' v8 (badD d 2) := hdep ⟨8, .data⟩ (by cases ho; simp) rfl
      have R8 := hide r8
      obtain ⟨sa8, sc8, ca8, cc8, rfl, hS8, hC8⟩ := r8
      have HS8 := hide hS8
      have HC8 := hide hC8
      clear hS8 hC8
      have r16 : DV w' v16 (badD d 3) := hdep ⟨16, .data⟩ (by cases ho; simp) rfl
      have R16 := hide r16
      obtain ⟨sa16, sc16, ca16, cc16, rfl, hS16, hC16⟩ := r16
      have HS16 := hide hS16
      have HC16 := hide hC16
      clear hS16 hC16
      have r21 : DV w' v21 (badD d 4) := hdep ⟨21, .data⟩ (by cases ho; simp) rfl
      have R21 := hide r21
      obtain ⟨sa21, sc21, ca21, cc21, rfl, hS21, hC21⟩ := r21
      have HS21 := hide hS21
      have HC21 := hide hC21
      clear hS21 hC21
      have r24 : DV w' v24 (badD d 5) := hdep ⟨24, .data⟩ (by cases ho; simp) rfl
      have R24 := hide r24
      obtain ⟨sa24, sc24, ca24, cc24, rfl, hS24, hC24⟩ := r24
      have HS24 := hide hS24
      have HC24 := hide hC24
      clear hS24 hC24
      have r28 : DV w' v28 (badD d 6) := hdep ⟨28, .data⟩ (by cases ho; simp) rfl
      have R28 := hide r28
      obtain ⟨sa28, sc28, ca28, cc28, rfl, hS28, hC28⟩ := r28
      have HS28 := hide hS28
      have HC28 := hide hC28
      clear hS28 hC28
      have r32 : DV w' v32 (badD d 7) := hdep ⟨32, .data⟩ (by cases ho; simp) rfl
      have R32 := hide r32
      obtain ⟨sa32, sc32, ca32, cc32, rfl, hS32, hC32⟩ := r32
      have HS32 := hide hS32
      have HC32 := hide hC32
      clear hS32 hC32
      refine wpOp_of_list rfl ?_
      simp only [putAll]
      go_wp2
      refine ⟨.slice (some ⟨w'.heap.size, 0, none⟩) 8 8, by kernel_rfl, ⟨w'.heap.size, rfl, fun j hj => ?_⟩, below_alloc _ _⟩
      have hcj : j = 0 ∨ j = 1 ∨ j = 2 ∨ j = 3 ∨ j = 4 ∨ j = 5 ∨ j = 6 ∨ j = 7 := by clear hb hdep; omega
      rcases hcj with rfl | rfl | rfl | rfl | rfl | rfl | rfl | rfl
      · exact dat_of (sa := none) (ca := none) (sc := 0) (cc := 0) (heap_alloc_new w' _) rfl rfl rfl ⟨rfl, .inl ⟨rfl, rfl, rfl⟩⟩ (WrV.nil _)
      · exact dat_of (heap_alloc_new w' _) rfl rfl rfl ((unhide HS2).below (below_alloc _ _)) ((unhide HC2).below (below_alloc _ _))
      · exact dat_of (heap_alloc_new w' _) rfl rfl rfl ((unhide HS8).below (below_alloc _ _)) ((unhide HC8).below (below_alloc _ _))
      · exact dat_of (heap_alloc_new w' _) rfl rfl rfl ((unhide HS16).below (below_alloc _ _)) ((unhide HC16).below (below_alloc _ _))
      · exact dat_of (heap_alloc_new w' _) rfl rfl rfl ((unhide HS21).below (below_alloc _ _)) ((unhide HC21).below (below_alloc _ _))
      · exact dat_of (heap_alloc_new w' _) rfl rfl rfl ((unhide HS24).below (below_alloc _ _)) ((unhide HC24).below (below_alloc _ _))
      · exact dat_of (heap_alloc_new w' _) rfl rfl rfl ((unhide HS28).below (below_alloc _ _)) ((unhide HC28).below (below_alloc _ _))
      · exact dat_of (heap_alloc_new w' _) rfl rfl rfl ((unhide HS32).below (below_alloc _ _)) ((unhide HC32).below (below_alloc _ _))
    | 34 =>
      have r33 : TabD w' v33 d := hdep ⟨33, .data⟩ (by cases ho; simp) rfl
      have R33 := hide r33
      obtain ⟨g33, rfl, -⟩ := r33
      refine wpOp_of_list rfl ?_
      simp only [putAll]
      go_wp2
      exact ⟨.slice (some ⟨g33, 0, none⟩) 8 8, by kernel_rfl, unhide R33, Below.refl _ _⟩
    | n + 35 => simp at ho
  · intro vs w' hlen hb hp
    obtain ⟨v0, v1, v2, v3, v4, v5, v6, v7, v8, v9, v10, v11, v12, v13, v14, v15, v16, v17, v18, v19, v20, v21, v22, v23, v24, v25, v26, v27, v28, v29, v30, v31, v32, v33, v34, rfl⟩ := list35 hlen
    obtain ⟨gt, et, hT⟩ : TabD w' v34 d := hp 34 (by simp)
    subst et
    obtain ⟨qa, qc, ra, rc, h0, h1, h2, hS0, hC0⟩ := hT i (unhide HI)
    have HNO := hide (bad_no d i (unhide HI))
    have HFT := hide (bad_fit d i (unhide HD) (unhide HI))
    clear hp hT x1 HS
    replace VG := hide ((unhide VG).below hb)
    replace HB := hide (bt (unhide HB) hb)
    clear hb
    generalize badD d i = q at *
    have ei := unhide HEI
    have hi8 : (i : Int) < 8 := by have := unhide HI; omega
    simp only [putAll]
    have HS0 := hide hS0
    have HC0 := hide hC0
    clear hS0 hC0
    go_upto_region 10 with fail
    have VB : Hid (DVar (w'.alloc (.cells #[.bool q.lost, .slice qa q.secs.length qc, .slice ra q.cache.length rc] 25)) w.heap.size w'.heap.size q) := hide ⟨⟨qa, qc, ra, rc, heap_alloc_new w' _, (unhide HS0).below (below_alloc _ _), (unhide HC0).below (below_alloc _ _)⟩, (unhide HB).size, by simp⟩
    have bb := below_alloc w' (.cells #[.bool q.lost, .slice qa q.secs.length qc, .slice ra q.cache.length rc] 25)
    replace VG := hide ((unhide VG).below bb)
    replace HB := hide (bt (unhide HB) bb)
    clear bb HS0 HC0 h0 h1 h2 ei hi8
    generalize (w'.alloc (.cells #[.bool q.lost, .slice qa q.secs.length qc, .slice ra q.cache.length rc] 25)) = W9 at *
    obtain ⟨⟨sa, sc, ca, cc, hbx, hS, hC⟩, hlt⟩ := unhide VB
    obtain ⟨x0, x1, x2⟩ := box_dsk hbx
    go_wp2_with fail
    refine (diskRead_any q _ _ _ _ _ _ 0 _ hS hC (by have := (unhide HFT).1; omega) (by have := (unhide HFT).2; omega)).mono ?_
    rintro e wr10 ⟨he, b10⟩
    rw [(no_read (unhide HNO) 0)] at he
    subst he
    replace VB := hide ((unhide VB).below b10)
    replace VG := hide ((unhide VG).below b10)
    replace HB := hide (bt (unhide HB) b10)
    clear b10 hbx hS hC hlt x0 x1 x2
    obtain ⟨⟨sa, sc, ca, cc, hbx, hS, hC⟩, hlt⟩ := unhide VB
    obtain ⟨x0, x1, x2⟩ := box_dsk hbx
    go_wp2_with fail
    refine (diskWrite_any q _ _ _ _ _ _ 0 s97 _ hS hC (unhide HFT).1 (unhide HFT).2).mono ?_
    rintro e wr11 ⟨v, he, O, b11⟩
    rw [(no_write (unhide HNO) 0 s97)] at he O
    obtain ⟨pa11, ka11, pc11, kc11, ev, hS11, hC11⟩ := O.read
    subst ev
    subst he
    replace VB := hide ((unhide VB).below b11)
    replace VG := hide ((unhide VG).below b11)
    replace HB := hide (bt (unhide HB) b11)
    clear b11 hbx hS hC hlt x0 x1 x2 O
    go_upto_region 12 with fail
    have X1 : Hid (DVar (wr11.alloc (.cells #[.bool dsk0.lost, .slice pa11 dsk0.secs.length ka11, .slice pc11 dsk0.cache.length kc11] 25)) w.heap.size wr11.heap.size dsk0) := hide ⟨⟨pa11, ka11, pc11, kc11, heap_alloc_new wr11 _, hS11.below (below_alloc _ _), hC11.below (below_alloc _ _)⟩, (unhide HB).size, by simp⟩
    have bb11 := below_alloc wr11 (.cells #[.bool dsk0.lost, .slice pa11 dsk0.secs.length ka11, .slice pc11 dsk0.cache.length kc11] 25)
    replace VB := hide ((unhide VB).below bb11)
    replace VG := hide ((unhide VG).below bb11)
    replace HB := hide (bt (unhide HB) bb11)
    clear bb11 hS11 hC11
    generalize (wr11.alloc (.cells #[.bool dsk0.lost, .slice pa11 dsk0.secs.length ka11, .slice pc11 dsk0.cache.length kc11] 25)) = WD11 at *
    obtain ⟨⟨sa, sc, ca, cc, hbx, hS, hC⟩, hlt⟩ := unhide VB
    obtain ⟨x0, x1, x2⟩ := box_dsk hbx
    go_wp2_with fail
    refine (diskFlush_any q _ _ _ _ _ _ _ hS hC (unhide HFT).1 (unhide HFT).2).mono ?_
    rintro e wr12 ⟨v, he, O, b12⟩
    rw [(no_flush (unhide HNO))] at he O
    obtain ⟨pa12, ka12, pc12, kc12, ev, hS12, hC12⟩ := O.read
    subst ev
    subst he
    replace VB := hide ((unhide VB).below b12)
    replace VG := hide ((unhide VG).below b12)
    replace HB := hide (bt (unhide HB) b12)
    clear b12 hbx hS hC hlt x0 x1 x2 O
    go_upto_region 13 with fail
    have X2 : Hid (DVar (wr12.alloc (.cells #[.bool dsk0.lost, .slice pa12 dsk0.secs.length ka12, .slice pc12 dsk0.cache.length kc12] 25)) w.heap.size wr12.heap.size dsk0) := hide ⟨⟨pa12, ka12, pc12, kc12, heap_alloc_new wr12 _, hS12.below (below_alloc _ _), hC12.below (below_alloc _ _)⟩, (unhide HB).size, by simp⟩
    have bb12 := below_alloc wr12 (.cells #[.bool dsk0.lost, .slice pa12 dsk0.secs.length ka12, .slice pc12 dsk0.cache.length kc12] 25)
    replace VB := hide ((unhide VB).below bb12)
    replace VG := hide ((unhide VG).below bb12)
    replace HB := hide (bt (unhide HB) bb12)
    clear bb12 hS12 hC12
    generalize (wr12.alloc (.cells #[.bool dsk0.lost, .slice pa12 dsk0.secs.length ka12, .slice pc12 dsk0.cache.length kc12] 25)) = WD12 at *
    obtain ⟨⟨sa, sc, ca, cc, hbx, hS, hC⟩, hlt⟩ := unhide VB
    obtain ⟨x0, x1, x2⟩ := box_dsk hbx
    go_wp2_with fail
    refine (diskCrash_any q _ _ _ _ _ _ 1 _ hS hC (unhide HFT).1 (unhide HFT).2).mono ?_
    rintro e wr13 ⟨v, he, O, b13⟩
    rw [(no_crash (unhide HNO) 1)] at he O
    obtain ⟨pa13, ka13, pc13, kc13, ev, hS13, hC13⟩ := O.read
    subst ev
    subst he
    replace VB := hide ((unhide VB).below b13)
    replace VG := hide ((unhide VG).below b13)
    replace HB := hide (bt (unhide HB) b13)
    clear b13 hbx hS hC hlt x0 x1 x2 O
    go_upto_region 14 with fail
    have X3 : Hid (DVar (wr13.alloc (.cells #[.bool dsk0.lost, .slice pa13 dsk0.secs.length ka13, .slice pc13 dsk0.cache.length kc13] 25)) w.heap.size wr13.heap.size dsk0) := hide ⟨⟨pa13, ka13, pc13, kc13, heap_alloc_new wr13 _, hS13.below (below_alloc _ _), hC13.below (below_alloc _ _)⟩, (unhide HB).size, by simp⟩
    have bb13 := below_alloc wr13 (.cells #[.bool dsk0.lost, .slice pa13 dsk0.secs.length ka13, .slice pc13 dsk0.cache.length kc13] 25)
    replace VB := hide ((unhide VB).below bb13)
    replace VG := hide ((unhide VG).below bb13)
    replace HB := hide (bt (unhide HB) bb13)
    clear bb13 hS13 hC13
    generalize (wr13.alloc (.cells #[.bool dsk0.lost, .slice pa13 dsk0.secs.length ka13, .slice pc13 dsk0.cache.length kc13] 25)) = WD13 at *
    obtain ⟨⟨sa, sc, ca, cc, hbx, hS, hC⟩, hlt⟩ := unhide VB
    obtain ⟨x0, x1, x2⟩ := box_dsk hbx
    go_wp2_with fail
    refine (diskRot_any q _ _ _ _ _ _ 0 0 1 _ hS hC (unhide HFT).1 (unhide HFT).2).mono ?_
    rintro e wr14 ⟨v, he, O, b14⟩
    rw [(no_rot (unhide HNO) 0 0 1)] at he O
    obtain ⟨pa14, ka14, pc14, kc14, ev, hS14, hC14⟩ := O.read
    subst ev
    subst he
    replace VB := hide ((unhide VB).below b14)
    replace VG := hide ((unhide VG).below b14)
    replace HB := hide (bt (unhide HB) b14)
    clear b14 hbx hS hC hlt x0 x1 x2 O
    go_upto_region 15 with fail
    have X4 : Hid (DVar (wr14.alloc (.cells #[.bool dsk0.lost, .slice pa14 dsk0.secs.length ka14, .slice pc14 dsk0.cache.length kc14] 25)) w.heap.size wr14.heap.size dsk0) := hide ⟨⟨pa14, ka14, pc14, kc14, heap_alloc_new wr14 _, hS14.below (below_alloc _ _), hC14.below (below_alloc _ _)⟩, (unhide HB).size, by simp⟩
    have bb14 := below_alloc wr14 (.cells #[.bool dsk0.lost, .slice pa14 dsk0.secs.length ka14, .slice pc14 dsk0.cache.length kc14] 25)
    replace VB := hide ((unhide VB).below bb14)
    replace VG := hide ((unhide VG).below bb14)
    replace HB := hide (bt (unhide HB) bb14)
    clear bb14 hS14 hC14
    generalize (wr14.alloc (.cells #[.bool dsk0.lost, .slice pa14 dsk0.secs.length ka14, .slice pc14 dsk0.cache.length kc14] 25)) = WD14 at *
    obtain ⟨⟨sa, sc, ca, cc, hbx, hS, hC⟩, hlt⟩ := unhide VB
    obtain ⟨x0, x1, x2⟩ := box_dsk hbx
    go_wp2_with fail
    refine (diskLose_any q _ _ _ _ _ _ _ hS hC (unhide HFT).1 (unhide HFT).2).mono ?_
    rintro e wr15 ⟨v, he, O, b15⟩
    rw [(no_lose (unhide HNO))] at he O
    obtain ⟨pa15, ka15, pc15, kc15, ev, hS15, hC15⟩ := O.read
    subst ev
    subst he
    replace VB := hide ((unhide VB).below b15)
    replace VG := hide ((unhide VG).below b15)
    replace HB := hide (bt (unhide HB) b15)
    clear b15 hbx hS hC hlt x0 x1 x2 O
    go_upto_region 16 with fail
    have X5 : Hid (DVar (wr15.alloc (.cells #[.bool dsk0.lost, .slice pa15 dsk0.secs.length ka15, .slice pc15 dsk0.cache.length kc15] 25)) w.heap.size wr15.heap.size dsk0) := hide ⟨⟨pa15, ka15, pc15, kc15, heap_alloc_new wr15 _, hS15.below (below_alloc _ _), hC15.below (below_alloc _ _)⟩, (unhide HB).size, by simp⟩
    have bb15 := below_alloc wr15 (.cells #[.bool dsk0.lost, .slice pa15 dsk0.secs.length ka15, .slice pc15 dsk0.cache.length kc15] 25)
    replace VB := hide ((unhide VB).below bb15)
    replace VG := hide ((unhide VG).below bb15)
    replace HB := hide (bt (unhide HB) bb15)
    clear bb15 hS15 hC15
    generalize (wr15.alloc (.cells #[.bool dsk0.lost, .slice pa15 dsk0.secs.length ka15, .slice pc15 dsk0.cache.length kc15] 25)) = WD15 at *
    clear X1 X2 X3 X4 X5
    obtain ⟨⟨sa, sc, ca, cc, hbx, hS, hC⟩, hlt⟩ := unhide VG
    obtain ⟨x0, x1, x2⟩ := box_dsk hbx
    go_wp2_with fail
    refine (diskRead_any aD0 _ _ _ _ _ _ (1 + (1 + (d : Int))) _ hS hC (by have := a0_fit.1; omega) (by have := a0_fit.2; omega)).mono ?_
    rintro e wr16 ⟨he, b16⟩
    rw [(g1 d)] at he
    subst he
    replace VB := hide ((unhide VB).below b16)
    replace VG := hide ((unhide VG).below b16)
    replace HB := hide (bt (unhide HB) b16)
    clear b16 hbx hS hC hlt x0 x1 x2
    obtain ⟨⟨sa, sc, ca, cc, hbx, hS, hC⟩, hlt⟩ := unhide VG
    obtain ⟨x0, x1, x2⟩ := box_dsk hbx
    go_wp2_with fail
    refine (diskRead_any aD0 _ _ _ _ _ _ (-(1 + (d : Int))) _ hS hC (by have := a0_fit.1; omega) (by have := a0_fit.2; omega)).mono ?_
    rintro e wr17 ⟨he, b17⟩
    rw [(g2 d)] at he
    subst he
    replace VB := hide ((unhide VB).below b17)
    replace VG := hide ((unhide VG).below b17)
    replace HB := hide (bt (unhide HB) b17)
    clear b17 hbx hS hC hlt x0 x1 x2
    obtain ⟨⟨sa, sc, ca, cc, hbx, hS, hC⟩, hlt⟩ := unhide VG
    obtain ⟨x0, x1, x2⟩ := box_dsk hbx
    go_wp2_with fail
    refine (diskWrite_any aD0 _ _ _ _ _ _ (1 + (1 + (d : Int))) s97 _ hS hC a0_fit.1 a0_fit.2).mono ?_
    rintro e wr18 ⟨v, he, O, b18⟩
    rw [(g3 d s97)] at he O
    obtain ⟨pa18, ka18, pc18, kc18, ev, hS18, hC18⟩ := O.read
    subst ev
    subst he
    replace VB := hide ((unhide VB).below b18)
    replace VG := hide ((unhide VG).below b18)
    replace HB := hide (bt (unhide HB) b18)
    clear b18 hbx hS hC hlt x0 x1 x2 O
    go_upto_region 19 with fail
    have X1 : Hid (DVar (wr18.alloc (.cells #[.bool dsk0.lost, .slice pa18 dsk0.secs.length ka18, .slice pc18 dsk0.cache.length kc18] 25)) w.heap.size wr18.heap.size dsk0) := hide ⟨⟨pa18, ka18, pc18, kc18, heap_alloc_new wr18 _, hS18.below (below_alloc _ _), hC18.below (below_alloc _ _)⟩, (unhide HB).size, by simp⟩
    have bb18 := below_alloc wr18 (.cells #[.bool dsk0.lost, .slice pa18 dsk0.secs.length ka18, .slice pc18 dsk0.cache.length kc18] 25)
    replace VB := hide ((unhide VB).below bb18)
    replace VG := hide ((unhide VG).below bb18)
    replace HB := hide (bt (unhide HB) bb18)
    clear bb18 hS18 hC18
    generalize (wr18.alloc (.cells #[.bool dsk0.lost, .slice pa18 dsk0.secs.length ka18, .slice pc18 dsk0.cache.length kc18] 25)) = WD18 at *
    obtain ⟨⟨sa, sc, ca, cc, hbx, hS, hC⟩, hlt⟩ := unhide VG
    obtain ⟨x0, x1, x2⟩ := box_dsk hbx
    go_wp2_with fail
    refine (diskWrite_any aD0 _ _ _ _ _ _ 0 (s97 ++ sx1) _ hS hC a0_fit.1 a0_fit.2).mono ?_
    rintro e wr19 ⟨v, he, O, b19⟩
    rw [(g4 0)] at he O
    obtain ⟨pa19, ka19, pc19, kc19, ev, hS19, hC19⟩ := O.read
    subst ev
    subst he
    replace VB := hide ((unhide VB).below b19)
    replace VG := hide ((unhide VG).below b19)
    replace HB := hide (bt (unhide HB) b19)
    clear b19 hbx hS hC hlt x0 x1 x2 O
    go_upto_region 20 with fail
    have X2 : Hid (DVar (wr19.alloc (.cells #[.bool dsk0.lost, .slice pa19 dsk0.secs.length ka19, .slice pc19 dsk0.cache.length kc19] 25)) w.heap.size wr19.heap.size dsk0) := hide ⟨⟨pa19, ka19, pc19, kc19, heap_alloc_new wr19 _, hS19.below (below_alloc _ _), hC19.below (below_alloc _ _)⟩, (unhide HB).size, by simp⟩
    have bb19 := below_alloc wr19 (.cells #[.bool dsk0.lost, .slice pa19 dsk0.secs.length ka19, .slice pc19 dsk0.cache.length kc19] 25)
    replace VB := hide ((unhide VB).below bb19)
    replace VG := hide ((unhide VG).below bb19)
    replace HB := hide (bt (unhide HB) bb19)
    clear bb19 hS19 hC19
    generalize (wr19.alloc (.cells #[.bool dsk0.lost, .slice pa19 dsk0.secs.length ka19, .slice pc19 dsk0.cache.length kc19] 25)) = WD19 at *
    obtain ⟨⟨sa, sc, ca, cc, hbx, hS, hC⟩, hlt⟩ := unhide VG
    obtain ⟨x0, x1, x2⟩ := box_dsk hbx
    go_wp2_with fail
    refine (diskRot_any aD0 _ _ _ _ _ _ 0 (63 + (1 + (d : Int))) 1 _ hS hC a0_fit.1 a0_fit.2).mono ?_
    rintro e wr20 ⟨v, he, O, b20⟩
    rw [(g5 d)] at he O
    obtain ⟨pa20, ka20, pc20, kc20, ev, hS20, hC20⟩ := O.read
    subst ev
    subst he
    replace VB := hide ((unhide VB).below b20)
    replace VG := hide ((unhide VG).below b20)
    replace HB := hide (bt (unhide HB) b20)
    clear b20 hbx hS hC hlt x0 x1 x2 O
    go_upto_region 21 with fail
    have X3 : Hid (DVar (wr20.alloc (.cells #[.bool dsk0.lost, .slice pa20 dsk0.secs.length ka20, .slice pc20 dsk0.cache.length kc20] 25)) w.heap.size wr20.heap.size dsk0) := hide ⟨⟨pa20, ka20, pc20, kc20, heap_alloc_new wr20 _, hS20.below (below_alloc _ _), hC20.below (below_alloc _ _)⟩, (unhide HB).size, by simp⟩
    have bb20 := below_alloc wr20 (.cells #[.bool dsk0.lost, .slice pa20 dsk0.secs.length ka20, .slice pc20 dsk0.cache.length kc20] 25)
    replace VB := hide ((unhide VB).below bb20)
    replace VG := hide ((unhide VG).below bb20)
    replace HB := hide (bt (unhide HB) bb20)
    clear bb20 hS20 hC20
    generalize (wr20.alloc (.cells #[.bool dsk0.lost, .slice pa20 dsk0.secs.length ka20, .slice pc20 dsk0.cache.length kc20] 25)) = WD20 at *
    obtain ⟨⟨sa, sc, ca, cc, hbx, hS, hC⟩, hlt⟩ := unhide VG
    obtain ⟨x0, x1, x2⟩ := box_dsk hbx
    go_wp2_with fail
    refine (diskRot_any aD0 _ _ _ _ _ _ 0 (-(1 + (d : Int))) 1 _ hS hC a0_fit.1 a0_fit.2).mono ?_
    rintro e wr21 ⟨v, he, O, b21⟩
    rw [(g6' d)] at he O
    obtain ⟨pa21, ka21, pc21, kc21, ev, hS21, hC21⟩ := O.read
    subst ev
    subst he
    replace VB := hide ((unhide VB).below b21)
    replace VG := hide ((unhide VG).below b21)
    replace HB := hide (bt (unhide HB) b21)
    clear b21 hbx hS hC hlt x0 x1 x2 O
    go_upto_region 22 with fail
    have X4 : Hid (DVar (wr21.alloc (.cells #[.bool dsk0.lost, .slice pa21 dsk0.secs.length ka21, .slice pc21 dsk0.cache.length kc21] 25)) w.heap.size wr21.heap.size dsk0) := hide ⟨⟨pa21, ka21, pc21, kc21, heap_alloc_new wr21 _, hS21.below (below_alloc _ _), hC21.below (below_alloc _ _)⟩, (unhide HB).size, by simp⟩
    have bb21 := below_alloc wr21 (.cells #[.bool dsk0.lost, .slice pa21 dsk0.secs.length ka21, .slice pc21 dsk0.cache.length kc21] 25)
    replace VB := hide ((unhide VB).below bb21)
    replace VG := hide ((unhide VG).below bb21)
    replace HB := hide (bt (unhide HB) bb21)
    clear bb21 hS21 hC21
    generalize (wr21.alloc (.cells #[.bool dsk0.lost, .slice pa21 dsk0.secs.length ka21, .slice pc21 dsk0.cache.length kc21] 25)) = WD21 at *
    obtain ⟨⟨sa, sc, ca, cc, hbx, hS, hC⟩, hlt⟩ := unhide VG
    obtain ⟨x0, x1, x2⟩ := box_dsk hbx
    go_wp2_with fail
    refine (diskRot_any aD0 _ _ _ _ _ _ 0 0 0 _ hS hC a0_fit.1 a0_fit.2).mono ?_
    rintro e wr22 ⟨v, he, O, b22⟩
    rw [g7] at he O
    obtain ⟨pa22, ka22, pc22, kc22, ev, hS22, hC22⟩ := O.read
    subst ev
    subst he
    replace VB := hide ((unhide VB).below b22)
    replace VG := hide ((unhide VG).below b22)
    replace HB := hide (bt (unhide HB) b22)
    clear b22 hbx hS hC hlt x0 x1 x2 O
    go_upto_region 23 with fail
    have X5 : Hid (DVar (wr22.alloc (.cells #[.bool dsk0.lost, .slice pa22 dsk0.secs.length ka22, .slice pc22 dsk0.cache.length kc22] 25)) w.heap.size wr22.heap.size dsk0) := hide ⟨⟨pa22, ka22, pc22, kc22, heap_alloc_new wr22 _, hS22.below (below_alloc _ _), hC22.below (below_alloc _ _)⟩, (unhide HB).size, by simp⟩
    have bb22 := below_alloc wr22 (.cells #[.bool dsk0.lost, .slice pa22 dsk0.secs.length ka22, .slice pc22 dsk0.cache.length kc22] 25)
    replace VB := hide ((unhide VB).below bb22)
    replace VG := hide ((unhide VG).below bb22)
    replace HB := hide (bt (unhide HB) bb22)
    clear bb22 hS22 hC22
    generalize (wr22.alloc (.cells #[.bool dsk0.lost, .slice pa22 dsk0.secs.length ka22, .slice pc22 dsk0.cache.length kc22] 25)) = WD22 at *
    obtain ⟨⟨sa, sc, ca, cc, hbx, hS, hC⟩, hlt⟩ := unhide VG
    obtain ⟨x0, x1, x2⟩ := box_dsk hbx
    go_wp2_with fail
    refine (diskRot_any aD0 _ _ _ _ _ _ 0 0 (255 + (1 + (d : Int))) _ hS hC a0_fit.1 a0_fit.2).mono ?_
    rintro e wr23 ⟨v, he, O, b23⟩
    rw [(g8 d)] at he O
    obtain ⟨pa23, ka23, pc23, kc23, ev, hS23, hC23⟩ := O.read
    subst ev
    subst he
    replace VB := hide ((unhide VB).below b23)
    replace VG := hide ((unhide VG).below b23)
    replace HB := hide (bt (unhide HB) b23)
    clear b23 hbx hS hC hlt x0 x1 x2 O
    go_upto_region 24 with fail
    have X6 : Hid (DVar (wr23.alloc (.cells #[.bool dsk0.lost, .slice pa23 dsk0.secs.length ka23, .slice pc23 dsk0.cache.length kc23] 25)) w.heap.size wr23.heap.size dsk0) := hide ⟨⟨pa23, ka23, pc23, kc23, heap_alloc_new wr23 _, hS23.below (below_alloc _ _), hC23.below (below_alloc _ _)⟩, (unhide HB).size, by simp⟩
    have bb23 := below_alloc wr23 (.cells #[.bool dsk0.lost, .slice pa23 dsk0.secs.length ka23, .slice pc23 dsk0.cache.length kc23] 25)
    replace VB := hide ((unhide VB).below bb23)
    replace VG := hide ((unhide VG).below bb23)
    replace HB := hide (bt (unhide HB) bb23)
    clear bb23 hS23 hC23
    generalize (wr23.alloc (.cells #[.bool dsk0.lost, .slice pa23 dsk0.secs.length ka23, .slice pc23 dsk0.cache.length kc23] 25)) = WD23 at *
    go_wp2_with fail
    refine (diskNew_any (72 + (1 + (d : Int))) _).mono ?_
    rintro e wr24 ⟨v, he, O, b24⟩
    rw [(g9 d)] at he O
    obtain ⟨pa24, ka24, pc24, kc24, ev, hS24, hC24⟩ := O.read
    subst ev
    subst he
    replace VB := hide ((unhide VB).below b24)
    replace VG := hide ((unhide VG).below b24)
    replace HB := hide (bt (unhide HB) b24)
    clear b24  O
    go_upto_region 25 with fail
    have X7 : Hid (DVar (wr24.alloc (.cells #[.bool dsk0.lost, .slice pa24 dsk0.secs.length ka24, .slice pc24 dsk0.cache.length kc24] 25)) w.heap.size wr24.heap.size dsk0) := hide ⟨⟨pa24, ka24, pc24, kc24, heap_alloc_new wr24 _, hS24.below (below_alloc _ _), hC24.below (below_alloc _ _)⟩, (unhide HB).size, by simp⟩
    have bb24 := below_alloc wr24 (.cells #[.bool dsk0.lost, .slice pa24 dsk0.secs.length ka24, .slice pc24 dsk0.cache.length kc24] 25)
    replace VB := hide ((unhide VB).below bb24)
    replace VG := hide ((unhide VG).below bb24)
    replace HB := hide (bt (unhide HB) bb24)
    clear bb24 hS24 hC24
    generalize (wr24.alloc (.cells #[.bool dsk0.lost, .slice pa24 dsk0.secs.length ka24, .slice pc24 dsk0.cache.length kc24] 25)) = WD24 at *
    clear X1 X2 X3 X4 X5 X6 X7 VG
    obtain ⟨⟨sa', sc', ca', cc', hbx, hS, hC⟩, hlt⟩ := unhide VB
    obtain ⟨x0, x1, x2⟩ := box_dsk hbx
    clear hbx hlt
    go_wp2_with (go_at_call 12; refine (num_any _ _).mono ?_; rintro e w' ⟨rfl, hw'⟩; rw [hw']; clear hw' w')
    refine (diskMay_any q _ _ _ _ _ _ _ hS hC (by have := (unhide HFT).1; omega) (by have := (unhide HFT).2; omega)).mono ?_
    rintro e wf9 ⟨rfl, bf9⟩
    rw [decide_eq_false (unhide HNO)]
    replace HB := hide (bt (unhide HB) bf9)
    clear x0 x1 x2 bf9 hS hC
    go_wp2_with (go_at_call 12; refine (num_any _ _).mono ?_; rintro e w' ⟨rfl, hw'⟩; rw [hw']; clear hw' w')
    go_ret
    exact ⟨rfl, unhide HB⟩
end Go.Proofs.Ytpmbmhjhclekeaa
