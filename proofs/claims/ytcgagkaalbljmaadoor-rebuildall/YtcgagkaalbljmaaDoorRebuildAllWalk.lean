/- RebuildAll: whatever Parity shards are gone, all are as they were. -/
import Derived.Test.YtcgagkaalbljmaaDoorAwake8
import Derived.Test.YtcgagkaalbljmaaDoorKEnc
import Derived.Test.YtcgagkaalbljmaaDoorPieces2
import Derived.Test.YtcgagkaalbljmaaDoorFormsT
import Derived.Test.YtcgagkaalbljmaaDoorGoneMath
import Derived.Test.YtcgagkaalbljmaaDoorBools2
import Derived.Deep.Cut
namespace Go.Proofs.YtcgagkaalbljmaaDoor
open Go.RowKit
set_option linter.unusedVariables false
set_option linter.unusedSimpArgs false
open Vec (alikeTo numsTo May)
set_option maxRecDepth 100000 in
set_option maxHeartbeats 8000000 in
theorem RebuildAll_walk {w : World} (hM : Made w) (a0 : Int) (w0 : (Lit.int .i64 a0).wf = true) (a1 : Int) (w1' : (Lit.int .i64 a1).wf = true) (t : ByteArray) (wt : t.size ≤ 140737488351232) (ag : Option Addr) (ng cg : Nat) (gs : List Int) (hg : Ints w ag ng cg gs) (rg : ng * 8 ≤ 140737488351232) (qg : ∀ x ∈ gs, (Lit.int .i64 x).wf = true) :
    Calls Tryd.prog 4 #[.int .i64 a0, .int .i64 a1, .string t, .slice ag ng cg] w fun e w' => e = .returned (.bool true) ∧ Below w.heap.size w w' := by
  have MD := hide hM
  clear hM
  obtain ⟨i, hi, ei⟩ := modK a0 4 (by decide) (by decide)
  obtain ⟨p, hp, ep⟩ := modK a1 3 (by decide) (by decide)
  obtain ⟨d, hd⟩ : ∃ d : Nat, d = 1 + i := ⟨_, rfl⟩
  have ed : (1 + (i : Int)) = (d : Int) := by omega
  have h1 : 1 ≤ d := by omega
  have h2 : d ≤ 4 := by omega
  have h3 : p ≤ 2 := by omega
  have ED := hide ed
  have EP := hide ep
  have HG := hide hg
  clear ed hd hg qg ep hp
  obtain ⟨R, eR⟩ : ∃ R : Nat, R = d + p := ⟨_, rfl⟩
  have hR6 : R ≤ 6 := by omega
  have hR1 : 1 ≤ R := by omega
  have hRI : (d : Int) + (p : Int) = (R : Int) := by omega
  have ER := hide eR
  have HRI := hide hRI
  clear eR hRI
  have hmk : ∀ w, (Instr.makeSlice 25 (.int .i64 R) (.int .i64 R)).run Tryd.prog w = .ok (.slice (some ⟨w.heap.size, 0, none⟩) R R) (w.alloc (.cells (madeCells #[.bool false] R) 4)) := fun w => run_make_row' (P := Tryd.prog) 25 4 (.bool false) 1 Tryd.underlying25 Tryd.infoBool rfl .i64 .i64 R (by omega) (by omega) w
  go_enter Tryd.func4, Tryd.ntmps4
  go_wp2_with fail
  refine (awake8_any _ (unhide MD)).mono ?_
  rintro e w2 ⟨rfl, b2⟩
  have HB := hide b2
  clear b2
  go_upto_region 4 with fail
  rw [unhide ED, unhide EP]
  have BS := hide (heap_alloc_new w2 (.cells #[.int .i64 d, .int .i64 p] 23))
  have hx := below_alloc w2 (.cells #[.int .i64 d, .int .i64 p] 23)
  generalize (w2.alloc (.cells #[.int .i64 d, .int .i64 p] 23)) = W2 at *
  replace HB := hide (bt (unhide HB) hx)
  clear hx ei hi ED EP
  obtain ⟨cs0, cs1⟩ := box_two (unhide BS)
  have hd0 : ¬ (d : Int) = 0 := by omega
  have hd0n : ¬ d = 0 := by omega
  obtain ⟨q1, eq1⟩ : ∃ q : Nat, q = t.size / d := ⟨_, rfl⟩
  have hq1 : (t.size : Int) / (d : Int) = (q1 : Int) := by rw [eq1]; rfl
  have hq1k : q1 * d ≤ t.size := by rw [eq1]; exact Nat.div_mul_le_self _ _
  have hq1b : q1 ≤ 140737488351232 := by have := Nat.div_le_self t.size d; omega
  obtain ⟨m, hm1, hm3, hmin⟩ := run_min60c (P := Tryd.prog) #[3, 3] 3 q1
  have hms : m * d ≤ t.size := Nat.le_trans (Nat.mul_le_mul_right _ hm1) hq1k
  have HMS := hide hms
  clear eq1 hq1k hm1 hms
  go_wp2
  clear hmin hq1 hq1b hd0 hd0n cs0 cs1
  have HB0 := HB
  have hsW := (unhide HB).size
  have hbs := lt_of_block (unhide BS)
  go_loopw [11, 12] (fun ov iv wr => ∃ j : Nat, j ≤ d ∧ iv = .int .i64 j ∧ Hid (OwnL wr W2.heap.size 9 ov ((pcs t m j).map Value.string)) ∧ Hid (Below W2.heap.size W2 wr)) (fun _ iv _ => d - (intOf iv).toNat)
  case atStart => exact ⟨0, by omega, rfl, hide (OwnL.nil _ _ _), hide (Below.refl _ _)⟩
  case round =>
    obtain ⟨j, hj, rfl, HO, HW⟩ := hrel
    obtain ⟨pv, cv, ev⟩ := (unhide HO).form
    rw [List.length_map, pcs_len] at ev
    subst ev
    have hszW := (unhide HW).size
    have hSi := ((unhide HW).block _ (lt_of_block (unhide BS))).trans (unhide BS)
    obtain ⟨cs0, cs1⟩ := box_two hSi
    by_cases hlt : j < d
    · have hlt' : (j : Int) < d := by omega
      obtain ⟨lo, elo⟩ : ∃ lo : Nat, lo = m * j := ⟨_, rfl⟩
      have hlo : (m : Int) * (j : Int) = (lo : Int) := by rw [elo]; simp
      have hhi : lo + m ≤ t.size := by
        rw [elo]
        have a1 : m * j + m = m * (j + 1) := by rw [Nat.mul_add, Nat.mul_one]
        have a2 : m * (j + 1) ≤ m * d := Nat.mul_le_mul_left _ hlt
        have a3 := unhide HMS
        omega
      have ELO := hide elo
      clear elo hSi
      have hsl := fun w => run_slice_lh (P := Tryd.prog) w 9 t Tryd.underlying9 lo (lo + m) ((lo : Int) + (m : Int)) (by omega) (by omega) hhi
      go_wp2_with (at_builtin; refine wpList_push wr (by rfl) (.tmp 46) (.tmp 57) 24 (by rfl) W2.heap.size 9 (.string ByteArray.empty) 16 Tryd.underlying24 Tryd.infoText rfl _ _ (by rfl) (unhide HO) _ (by rfl) (by rfl) (by simp [pcs_len]; omega) (by omega) hszW ?_; intro v1 wa O1 P1; have HBa := hide (P1.below (unhide HO) (unhide HW) (Nat.le_refl _) hszW); have HO1 := hide O1; clear O1 P1 HO HW)
      go_roundw
      case rel =>
        refine ⟨j + 1, by omega, by go_num, hide ?_, HBa⟩
        have := unhide HO1
        rw [pcs_snoc, List.map_append, ← unhide ELO]
        exact this
      case measure => simp [intOf]; omega
    · have hlt' : ¬ (j : Int) < d := by omega
      obtain rfl : j = d := by omega
      have hdz : ∀ i, i < j → ((pcs t m j).getD i ByteArray.empty).size = m := fun i hi => pcs_size2 (unhide HMS) hi
      have hdl := pcs_len t m j
      generalize pcs t m j = ds at *
      have HDZ := hide hdz
      have HDL := hide hdl
      obtain ⟨pv', cv', ev', SD⟩ := (unhide HO).strs
      rw [hdl] at ev' SD
      simp only [Value.slice.injEq] at ev'
      obtain ⟨rfl, _, rfl⟩ := ev'
      have HSD := hide SD
      replace HB := hide (bt (unhide HB) (unhide HW))
      replace BS := hide hSi
      have HBw := hide (unhide HW)
      clear SD hdz hdl hSi HW
      go_wp2_with fail
      refine (encEncode_fun j p _ _ _ ds wr (unhide HSD) (by omega) ((unhide MD).up (unhide HB))).mono ?_
      rintro e w4 ⟨v4, rfl, O4, b4⟩
      rw [encF_yes h1 h2 h3 (unhide HDL) (by omega) (unhide HDZ)] at O4 ⊢
      simp only [] at O4 ⊢
      obtain ⟨p4, c4, rfl, S4⟩ := O4.strs
      rw [encTo_len] at S4 ⊢
      have HO4 : Hid (w4.ownsRow W2.heap.size 9 1 (.slice pv j cv) j (ds.map Value.string)) := hide (by
        have h := (unhide HO).below b4
        unfold OwnL at h
        rw [List.length_map, unhide HDL] at h
        exact h)
      have SP := hide S4
      replace BS := hide ((b4.block _ (lt_of_block (unhide BS))).trans (unhide BS))
      replace HB := hide (bt (unhide HB) b4)
      have HBv := hide (bt (unhide HBw) b4)
      have hs4 := (unhide HBv).size
      clear O4 b4 S4 cs0 cs1 HBw HO HSD
      obtain ⟨cs0, cs1⟩ := box_two (unhide BS)
      go_upto_region 13 with (go_at_call 11; refine (num_any _ _).mono ?_; rintro e w' ⟨rfl, rfl⟩)
      generalize hw4 : w' = w4 at *
      clear hw4 cs0 cs1
      go_upto_region 14 with (at_builtin; refine wpList_append_row w4 (by rfl) (.tmp 68) (.tmp 69) 24 (by rfl) W2.heap.size 9 (.string ByteArray.empty) 16 Tryd.underlying24 Tryd.infoText rfl _ j (ds.map Value.string) (by rfl) (unhide HO4) p4 p c4 _ ((encTo j p ds p).map Value.string) (by rfl) (unhide SP).2 (by simp [encTo_len]) (str_at (encTo_len _ _ _ _)) (strs_oneCell _) (by unfold maxLen; omega) (by omega) hs4 ?_; intro v5 w5 O5 G5; have B5 := hide ((unhide HBv).grown G5 hs4 (fun k hk => (World.ownsRow.lt (unhide HO4) k hk).1)); have OO5 := hide O5; have hbl5 := hide ((G5.block w2.heap.size (by have := lt_of_block (unhide BS); omega) (fun e => by have := (World.ownsRow.lt (unhide HO4) _ e.symm).1; omega)).trans (unhide BS)); clear O5 G5)
      rw [← unhide ER, ← List.map_append] at OO5
      have hal : ((ds ++ encTo j p ds p)).length = R := by rw [List.length_append, encTo_len, unhide HDL, unhide ER]
      have OA : OwnL w5 W2.heap.size 9 v5 ((ds ++ encTo j p ds p).map Value.string) := by
        unfold OwnL
        rw [List.length_map, hal]
        exact unhide OO5
      have HALL := hide (gone_start h1 h2 h3 (unhide HDL) (unhide HDZ))
      rw [← unhide ER] at HALL
      obtain ⟨all, eall⟩ : ∃ all, all = ds ++ encTo j p ds p := ⟨_, rfl⟩
      rw [← eall] at OA hal HALL
      obtain ⟨ga, ca, rfl, SA⟩ := OA.strs
      rw [hal] at SA
      simp only [hal]
      have HSA := hide SA
      have HAL := hide hal
      have EALL := hide eall
      replace HB := hide (bt (unhide HB0) (unhide B5))
      replace BS := hbl5
      clear HB0 HBv hs4 OO5 OA SA hal eall HO4 SP hbl5 B5 HMS hbs hsW
      obtain ⟨cs0, cs1⟩ := box_two (unhide BS)
      have SE := hide ((unhide HSA).below (below_alloc w5 (.cells #[] 9)))
      have OE := hide (own_empty w5 9)
      have HCP : Hid ((all.map Value.string).length = R) := hide (by rw [List.length_map]; exact unhide HAL)
      have hRI := unhide HRI
      go_wp2_with (at_builtin; refine wpList_append_row _ (by rfl) (.tmp 79) (.tmp 80) 24 (by rfl) w5.heap.size 9 (.string ByteArray.empty) 16 Tryd.underlying24 Tryd.infoText rfl _ _ _ (by rfl) (unhide OE) ga R ca _ (all.map Value.string) (by rfl) (unhide SE).2 (unhide HCP) (str_at (unhide HAL)) (strs_oneCell _) (by unfold maxLen; omega) (by omega) (by simp) ?_; intro v6 w6 O6 G6; simp only [Nat.zero_add, List.nil_append] at O6; have B6 := hide ((below_alloc w5 (.cells #[] 9)).grown G6 (by simp) (by intro k hk; simp [Value.ownBlock] at hk; omega)); have OO6 := hide O6; clear O6 G6 SE OE)
      obtain ⟨gl, cl, ev6, hgl, _, _, _⟩ := own_form (unhide OO6) (by omega)
      subst ev6
      have OL6 : OwnL w6 w5.heap.size 9 (.slice (some ⟨gl, 0, none⟩) R cl) (all.map Value.string) := by
        have h := unhide OO6
        unfold OwnL
        rw [unhide HCP]
        exact h
      have OB7 := own_bools w6 w5.heap.size R 4 (unhide B6).size (by unfold maxLen; omega)
      rw [← fillT_zero] at OB7
      have OL7 := OL6.below (below_alloc w6 (.cells (madeCells #[.bool false] R) 4))
      have B7 := hide (bt (unhide B6) (below_alloc w6 (.cells (madeCells #[.bool false] R) 4)))
      have HOB := hide OB7
      have HOL := hide OL7
      clear OL6 OB7 OL7 OO6 B6 hmk cs0 cs1
      generalize (w6.alloc (.cells (madeCells #[.bool false] R) 4)) = W7 at *
      generalize w6.heap.size = gh at *
      go_loopw [17] (fun iv wr => ∃ k : Nat, k ≤ R ∧ iv = .int .i64 k ∧ Hid (OwnL wr w5.heap.size 4 (.slice (some ⟨gh, 0, none⟩) R R) ((fillT R k).map Value.bool)) ∧ Hid (OwnL wr w5.heap.size 9 (.slice (some ⟨gl, 0, none⟩) R cl) (all.map Value.string)) ∧ Hid (Below w5.heap.size w5 wr)) (fun iv _ => R - (intOf iv).toNat)
      case atStart => exact ⟨0, by omega, rfl, HOB, HOL, B7⟩
      case round =>
        clear HOB HOL B7
        obtain ⟨k, hk, rfl, HOB, HOL, HW⟩ := hrel
        by_cases hlt : k < R
        · have hlt' : (k : Int) < R := by omega
          have cb := own_bcell (unhide HOB) k (by rw [fillT_len hk]; exact hlt)
          have fb := own_free (unhide HOB) k
          obtain ⟨u0, eu0⟩ : ∃ u0, u0 = (fillT R k).getD k false := ⟨_, rfl⟩
          rw [← eu0] at cb
          clear eu0
          have hne : gl ≠ gh := fun e => apt_types (unhide HOL) (unhide HOB) (by decide) gl rfl (by rw [e]; rfl)
          have hgb : w5.heap.size ≤ gh := ((unhide HOB).lt (g := gh) rfl).1
          have OB1 := hide (own_put (unhide HOB) k (.bool true))
          have OL1 := hide ((unhide HOL).keep (w' := wr.setCell ⟨gh, k, none⟩ (.bool true)) (fun g hg => Below.heap_setCell _ _ _ _ (by
            have hgg : g = gl := by simpa [Value.ownBlock] using hg.symm
            rw [hgg]; exact hne)))
          have HB1 := hide ((unhide HW).setCell (p := ⟨gh, k, none⟩) hgb (.bool true))
          rw [← List.map_set, fillT_step hlt] at OB1
          go_wp2
          go_roundw
          case rel => exact ⟨k + 1, by omega, by go_num, OB1, OL1, HB1⟩
          case measure => simp [intOf]; omega
        · have hlt' : ¬ (k : Int) < R := by omega
          obtain rfl : k = R := by omega
          rw [fillT_all] at HOB
          go_wp2
          generalize hw8 : wr = w8 at *
          clear hw8
          go_loopw [18] (fun iv wr => ∃ i : Nat, i ≤ p ∧ iv = .int .i64 i ∧ Hid (∃ bs xs, GoneI j p k ds bs xs i ∧ OwnL wr w5.heap.size 4 (.slice (some ⟨gh, 0, none⟩) k k) (bs.map Value.bool) ∧ OwnL wr w5.heap.size 9 (.slice (some ⟨gl, 0, none⟩) k cl) (xs.map Value.string)) ∧ Hid (Below w5.heap.size w5 wr)) (fun iv _ => p - (intOf iv).toNat)
          case atStart => exact ⟨0, by omega, rfl, hide ⟨_, _, unhide HALL, unhide HOB, unhide HOL⟩, HW⟩
          case round =>
            clear HOB HOL HW
            obtain ⟨i, hi, rfl, HX, HW⟩ := hrel
            obtain ⟨bs, xs, hF, hOB, hOL⟩ := unhide HX
            have hSi := ((unhide HW).block _ (lt_of_block (unhide BS))).trans (unhide BS)
            obtain ⟨cs0, cs1⟩ := box_two hSi
            clear HX
            by_cases hgo : i < ng ∧ i < p
            · obtain ⟨hg1, hg2⟩ := hgo
              have hg1' : (i : Int) < ng := by omega
              have hg2' : (i : Int) < p := by omega
              obtain ⟨bg, og, rfl, hcg⟩ : ∃ b off, ag = some ⟨b, off, none⟩ ∧ ∀ i, i < ng → wr.cell? ⟨b, off + i, none⟩ = some (.int .i64 (gs.getD i 0)) := by
                rcases ((unhide HG).below (bt (unhide HB) (unhide HW))).2.two with h | h
                · omega
                · exact h
              have c1 := hcg i hg1
              clear hcg
              obtain ⟨x, ex⟩ : ∃ x, x = gs.getD i 0 := ⟨_, rfl⟩
              rw [← ex] at c1
              clear ex
              obtain ⟨kk, hkk, ekk⟩ := modK x (k : Int) (by omega) (by omega)
              have hkn : kk < k := by omega
              have hk0 : ¬ (k : Int) = 0 := by omega
              have hwk : IntKind.u64.wrap (k : Int) = (k : Int) := by rw [IntKind.wrap_u64]; omega
              have cb := own_bcell hOB kk (by rw [hF.lb]; exact hkn)
              have fb := own_free hOB kk
              obtain ⟨u0, eu0⟩ : ∃ u0, u0 = bs.getD kk false := ⟨_, rfl⟩
              rw [← eu0] at cb
              clear eu0
              have hne : gl ≠ gh := fun e => apt_types hOL hOB (by decide) gl rfl (by rw [e]; rfl)
              have hgb : w5.heap.size ≤ gh := (hOB.lt (g := gh) rfl).1
              have hgl2 : w5.heap.size ≤ gl := (hOL.lt (g := gl) rfl).1
              have OB1 := own_put hOB kk (.bool false)
              have OL1 := hOL.keep (w' := wr.setCell ⟨gh, kk, none⟩ (.bool false)) (fun g hg => Below.heap_setCell _ _ _ _ (by
                have hgg : g = gl := by simpa [Value.ownBlock] using hg.symm
                rw [hgg]; exact hne))
              have cl1 := own_scell OL1 kk (by rw [hF.lx]; exact hkn)
              have fl1 := own_free OL1 kk
              obtain ⟨u1, eu1⟩ : ∃ u1, u1 = xs.getD kk ByteArray.empty := ⟨_, rfl⟩
              rw [← eu1] at cl1
              clear eu1
              have OL2 := hide (own_put OL1 kk (.string ⟨#[103, 111, 110, 101]⟩))
              have OB2 := hide (OB1.keep (w' := (wr.setCell ⟨gh, kk, none⟩ (.bool false)).setCell ⟨gl, kk, none⟩ (.string ⟨#[103, 111, 110, 101]⟩)) (fun g hg => Below.heap_setCell _ _ _ _ (by
                have hgg : g = gh := by simpa [Value.ownBlock] using hg.symm
                rw [hgg]; exact Ne.symm hne)))
              have HB2 := hide (((unhide HW).setCell (p := ⟨gh, kk, none⟩) hgb (.bool false)).setCell (p := ⟨gl, kk, none⟩) hgl2 (.string ⟨#[103, 111, 110, 101]⟩))
              have HF := hide hF
              clear hF hOB hOL OB1 OL1 hSi
              have hkk' : (kk : Int) < k := by omega
              go_wp2
              go_roundw
              case rel => exact ⟨i + 1, by omega, by go_num, hide ⟨bs.set kk false, xs.set kk ⟨#[103, 111, 110, 101]⟩, (unhide HF).step kk _, by rw [List.map_set]; exact unhide OB2, by rw [List.map_set]; exact unhide OL2⟩, HB2⟩
              case measure => simp [intOf]; omega
            · have hF2 := hF
              rw [unhide ER] at hF2
              have hD := hide (gone_end hF2 hi h1 h2 h3 (unhide HDL) (by omega) (unhide HDZ))
              obtain ⟨ax, cx, ex, hSx⟩ := hOL.strs
              rw [hF.lx] at ex hSx
              simp only [Value.slice.injEq] at ex
              obtain ⟨rfl, _, rfl⟩ := ex
              have hBx : Bools wr (some ⟨gh, 0, none⟩) k k bs := ⟨hF.lb, .inr (.inr ⟨by omega, Nat.le_refl _, gh, 0, rfl, fun i hi => by rw [Nat.zero_add]; exact own_bcell hOB i (by rw [hF.lb]; exact hi)⟩)⟩
              have SX := hide hSx
              have BX := hide hBx
              have HSA2 := hide ((unhide HSA).below (unhide HW))
              have HB9 := hide (bt (unhide HB) (unhide HW))
              clear hF hF2 hOB hOL hSx hBx HW hSi
              rw [← unhide EALL] at hD
              have hcase : (¬ (i : Int) < ng) ∨ ((i : Int) < ng ∧ ¬ (i : Int) < p) := by omega
              have fin : ∀ (ww : World) (e : Ending), rebPost j p xs bs wr e ww → ∃ q c, e = .returned (.tuple #[.slice q k c, .int .i64 0]) ∧ Strs ww q k c all ∧ Below wr.heap.size wr ww := by
                rintro ww e ⟨v9, r9, hr9, rfl, O9, b9⟩
                obtain rfl := rebR_one (unhide hD) hr9
                obtain ⟨q9, c9, rfl, S9⟩ := O9.strs
                simp only [unhide HAL] at S9 ⊢
                exact ⟨q9, c9, rfl, S9, b9⟩
              have FIN := hide fin
              clear fin hgo
              rcases hcase with hc | ⟨hc, hc'⟩
              all_goals
                go_wp2_with fail
                refine (rebRebuild_any j p _ _ _ _ _ _ xs bs wr (unhide SX) (unhide BX) (by omega) (by omega) ((unhide MD).up (unhide HB9))).mono ?_
                intro e w9 hpost
                obtain ⟨q9, c9, rfl, S9, b9⟩ := unhide FIN w9 e hpost
                have T9 := hide S9
                replace HSA2 := hide ((unhide HSA2).below b9)
                replace HB9 := hide (bt (unhide HB9) b9)
                clear b9 S9 hpost
                go_wp2_with (go_at_call 11; refine (num_any _ _).mono ?_; rintro e w' ⟨rfl, rfl⟩)
                refine (sameTexts_any _ _ _ _ _ _ all all _ (unhide T9) (unhide HSA2) (by unfold maxLen; omega)).mono ?_
                rintro e w10 ⟨he, hdd⟩
                rw [decide_eq_true rfl] at he
                subst he
                replace HB9 := hide (bt (unhide HB9) (below_drews hdd))
                clear hdd
                go_wp2
                go_ret
                exact ⟨rfl, unhide HB9⟩
end Go.Proofs.YtcgagkaalbljmaaDoor
