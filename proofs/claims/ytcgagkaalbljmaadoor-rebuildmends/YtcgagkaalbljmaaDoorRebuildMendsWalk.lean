/- RebuildMends: a shard of parity that is not as it should be is put right. -/
import Derived.Test.YtcgagkaalbljmaaDoorAwake8
import Derived.Test.YtcgagkaalbljmaaDoorPieces2
import Derived.Test.YtcgagkaalbljmaaDoorFormsT
import Derived.Test.YtcgagkaalbljmaaDoorGoneMath
import Derived.Test.YtcgagkaalbljmaaDoorBools2
import Derived.Test.YtcgagkaalbljmaaDoorLie
import Derived.Test.YtcgagkaalbljmaaDoorKCore
import Derived.Deep.Cut
namespace Go.Proofs.YtcgagkaalbljmaaDoor
open Go.RowKit
set_option linter.unusedVariables false
set_option linter.unusedSimpArgs false
open Vec (alikeTo numsTo May)
theorem bit_one (a : Int) : ∃ b : Nat, b ≤ 1 ∧ bits .and .i64 a 1 = (b : Int) := by
  have h := and_mask_i64 a 1 1 (by decide) (by decide)
  have h' : bits .and .i64 a 1 = a % 2 := h
  refine ⟨(a % 2).toNat, by omega, ?_⟩
  rw [h']; omega
theorem set_get_self (xs : List ByteArray) (k : Nat) : xs.set k (xs.getD k ByteArray.empty) = xs := by
  apply List.ext_getElem?
  intro i
  rw [List.getElem?_set]
  by_cases e : k = i
  · subst e
    by_cases h : k < xs.length
    · simp [h, List.getD]
    · simp [h, List.getElem?_eq_none (Nat.le_of_not_lt h)]
  · simp [e]
set_option maxRecDepth 100000 in
set_option maxHeartbeats 8000000 in
theorem RebuildMends_walk {w : World} (hM : Made w) (a0 : Int) (w0 : (Lit.int .i64 a0).wf = true) (t : ByteArray) (wt : t.size ≤ 140737488351232) (a2 : Int) (w2' : (Lit.int .i64 a2).wf = true) (a3 : Int) (w3' : (Lit.int .i64 a3).wf = true) :
    Calls Tryd.prog 5 #[.int .i64 a0, .string t, .int .i64 a2, .int .i64 a3] w fun e w' => e = .returned (.bool true) ∧ Below w.heap.size w w' := by
  have MD := hide hM
  clear hM
  obtain ⟨i, hi, ei⟩ := modK a0 4 (by decide) (by decide)
  obtain ⟨d, hd⟩ : ∃ d : Nat, d = 1 + i := ⟨_, rfl⟩
  have ed : (1 + (i : Int)) = (d : Int) := by omega
  have h1 : 1 ≤ d := by omega
  have h2 : d ≤ 4 := by omega
  have ED := hide ed
  clear ed hd
  obtain ⟨R, eR⟩ : ∃ R : Nat, R = d + 2 := ⟨_, rfl⟩
  have hR6 : R ≤ 6 := by omega
  have hR1 : 1 ≤ R := by omega
  have ER := hide eR
  clear eR
  obtain ⟨bt1, hb1, eb1⟩ := bit_one a2
  have EB1 := hide eb1
  clear eb1
  have hmk : ∀ w, (Instr.makeSlice 25 (.int .i64 R) (.int .i64 R)).run Tryd.prog w = .ok (.slice (some ⟨w.heap.size, 0, none⟩) R R) (w.alloc (.cells (madeCells #[.bool false] R) 4)) := fun w => run_make_row' (P := Tryd.prog) 25 4 (.bool false) 1 Tryd.underlying25 Tryd.infoBool rfl .i64 .i64 R (by omega) (by omega) w
  go_enter Tryd.func5, Tryd.ntmps5
  go_wp2_with fail
  refine (awake8_any _ (unhide MD)).mono ?_
  rintro e w2 ⟨rfl, b2⟩
  have HB := hide b2
  clear b2
  go_upto_region 4 with fail
  rw [unhide ED]
  have BS := hide (heap_alloc_new w2 (.cells #[.int .i64 d, .int .i64 2] 23))
  have hx := below_alloc w2 (.cells #[.int .i64 d, .int .i64 2] 23)
  generalize (w2.alloc (.cells #[.int .i64 d, .int .i64 2] 23)) = W2 at *
  replace HB := hide (bt (unhide HB) hx)
  clear hx ei hi ED
  obtain ⟨cs0, cs1⟩ := box_two (unhide BS)
  have hd0 : ¬ (d : Int) = 0 := by omega
  have hd0n : ¬ d = 0 := by omega
  obtain ⟨q1, eq1⟩ : ∃ q : Nat, q = t.size / d := ⟨_, rfl⟩
  have hq1 : (t.size : Int) / (d : Int) = (q1 : Int) := by rw [eq1]; rfl
  have hq1k : q1 * d ≤ t.size := by rw [eq1]; exact Nat.div_mul_le_self _ _
  have hq1b : q1 ≤ 140737488351232 := by have := Nat.div_le_self t.size d; omega
  obtain ⟨m, hm1, hm3, hmin⟩ := run_min60c (P := Tryd.prog) #[3, 3] 3 q1
  have hms : m * d ≤ t.size := Nat.le_trans (Nat.mul_le_mul_right _ hm1) hq1k
  have HMS := hide hms
  clear eq1 hq1k hm1 hms
  go_wp2
  clear hmin hq1 hq1b hd0 hd0n cs0 cs1
  have HB0 := HB
  have hsW := (unhide HB).size
  have hbs := lt_of_block (unhide BS)
  go_loopw [11, 12] (fun ov iv wr => ∃ j : Nat, j ≤ d ∧ iv = .int .i64 j ∧ Hid (OwnL wr W2.heap.size 9 ov ((pcs t m j).map Value.string)) ∧ Hid (Below W2.heap.size W2 wr)) (fun _ iv _ => d - (intOf iv).toNat)
  case atStart => exact ⟨0, by omega, rfl, hide (OwnL.nil _ _ _), hide (Below.refl _ _)⟩
  case round =>
    obtain ⟨j, hj, rfl, HO, HW⟩ := hrel
    obtain ⟨pv, cv, ev⟩ := (unhide HO).form
    rw [List.length_map, pcs_len] at ev
    subst ev
    have hszW := (unhide HW).size
    have hSi := ((unhide HW).block _ (lt_of_block (unhide BS))).trans (unhide BS)
    obtain ⟨cs0, cs1⟩ := box_two hSi
    by_cases hlt : j < d
    · have hlt' : (j : Int) < d := by omega
      obtain ⟨lo, elo⟩ : ∃ lo : Nat, lo = m * j := ⟨_, rfl⟩
      have hlo : (m : Int) * (j : Int) = (lo : Int) := by rw [elo]; simp
      have hhi : lo + m ≤ t.size := by
        rw [elo]
        have a1 : m * j + m = m * (j + 1) := by rw [Nat.mul_add, Nat.mul_one]
        have a2 : m * (j + 1) ≤ m * d := Nat.mul_le_mul_left _ hlt
        have a3 := unhide HMS
        omega
      have ELO := hide elo
      clear elo hSi
      have hsl := fun w => run_slice_lh (P := Tryd.prog) w 9 t Tryd.underlying9 lo (lo + m) ((lo : Int) + (m : Int)) (by omega) (by omega) hhi
      go_wp2_with (at_builtin; refine wpList_push wr (by rfl) (.tmp 42) (.tmp 53) 24 (by rfl) W2.heap.size 9 (.string ByteArray.empty) 16 Tryd.underlying24 Tryd.infoText rfl _ _ (by rfl) (unhide HO) _ (by rfl) (by rfl) (by simp [pcs_len]; omega) (by omega) hszW ?_; intro v1 wa O1 P1; have HBa := hide (P1.below (unhide HO) (unhide HW) (Nat.le_refl _) hszW); have HO1 := hide O1; clear O1 P1 HO HW)
      go_roundw
      case rel =>
        refine ⟨j + 1, by omega, by go_num, hide ?_, HBa⟩
        have := unhide HO1
        rw [pcs_snoc, List.map_append, ← unhide ELO]
        exact this
      case measure => simp [intOf]; omega
    · have hlt' : ¬ (j : Int) < d := by omega
      obtain rfl : j = d := by omega
      have hdz : ∀ i, i < j → ((pcs t m j).getD i ByteArray.empty).size = m := fun i hi => pcs_size2 (unhide HMS) hi
      have hdl := pcs_len t m j
      generalize pcs t m j = ds at *
      have HDZ := hide hdz
      have HDL := hide hdl
      obtain ⟨pv', cv', ev', SD⟩ := (unhide HO).strs
      rw [hdl] at ev' SD
      simp only [Value.slice.injEq] at ev'
      obtain ⟨rfl, _, rfl⟩ := ev'
      have HSD := hide SD
      replace HB := hide (bt (unhide HB) (unhide HW))
      replace BS := hide hSi
      have HBw := hide (unhide HW)
      clear SD hdz hdl hSi HW
      go_wp2_with fail
      refine (refEncode_fun j 2 _ _ _ ds wr (unhide HSD) (by omega)).mono ?_
      rintro e w4 ⟨v4, rfl, O4, b4⟩
      have hen := encF_yes (p := 2) h1 h2 (by decide) (unhide HDL) (show m ≤ 4096 by omega) (unhide HDZ)
      rw [show ((2 : Nat) : Int) = 2 from rfl] at hen
      rw [hen] at O4 ⊢
      clear hen
      simp only [] at O4 ⊢
      obtain ⟨p4, c4, rfl, S4⟩ := O4.strs
      rw [encTo_len] at S4 ⊢
      have HO4 : Hid (w4.ownsRow W2.heap.size 9 1 (.slice pv j cv) j (ds.map Value.string)) := hide (by
        have h := (unhide HO).below b4
        unfold OwnL at h
        rw [List.length_map, unhide HDL] at h
        exact h)
      have SP := hide S4
      replace BS := hide ((b4.block _ (lt_of_block (unhide BS))).trans (unhide BS))
      replace HB := hide (bt (unhide HB) b4)
      have HBv := hide (bt (unhide HBw) b4)
      have hs4 := (unhide HBv).size
      clear O4 b4 S4 cs0 cs1 HBw HO HSD
      go_upto_region 13 with fail
      go_upto_region 14 with (at_builtin; refine wpList_append_row w4 (by rfl) (.tmp 63) (.tmp 64) 24 (by rfl) W2.heap.size 9 (.string ByteArray.empty) 16 Tryd.underlying24 Tryd.infoText rfl _ j (ds.map Value.string) (by rfl) (unhide HO4) p4 2 c4 _ ((encTo j 2 ds 2).map Value.string) (by rfl) (unhide SP).2 (by simp [encTo_len]) (str_at (encTo_len _ _ _ _)) (strs_oneCell _) (by unfold maxLen; omega) (by omega) hs4 ?_; intro v5 w5 O5 G5; have B5 := hide ((unhide HBv).grown G5 hs4 (fun k hk => (World.ownsRow.lt (unhide HO4) k hk).1)); have OO5 := hide O5; have hbl5 := hide ((G5.block w2.heap.size (by have := lt_of_block (unhide BS); omega) (fun e => by have := (World.ownsRow.lt (unhide HO4) _ e.symm).1; omega)).trans (unhide BS)); clear O5 G5)
      rw [← unhide ER, ← List.map_append] at OO5
      have hal : ((ds ++ encTo j 2 ds 2)).length = R := by rw [List.length_append, encTo_len, unhide HDL, unhide ER]
      have OA : OwnL w5 W2.heap.size 9 v5 ((ds ++ encTo j 2 ds 2).map Value.string) := by
        unfold OwnL
        rw [List.length_map, hal]
        exact unhide OO5
      have hmend := fun (k : Nat) (x : ByteArray) (hk : j ≤ k) (hx : x.size = m) => reb_mend (p := 2) (k := k) (x := x) h1 h2 (by decide) (unhide HDL) (show m ≤ 4096 by omega) (unhide HDZ) hk hx
      rw [← unhide ER] at hmend
      have hwz : ∀ r, r < R → ((ds ++ encTo j 2 ds 2).getD r ByteArray.empty).size = m := fun r hr => by
        rw [word_all (p := 2) h1 h2 (by decide) (unhide HDL) (unhide HDZ) (by rw [← unhide ER]; exact hr), word_size, unhide HDZ 0 (by omega)]
      obtain ⟨all, eall⟩ : ∃ all, all = ds ++ encTo j 2 ds 2 := ⟨_, rfl⟩
      rw [← eall] at OA hal hmend hwz
      have HME := hide hmend
      have HWZ := hide hwz
      obtain ⟨ga, ca, rfl, SA⟩ := OA.strs
      rw [hal] at SA
      simp only [hal]
      have HSA := hide SA
      have HAL := hide hal
      replace HB := hide (bt (unhide HB0) (unhide B5))
      replace BS := hbl5
      clear HB0 HBv hs4 OO5 OA SA hal eall HO4 SP hbl5 B5 HMS hbs hsW hmend hwz HDL HDZ
      go_wp2
      have HOB := hide (own_bools w5 w5.heap.size R 4 (Nat.le_refl _) (by unfold maxLen; omega))
      rw [← fillT_zero] at HOB
      have B7 := hide (below_alloc w5 (.cells (madeCells #[.bool false] R) 4))
      clear hmk
      generalize (w5.alloc (.cells (madeCells #[.bool false] R) 4)) = W7 at *
      generalize hgh : w5.heap.size = gh at *
      go_loopw [16] (fun iv wr => ∃ k : Nat, k ≤ R ∧ iv = .int .i64 k ∧ Hid (OwnL wr gh 4 (.slice (some ⟨gh, 0, none⟩) R R) ((fillT R k).map Value.bool)) ∧ Hid (Below gh w5 wr)) (fun iv _ => R - (intOf iv).toNat)
      case atStart => exact ⟨0, by omega, rfl, HOB, B7⟩
      case round =>
        clear HOB B7
        obtain ⟨k, hk, rfl, HOB, HW⟩ := hrel
        by_cases hlt : k < R
        · have hlt' : (k : Int) < R := by omega
          have cb := own_bcell (unhide HOB) k (by rw [fillT_len hk]; exact hlt)
          have fb := own_free (unhide HOB) k
          obtain ⟨u0, eu0⟩ : ∃ u0, u0 = (fillT R k).getD k false := ⟨_, rfl⟩
          rw [← eu0] at cb
          clear eu0
          have OB1 := hide (own_put (unhide HOB) k (.bool true))
          have HB1 := hide ((unhide HW).setCell (p := ⟨gh, k, none⟩) (Nat.le_refl gh) (.bool true))
          rw [← List.map_set, fillT_step hlt] at OB1
          go_wp2
          go_roundw
          case rel => exact ⟨k + 1, by omega, by go_num, OB1, HB1⟩
          case measure => simp [intOf]; omega
        · have hlt' : ¬ (k : Int) < R := by omega
          obtain rfl : k = R := by omega
          rw [fillT_all] at HOB
          subst hgh
          have HSA2 := hide ((unhide HSA).below (unhide HW))
          have HBs : Hid (Bools wr (some ⟨w5.heap.size, 0, none⟩) k k (List.replicate k true)) := hide ⟨by simp, .inr (.inr ⟨by omega, Nat.le_refl _, _, 0, rfl, fun i hi => by rw [Nat.zero_add]; exact own_bcell (unhide HOB) i (by simp; exact hi)⟩)⟩
          replace BS := hide (((unhide HW).block _ (lt_of_block (unhide BS))).trans (unhide BS))
          replace HB := hide (bt (unhide HB) (unhide HW))
          clear HOB HW HSA
          have SE := hide ((unhide HSA2).below (below_alloc wr (.cells #[] 9)))
          have OE := hide (own_empty wr 9)
          have HCP : Hid ((all.map Value.string).length = k) := hide (by rw [List.length_map]; exact unhide HAL)
          go_upto_region 20 with (at_builtin; refine wpList_append_row _ (by rfl) (.tmp 78) (.tmp 79) 24 (by rfl) wr.heap.size 9 (.string ByteArray.empty) 16 Tryd.underlying24 Tryd.infoText rfl _ _ _ (by rfl) (unhide OE) ga k ca _ (all.map Value.string) (by rfl) (unhide SE).2 (unhide HCP) (str_at (unhide HAL)) (strs_oneCell _) (by unfold maxLen; omega) (by omega) (by simp) ?_; intro v6 w6 O6 G6; simp only [Nat.zero_add, List.nil_append] at O6; have B6 := hide ((below_alloc wr (.cells #[] 9)).grown G6 (by simp) (by intro k hk; simp [Value.ownBlock] at hk; omega)); have OO6 := hide O6; clear O6 G6 SE OE)
          obtain ⟨gl, cl, ev6, hgl, _, _, _⟩ := own_form (unhide OO6) (by omega)
          subst ev6
          have OL6 : OwnL w6 wr.heap.size 9 (.slice (some ⟨gl, 0, none⟩) k cl) (all.map Value.string) := by
            have h := unhide OO6
            unfold OwnL
            rw [unhide HCP]
            exact h
          have HOL := hide OL6
          have B6k := B6
          have BSr := BS
          have HSAr := HSA2
          have HBsr := HBs
          replace BS := hide (((unhide B6).block _ (lt_of_block (unhide BS))).trans (unhide BS))
          replace HSA2 := hide ((unhide HSA2).below (unhide B6))
          replace HBs := hide ((unhide HBs).below (unhide B6))
          have HBall := hide (bt (unhide HB) (unhide B6))
          have hgl2 : w.heap.size ≤ gl := by have := (unhide HB).size; omega
          clear OL6 OO6 B6
          obtain ⟨cs0, cs1⟩ := box_two (unhide BS)
          obtain ⟨kk, ekk⟩ : ∃ kk : Nat, kk = j + bt1 := ⟨_, rfl⟩
          have hkk : kk < k := by have := unhide ER; omega
          have hkk' : (kk : Int) < k := by omega
          have hjk : j ≤ kk := by omega
          have EKK : Hid ((j : Int) + (bt1 : Int) = (kk : Int)) := hide (by omega)
          clear ekk
          go_upto_region 21 with fail
          have hwk : wrap64 (kk : Int) = (kk : Int) := by unfold wrap64; omega
          rw [unhide EB1, unhide EKK, hwk]
          clear hwk
          by_cases hm0 : 0 < m
          · have hm0' : (0 : Int) < m := by omega
            have cA := own_scell (unhide HOL) kk (by rw [unhide HAL]; exact hkk)
            obtain ⟨y, ey⟩ : ∃ y, y = all.getD kk ByteArray.empty := ⟨_, rfl⟩
            have hyz : y.size = m := by rw [ey]; exact unhide HWZ kk hkk
            rw [← ey] at cA
            clear ey
            have hcv := run_bytes_of_string (P := Tryd.prog) w6 9 41 5 y Tryd.underlying9 Tryd.underlying41 Tryd.underlying5
            obtain ⟨cap, ec⟩ : ∃ cap, cap = grownCap w6 y.size 0 5 := ⟨_, rfl⟩
            rw [← ec] at hcv
            clear ec
            have R0 : Hid (ByteRow (w6.alloc (.cells (bytesRow y cap) 5 ((bytesRow y cap).size, (bytesRow y cap).size + 1))).drew w6.heap.size y.size 5 (y.data.toList.map fun b => (b.toNat : Int))) := hide (bytes_row w6 y cap 5)
            have B0 : Hid (Below w6.heap.size w6 (w6.alloc (.cells (bytesRow y cap) 5 ((bytesRow y cap).size, (bytesRow y cap).size + 1))).drew) := hide (by go_grown)
            go_upto_region 23 with fail
            clear hcv
            generalize hW8 : (w6.alloc (.cells (bytesRow y cap) 5 ((bytesRow y cap).size, (bytesRow y cap).size + 1))).drew = W8 at *
            clear hW8
            rw [hyz] at R0
            obtain ⟨k2, hk2, ek2⟩ := modK a3 (m : Int) (by omega) (by omega)
            have hk2n : k2 < m := by omega
            have hm00 : ¬ (m : Int) = 0 := by omega
            have hwm : IntKind.u64.wrap (m : Int) = (m : Int) := by rw [IntKind.wrap_u64]; omega
            have c8 := (unhide R0).cell hk2n
            have f8 := (unhide R0).free hk2n
            obtain ⟨z0, ez0⟩ : ∃ z0, z0 = (y.data.toList.map fun b => (b.toNat : Int)).getD k2 0 := ⟨_, rfl⟩
            rw [← ez0] at c8
            clear ez0
            try simp only [hyz]
            go_upto_region 24 with fail
            generalize (bits .xor .u8 z0 (wrap64 (1 + bits .and .i64 a3 127) % 256)) = Z
            have hR9 := (unhide R0).set k2 Z
            have hl9 := hR9.1
            have hcb := run_convert_bytes_arg (P := Tryd.prog) (W8.setCell ⟨w6.heap.size, k2, none⟩ (.int .u8 Z)) 41 5 Tryd.underlying41 Tryd.underlying5 w6.heap.size 0 m cap _ hl9 (fun j hj => by rw [Nat.zero_add]; exact hR9.cell hj) 9 Tryd.underlying9
            obtain ⟨xs9, exs⟩ : ∃ xs9, xs9 = (y.data.toList.map fun b => (b.toNat : Int)).set k2 Z := ⟨_, rfl⟩
            rw [← exs] at hcb hl9
            have hz9 : (strOfNums xs9).size = m := by rw [strOfNums_size, hl9]
            obtain ⟨x, ex9⟩ : ∃ x, x = strOfNums xs9 := ⟨_, rfl⟩
            rw [← ex9] at hcb hz9
            have HZ9 := hide hz9
            have hlt6 : gl < w6.heap.size := ((unhide HOL).lt (g := gl) rfl).2
            have HB9 := hide ((unhide B0).setCell (p := ⟨w6.heap.size, k2, none⟩) (Nat.le_refl _) (.int .u8 Z))
            clear hR9 hl9 exs ex9 hz9 R0 c8 f8 B0
            generalize W8.setCell ⟨w6.heap.size, k2, none⟩ (.int .u8 Z) = W9 at *
            have HOL9 := hide ((unhide HOL).below (unhide HB9))
            have cL := own_scell (unhide HOL9) kk (by rw [unhide HAL]; exact hkk)
            have fL := own_free (unhide HOL9) kk
            obtain ⟨u1, eu1⟩ : ∃ u1, u1 = all.getD kk ByteArray.empty := ⟨_, rfl⟩
            rw [← eu1] at cL
            clear eu1 cA
            have hO10 := own_put (unhide HOL9) kk (.string x)
            rw [← List.map_set] at hO10
            have hW10 : Below wr.heap.size wr (W9.setCell ⟨gl, kk, none⟩ (.string x)) := ((unhide B6k).trans ((unhide HB9).mono (unhide B6k).size)).setCell (p := ⟨gl, kk, none⟩) hgl (.string x)
            have SX : Hid (Strs (W9.setCell ⟨gl, kk, none⟩ (.string x)) (some ⟨gl, 0, none⟩) k cl (all.set kk x)) := hide (by
              obtain ⟨ax, cx, ex, hSx⟩ := hO10.strs
              have hls : (all.set kk x).length = k := by rw [List.length_set]; exact unhide HAL
              rw [hls] at ex hSx
              simp only [Value.slice.injEq] at ex
              obtain ⟨rfl, _, rfl⟩ := ex
              exact hSx)
            have BX := hide ((unhide HBsr).below hW10)
            have SA := hide ((unhide HSAr).below hW10)
            have HBz := hide (bt (unhide HB) hW10)
            have BSz := hide ((hW10.block _ (lt_of_block (unhide BSr))).trans (unhide BSr))
            have HRB := hide (unhide HME kk x hjk (unhide HZ9))
            clear hO10 hW10 HOL9 HOL HB9 B6k BSr HSAr HBsr HSA2 HBs HBall cs0 cs1
            go_upto_region 25 with fail
            generalize W9.setCell ⟨gl, kk, none⟩ (.string x) = W10 at *
            obtain ⟨cs0, cs1⟩ := box_two (unhide BSz)
            clear cL fL hcb
            go_wp2_with fail
            refine (rebRebuild_any j 2 _ _ _ _ _ _ (all.set kk x) (List.replicate k true) _ (unhide SX) (unhide BX) (by omega) (by omega) ((unhide MD).up (unhide HBz))).mono ?_
            rintro e w9 ⟨v9, r9, hr9, rfl, O9, b9⟩
            obtain rfl := rebR_one (unhide HRB) hr9
            obtain ⟨q9, c9, rfl, S9⟩ := O9.strs
            simp only [unhide HAL] at S9 ⊢
            have T9 := hide S9
            replace SA := hide ((unhide SA).below b9)
            replace HBz := hide (bt (unhide HBz) b9)
            clear b9 S9 O9 hr9
            go_wp2_with (go_at_call 11; refine (num_any _ _).mono ?_; rintro e w' ⟨rfl, rfl⟩)
            refine (sameTexts_any _ _ _ _ _ _ all all _ (unhide T9) (unhide SA) (by unfold maxLen; omega)).mono ?_
            rintro e w10 ⟨he, hdd⟩
            rw [decide_eq_true rfl] at he
            subst he
            replace HBz := hide (bt (unhide HBz) (below_drews hdd))
            clear hdd
            go_wp2
            go_ret
            exact ⟨rfl, unhide HBz⟩
          · have hm0' : ¬ (0 : Int) < m := by omega
            have hm00 : m = 0 := by omega
            have SX := hide (unhide HOL).strs
            have hrb := unhide HME kk (all.getD kk ByteArray.empty) hjk (unhide HWZ kk hkk)
            rw [set_get_self] at hrb
            have HRB := hide hrb
            obtain ⟨ax, cx, ex, hSx⟩ := (unhide HOL).strs
            rw [unhide HAL] at ex hSx
            simp only [Value.slice.injEq] at ex
            obtain ⟨rfl, _, rfl⟩ := ex
            replace SX := hide hSx
            have BX := HBs
            have SA := HSA2
            have HBz := HBall
            clear hSx hrb HOL
            obtain ⟨cs0, cs1⟩ := box_two (unhide BS)
            go_wp2_with fail
            refine (rebRebuild_any j 2 _ _ _ _ _ _ all (List.replicate k true) _ (unhide SX) (unhide BX) (by omega) (by omega) ((unhide MD).up (unhide HBz))).mono ?_
            rintro e w9 ⟨v9, r9, hr9, rfl, O9, b9⟩
            obtain rfl := rebR_one (unhide HRB) hr9
            obtain ⟨q9, c9, rfl, S9⟩ := O9.strs
            simp only [unhide HAL] at S9 ⊢
            have T9 := hide S9
            replace SA := hide ((unhide SA).below b9)
            replace HBz := hide (bt (unhide HBz) b9)
            clear b9 S9 O9 hr9
            go_wp2_with (go_at_call 11; refine (num_any _ _).mono ?_; rintro e w' ⟨rfl, rfl⟩)
            refine (sameTexts_any _ _ _ _ _ _ all all _ (unhide T9) (unhide SA) (by unfold maxLen; omega)).mono ?_
            rintro e w10 ⟨he, hdd⟩
            rw [decide_eq_true rfl] at he
            subst he
            replace HBz := hide (bt (unhide HBz) (below_drews hdd))
            clear hdd
            go_wp2
            go_ret
            exact ⟨rfl, unhide HBz⟩
end Go.Proofs.YtcgagkaalbljmaaDoor
