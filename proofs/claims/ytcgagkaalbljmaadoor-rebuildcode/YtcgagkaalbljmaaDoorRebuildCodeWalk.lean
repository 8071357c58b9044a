/- RebuildCode: all that is rebuilt is a word of the code; rebuilt again it is the same. -/
import Derived.Test.YtcgagkaalbljmaaDoorAwake8
import Derived.Test.YtcgagkaalbljmaaDoorPieces2
import Derived.Test.YtcgagkaalbljmaaDoorGoneMath
import Derived.Test.YtcgagkaalbljmaaDoorSomeWalk
import Derived.Test.YtcgagkaalbljmaaDoorKRegs
import Derived.Deep.Cut
namespace Go.Proofs.YtcgagkaalbljmaaDoor
open Go.RowKit
set_option linter.unusedVariables false
set_option linter.unusedSimpArgs false
open Vec (alikeTo numsTo May)
theorem Strs.drop {w : World} {b o n cap : Nat} {xs : List ByteArray} (h : Strs w (some ⟨b, o, none⟩) n cap xs) {k : Nat} (hk : k < n) : Strs w (some ⟨b, o + k, none⟩) (n - k) (cap - k) (xs.drop k) := by
  obtain ⟨hl, hr⟩ := h
  rcases hr with ⟨e, _⟩ | ⟨e, _⟩ | ⟨h0, hc, b', o', e, hcell⟩
  · simp at e
  · omega
  · simp only [Option.some.injEq, Addr.mk.injEq, and_true] at e
    obtain ⟨rfl, rfl⟩ := e
    refine ⟨by rw [List.length_drop, hl], .inr (.inr ⟨by omega, by omega, b, o + k, rfl, fun i hi => ?_⟩)⟩
    rw [show o + k + i = o + (k + i) by omega, hcell (k + i) (by omega)]
    simp [List.getD]
set_option maxRecDepth 100000 in
set_option maxHeartbeats 8000000 in
theorem RebuildCode_walk {w : World} (hM : Made w) (a0 : Int) (w0 : (Lit.int .i64 a0).wf = true) (t : ByteArray) (wt : t.size ≤ 140737488351232) (a2 : Int) (w2' : (Lit.int .i64 a2).wf = true) (a3 : Int) (w3' : (Lit.int .i64 a3).wf = true) :
    Calls Tryd.prog 7 #[.int .i64 a0, .string t, .int .i64 a2, .int .i64 a3] w fun e w' => e = .returned (.bool true) ∧ Below w.heap.size w w' := by
  have MD := hide hM
  clear hM
  obtain ⟨i, hi, ei⟩ := modK a0 4 (by decide) (by decide)
  obtain ⟨d, hd⟩ : ∃ d : Nat, d = 1 + i := ⟨_, rfl⟩
  have ed : (1 + (i : Int)) = (d : Int) := by omega
  have h1 : 1 ≤ d := by omega
  have h2 : d ≤ 4 := by omega
  have ED := hide ed
  clear ed hd
  obtain ⟨R, eR⟩ : ∃ R : Nat, R = d + 2 := ⟨_, rfl⟩
  have hR6 : R ≤ 6 := by omega
  have hR1 : 1 ≤ R := by omega
  have hdR : d < R := by omega
  have hRI : (d : Int) + 2 = (R : Int) := by omega
  have ER := hide eR
  have HRI := hide hRI
  have W2 := hide w2'
  have W3 := hide w3'
  clear eR hRI w2' w3' w0
  go_enter Tryd.func7, Tryd.ntmps7
  go_wp2_with fail
  refine (awake8_any _ (unhide MD)).mono ?_
  rintro e w2 ⟨rfl, b2⟩
  have HB := hide b2
  clear b2
  go_upto_region 4 with fail
  rw [unhide ED]
  have BS := hide (heap_alloc_new w2 (.cells #[.int .i64 d, .int .i64 2] 23))
  have hx := below_alloc w2 (.cells #[.int .i64 d, .int .i64 2] 23)
  generalize (w2.alloc (.cells #[.int .i64 d, .int .i64 2] 23)) = V2 at *
  replace HB := hide (bt (unhide HB) hx)
  clear hx ei hi ED
  obtain ⟨cs0, cs1⟩ := box_two (unhide BS)
  go_upto_region 5 with fail
  rw [unhide HRI]
  have hR0 : ¬ (R : Int) = 0 := by omega
  have hR0n : ¬ R = 0 := by omega
  obtain ⟨q1, eq1⟩ : ∃ q : Nat, q = t.size / R := ⟨_, rfl⟩
  have hq1 : (t.size : Int) / (R : Int) = (q1 : Int) := by rw [eq1]; rfl
  have hq1k : q1 * R ≤ t.size := by rw [eq1]; exact Nat.div_mul_le_self _ _
  have hq1b : q1 ≤ 140737488351232 := by have := Nat.div_le_self t.size R; omega
  obtain ⟨m, hm1, hm3, hmin⟩ := run_min30c (P := Tryd.prog) #[3, 3] 3 q1
  have hms : m * R ≤ t.size := Nat.le_trans (Nat.mul_le_mul_right _ hm1) hq1k
  have HMS := hide hms
  clear eq1 hq1k hm1 hms
  go_wp2
  clear hmin hq1 hq1b hR0 hR0n cs0 cs1
  have hsW := (unhide HB).size
  have hbs := lt_of_block (unhide BS)
  go_loopw [12, 13] (fun ov iv wr => ∃ j : Nat, j ≤ R ∧ iv = .int .i64 j ∧ Hid (OwnL wr V2.heap.size 9 ov ((pcs t m j).map Value.string)) ∧ Hid (Below V2.heap.size V2 wr)) (fun _ iv _ => R - (intOf iv).toNat)
  case atStart => exact ⟨0, by omega, rfl, hide (OwnL.nil _ _ _), hide (Below.refl _ _)⟩
  case round =>
    obtain ⟨j, hj, rfl, HO, HW⟩ := hrel
    obtain ⟨pv, cv, ev⟩ := (unhide HO).form
    rw [List.length_map, pcs_len] at ev
    subst ev
    have hszW := (unhide HW).size
    have hSi := ((unhide HW).block _ (lt_of_block (unhide BS))).trans (unhide BS)
    obtain ⟨cs0, cs1⟩ := box_two hSi
    by_cases hlt : j < R
    · have hlt' : (j : Int) < R := by omega
      obtain ⟨lo, elo⟩ : ∃ lo : Nat, lo = m * j := ⟨_, rfl⟩
      have hlo : (m : Int) * (j : Int) = (lo : Int) := by rw [elo]; simp
      have hhi : lo + m ≤ t.size := by
        rw [elo]
        have a1 : m * j + m = m * (j + 1) := by rw [Nat.mul_add, Nat.mul_one]
        have a2 : m * (j + 1) ≤ m * R := Nat.mul_le_mul_left _ hlt
        have a3 := unhide HMS
        omega
      have ELO := hide elo
      clear elo hSi
      have hsl := fun w => run_slice_lh (P := Tryd.prog) w 9 t Tryd.underlying9 lo (lo + m) ((lo : Int) + (m : Int)) (by omega) (by omega) hhi
      go_wp2_with (at_builtin; refine wpList_push wr (by rfl) (.tmp 43) (.tmp 54) 24 (by rfl) V2.heap.size 9 (.string ByteArray.empty) 16 Tryd.underlying24 Tryd.infoText rfl _ _ (by rfl) (unhide HO) _ (by rfl) (by rfl) (by simp [pcs_len]; omega) (by omega) hszW ?_; intro v1 wa O1 P1; have HBa := hide (P1.below (unhide HO) (unhide HW) (Nat.le_refl _) hszW); have HO1 := hide O1; clear O1 P1 HO HW)
      go_roundw
      case rel =>
        refine ⟨j + 1, by omega, by go_num, hide ?_, HBa⟩
        have := unhide HO1
        rw [pcs_snoc, List.map_append, ← unhide ELO]
        exact this
      case measure => simp [intOf]; omega
    · have hlt' : ¬ (j : Int) < R := by omega
      obtain rfl : j = R := by omega
      have hdz : ∀ i, i < d + 2 → ((pcs t m j).getD i ByteArray.empty).size = m := fun i hi => pcs_size2 (unhide HMS) (by have := unhide ER; omega)
      have hdl := pcs_len t m j
      generalize pcs t m j = xs at *
      have HXZ := hide hdz
      have HXL : Hid (xs.length = d + 2) := hide (by rw [hdl]; exact unhide ER)
      obtain ⟨pv', cv', ev', SD⟩ := (unhide HO).strs
      rw [hdl] at ev' SD
      simp only [Value.slice.injEq] at ev'
      obtain ⟨rfl, _, rfl⟩ := ev'
      have HSX := hide SD
      replace HB := hide (bt (unhide HB) (unhide HW))
      replace BS := hide hSi
      clear SD hdz hdl hSi HW HO HMS
      have k0 := kept_cell (B := wr.heap.size) cs0 (cell_lt cs0)
      have k1 := kept_cell (B := wr.heap.size) cs1 (cell_lt cs1)
      go_upto_region 11 with fail
      refine wp_region_ord (S := Below wr.heap.size wr) [(true, 0), (true, 1), (true, 2), (true, 3), (true, 4), (true, 5), (false, 6), (false, 7), (true, 8), (true, 9), (true, 10), (true, 11), (true, 12)] (by kernel_rfl) (by kernel_rfl) (by kernel_rfl) (by kernel_rfl) ((Below.refl _ _).drew) ?_
      simp only [withOps, List.map_cons, List.map_nil, List.getElem?_cons_succ, List.getElem?_cons_zero]
      repeat (refine walkH_read (by rfl) (by (intro gx; go_simp; try (with_reducible rfl))) ?_; try simp only [Act.put, List.setIfInBounds_toArray, List.set_cons_zero, List.set_cons_succ])
      refine walkH_do rfl (fun K hK => ?_)
      go_simp
      refine (some_any d j a2 _ (unhide W2) hR1 hR6 (by omega)).mono ?_
      rintro e w4 ⟨bs, gb, rfl, hbl, hbd, BB, b4⟩
      have hb4 : Below wr.heap.size wr w4 := ((Below.refl _ _).drew).trans b4
      refine hK _ _ hb4 ?_
      clear hK K
      try simp only [Act.put, List.setIfInBounds_toArray, List.set_cons_zero, List.set_cons_succ]
      repeat (refine walkH_read (by rfl) (by (intro gx; go_simp; try (with_reducible rfl))) ?_; try simp only [Act.put, List.setIfInBounds_toArray, List.set_cons_zero, List.set_cons_succ])
      refine walkH_do rfl (fun K hK => ?_)
      go_simp
      refine (rebRebuild_any d 2 _ _ _ _ _ _ xs bs w4 ((unhide HSX).below hb4) BB (by omega) (by omega) ((unhide MD).up (bt (unhide HB) hb4))).mono ?_
      rintro e w5 ⟨v5, r5, hr5, rfl, O5, b5⟩
      obtain ⟨D, rfl, hDl, hDz⟩ := reb_ok h1 h2 (by decide) (by rw [hbl]; exact unhide ER) (unhide HXL) (by omega) (unhide HXZ) hbd hr5
      have hal : (D ++ encTo d 2 D 2).length = j := by rw [List.length_append, encTo_len, hDl]; exact (unhide ER).symm
      obtain ⟨p5, c5, rfl, S5⟩ := O5.strs
      simp only [hal] at S5 ⊢
      obtain ⟨g5, o5, rfl, hc5⟩ : ∃ g o, p5 = some ⟨g, o, none⟩ ∧ j ≤ c5 := by
        rcases S5.2 with ⟨_, h, _⟩ | ⟨h, _⟩ | ⟨_, hc, g, o, e, _⟩
        · omega
        · omega
        · exact ⟨g, o, e, hc⟩
      have hb5 : Below wr.heap.size wr w5 := bt hb4 b5
      refine hK _ _ hb5 ?_
      clear hK K
      try simp only [Act.put, List.setIfInBounds_toArray, List.set_cons_zero, List.set_cons_succ]
      repeat (refine walkH_read (by rfl) (by (intro gx; go_simp; try (with_reducible rfl))) ?_; try simp only [Act.put, List.setIfInBounds_toArray, List.set_cons_zero, List.set_cons_succ])
      refine walkH_nil (NoPanic.normal ?_)
      have HDL := hide hDl
      have HDZ := hide hDz
      have HAL := hide hal
      have SA := hide S5
      replace BS := hide ((hb5.block _ (lt_of_block (unhide BS))).trans (unhide BS))
      replace HB := hide (bt (unhide HB) hb5)
      clear hb5 b5 O5 S5 hr5 hDl hDz hal hb4 b4 BB hbl hbd k0 k1 cs0 cs1 HSX HXL HXZ
      obtain ⟨cs0, cs1⟩ := box_two (unhide BS)
      have tjj : ((j : Int) != (j : Int)) = false := by simp
      go_upto_region 14 with (go_at_call 11; refine (num_any _ _).mono ?_; rintro e w' ⟨rfl, rfl⟩)
      generalize hw6 : w' = w6 at *
      clear hw6
      have k0 := kept_cell (B := w6.heap.size) cs0 (cell_lt cs0)
      have k1 := kept_cell (B := w6.heap.size) cs1 (cell_lt cs1)
      have hdc : (d : Int) ≤ c5 := by omega
      have hd0 : (0 : Int) ≤ d := by omega
      have hdcn : d ≤ c5 := by omega
      refine wp_region_ord (S := Below w6.heap.size w6) [(true, 0), (true, 1), (true, 2), (true, 3), (true, 4), (false, 5), (true, 6), (true, 7), (true, 8), (true, 9), (true, 10)] (by kernel_rfl) (by kernel_rfl) (by kernel_rfl) (by kernel_rfl) ((Below.refl _ _).drew) ?_
      simp only [withOps, List.map_cons, List.map_nil, List.getElem?_cons_succ, List.getElem?_cons_zero]
      repeat (refine walkH_read (by rfl) (by (intro gx; go_simp; try (with_reducible rfl))) ?_; try simp only [Act.put, List.setIfInBounds_toArray, List.set_cons_zero, List.set_cons_succ])
      refine walkH_do rfl (fun K hK => ?_)
      go_simp
      have htk := ((unhide SA).below (w' := w6.drew) ((Below.refl _ _).drew)).take (k := d) (by omega) (by omega)
      rw [List.take_append_of_le_length (Nat.le_of_eq (unhide HDL).symm), List.take_of_length_le (Nat.le_of_eq (unhide HDL))] at htk
      refine (refEncode_fun d 2 _ _ _ D _ htk (by omega)).mono ?_
      rintro e w7 ⟨v7, rfl, O7, b7⟩
      have hen := encF_yes (p := 2) h1 h2 (by decide) (unhide HDL) (show m ≤ 4096 by omega) (unhide HDZ)
      rw [show ((2 : Nat) : Int) = 2 from rfl] at hen
      rw [hen] at O7 ⊢
      simp only [] at O7 ⊢
      obtain ⟨p7, c7, rfl, S7⟩ := O7.strs
      rw [encTo_len] at S7 ⊢
      have hb7 : Below w6.heap.size w6 w7 := ((Below.refl _ _).drew).trans b7
      refine hK _ _ hb7 ?_
      clear hK K
      try simp only [Act.put, List.setIfInBounds_toArray, List.set_cons_zero, List.set_cons_succ]
      repeat (refine walkH_read (by rfl) (by (intro gx; go_simp; try (with_reducible rfl))) ?_; try simp only [Act.put, List.setIfInBounds_toArray, List.set_cons_zero, List.set_cons_succ])
      refine walkH_nil (NoPanic.normal ?_)
      have SP := hide S7
      replace BS := hide ((hb7.block _ (lt_of_block (unhide BS))).trans (unhide BS))
      replace SA := hide ((unhide SA).below hb7)
      replace HB := hide (bt (unhide HB) hb7)
      clear hb7 b7 O7 S7 htk hen k0 k1 cs0 cs1
      obtain ⟨cs0, cs1⟩ := box_two (unhide BS)
      have k0 := kept_cell (B := w7.heap.size) cs0 (cell_lt cs0)
      have k1 := kept_cell (B := w7.heap.size) cs1 (cell_lt cs1)
      go_upto_region 15 with fail
      refine wp_region_ord (S := Below w7.heap.size w7) [(true, 0), (true, 1), (true, 2), (true, 3), (true, 4), (true, 5), (false, 6), (false, 7), (true, 8), (true, 9), (true, 10), (true, 11), (true, 12)] (by kernel_rfl) (by kernel_rfl) (by kernel_rfl) (by kernel_rfl) ((Below.refl _ _).drew) ?_
      simp only [withOps, List.map_cons, List.map_nil, List.getElem?_cons_succ, List.getElem?_cons_zero]
      repeat (refine walkH_read (by rfl) (by (intro gx; go_simp; try (with_reducible rfl))) ?_; try simp only [Act.put, List.setIfInBounds_toArray, List.set_cons_zero, List.set_cons_succ])
      refine walkH_do rfl (fun K hK => ?_)
      go_simp
      refine (some_any d j a3 _ (unhide W3) hR1 hR6 (by omega)).mono ?_
      rintro e w8 ⟨bs2, gb2, rfl, hbl2, hbd2, BB2, b8⟩
      have hb8 : Below w7.heap.size w7 w8 := ((Below.refl _ _).drew).trans b8
      refine hK _ _ hb8 ?_
      clear hK K
      try simp only [Act.put, List.setIfInBounds_toArray, List.set_cons_zero, List.set_cons_succ]
      repeat (refine walkH_read (by rfl) (by (intro gx; go_simp; try (with_reducible rfl))) ?_; try simp only [Act.put, List.setIfInBounds_toArray, List.set_cons_zero, List.set_cons_succ])
      refine walkH_do rfl (fun K hK => ?_)
      go_simp
      refine (rebRebuild_any d 2 _ _ _ _ _ _ (D ++ encTo d 2 D 2) bs2 w8 ((unhide SA).below hb8) BB2 (by omega) (by omega) ((unhide MD).up (bt (unhide HB) hb8))).mono ?_
      rintro e w9 ⟨v9, r9, hr9, rfl, O9, b9⟩
      obtain rfl := rebR_one (reb_word (p := 2) h1 h2 (by decide) (unhide HDL) (show m ≤ 4096 by omega) (unhide HDZ) (by rw [hbl2]; exact unhide ER) hbd2) hr9
      obtain ⟨p9, c9, rfl, S9⟩ := O9.strs
      simp only [unhide HAL] at S9 ⊢
      have hb9 : Below w7.heap.size w7 w9 := bt hb8 b9
      refine hK _ _ hb9 ?_
      clear hK K
      try simp only [Act.put, List.setIfInBounds_toArray, List.set_cons_zero, List.set_cons_succ]
      repeat (refine walkH_read (by rfl) (by (intro gx; go_simp; try (with_reducible rfl))) ?_; try simp only [Act.put, List.setIfInBounds_toArray, List.set_cons_zero, List.set_cons_succ])
      refine walkH_nil (NoPanic.normal ?_)
      have S9' := hide S9
      replace BS := hide ((hb9.block _ (lt_of_block (unhide BS))).trans (unhide BS))
      replace SA := hide ((unhide SA).below hb9)
      replace SP := hide ((unhide SP).below hb9)
      replace HB := hide (bt (unhide HB) hb9)
      clear hb9 b9 O9 S9 hr9 hb8 b8 BB2 hbl2 hbd2 k0 k1 cs0 cs1
      obtain ⟨cs0, cs1⟩ := box_two (unhide BS)
      have hdj : (d : Int) ≤ j := by omega
      have hdjn : d ≤ j := by omega
      have hcd : ¬ c5 = d := by omega
      go_wp2_with fail
      have hdr := (unhide SA).drop (k := d) (by omega)
      rw [List.drop_append_of_le_length (Nat.le_of_eq (unhide HDL).symm), List.drop_of_length_le (Nat.le_of_eq (unhide HDL)), List.nil_append] at hdr
      refine (sameTexts_any _ _ _ _ _ _ (encTo d 2 D 2) (encTo d 2 D 2) w9 (unhide SP) hdr (by unfold maxLen; omega)).mono ?_
      rintro e w10 ⟨he, hdd⟩
      rw [decide_eq_true rfl] at he
      subst he
      have b10 := below_drews (B := w9.heap.size) hdd
      replace SA := hide ((unhide SA).below b10)
      replace S9' := hide ((unhide S9').below b10)
      replace HB := hide (bt (unhide HB) b10)
      clear hdd b10 hdr
      go_wp2_with (go_at_call 11; refine (num_any _ _).mono ?_; rintro e w' ⟨rfl, rfl⟩)
      refine (sameTexts_any _ _ _ _ _ _ (D ++ encTo d 2 D 2) (D ++ encTo d 2 D 2) _ (unhide SA) (unhide S9') (by unfold maxLen; omega)).mono ?_
      rintro e w11 ⟨he, hdd⟩
      rw [decide_eq_true rfl] at he
      subst he
      replace HB := hide (bt (unhide HB) (below_drews hdd))
      clear hdd
      go_wp2
      go_ret
      exact ⟨rfl, unhide HB⟩
end Go.Proofs.YtcgagkaalbljmaaDoor
