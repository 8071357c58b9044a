/- Package gen: May, and the matrix of powers: the walks. -/
import Derived.Test.YtfeepmjkamdldaaDoorGenRef2
import Derived.Test.YtfeepmjkamdldaaDoorMatWalk
import Derived.Test.YtfeepmjkamdldaaDoorMade
namespace Go.Proofs.YtfeepmjkamdldaaDoor
open Go.RowKit
set_option linter.unusedVariables false
set_option linter.unusedSimpArgs false
attribute [local go_sem ↓] Go.wp_at_zero Go.wp_at_succ
theorem Made.at {w : World} (h : Made w) (o : Obj) : ∀ i, i < 12 → ∀ x : Subtype (Below (w.heap.size + 1) (w.alloc o)), x.val.cell? ⟨0, i, none⟩ = some (.bool true) := fun i hi =>
  kept_cell ((h.up (below_alloc w o)) i hi) (by have := h.pos; show 0 < _; omega)
set_option maxRecDepth 100000 in
set_option maxHeartbeats 2000000 in
theorem genMay_yes (d p : Int) (w : World) (h : ShpMay d p) (hm : Made w) : Calls Tryd.prog 13 #[.agg #[.int .i64 d, .int .i64 p]] w fun e w' => e = .returned (.bool true) ∧ Below w.heap.size w w' := by
  obtain ⟨h1, h2, h3, h4⟩ := h
  have hd : d = 1 ∨ d = 2 ∨ d = 3 ∨ d = 4 := by omega
  have hp : p = 0 ∨ p = 1 ∨ p = 2 := by omega
  have hg := hide (hm.at (.cells #[.int .i64 d, .int .i64 p] 23))
  obtain ⟨q0, q1⟩ := box_two (heap_alloc_new w (.cells #[.int .i64 d, .int .i64 p] 23))
  have k0 := kept_cell (B := w.heap.size + 1) q0 (by show w.heap.size < _; omega)
  have k1 := kept_cell (B := w.heap.size + 1) q1 (by show w.heap.size < _; omega)
  clear h1 h2 h3 h4 hm q0 q1
  rcases hd with rfl | rfl | rfl | rfl <;> rcases hp with rfl | rfl | rfl
  all_goals
    have v0 : IntKind.wrap .i64 0 = 0 := rfl
    have v1 : IntKind.wrap .i64 1 = 1 := rfl
    have v2 : IntKind.wrap .i64 2 = 2 := rfl
    have v3 : IntKind.wrap .i64 3 = 3 := rfl
    have m0 := unhide hg 0 (by decide)
    have m1 := unhide hg 1 (by decide)
    have m2 := unhide hg 2 (by decide)
    have m3 := unhide hg 3 (by decide)
    have m4 := unhide hg 4 (by decide)
    have m5 := unhide hg 5 (by decide)
    have m6 := unhide hg 6 (by decide)
    have m7 := unhide hg 7 (by decide)
    have m8 := unhide hg 8 (by decide)
    have m9 := unhide hg 9 (by decide)
    have m10 := unhide hg 10 (by decide)
    have m11 := unhide hg 11 (by decide)
    go_enter Tryd.func13, Tryd.ntmps13
    go_wp2
    refine wp_region_ord (S := Below (w.heap.size + 1) (w.alloc (.cells #[.int .i64 _, .int .i64 _] 23))) [(true, 0), (true, 1), (true, 2), (true, 3), (true, 4), (true, 5), (true, 6), (true, 7), (true, 8)] (by kernel_rfl) (by kernel_rfl) (by kernel_rfl) (by kernel_rfl) ((Below.refl _ _).drew) ?_
    simp only [withOps, List.map_cons, List.map_nil, List.getElem?_cons_succ, List.getElem?_cons_zero]
    repeat (refine walkH_read (by rfl) (by (intro gx; go_simp; try (with_reducible rfl))) ?_; try simp only [Act.put, List.setIfInBounds_toArray, List.set_cons_zero, List.set_cons_succ])
    refine (show walkH _ _ _ _ [] _ _ from NoPanic.normal ?_)
    go_wp2
    go_ret
    exact ⟨rfl, by go_grown⟩
set_option maxRecDepth 100000 in
theorem genMay_no (d p : Int) (w : World) (h : ¬ ShpMay d p) : Calls Tryd.prog 13 #[.agg #[.int .i64 d, .int .i64 p]] w fun e w' => e = .returned (.bool false) ∧ Below w.heap.size w w' := by
  unfold ShpMay at h
  by_cases h1 : 1 ≤ d
  · by_cases h2 : d ≤ 4
    · by_cases h3 : 0 ≤ p
      · have h4 : ¬ p ≤ 2 := fun h4 => h ⟨h1, h2, h3, h4⟩
        clear h
        go_enter Tryd.func13, Tryd.ntmps13
        go_wp2
        go_ret
        exact ⟨rfl, by go_grown⟩
      · clear h
        go_enter Tryd.func13, Tryd.ntmps13
        go_wp2
        go_ret
        exact ⟨rfl, by go_grown⟩
    · clear h
      go_enter Tryd.func13, Tryd.ntmps13
      go_wp2
      go_ret
      exact ⟨rfl, by go_grown⟩
  · clear h
    go_enter Tryd.func13, Tryd.ntmps13
    go_wp2
    go_ret
    exact ⟨rfl, by go_grown⟩
theorem genMay_fun (d p : Int) (w : World) (hm : Made w) : Calls Tryd.prog 13 #[.agg #[.int .i64 d, .int .i64 p]] w fun e w' => e = .returned (.bool (decide (ShpMay d p))) ∧ Below w.heap.size w w' := by
  by_cases h : ShpMay d p
  · rw [decide_eq_true h]; exact genMay_yes d p w h hm
  · rw [decide_eq_false h]; exact genMay_no d p w h
theorem gbox_0 (w : World) (a b c d : Obj) : ((((w.alloc a).alloc b).alloc c).alloc d).heap[w.heap.size]? = some a := by
  rw [heap_alloc_old _ _ (by simp; omega), three_old]
theorem gbox_1 (w : World) (a b c d : Obj) : ((((w.alloc a).alloc b).alloc c).alloc d).heap[w.heap.size + 1]? = some b := by
  rw [heap_alloc_old _ _ (by simp), three_mid]
theorem gbox_3 (w : World) (a b c d : Obj) : ((((w.alloc a).alloc b).alloc c).alloc d).heap[w.heap.size + 3]? = some d := by
  have := heap_alloc_new (((w.alloc a).alloc b).alloc c) d
  simpa using this
set_option maxRecDepth 100000 in
set_option maxHeartbeats 4000000 in
theorem genPowers_any (d p : Nat) (w : World) (h1 : 1 ≤ d) (h2 : d ≤ 4) (h3 : p ≤ 2) :
    Calls Tryd.prog 26 #[.agg #[.int .i64 d, .int .i64 p]] w fun e w' => ∃ u, e = .returned (.agg #[u]) ∧ OwnM w' w.heap.size 38 3 u (vanM (d + p) d) ∧ Below w.heap.size w w' := by
  obtain ⟨R, eR⟩ : ∃ R : Nat, R = d + p := ⟨_, rfl⟩
  have ed : ((d : Int) + (p : Int)) = (R : Int) := by omega
  have hR1 : 1 ≤ R := by omega
  have hR : R ≤ 12 := by omega
  have hmkR := fun w => run_make_row' (P := Tryd.prog) 24 38 (.slice none 0 0) 24 Tryd.underlying24 Tryd.infoRow rfl .i64 .i64 R (by omega) (by omega) w
  have hmkC := fun w => run_make_row' (P := Tryd.prog) 38 3 (.int .i64 0) 8 Tryd.underlying38 Tryd.infoInt rfl .i64 .i64 d (by omega) (by omega) w
  rw [← eR]
  have ER := hide eR
  clear eR
  go_enter Tryd.func26, Tryd.ntmps26
  go_wp2
  go_loopw [16] (fun iv wr => ∃ i : Nat, i ≤ R ∧ iv = .int .i64 i ∧ wr.heap[w.heap.size]? = some (.cells #[.int .i64 d, .int .i64 p] 23 (0, 0)) ∧ wr.heap[w.heap.size + 1]? = some (.cells #[.slice none 0 0] 26 (0, 0)) ∧ wr.heap[w.heap.size + 3]? = some (.cells #[.slice (some ⟨w.heap.size + 2, 0, none⟩) R R] 26 (0, 0)) ∧ Hid (∃ us, RowsO wr (w.heap.size + 2) 38 3 (.slice (some ⟨w.heap.size + 2, 0, none⟩) R R) us (outF R d Gf.pw i)) ∧ Hid (Below w.heap.size w wr) ∧ w.heap.size + 4 ≤ wr.heap.size) (fun iv _ => R - (intOf iv).toNat)
  case atStart =>
    refine ⟨0, by omega, rfl, gbox_0 _ _ _ _ _, gbox_1 _ _ _ _ _, gbox_3 _ _ _ _ _, hide ⟨List.replicate R (.slice none 0 0), ?_⟩, hide (by go_grown), by simp⟩
    rw [outF_start]
    have h := rowsO_made ((w.alloc (.cells #[.int .i64 d, .int .i64 p] 23)).alloc (.cells #[.slice none 0 0] 26)) (w.heap.size + 2) R 38 3 (by simp) (by unfold maxLen; omega)
    have e : ((w.alloc (.cells #[.int .i64 d, .int .i64 p] 23)).alloc (.cells #[.slice none 0 0] 26)).heap.size = w.heap.size + 2 := by simp
    rw [e] at h
    exact h.below (below_alloc _ _)
  case round =>
    obtain ⟨i, hi, rfl, hb0, hb1, hb3, HR, HB, hsz⟩ := hrel
    obtain ⟨c0, c0'⟩ := box_two hb0
    have c3 := cell_of_one hb3
    by_cases hlt : i < R
    · have hlt' : (i : Int) < R := by omega
      obtain ⟨us, hR0⟩ := unhide HR
      have g0 := kept_cell (B := wr.heap.size) c0 (cell_lt c0)
      have g3 := kept_cell (B := wr.heap.size) c3 (cell_lt c3)
      have HRR := hide hR0
      clear hR0 HR c0 c0' c3
      go_wp2
      refine wp_region_ord_then (S := Below wr.heap.size wr) [(true, 0), (true, 1), (true, 2), (true, 3), (true, 4), (false, 5), (true, 6)] (List.cons_ne_nil _ _) (by kernel_rfl) (by kernel_rfl) (by kernel_rfl) (by kernel_rfl) (by kernel_rfl) ((Below.refl _ _).drew) ?_
      simp only [List.dropLast_cons_cons, List.dropLast_singleton, List.getLast_cons_cons, List.getLast_singleton, withOps, List.map_cons, List.map_nil, List.getElem?_cons_succ, List.getElem?_cons_zero]
      repeat (refine walkH_read (by rfl) (by (intro gx; go_simp; try (with_reducible rfl))) ?_; try simp only [Act.put, List.setIfInBounds_toArray, List.set_cons_zero, List.set_cons_succ])
      refine walkH_do rfl (fun K hK => ?_)
      go_simp
      have hbA : Below wr.heap.size wr (wr.alloc (.cells (madeCells #[.int .i64 0] d) 3)).drew := by go_grown
      have hoA := (own_made wr (w.heap.size + 2) d 3 (by omega) (by unfold maxLen; omega)).below (w' := (wr.alloc (.cells (madeCells #[.int .i64 0] d) 3)).drew) (by go_grown)
      have hsA : wr.heap.size < (wr.alloc (.cells (madeCells #[.int .i64 0] d) 3)).drew.heap.size := by simp
      refine hK _ _ hbA ?_
      clear hK K
      try simp only [Act.put, List.setIfInBounds_toArray, List.set_cons_zero, List.set_cons_succ]
      have HBA := hide hbA
      have HOA := hide hoA
      clear hbA hoA
      generalize (wr.alloc (.cells (madeCells #[.int .i64 0] d) 3)).drew = wA at *
      have hRA := (unhide HRR).below (unhide HBA)
      have f1 := own_free hRA.outer i
      obtain ⟨u0, hu0⟩ : ∃ u0, us[i]? = some u0 := ⟨_, List.getElem?_eq_getElem (by rw [hRA.len, outF, rowsF_len]; exact hlt)⟩
      have c1 : wA.cell? ⟨w.heap.size + 2, i, none⟩ = some u0 := by
        obtain ⟨g, cap, e, _, hc⟩ := hRA.form (by rw [outF, rowsF_len]; omega)
        simp only [Value.slice.injEq, Option.some.injEq, Addr.mk.injEq, and_true, true_and] at e
        rw [e.1]
        exact hc i u0 hu0
      have HN := RowsO.put hRA (by decide) (i := i) (unhide HOA) (fun j x hx => apt_new ((unhide HRR).row j x hx) rfl (Nat.le_refl _))
      rw [outF_in R d Gf.pw i hlt] at HN
      replace HN := hide HN
      have hB0 := hide (((unhide HBA).block _ (lt_of_block hb0)).trans hb0)
      have hB1 := hide (((unhide HBA).block _ (lt_of_block hb1)).trans hb1)
      have hB3 := hide (((unhide HBA).block _ (lt_of_block hb3)).trans hb3)
      have hsw := (unhide HBA).size
      clear hRA hu0 hb0 hb1 hb3
      repeat (refine walkH_read (by rfl) (by (intro gx; go_simp; try (with_reducible rfl))) ?_; try simp only [Act.put, List.setIfInBounds_toArray, List.set_cons_zero, List.set_cons_succ])
      refine lastPost_of_list ?_
      simp only [List.cons_append, List.nil_append]
      go_wp2_with fail
      refine NoPanic.normal ?_
      obtain ⟨gr, hgr⟩ : ∃ gr, gr = wr.heap.size := ⟨_, rfl⟩
      rw [← hgr] at HN ⊢
      have hgs : w.heap.size + 4 ≤ gr := by omega
      have b0 : (wA.setCell ⟨w.heap.size + 2, i, none⟩ (.slice (some ⟨gr, 0, none⟩) d d)).heap[w.heap.size]? = _ := (Below.heap_setCell _ _ _ _ (by show w.heap.size ≠ w.heap.size + 2; omega)).trans (unhide hB0)
      have b1 : (wA.setCell ⟨w.heap.size + 2, i, none⟩ (.slice (some ⟨gr, 0, none⟩) d d)).heap[w.heap.size + 1]? = _ := (Below.heap_setCell _ _ _ _ (by show w.heap.size + 1 ≠ w.heap.size + 2; omega)).trans (unhide hB1)
      have b3 : (wA.setCell ⟨w.heap.size + 2, i, none⟩ (.slice (some ⟨gr, 0, none⟩) d d)).heap[w.heap.size + 3]? = _ := (Below.heap_setCell _ _ _ _ (by show w.heap.size + 3 ≠ w.heap.size + 2; omega)).trans (unhide hB3)
      have HW : Hid (Below w.heap.size w (wA.setCell ⟨w.heap.size + 2, i, none⟩ (.slice (some ⟨gr, 0, none⟩) d d))) := hide (((unhide HB).trans ((unhide HBA).mono (by omega))).setCell (by show _ ≤ w.heap.size + 2; omega) _)
      have hsB : w.heap.size + 4 ≤ (wA.setCell ⟨w.heap.size + 2, i, none⟩ (.slice (some ⟨gr, 0, none⟩) d d)).heap.size := by simp; omega
      have hlu : i < us.length := by rw [(unhide HRR).len, outF, rowsF_len]; exact hlt
      have hui : (us.set i (.slice (some ⟨gr, 0, none⟩) d d))[i]? = some (.slice (some ⟨gr, 0, none⟩) d d) := by simp [hlu]
      generalize (us.set i (.slice (some ⟨gr, 0, none⟩) d d)) = us2 at *
      clear HBA HOA HRR hsA hB0 hB1 hB3 f1 c1 g0 g3 hgr hsw HB hlu
      generalize (wA.setCell ⟨w.heap.size + 2, i, none⟩ (.slice (some ⟨gr, 0, none⟩) d d)) = wB at *
      have c3 := cell_of_one b3
      have cO : wB.cell? ⟨w.heap.size + 2, i, none⟩ = some (.slice (some ⟨gr, 0, none⟩) d d) := by
        obtain ⟨g, cap, e, _, hc⟩ := (unhide HN).form (by rw [inF, rowsF_len]; omega)
        simp only [Value.slice.injEq, Option.some.injEq, Addr.mk.injEq, and_true, true_and] at e
        rw [e.1]
        exact hc i _ hui
      have HU := hide hui
      clear hui
      go_wp2
      go_loopw [32] (fun jv wr => ∃ j : Nat, j ≤ d ∧ jv = .int .i64 j ∧ wr.heap[w.heap.size]? = some (.cells #[.int .i64 d, .int .i64 p] 23 (0, 0)) ∧ wr.heap[w.heap.size + 1]? = some (.cells #[.slice none 0 0] 26 (0, 0)) ∧ wr.heap[w.heap.size + 3]? = some (.cells #[.slice (some ⟨w.heap.size + 2, 0, none⟩) R R] 26 (0, 0)) ∧ Hid (RowsO wr (w.heap.size + 2) 38 3 (.slice (some ⟨w.heap.size + 2, 0, none⟩) R R) us2 (inF R d Gf.pw i j)) ∧ Hid (Below w.heap.size w wr) ∧ w.heap.size + 4 ≤ wr.heap.size) (fun jv _ => d - (intOf jv).toNat)
      case atStart => exact ⟨0, by omega, rfl, b0, b1, b3, HN, HW, hsB⟩
      case round =>
        obtain ⟨j, hj, rfl, hb0, hb1, hb3, HR, HB', hsz'⟩ := hrel
        have c3 := cell_of_one hb3
        by_cases hltj : j < d
        · have hltj' : (j : Int) < d := by omega
          have hu := unhide HU
          have hR0 := unhide HR
          have cO : wr.cell? ⟨w.heap.size + 2, i, none⟩ = some (.slice (some ⟨gr, 0, none⟩) d d) := by
            obtain ⟨g, cap, e, _, hc⟩ := hR0.form (by rw [inF, rowsF_len]; omega)
            simp only [Value.slice.injEq, Option.some.injEq, Addr.mk.injEq, and_true, true_and] at e
            rw [e.1]
            exact hc i _ hu
          have q3 := kept_cell (B := gr) c3 (by show w.heap.size + 3 < gr; omega)
          have qO := kept_cell (B := gr) cO (by show w.heap.size + 2 < gr; omega)
          have hgl : gr ≤ wr.heap.size := Nat.le_of_lt ((hR0.row i _ hu).lt rfl).2
          clear hu hR0 c3 cO
          go_wp2
          refine wp_region_ord (S := Below gr wr) [(true, 0), (true, 1), (true, 2), (true, 3), (true, 4), (true, 5), (true, 6), (true, 7), (false, 8), (true, 9), (true, 10), (true, 11), (true, 12), (false, 13)] (by kernel_rfl) (by kernel_rfl) (by kernel_rfl) (by kernel_rfl) ((Below.refl _ _).drew) ?_
          simp only [withOps, List.map_cons, List.map_nil, List.getElem?_cons_succ, List.getElem?_cons_zero]
          repeat (refine walkH_read (by rfl) (by (intro gx; go_simp; try (with_reducible rfl))) ?_; try simp only [Act.put, List.setIfInBounds_toArray, List.set_cons_zero, List.set_cons_succ])
          refine walkH_do rfl (fun K hK => ?_)
          go_simp
          refine (gfPow_yes i j _ (by omega) (by omega)).mono ?_
          rintro e w4 ⟨rfl, hw4⟩
          have hb4' : Below wr.heap.size wr w4 := by rw [hw4]; exact (Below.refl _ _).drew
          clear hw4
          refine hK _ _ (hb4'.mono hgl) ?_
          clear hK K
          try simp only [Act.put, List.setIfInBounds_toArray, List.set_cons_zero, List.set_cons_succ]
          have hR4 := (unhide HR).below hb4'
          have hrow := hR4.row i _ (unhide HU)
          have cr := own_cell hrow j (by rw [inF_row R d Gf.pw i j hlt]; exact hltj)
          have fr := own_free hrow j
          obtain ⟨y, ey⟩ : ∃ y, y = ((inF R d Gf.pw i j).getD i []).getD j 0 := ⟨_, rfl⟩
          rw [← ey] at cr
          clear ey
          obtain ⟨hR5, hbl⟩ := hR4.store (by decide) (unhide HU) (c := j) ((Gf.pw i j : Nat) : Int)
          rw [inF_step R d Gf.pw i j hlt hltj] at hR5
          have e0 := (hb4'.block _ (lt_of_block hb0)).trans hb0
          have e1 := (hb4'.block _ (lt_of_block hb1)).trans hb1
          have e3 := (hb4'.block _ (lt_of_block hb3)).trans hb3
          have B0 := hide ((hbl _ (lt_of_block e0) (by omega)).trans e0)
          have B1 := hide ((hbl _ (lt_of_block e1) (by omega)).trans e1)
          have B3 := hide ((hbl _ (lt_of_block e3) (by omega)).trans e3)
          have H5 := hide hR5
          have HB4 := hide (((unhide HB').trans (hb4'.mono (by omega))).setCell (p := ⟨gr, j, none⟩) (by show w.heap.size ≤ gr; omega) (.int .i64 ((Gf.pw i j : Nat) : Int)))
          have hS := (hb4'.mono hgl).setCell (p := ⟨gr, j, none⟩) (Nat.le_refl _) (.int .i64 ((Gf.pw i j : Nat) : Int))
          have hs4 := hb4'.size
          clear hR4 hrow hR5 hbl e0 e1 e3 hb4' hb0 hb1 hb3
          repeat (refine walkH_read (by rfl) (by (intro gx; go_simp; try (with_reducible rfl))) ?_; try simp only [Act.put, List.setIfInBounds_toArray, List.set_cons_zero, List.set_cons_succ])
          refine walkH_do rfl (fun K hK => ?_)
          go_simp
          refine hK _ _ hS ?_
          clear hK K hS
          refine (show walkH _ _ _ _ [] _ _ from NoPanic.normal ?_)
          go_wp2
          go_roundw
          case rel => exact ⟨j + 1, by omega, by go_num, unhide B0, unhide B1, unhide B3, H5, HB4, by simp; omega⟩
          case measure => simp [intOf]; omega
        · have hltj' : ¬ (j : Int) < d := by omega
          obtain rfl : j = d := by omega
          have hR0 := unhide HR
          rw [inF_end] at hR0
          have HRR := hide hR0
          clear hR0
          go_wp2
          go_roundw
          case rel => exact ⟨i + 1, by omega, by go_num, hb0, hb1, hb3, hide ⟨us2, unhide HRR⟩, HB', hsz'⟩
          case measure => simp [intOf]; omega
    · have hlt' : ¬ (i : Int) < R := by omega
      obtain rfl : i = R := by omega
      obtain ⟨us, hR0⟩ := unhide HR
      have HRR := hide hR0
      clear hR0
      have c1 := cell_of_one hb1
      have f1 := free_of_one hb1
      go_wp2
      have cr := cell_of_one (one_setCell (u := .slice (some ⟨w.heap.size + 2, 0, none⟩) i i) hb1)
      refine bodyPost_ret (v := .agg #[.slice (some ⟨w.heap.size + 2, 0, none⟩) i i]) (by simp [results, Tryd.results26, go_sem, cr]) rfl ⟨_, rfl, ⟨us, ?_⟩, (unhide HB).setCell (by show _ ≤ w.heap.size + 1; omega) _⟩
      have e : vanM i d = outF i d Gf.pw i := (outF_end i d Gf.pw).symm
      rw [e]
      exact ((unhide HRR).setBelow (by show w.heap.size + 1 < _; omega) _).mono (by omega)
end Go.Proofs.YtfeepmjkamdldaaDoor
