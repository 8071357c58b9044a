/- Package matrix's fill: the walk. -/
import Derived.Test.YtfeepmjkamdldaaDoorMatWalk3
namespace Go.Proofs.YtfeepmjkamdldaaDoor
open Go.RowKit
set_option linter.unusedVariables false
set_option linter.unusedSimpArgs false
attribute [local go_sem ↓] Go.wp_at_zero Go.wp_at_succ
set_option maxRecDepth 100000 in
set_option maxHeartbeats 4000000 in
theorem fill_any (R C k : Nat) (q : Array Value) (f : Nat → Nat → Nat) (w : World) (hR1 : 1 ≤ R) (hR : R ≤ 12) (hC1 : 1 ≤ C) (hC : C ≤ 12)
    (hE : ∀ (args : Array Value) (w : World), (callFunc k args).run Tryd.prog w = .ok (.enter k args) w)
    (hat : ∀ (r c : Nat) (W : World), r < R → c < C → Below w.heap.size w W → Calls Tryd.prog k (#[.int .i64 r, .int .i64 c] ++ q) W fun e w' => e = .returned (.int .i64 ((f r c : Nat) : Int)) ∧ Below W.heap.size W w') :
    Calls Tryd.prog 35 #[.int .i64 R, .int .i64 C, .func (.func k) #[] q] w fun e w' => ∃ u, e = .returned (.agg #[u]) ∧ OwnM w' w.heap.size 38 3 u (matF R C f) ∧ Below w.heap.size w w' := by
  have hmkR := fun w => run_make_row' (P := Tryd.prog) 24 38 (.slice none 0 0) 24 Tryd.underlying24 Tryd.infoRow rfl .i64 .i64 R (by omega) (by omega) w
  have hmkC := fun w => run_make_row' (P := Tryd.prog) 38 3 (.int .i64 0) 8 Tryd.underlying38 Tryd.infoInt rfl .i64 .i64 C (by omega) (by omega) w
  have HAT := hide hat
  have HE := hide hE
  clear hat hE
  go_enter Tryd.func35, Tryd.ntmps35
  go_wp2
  go_loopw [14] (fun iv wr => ∃ i : Nat, i ≤ R ∧ iv = .int .i64 i ∧ wr.heap[w.heap.size]? = some (.cells #[.slice none 0 0] 26 (0, 0)) ∧ wr.heap[w.heap.size + 2]? = some (.cells #[.slice (some ⟨w.heap.size + 1, 0, none⟩) R R] 26 (0, 0)) ∧ Hid (∃ us, RowsO wr (w.heap.size + 1) 38 3 (.slice (some ⟨w.heap.size + 1, 0, none⟩) R R) us (outF R C f i)) ∧ Hid (Below w.heap.size w wr) ∧ w.heap.size + 3 ≤ wr.heap.size) (fun iv _ => R - (intOf iv).toNat)
  case atStart =>
    refine ⟨0, by omega, rfl, three_old _ _ _ _, three_new _ _ _ _, hide ⟨List.replicate R (.slice none 0 0), ?_⟩, hide (by go_grown), by simp⟩
    rw [outF_start]
    have h := rowsO_made (w.alloc (.cells #[.slice none 0 0] 26)) (w.heap.size + 1) R 38 3 (by simp) (by unfold maxLen; omega)
    have e : (w.alloc (.cells #[.slice none 0 0] 26)).heap.size = w.heap.size + 1 := by simp
    rw [e] at h
    exact h.below (below_alloc _ _)
  case round =>
    obtain ⟨i, hi, rfl, hb0, hb2, HR, HB, hsz⟩ := hrel
    have c2 := cell_of_one hb2
    have f0 := free_of_one hb0
    by_cases hlt : i < R
    · have hlt' : (i : Int) < R := by omega
      obtain ⟨us, hR0⟩ := unhide HR
      have g2 := kept_cell (B := wr.heap.size) c2 (cell_lt c2)
      have f1 := own_free hR0.outer i
      have HRR := hide hR0
      clear hR0 HR
      clear c2
      go_wp2
      refine wp_region_ord_then (S := Below wr.heap.size wr) [(true, 0), (true, 1), (true, 2), (true, 3), (false, 4), (true, 5)] (List.cons_ne_nil _ _) (by kernel_rfl) (by kernel_rfl) (by kernel_rfl) (by kernel_rfl) (by kernel_rfl) ((Below.refl _ _).drew) ?_
      simp only [List.dropLast_cons_cons, List.dropLast_singleton, List.getLast_cons_cons, List.getLast_singleton, withOps, List.map_cons, List.map_nil, List.getElem?_cons_succ, List.getElem?_cons_zero]
      repeat (refine walkH_read (by rfl) (by (intro gx; go_simp; try (with_reducible rfl))) ?_; try simp only [Act.put, List.setIfInBounds_toArray, List.set_cons_zero, List.set_cons_succ])
      refine walkH_do rfl (fun K hK => ?_)
      go_simp
      have hbA : Below wr.heap.size wr (wr.alloc (.cells (madeCells #[.int .i64 0] C) 3)).drew := by go_grown
      have hoA := (own_made wr (w.heap.size + 1) C 3 (by omega) (by unfold maxLen; omega)).below (w' := (wr.alloc (.cells (madeCells #[.int .i64 0] C) 3)).drew) (by go_grown)
      have hsA : wr.heap.size < (wr.alloc (.cells (madeCells #[.int .i64 0] C) 3)).drew.heap.size := by simp
      refine hK _ _ hbA ?_
      clear hK K
      try simp only [Act.put, List.setIfInBounds_toArray, List.set_cons_zero, List.set_cons_succ]
      have HBA := hide hbA
      have HOA := hide hoA
      clear hbA hoA
      generalize (wr.alloc (.cells (madeCells #[.int .i64 0] C) 3)).drew = wA at *
      have hRA := (unhide HRR).below (unhide HBA)
      have f1 := own_free hRA.outer i
      obtain ⟨u0, hu0⟩ : ∃ u0, us[i]? = some u0 := ⟨_, List.getElem?_eq_getElem (by rw [hRA.len, outF, rowsF_len]; exact hlt)⟩
      have c1 : wA.cell? ⟨w.heap.size + 1, i, none⟩ = some u0 := by
        obtain ⟨g, cap, e, _, hc⟩ := hRA.form (by rw [outF, rowsF_len]; omega)
        simp only [Value.slice.injEq, Option.some.injEq, Addr.mk.injEq, and_true, true_and] at e
        rw [e.1]
        exact hc i u0 hu0
      have HN := hide (RowsO.put hRA (by decide) (i := i) (unhide HOA) (fun j x hx => apt_new ((unhide HRR).row j x hx) rfl (Nat.le_refl _)))
      have hB0 := hide (((unhide HBA).block _ (lt_of_block hb0)).trans hb0)
      have hB2 := hide (((unhide HBA).block _ (lt_of_block hb2)).trans hb2)
      have hsw := (unhide HBA).size
      clear hRA hu0 hb0 hb2
      repeat (refine walkH_read (by rfl) (by (intro gx; go_simp; try (with_reducible rfl))) ?_; try simp only [Act.put, List.setIfInBounds_toArray, List.set_cons_zero, List.set_cons_succ])
      refine lastPost_of_list ?_
      simp only [List.cons_append, List.nil_append]
      go_wp2
      refine NoPanic.normal ?_
      go_wp2
      obtain ⟨gr, hgr⟩ : ∃ gr, gr = wr.heap.size := ⟨_, rfl⟩
      rw [← hgr] at HN ⊢
      have hgs : w.heap.size + 3 ≤ gr := by omega
      have HGR := hide hgr
      clear hgr
      go_loopw [24] (fun jv wr => ∃ j : Nat, j ≤ C ∧ jv = .int .i64 j ∧ wr.heap[w.heap.size]? = some (.cells #[.slice none 0 0] 26 (0, 0)) ∧ wr.heap[w.heap.size + 2]? = some (.cells #[.slice (some ⟨w.heap.size + 1, 0, none⟩) R R] 26 (0, 0)) ∧ Hid (∃ us, us[i]? = some (.slice (some ⟨gr, 0, none⟩) C C) ∧ RowsO wr (w.heap.size + 1) 38 3 (.slice (some ⟨w.heap.size + 1, 0, none⟩) R R) us (inF R C f i j)) ∧ Hid (Below w.heap.size w wr) ∧ w.heap.size + 3 ≤ wr.heap.size) (fun jv _ => C - (intOf jv).toNat)
      case atStart =>
        refine ⟨0, by omega, rfl, (Below.heap_setCell _ _ _ _ (by show w.heap.size ≠ w.heap.size + 1; omega)).trans (unhide hB0), (Below.heap_setCell _ _ _ _ (by show w.heap.size + 2 ≠ w.heap.size + 1; omega)).trans (unhide hB2), hide ⟨us.set i (.slice (some ⟨gr, 0, none⟩) C C), ?_, ?_⟩, hide (((unhide HB).trans ((unhide HBA).mono (by omega))).setCell (by show _ ≤ w.heap.size + 1; omega) _), by simp; have := unhide HGR; omega⟩
        · have hlu : i < us.length := by rw [(unhide HRR).len, outF, rowsF_len]; exact hlt
          simp [hlu]
        · rw [← outF_in R C f i hlt]
          exact unhide HN
      case round =>
        obtain ⟨j, hj, rfl, hb0, hb2, HR, HB', hsz'⟩ := hrel
        have c2 := cell_of_one hb2
        by_cases hltj : j < C
        · have hltj' : (j : Int) < C := by omega
          obtain ⟨us, hu, hR0⟩ := unhide HR
          have cO : wr.cell? ⟨w.heap.size + 1, i, none⟩ = some (.slice (some ⟨gr, 0, none⟩) C C) := by
            obtain ⟨g, cap, e, _, hc⟩ := hR0.form (by rw [inF, rowsF_len]; omega)
            simp only [Value.slice.injEq, Option.some.injEq, Addr.mk.injEq, and_true, true_and] at e
            rw [e.1]
            exact hc i _ hu
          have q2 := kept_cell (B := wr.heap.size) c2 (cell_lt c2)
          have qO := kept_cell (B := wr.heap.size) cO (cell_lt cO)
          have HU := hide hu
          have HRR := hide hR0
          have hE := unhide HE
          clear hR0 HR hu c2 cO c1 f1 g2
          go_wp2
          refine wp_region_ord_then (S := Below wr.heap.size wr) [(true, 0), (true, 1), (true, 2), (true, 3), (true, 4), (true, 5), (true, 6), (true, 7), (true, 8), (false, 9), (true, 10)] (List.cons_ne_nil _ _) (by kernel_rfl) (by kernel_rfl) (by kernel_rfl) (by kernel_rfl) (by kernel_rfl) ((Below.refl _ _).drew) ?_
          simp only [List.dropLast_cons_cons, List.dropLast_singleton, List.getLast_cons_cons, List.getLast_singleton, withOps, List.map_cons, List.map_nil, List.getElem?_cons_succ, List.getElem?_cons_zero]
          repeat (refine walkH_read (by rfl) (by (intro gx; go_simp; try (with_reducible rfl))) ?_; try simp only [Act.put, List.setIfInBounds_toArray, List.set_cons_zero, List.set_cons_succ])
          refine walkH_do rfl (fun K hK => ?_)
          go_simp
          refine (unhide HAT i j _ hlt hltj ((unhide HB').trans ((Below.refl _ _).drew))).mono ?_
          rintro e w4 ⟨rfl, hb4⟩
          have hb4' : Below wr.heap.size wr w4 := Below.trans ((Below.refl wr.heap.size wr).drew) hb4
          refine hK _ _ hb4' ?_
          clear hK K
          try simp only [Act.put, List.setIfInBounds_toArray, List.set_cons_zero, List.set_cons_succ]
          have hR4 := (unhide HRR).below hb4'
          have hrow := hR4.row i _ (unhide HU)
          have c3 := own_cell hrow j (by rw [inF_row R C f i j hlt]; exact hltj)
          have f3 := own_free hrow j
          obtain ⟨y, ey⟩ : ∃ y, y = ((inF R C f i j).getD i []).getD j 0 := ⟨_, rfl⟩
          rw [← ey] at c3
          clear ey
          obtain ⟨hR5, hbl⟩ := hR4.store (by decide) (unhide HU) (c := j) ((f i j : Nat) : Int)
          rw [inF_step R C f i j hlt hltj] at hR5
          have b0 := (hb4'.block _ (lt_of_block hb0)).trans hb0
          have b2 := (hb4'.block _ (lt_of_block hb2)).trans hb2
          have B0 := hide ((hbl _ (lt_of_block b0) (by omega)).trans b0)
          have B2 := hide ((hbl _ (lt_of_block b2) (by omega)).trans b2)
          have H5 := hide hR5
          have HB4 := hide (((unhide HB').trans (hb4'.mono (by omega))).setCell (p := ⟨gr, j, none⟩) (by show w.heap.size ≤ gr; omega) (.int .i64 ((f i j : Nat) : Int)))
          have hs4 := hb4'.size
          clear hR4 hrow hR5 hbl b0 b2 hb4 hb4' hb0 hb2
          repeat (refine walkH_read (by rfl) (by (intro gx; go_simp; try (with_reducible rfl))) ?_; try simp only [Act.put, List.setIfInBounds_toArray, List.set_cons_zero, List.set_cons_succ])
          refine lastPost_of_list ?_
          simp only [List.cons_append, List.nil_append]
          go_wp2
          refine NoPanic.normal ?_
          go_wp2
          go_roundw
          case rel => exact ⟨j + 1, by omega, by go_num, unhide B0, unhide B2, hide ⟨us, unhide HU, unhide H5⟩, HB4, by simp; omega⟩
          case measure => simp [intOf]; omega
        · have hltj' : ¬ (j : Int) < C := by omega
          obtain rfl : j = C := by omega
          obtain ⟨us, hu, hR0⟩ := unhide HR
          rw [inF_end] at hR0
          have HRR := hide hR0
          clear hR0 hu
          go_wp2
          go_roundw
          case rel => exact ⟨i + 1, by omega, by go_num, hb0, hb2, hide ⟨us, unhide HRR⟩, HB', hsz'⟩
          case measure => simp [intOf]; omega
    · have hlt' : ¬ (i : Int) < R := by omega
      obtain rfl : i = R := by omega
      obtain ⟨us, hR0⟩ := unhide HR
      have HRR := hide hR0
      clear hR0
      have c0 := cell_of_one hb0
      go_wp2
      have cr := cell_of_one (one_setCell (u := .slice (some ⟨w.heap.size + 1, 0, none⟩) i i) hb0)
      refine bodyPost_ret (v := .agg #[.slice (some ⟨w.heap.size + 1, 0, none⟩) i i]) (by simp [results, Tryd.results35, go_sem, cr]) rfl ⟨_, rfl, ⟨us, ?_⟩, (unhide HB).setCell (Nat.le_refl _) _⟩
      rw [← outF_end]
      exact ((unhide HRR).setBelow (by show w.heap.size < _; omega) _).mono (by omega)
end Go.Proofs.YtfeepmjkamdldaaDoor
