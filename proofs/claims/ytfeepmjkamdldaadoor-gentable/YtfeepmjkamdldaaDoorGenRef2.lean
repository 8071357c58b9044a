/- The code's matrix by the document (ossuaryref1.Gen), where the shape may be. -/
import Derived.Test.YtfeepmjkamdldaaDoorGenRef
namespace Go.Proofs.YtfeepmjkamdldaaDoor
open Go.RowKit
set_option linter.unusedVariables false
set_option linter.unusedSimpArgs false
/-- two cells of a box -/
theorem box_two {w : World} {b : Nat} {x y : Value} {T : TypeId} (h : w.heap[b]? = some (.cells #[x, y] T (0, 0))) : w.cell? ⟨b, 0, none⟩ = some x ∧ w.cell? ⟨b, 1, none⟩ = some y :=
  ⟨by rw [cell_of_row _ _ 0 _ _ _ h]; rfl, by rw [cell_of_row _ _ 1 _ _ _ h]; rfl⟩
theorem van_may {R d : Nat} (h1 : 1 ≤ R) (h2 : R ≤ 12) (h3 : 1 ≤ d) (h4 : d ≤ 12) : MMay (vanM R d) := matF_may h1 h2 h3 h4 (fun r c _ _ => Gf.pw_lt r c)
theorem van_sq {d : Nat} (h1 : 1 ≤ d) (h2 : d ≤ 4) : SqMay (vanM d d) := sq_matF h1 (by omega) (fun r c _ _ => Gf.pw_lt r c)
theorem top_mul {d p : Nat} (h1 : 1 ≤ d) (h2 : d ≤ 4) (h3 : p ≤ 2) : mulF (vanM (d + p) d) (topI d) = (genM d p, 0) := by
  have hi := topI_inv d (by omega) h1
  have hl : (topI d).length = d := by rw [hi.2.1]; exact matF_len _ _ _
  have hm : MulMay (vanM (d + p) d) (topI d) := ⟨van_may (by omega) (by omega) h1 (by omega), hi.1, by rw [hl]; exact matF_head (by omega)⟩
  unfold mulF
  rw [if_pos hm, genM_mul d (by omega) p (by omega) h1]
theorem top_inv {d : Nat} (h1 : 1 ≤ d) (h2 : d ≤ 4) {r : List (List Int) × Int} (h : invR (vanM d d) r) : r = (topI d, 0) :=
  invR_one h (.inr (.inl ⟨van_sq h1 h2, topI d, topI_inv d (by omega) h1, rfl⟩))
set_option maxRecDepth 100000 in
set_option maxHeartbeats 4000000 in
theorem refGen_yes (d p : Nat) (w : World) (h1 : 1 ≤ d) (h2 : d ≤ 4) (h3 : p ≤ 2) :
    Calls Tryd.prog 10 #[.agg #[.int .i64 d, .int .i64 p]] w fun e w' => ∃ u, e = .returned (.tuple #[.agg #[u], .int .i64 0]) ∧ OwnM w' w.heap.size 38 3 u (genM d p) ∧ Below w.heap.size w w' := by
  have hsh : ShpMay d p := by unfold ShpMay; omega
  have HS := hide hsh
  clear hsh
  go_enter Tryd.func10, Tryd.ntmps10
  go_wp2_with fail
  have B0 := hide (two_old w (.cells #[.int .i64 d, .int .i64 p] 23) (.cells #[.slice none 0 0] 26))
  have B1 := hide (two_new w (.cells #[.int .i64 d, .int .i64 p] 23) (.cells #[.slice none 0 0] 26))
  have HB := hide (below_two w (.cells #[.int .i64 d, .int .i64 p] 23) (.cells #[.slice none 0 0] 26))
  have hs0 : ((w.alloc (.cells #[.int .i64 d, .int .i64 p] 23)).alloc (.cells #[.slice none 0 0] 26)).heap.size = w.heap.size + 2 := by simp
  generalize ((w.alloc (.cells #[.int .i64 d, .int .i64 p] 23)).alloc (.cells #[.slice none 0 0] 26)) = W at *
  refine (refShapeMay_yes d p W (unhide HS)).mono ?_
  rintro e w1 ⟨rfl, gb⟩
  replace B0 := hide ((gb.block _ (lt_of_block (unhide B0))).trans (unhide B0))
  replace B1 := hide ((gb.block _ (lt_of_block (unhide B1))).trans (unhide B1))
  replace HB := hide (bt (unhide HB) gb)
  have hs1 := gb.size
  clear gb
  obtain ⟨c0, c0'⟩ := box_two (unhide B0)
  go_wp2_with fail
  obtain ⟨R, eR⟩ : ∃ R : Nat, R = d + p := ⟨_, rfl⟩
  have ed : ((d : Int) + (p : Int)) = (R : Int) := by omega
  have hRd : d ≤ R := by omega
  have hR6 : R ≤ 6 := by omega
  have ER := hide eR
  rw [ed]
  clear ed eR
  refine (blank_any R d w1 (by omega) (by omega)).mono ?_
  rintro e w2 ⟨u, rfl, ⟨us, hR⟩, gb⟩
  replace B0 := hide ((gb.block _ (lt_of_block (unhide B0))).trans (unhide B0))
  replace B1 := hide ((gb.block _ (lt_of_block (unhide B1))).trans (unhide B1))
  replace HB := hide (bt (unhide HB) gb)
  have hs2 := gb.size
  clear gb c0 c0'
  obtain ⟨gu, cu, rfl, hgu, _⟩ := hR.form (by simp [zeroM]; omega)
  have hz : (zeroM R d).length = R := by simp [zeroM]
  rw [hz] at hR ⊢
  rw [vanTo_start] at hR
  have HR := hide hR
  have hcu : R ≤ cu := by
    obtain ⟨g, cap, e, _, hle, _⟩ := own_form (n := us.length) hR.outer (by rw [hR.len, matF_len]; omega)
    simp only [Value.slice.injEq] at e
    rw [hR.len, matF_len] at e hle
    omega
  have hcu2 : cu ≤ maxLen := by
    obtain ⟨g, cap, e, _, _, hle, _⟩ := own_form (n := us.length) hR.outer (by rw [hR.len, matF_len]; omega)
    simp only [Value.slice.injEq] at e
    omega
  unfold maxLen at hcu2
  clear hR hz
  go_wp2
  go_loopw [5] (fun iv wr => ∃ i : Nat, i ≤ R ∧ iv = .int .i64 i ∧ wr.heap[w.heap.size]? = some (.cells #[.int .i64 d, .int .i64 p] 23 (0, 0)) ∧ wr.heap[w.heap.size + 1]? = some (.cells #[.slice none 0 0] 26 (0, 0)) ∧ wr.heap[w2.heap.size]? = some (.cells #[.slice (some ⟨gu, 0, none⟩) R cu] 26 (0, 0)) ∧ Hid (RowsO wr (w1.heap.size + 2) 38 3 (.slice (some ⟨gu, 0, none⟩) R cu) us (matF R d (vanTo i 0))) ∧ Hid (Below w.heap.size w wr) ∧ w2.heap.size < wr.heap.size) (fun iv _ => R - (intOf iv).toNat)
  case atStart => exact ⟨0, by omega, rfl, (heap_alloc_old _ _ (lt_of_block (unhide B0))).trans (unhide B0), (heap_alloc_old _ _ (lt_of_block (unhide B1))).trans (unhide B1), heap_alloc_new _ _, hide ((unhide HR).below (below_alloc _ _)), hide (bt (unhide HB) (below_alloc _ _)), by simp⟩
  case round =>
    obtain ⟨i, hi, rfl, b0, b1, b2, HR, HB, hsz⟩ := hrel
    obtain ⟨c0, c0'⟩ := box_two b0
    have c2 := cell_of_one b2
    by_cases hlt : i < R
    · have hlt' : (i : Int) < (R : Int) := by omega
      go_wp2
      go_loopw [6] (fun jv wr => ∃ j : Nat, j ≤ d ∧ jv = .int .i64 j ∧ wr.heap[w.heap.size]? = some (.cells #[.int .i64 d, .int .i64 p] 23 (0, 0)) ∧ wr.heap[w.heap.size + 1]? = some (.cells #[.slice none 0 0] 26 (0, 0)) ∧ wr.heap[w2.heap.size]? = some (.cells #[.slice (some ⟨gu, 0, none⟩) R cu] 26 (0, 0)) ∧ Hid (RowsO wr (w1.heap.size + 2) 38 3 (.slice (some ⟨gu, 0, none⟩) R cu) us (matF R d (vanTo i j))) ∧ Hid (Below w.heap.size w wr) ∧ w2.heap.size < wr.heap.size) (fun jv _ => d - (intOf jv).toNat)
      case atStart => exact ⟨0, by omega, rfl, b0, b1, b2, HR, HB, hsz⟩
      case round =>
        obtain ⟨j, hj, rfl, b0, b1, b2, HR, HB, hsz⟩ := hrel
        obtain ⟨c0, c0'⟩ := box_two b0
        have c2 := cell_of_one b2
        by_cases hltj : j < d
        · have hltj' : (j : Int) < d := by omega
          have hR := unhide HR
          obtain ⟨g, cap, hg, hBg, hcell, hfr⟩ := hR.at (i := i) (by rw [matF_len]; exact hlt) (by rw [matF_rowlen _ _ _ _ hlt]; omega)
          rw [matF_rowlen _ _ _ _ hlt] at hg hcell
          obtain ⟨gu', cu', eu, _, hcu'⟩ := hR.form (by rw [matF_len]; omega)
          rw [matF_len] at eu
          simp only [Value.slice.injEq, Option.some.injEq, Addr.mk.injEq, and_true, true_and] at eu
          obtain ⟨rfl, rfl⟩ := eu
          have c1 := hcu' i _ hg
          have c3 := hcell j hltj
          have f3 := hfr j
          obtain ⟨hR', hbl⟩ := hR.store (by decide) hg (c := j) ((Gf.pw i j : Nat) : Int)
          rw [vanTo_step _ _ i j hlt hltj] at hR'
          have n0 := own_ne (hR.row i _ hg) b0 (by decide)
          have n1 := own_ne (hR.row i _ hg) b1 (by decide)
          have n2 := own_ne (hR.row i _ hg) b2 (by decide)
          have b0' := hide ((hbl _ (lt_of_block b0) n0).trans b0)
          have b1' := hide ((hbl _ (lt_of_block b1) n1).trans b1)
          have b2' := hide ((hbl _ (lt_of_block b2) n2).trans b2)
          have HR' := hide hR'
          have hgs : w.heap.size ≤ g := by omega
          have HB' := hide ((unhide HB).setCell (p := ⟨g, j, none⟩) hgs (.int .i64 ((Gf.pw i j : Nat) : Int)))
          obtain ⟨y, ey⟩ : ∃ y, y = ((matF R d (vanTo i j)).getD i []).getD j 0 := ⟨_, rfl⟩
          rw [← ey] at c3
          have hpw := Gf.pw_lt i j
          clear hR hR' hbl hcell hfr hcu' ey b0 b1 b2
          go_wp2_with (go_at_call 28; refine (refPow_yes i j _ (by omega) (by omega)).mono ?_; rintro e w' ⟨rfl, rfl⟩)
          go_roundw
          case rel => exact ⟨j + 1, by omega, by go_num, unhide b0', unhide b1', unhide b2', HR', HB', by simp; omega⟩
          case measure => simp [intOf]; omega
        · have hltj' : ¬ (j : Int) < d := by omega
          obtain rfl : j = d := by omega
          go_wp2
          go_roundw
          case rel => exact ⟨i + 1, by omega, by go_num, b0, b1, b2, by rw [← vanTo_row]; exact HR, HB, hsz⟩
          case measure => simp [intOf]; omega
    · have hlt' : ¬ (i : Int) < (R : Int) := by omega
      obtain rfl : i = R := by omega
      have hdc : (d : Int) ≤ cu := by omega
      go_wp2_with fail
      have hV : RowsV wr (some ⟨gu, 0, none⟩) i cu (vanM i d) := by
        have hO : OwnM wr (w1.heap.size + 2) 38 3 (.slice (some ⟨gu, 0, none⟩) i cu) (vanM i d) := ⟨us, by rw [← vanTo_end]; exact unhide HR⟩
        obtain ⟨a, cap, e, hv⟩ := hO.rows (by rw [vanM, matF_len]; unfold maxLen; omega) (fun j => Nat.le_trans (mrow_le (van_may (by omega) (by omega) h1 (by omega)) j) (by decide))
        rw [vanM, matF_len] at e
        simp only [Value.slice.injEq, true_and] at e
        obtain ⟨e1, e2⟩ := e
        rw [← e1, ← e2, vanM, matF_len] at hv
        exact hv
      have hVd : RowsV wr (some ⟨gu, 0, none⟩) d cu (vanM d d) := by
        have := hV.take hRd h1
        rwa [vanM, matF_take _ _ _ _ hRd] at this
      refine (refInvert_any _ (vanM d d) wr ⟨_, _, _, rfl, hVd⟩).mono ?_
      rintro e w3 ⟨u3, r3, hr3, rfl, hO3, gb⟩
      obtain rfl := top_inv h1 h2 hr3
      obtain ⟨p3, n3, c3, rfl, hn3⟩ := hO3.form
      have hMV : MatV wr (.agg #[.slice (some ⟨gu, 0, none⟩) i cu]) (vanM i d) := ⟨_, _, _, rfl, hV⟩
      have B0 := hide b0
      have B1 := hide b1
      have B2 := hide b2
      have MV := hide hMV
      have MT := hide (hO3.matV (rows_le (topI_inv d (by omega) h1).1))
      replace B0 := hide ((gb.block _ (lt_of_block (unhide B0))).trans (unhide B0))
      replace B1 := hide ((gb.block _ (lt_of_block (unhide B1))).trans (unhide B1))
      replace B2 := hide ((gb.block _ (lt_of_block (unhide B2))).trans (unhide B2))
      replace MV := hide ((unhide MV).below gb)
      replace HB := hide (bt (unhide HB) gb)
      have hs3 := gb.size
      clear gb hV hVd hMV hr3 hO3 hn3 b0 b1 b2 c0 c0' c2
      have c2 := cell_of_one (unhide B2)
      have d2 := fun o => ((below_alloc w3 o).cell (cell_lt c2)).trans c2
      go_wp2_with fail
      have B3 := hide (heap_alloc_new w3 (.cells #[.slice p3 n3 c3] 26))
      have gb := below_alloc w3 (.cells #[.slice p3 n3 c3] 26)
      replace B0 := hide ((gb.block _ (lt_of_block (unhide B0))).trans (unhide B0))
      replace B1 := hide ((gb.block _ (lt_of_block (unhide B1))).trans (unhide B1))
      replace B2 := hide ((gb.block _ (lt_of_block (unhide B2))).trans (unhide B2))
      replace MV := hide ((unhide MV).below gb)
      replace MT := hide ((unhide MT).below gb)
      replace HB := hide (bt (unhide HB) gb)
      clear c2 d2 gb
      generalize (w3.alloc (.cells #[.slice p3 n3 c3] 26)) = w4 at *
      have hsw4 := lt_of_block (unhide B1)
      refine (refMul_fun _ _ _ _ w4 (unhide MV) (unhide MT)).mono ?_
      rintro e w5 ⟨u5, rfl, hO5, gb⟩
      have eM : mulF (vanM i d) (topI d, (0 : Int)).1 = (genM d p, 0) := by rw [unhide ER]; exact top_mul h1 h2 h3
      rw [eM] at hO5 ⊢
      obtain ⟨p5, n5, c5, rfl, hn5⟩ := hO5.form
      replace B0 := hide ((gb.block _ (lt_of_block (unhide B0))).trans (unhide B0))
      replace B1 := hide ((gb.block _ (lt_of_block (unhide B1))).trans (unhide B1))
      replace HB := hide (bt (unhide HB) gb)
      have HO := hide hO5
      have hs5 := gb.size
      clear gb hn5 hO5 eM
      have c1 := cell_of_one (unhide B1)
      have f1 := free_of_one (unhide B1)
      have d1 := fun o => ((below_alloc w5 o).cell (cell_lt c1)).trans c1
      have e1 := fun o => ((below_alloc w5 o).frozen (p := ⟨w.heap.size + 1, 0, none⟩) (cell_lt c1)).trans f1
      clear c1 f1
      go_wp2
      have B5 := (heap_alloc_old w5 (.cells #[.slice p5 n5 c5] 26) (lt_of_block (unhide B1))).trans (unhide B1)
      have cr := cell_of_one (one_setCell (u := .slice p5 n5 c5) B5)
      have hs4 := lt_of_block (unhide B1)
      have hB := bt (unhide HB) (below_alloc w5 (.cells #[.slice p5 n5 c5] 26))
      refine bodyPost_ret (v := .tuple #[.agg #[.slice p5 n5 c5], .int .i64 0]) (by simp [results, Tryd.results10, go_sem, cr]) rfl ⟨_, rfl, ?_, hB.setCell (by show _ ≤ w.heap.size + 1; omega) _⟩
      exact (((unhide HO).below (below_alloc _ _)).setBelow (by show w.heap.size + 1 < _; omega) _).mono (by omega)
theorem refGen_fun (d p : Int) (w : World) :
    Calls Tryd.prog 10 #[.agg #[.int .i64 d, .int .i64 p]] w fun e w' => ∃ u, e = .returned (.tuple #[.agg #[u], .int .i64 (genF d p).2]) ∧ OwnM w' w.heap.size 38 3 u (genF d p).1 ∧ Below w.heap.size w w' := by
  by_cases h : ShpMay d p
  · have h' := h
    unfold ShpMay at h'
    obtain ⟨n, rfl⟩ : ∃ n : Nat, d = n := ⟨d.toNat, by omega⟩
    obtain ⟨m, rfl⟩ : ∃ m : Nat, p = m := ⟨p.toNat, by omega⟩
    refine (refGen_yes n m w (by omega) (by omega) (by omega)).mono ?_
    rintro e w' ⟨u, rfl, ho, hB⟩
    simp only [genF, if_pos h, Int.toNat_natCast]
    exact ⟨u, rfl, ho, hB⟩
  · refine (refGen_no d p w h).mono ?_
    rintro e w' ⟨rfl, hB⟩
    simp only [genF, if_neg h]
    exact ⟨_, rfl, OwnM.nil _ _ _ _, hB⟩
theorem genF_le (d p : Int) : (genF d p).1.length ≤ maxLen ∧ ∀ j, ((genF d p).1.getD j []).length ≤ maxLen := by
  unfold genF
  split
  · next h => unfold ShpMay at h; exact rows_le (genM_may _ (by omega) _ (by omega) (by omega)).1
  · exact nil_le
end Go.Proofs.YtfeepmjkamdldaaDoor
