/- A copy of a matrix (ossuarylaw0.CopyMatrix): a contract. -/
import Derived.Test.YthkafgcpnbolfaaRefMat1
namespace Go.Proofs.Ythkafgcpnbolfaa
open Go.RowKit
set_option linter.unusedVariables false
set_option linter.unusedSimpArgs false
attribute [local go_sem ↓] Go.wp_at_zero Go.wp_at_succ
theorem three_old (w : World) (o o' o'' : Obj) : (((w.alloc o).alloc o').alloc o'').heap[w.heap.size]? = some o := by
  rw [heap_alloc_old _ _ (by simp; omega), two_old]
theorem three_mid (w : World) (o o' o'' : Obj) : (((w.alloc o).alloc o').alloc o'').heap[w.heap.size + 1]? = some o' := by
  rw [heap_alloc_old _ _ (by simp), two_new]
theorem three_new (w : World) (o o' o'' : Obj) : (((w.alloc o).alloc o').alloc o'').heap[w.heap.size + 1 + 1]? = some o'' := by
  have := heap_alloc_new ((w.alloc o).alloc o') o''
  simpa using this
theorem take_snoc_getD (M : List (List Int)) (k : Nat) (h : k < M.length) : M.take (k + 1) = M.take k ++ [M.getD k []] := by
  rw [List.take_succ_eq_append_getElem h]
  simp [List.getD, List.getElem?_eq_getElem h]
set_option maxRecDepth 100000 in
set_option maxHeartbeats 4000000 in
theorem copyMatrix_some (b off n cap : Nat) (M : List (List Int)) (w : World) (hl : M.length = n) (hn : n * 24 ≤ 140737488351232) (hrl : ∀ i, (M.getD i []).length * 8 ≤ 140737488351232)
    (hc : ∀ i, i < n → ∃ u, w.cell? ⟨b, off + i, none⟩ = some u ∧ RowV w u (M.getD i [])) :
    Calls Try.prog 7 #[.agg #[.slice (some ⟨b, off, none⟩) n cap]] w fun e w' => ∃ u, e = .returned (.agg #[u]) ∧ OwnM w' (w.heap.size + 3) 38 3 u M ∧ Below w.heap.size w w' := by
  have HC := hide hc
  have HRL := hide hrl
  clear hc hrl
  go_enter Try.func7, Try.ntmps7
  go_wp2
  go_loopw [4] (fun iv wr => ∃ k : Nat, k ≤ n ∧ iv = .int .i64 k ∧ wr.heap[w.heap.size]? = some (.cells #[.slice (some ⟨b, off, none⟩) n cap] 24 (0, 0)) ∧ wr.heap[w.heap.size + 1]? = some (.cells #[.slice none 0 0] 24 (0, 0)) ∧ ∃ u, wr.heap[w.heap.size + 1 + 1]? = some (.cells #[u] 24 (0, 0)) ∧ Hid (OwnM wr (w.heap.size + 3) 38 3 u (M.take k)) ∧ Hid (Below w.heap.size w wr) ∧ w.heap.size + 3 ≤ wr.heap.size) (fun iv _ => n - (intOf iv).toNat)
  case atStart => exact ⟨0, by omega, rfl, three_old _ _ _ _, three_mid _ _ _ _, _, three_new _ _ _ _, OwnM.nil _ _ _ _, hide (by go_grown), by simp⟩
  case round =>
    obtain ⟨k, hk, rfl, hbp, hb0, u, hb1, HM, HB, hsz⟩ := hrel
    have cp := cell_of_one hbp
    have c1 := cell_of_one hb1
    have f1 := free_of_one hb1
    by_cases hlt : k < n
    · have hlt' : (k : Int) < n := by omega
      obtain ⟨v, hv, x, nx, cx, rfl, hnx, hx⟩ := unhide HC k hlt
      have c2 := ((unhide HB).cell (cell_lt hv)).trans hv
      have hlx : nx * 8 ≤ 140737488351232 := by rw [← hx.1]; exact unhide HRL k
      obtain ⟨row, er⟩ : ∃ r, r = M.getD k [] := ⟨_, rfl⟩
      rw [← er] at hx
      have ER := hide er
      have hrow : row.length = nx := hx.1
      have HLR := hide hrow
      clear er hrow
      have HX := hide (hx.below (unhide HB))
      obtain ⟨us, hR⟩ := unhide HM
      have hlu : us.length = k := by rw [hR.len]; simp; omega
      have HO := hide hR.outer
      have HR := hide hR
      clear hR hv hx hnx
      have cpa : ∀ o, (wr.alloc o).cell? ⟨w.heap.size, 0, none⟩ = some (.slice (some ⟨b, off, none⟩) n cap) := fun o => ((below_alloc wr o).cell (cell_lt cp)).trans cp
      have c1a : ∀ o, (wr.alloc o).cell? ⟨w.heap.size + 1 + 1, 0, none⟩ = some u := fun o => ((below_alloc wr o).cell (cell_lt c1)).trans c1
      have c2a : ∀ o, (wr.alloc o).cell? ⟨b, off + k, none⟩ = some (.slice x nx cx) := fun o => ((below_alloc wr o).cell (cell_lt c2)).trans c2
      go_wp2
      have E0 := own_empty' wr 3 (w.heap.size + 3) hsz
      have RA := hide ((unhide HR).below (below_alloc wr (.cells #[] 3)))
      have AU : Hid (Apt (.slice (some ⟨wr.heap.size, 0, none⟩) 0 0) u) := hide (apt_new (unhide HO) rfl (Nat.le_refl _))
      have AR : Hid (∀ (j : Nat) x, us[j]? = some x → Apt (.slice (some ⟨wr.heap.size, 0, none⟩) 0 0) x) := hide (fun j x hx => apt_new ((unhide HR).row j x hx) rfl (Nat.le_refl _))
      have HE0 := hide E0
      clear E0
      go_region_law (first
        | (refine step_append_row _ (by rfl) (.tmp 14) (.tmp 19) 38 (by rfl) (w.heap.size + 3) 3 (.int .i64 0) 8 Try.underlying38 Try.infoInt rfl (.slice (some ⟨wr.heap.size, 0, none⟩) 0 0) [] (by simp [Act.eval, Act.put]) ((unhide HE0).below (by go_grown)) x nx cx _ (row.map (Value.int .i64)) (by simp [Act.eval, Act.put]) (((unhide HX).below (by go_grown)).2) (by simpa using (unhide HX).1) (int_at (unhide HX).1) (ints_oneCell _ _) (by simp; omega) (by omega) (by simp; omega) ?_; intro v1 w1 O1 P1; have hR1 := ((unhide RA).below (by go_grown)).other P1 (unhide AU) (unhide AR); have hB1 : Below wr.heap.size wr w1 := P1.below ((own_empty' wr 3 wr.heap.size (Nat.le_refl _)).below (by go_grown)) (by go_grown) (Nat.le_refl _) (by simp); have cp1 := (hB1.cell (cell_lt cp)).trans cp; have c11 := (hB1.cell (cell_lt c1)).trans c1; have cp1a : ∀ o, (w1.alloc o).cell? ⟨w.heap.size, 0, none⟩ = some (.slice (some ⟨b, off, none⟩) n cap) := fun o => ((below_alloc w1 o).cell (cell_lt cp1)).trans cp1; have c11a : ∀ o, (w1.alloc o).cell? ⟨w.heap.size + 1 + 1, 0, none⟩ = some u := fun o => ((below_alloc w1 o).cell (cell_lt c11)).trans c11; simp only [List.nil_append] at O1; obtain ⟨a1, q1, e1⟩ := O1.form; rw [List.length_map, unhide HLR] at e1; subst e1; have hs1 : w.heap.size + 3 ≤ w1.heap.size := Nat.le_trans hsz hB1.size; have HR1 := hide hR1; have HB1 := hide hB1; have HO1 := hide O1; have HAn := hide (fun (j : Nat) (y : Value) (hy : us[j]? = some y) => P1.apt (((unhide RA).below (by go_grown)).row j y hy) (unhide AR j y hy)); clear hR1 hB1 O1 P1)
        | (refine step_push _ (by rfl) (.tmp 13) (.tmp 21) 22 (by rfl) (w.heap.size + 3) 38 (.slice none 0 0) 24 Try.underlying22 Try.infoRow rfl u us (by simp [Act.eval, Act.put]) (((unhide HR1).outer).below (by go_grown)) (.slice a1 nx q1) (by rfl) w1.heap.size 0 (by simp [Act.eval, Act.put]) (by simp [go_sem]) (by omega) (by omega) (by have := (unhide HB1).size; simp; omega) ?_; intro v2 w2 O2 P2; obtain ⟨gv, cv, ev, _⟩ := own_form O2 (by simp); subst ev; have hB2 : Below (w.heap.size + 3) w1 w2 := P2.below (((unhide HR1).outer).below (by go_grown)) (by go_grown) (Nat.le_refl _) (by have := (unhide HB1).size; simp; omega); have hB02 : Below (w.heap.size + 3) wr w2 := ((unhide HB1).mono hsz).trans hB2; have hbp2 := (hB02.block _ (by omega)).trans hbp; have hb02 := (hB02.block _ (by omega)).trans hb0; have hb12 := (hB02.block _ (by omega)).trans hb1; have c12 := cell_of_one hb12; have f12 := free_of_one hb12; have HP2 := hide P2; have HO2 := hide O2; have HBP2 := hide hbp2; have HB02 := hide hb02; have HB12 := hide hb12; have HBB := hide hB02; clear P2 O2 hbp2 hb02 hb12 hB02 hB2))
      all_goals
        go_wp2
        go_roundw
        case rel =>
          have hM : OwnM _ (w.heap.size + 3) 38 3 _ (M.take k ++ [row]) := ⟨_, RowsO.push ((unhide HR1).below (by go_grown)) ((unhide HO1).below (by go_grown)) (unhide HAn) (by decide) (unhide HO2) (unhide HP2)⟩
          refine ⟨k + 1, by omega, by go_num, (heap_set_other _ _ _ _ (by omega)).trans (unhide HBP2), (heap_set_other _ _ _ _ (by omega)).trans (unhide HB02), _, one_setCell (unhide HB12), hide ?_, hide (((unhide HB).trans ((unhide HBB).mono (by omega))).setCell (by show _ ≤ w.heap.size + 1 + 1; omega) _), ?_⟩
          · rw [take_snoc_getD M k (by omega), ← unhide ER]
            have := hM.setBelow (a := ⟨w.heap.size + 1 + 1, 0, none⟩) (by show w.heap.size + 1 + 1 < _; omega) (.slice (some ⟨gv, 0, none⟩) (us.length + 1) cv)
            simpa [hlu] using this
          · have := (unhide HBB).size
            simp
            omega
        case measure => simp [intOf]; omega
    · have hlt' : ¬ (k : Int) < n := by omega
      obtain rfl : k = n := by omega
      obtain ⟨us, hl2, ho, hrow, _⟩ := unhide HM
      have hMk : M.take k = M := List.take_of_length_le (by omega)
      rw [hMk, hl] at hl2
      obtain ⟨au, cu, eu, _⟩ := own_row (f := fun i => us.getD i undef) ho (fun i hi => by simp [List.getD, List.getElem?_eq_getElem hi])
      rw [hl2] at eu
      subst eu
      clear ho hrow
      have f0 := free_of_one hb0
      have c0 := cell_of_one hb0
      go_wp2
      have cr := cell_of_one (one_setCell (u := .slice au k cu) hb0)
      refine bodyPost_ret (v := .agg #[.slice au k cu]) (by simp [results, Try.results7, go_sem, cr]) rfl ⟨_, rfl, ?_, ?_⟩
      · have := (unhide HM).setBelow (a := ⟨w.heap.size + 1, 0, none⟩) (by show w.heap.size + 1 < _; omega) (.slice au k cu)
        rw [hMk] at this
        exact this
      · exact (unhide HB).setCell (by show _ ≤ w.heap.size + 1; omega) _
end Go.Proofs.Ythkafgcpnbolfaa
