/- Package invert's pairs: inverse. -/
import Derived.Test.YtfeepmjkamdldaaDoorInvW3
import Derived.Test.YtfeepmjkamdldaaDoorMatWalk4
import Derived.Test.YtfeepmjkamdldaaDoorInvRef2
namespace Go.Proofs.YtfeepmjkamdldaaDoor
open Go.RowKit
set_option linter.unusedVariables false
set_option linter.unusedSimpArgs false
attribute [local go_sem ↓] Go.wp_at_zero Go.wp_at_succ
/-- copy of the first numbers of a longer row, onto a row of the call's own -/
theorem step_copy_front {P : Program} {ops : Array Oper} {o : Oper} {a : Act} {w : World} {K : Act → World → Prop} {Q : Exit → Act → World → Prop} {X : Prop} (hgd : o.guard = none) (d s : Operand) (dT sT : TypeId)
    (ho : o.op = .call { callee := .builtin .copy, args := #[d, s], argTypes := #[dT, sT] }) (elem : TypeId) (hu : P.underlying dT = some (.slice elem)) (hsz : (P.info? elem).map (·.size) = some 1)
    (B E g k m cap cap' b off : Nat) (hm : k ≤ m) (xs ys : List Value) (hd : a.eval d = .slice (some ⟨g, 0, none⟩) k cap) (hs : a.eval s = .slice (some ⟨b, off, none⟩) m cap') (hx : OwnL w B E (.slice (some ⟨g, 0, none⟩) k cap) xs) (hy : ys.length = k)
    (hsrc : ∀ j v, ys[j]? = some v → w.cell? ⟨b, off + j, none⟩ = some v) (h1 : ∀ v ∈ ys, v.oneCell' = true)
    (h : ∀ w', OwnL w' B E (.slice (some ⟨g, 0, none⟩) k cap) ys → (∀ j, j ≠ g → j < w.heap.size → w'.heap[j]? = w.heap[j]?) → Below B w w' → K (a.put o.dst (goInt k)) w') :
    if Region.wanted o (yielded ops a.tmps) = true then Oper.wp P o a w K Q else X := by
  rw [if_pos (by simp [Region.wanted, hgd])]
  rcases hx.2 with ⟨e, _⟩ | ⟨g', cap1, cur, e, hb, hh, hn, hm', hc, ht⟩
  · simp at e
  · have hlen := own_len hx
    simp only [Value.slice.injEq, Option.some.injEq, Addr.mk.injEq, and_true, true_and] at e
    obtain ⟨rfl, e2, rfl⟩ := e
    rw [hlen] at hn
    have hrun := run_copy_row (P := P) w dT sT o.type elem g 0 k cap ⟨b, off, none⟩ m cap' cur E ys hu hsz hh (by rw [hy]; simp [Nat.min_eq_right hm]) (fun j v hv => by
      rw [addr_add]; exact hsrc j v hv) (by rw [hy]; omega) h1
    have hK := h (w.setRow g (cur.toList.take 0 ++ ys ++ cur.toList.drop (0 + ys.length)).toArray)
      ⟨by simp, .inr ⟨g, cap, (cur.toList.take 0 ++ ys ++ cur.toList.drop (0 + ys.length)).toArray, by rw [hy], hb, setRow_heap w g cur _ E (0, 0) hh, by rw [hy]; exact hn, hm', by simp [hy]; omega, by simp⟩⟩
      (fun j hj _ => setRow_other w g j _ hj) (below_setRow (Below.refl B w) hb _)
    unfold Oper.wp
    have hK' : K (a.put o.dst (goInt ys.length)) (w.setRow g (cur.toList.take 0 ++ ys ++ cur.toList.drop (0 + ys.length)).toArray) := by rw [hy] at *; exact hK
    simp [execOp, ho, resolve, invoke, builtin, hd, hs, hrun, Result.andThen, Oper.upon]
    simp at hK'
    first | exact hK' | exact .inl hK'
theorem inF_put (R C : Nat) (f : Nat → Nat → Nat) (i : Nat) (h : i < R) : (inF R C f i 0).set i (colsF C (f i)) = outF R C f (i + 1) := by
  rw [← inF_end]
  unfold inF
  rw [rowsF_set R _ i _ h]
  refine rowsF_congr fun r hr => ?_
  by_cases e : r = i
  · subst e
    simp only [if_true, Nat.lt_irrefl, if_false]
    exact colsF_congr fun c hc => by rw [if_pos hc]
  · simp only [e, if_false]
set_option maxRecDepth 100000 in
set_option maxHeartbeats 4000000 in
theorem inverse_any (g k : Nat) (F : Nat → Nat → Nat) (w : World) (hp : PairAt w g k F) (hk1 : 1 ≤ k) (hk : k ≤ 12) :
    Calls Tryd.prog 39 #[.pointer (some ⟨g, 0, none⟩)] w fun e w' => ∃ u, e = .returned (.agg #[u]) ∧ OwnM w' w.heap.size 38 3 u (matF k k (fun r c => F r (k + c))) ∧ Below w.heap.size w w' := by
  have hmkR := fun w => run_make_row' (P := Tryd.prog) 24 38 (.slice none 0 0) 24 Tryd.underlying24 Tryd.infoRow rfl .i64 .i64 k (by omega) (by omega) w
  have hmkC := fun w => run_make_row' (P := Tryd.prog) 38 3 (.int .i64 0) 8 Tryd.underlying38 Tryd.infoInt rfl .i64 .i64 k (by omega) (by omega) w
  have HP := hide hp
  have cz := hp.size
  have cg := hp.lt
  have cz1 := ((below_alloc w (.cells #[.slice none 0 0] 26)).cell cg).trans cz
  obtain ⟨f, ef⟩ : ∃ f, f = fun r c => F r (k + c) := ⟨_, rfl⟩
  rw [← ef]
  have EF := hide ef
  clear ef hp
  go_enter Tryd.func39, Tryd.ntmps39
  go_upto_region 2 with fail
  have A0 := three_old w (.cells #[.slice none 0 0] 26) (.cells (madeCells #[.slice none 0 0] k) 38) (.cells #[.slice (some ⟨w.heap.size + 1, 0, none⟩) k k] 26)
  have A2 := three_new w (.cells #[.slice none 0 0] 26) (.cells (madeCells #[.slice none 0 0] k) 38) (.cells #[.slice (some ⟨w.heap.size + 1, 0, none⟩) k k] 26)
  have AB : Below w.heap.size w (((w.alloc (.cells #[.slice none 0 0] 26)).alloc (.cells (madeCells #[.slice none 0 0] k) 38)).alloc (.cells #[.slice (some ⟨w.heap.size + 1, 0, none⟩) k k] 26)) := by go_grown
  have AS : w.heap.size + 3 ≤ (((w.alloc (.cells #[.slice none 0 0] 26)).alloc (.cells (madeCells #[.slice none 0 0] k) 38)).alloc (.cells #[.slice (some ⟨w.heap.size + 1, 0, none⟩) k k] 26)).heap.size := by simp
  have AR : RowsO (((w.alloc (.cells #[.slice none 0 0] 26)).alloc (.cells (madeCells #[.slice none 0 0] k) 38)).alloc (.cells #[.slice (some ⟨w.heap.size + 1, 0, none⟩) k k] 26)) (w.heap.size + 1) 38 3 (.slice (some ⟨w.heap.size + 1, 0, none⟩) k k) (List.replicate k (.slice none 0 0)) (outF k k f 0) := by
    rw [outF_start]
    have h := rowsO_made (w.alloc (.cells #[.slice none 0 0] 26)) (w.heap.size + 1) k 38 3 (by simp) (by unfold maxLen; omega)
    have e : (w.alloc (.cells #[.slice none 0 0] 26)).heap.size = w.heap.size + 1 := by simp
    rw [e] at h
    exact h.below (below_alloc _ _)
  generalize (((w.alloc (.cells #[.slice none 0 0] 26)).alloc (.cells (madeCells #[.slice none 0 0] k) 38)).alloc (.cells #[.slice (some ⟨w.heap.size + 1, 0, none⟩) k k] 26)) = W0 at A0 A2 AB AS AR ⊢
  have cz2 := (AB.cell cg).trans cz
  have A0' := hide A0
  have A2' := hide A2
  have AB' := hide AB
  have AR' := hide AR
  clear A0 A2 AB AR cz1
  go_wp2
  clear cz2
  go_loopw [15] (fun iv wr => ∃ i : Nat, i ≤ k ∧ iv = .int .i64 i ∧ wr.heap[w.heap.size]? = some (.cells #[.slice none 0 0] 26 (0, 0)) ∧ wr.heap[w.heap.size + 2]? = some (.cells #[.slice (some ⟨w.heap.size + 1, 0, none⟩) k k] 26 (0, 0)) ∧ Hid (∃ us, RowsO wr (w.heap.size + 1) 38 3 (.slice (some ⟨w.heap.size + 1, 0, none⟩) k k) us (outF k k f i)) ∧ Hid (Below w.heap.size w wr) ∧ w.heap.size + 3 ≤ wr.heap.size) (fun iv _ => k - (intOf iv).toNat)
  case atStart => exact ⟨0, by omega, rfl, unhide A0', unhide A2', hide ⟨_, unhide AR'⟩, AB', AS⟩
  case round =>
    obtain ⟨i, hi, rfl, hb0, hb2, HR, HB, hsz⟩ := hrel
    clear A0' A2' AB' AR' AS
    have c2 := cell_of_one hb2
    have f0 := free_of_one hb0
    have cz3 := ((unhide HB).cell cg).trans cz
    by_cases hlt : i < k
    · have hlt' : (i : Int) < k := by omega
      have hi12 : (i : Int) < 12 := by omega
      obtain ⟨us, hR0⟩ := unhide HR
      have g2 := kept_cell (B := wr.heap.size) c2 (cell_lt c2)
      have gz := kept_cell (B := wr.heap.size) cz3 (cell_lt cz3)
      have f1 := own_free hR0.outer i
      have HRR := hide hR0
      clear hR0 HR
      clear c2 cz3
      go_wp2
      refine wp_region_ord_then (S := Below wr.heap.size wr) [(true, 0), (true, 1), (true, 2), (true, 3), (true, 4), (true, 5), (true, 6), (false, 7), (true, 8)] (List.cons_ne_nil _ _) (by kernel_rfl) (by kernel_rfl) (by kernel_rfl) (by kernel_rfl) (by kernel_rfl) ((Below.refl _ _).drew) ?_
      simp only [List.dropLast_cons_cons, List.dropLast_singleton, List.getLast_cons_cons, List.getLast_singleton, withOps, List.map_cons, List.map_nil, List.getElem?_cons_succ, List.getElem?_cons_zero]
      repeat (refine walkH_read (by rfl) (by (intro gx; go_simp; try (with_reducible rfl))) ?_; try simp only [Act.put, List.setIfInBounds_toArray, List.set_cons_zero, List.set_cons_succ])
      refine walkH_do rfl (fun K hK => ?_)
      go_simp
      have hbA : Below wr.heap.size wr (wr.alloc (.cells (madeCells #[.int .i64 0] k) 3)).drew := by go_grown
      have hoA := (own_made wr (w.heap.size + 1) k 3 (by omega) (by unfold maxLen; omega)).below (w' := (wr.alloc (.cells (madeCells #[.int .i64 0] k) 3)).drew) (by go_grown)
      have hsA : wr.heap.size < (wr.alloc (.cells (madeCells #[.int .i64 0] k) 3)).drew.heap.size := by simp
      refine hK _ _ hbA ?_
      clear hK K
      try simp only [Act.put, List.setIfInBounds_toArray, List.set_cons_zero, List.set_cons_succ]
      have HBA := hide hbA
      have HOA := hide hoA
      clear hbA hoA
      generalize (wr.alloc (.cells (madeCells #[.int .i64 0] k) 3)).drew = wA at *
      have hRA := (unhide HRR).below (unhide HBA)
      have f1 := own_free hRA.outer i
      obtain ⟨u0, hu0⟩ : ∃ u0, us[i]? = some u0 := ⟨_, List.getElem?_eq_getElem (by rw [hRA.len, outF, rowsF_len]; exact hlt)⟩
      have c1 : wA.cell? ⟨w.heap.size + 1, i, none⟩ = some u0 := by
        obtain ⟨g, cap, e, _, hc⟩ := hRA.form (by rw [outF, rowsF_len]; omega)
        simp only [Value.slice.injEq, Option.some.injEq, Addr.mk.injEq, and_true, true_and] at e
        rw [e.1]
        exact hc i u0 hu0
      have HN := hide (RowsO.put hRA (by decide) (i := i) (unhide HOA) (fun j x hx => apt_new ((unhide HRR).row j x hx) rfl (Nat.le_refl _)))
      have hB0 := hide (((unhide HBA).block _ (lt_of_block hb0)).trans hb0)
      have hB2 := hide (((unhide HBA).block _ (lt_of_block hb2)).trans hb2)
      have hsw := (unhide HBA).size
      clear hRA hu0 hb0 hb2
      repeat (refine walkH_read (by rfl) (by (intro gx; go_simp; try (with_reducible rfl))) ?_; try simp only [Act.put, List.setIfInBounds_toArray, List.set_cons_zero, List.set_cons_succ])
      refine lastPost_of_list ?_
      simp only [List.cons_append, List.nil_append]
      go_wp2
      refine NoPanic.normal ?_
      go_upto_region 6 with fail
      obtain ⟨gr, hgr⟩ : ∃ gr, gr = wr.heap.size := ⟨_, rfl⟩
      rw [← hgr] at HN ⊢
      have hgs : w.heap.size + 3 ≤ gr := by omega
      have hB0' := hide ((Below.heap_setCell wA ⟨w.heap.size + 1, i, none⟩ (.slice (some ⟨gr, 0, none⟩) k k) w.heap.size (by show w.heap.size ≠ w.heap.size + 1; omega)).trans (unhide hB0))
      have hB2' := hide ((Below.heap_setCell wA ⟨w.heap.size + 1, i, none⟩ (.slice (some ⟨gr, 0, none⟩) k k) (w.heap.size + 2) (by show w.heap.size + 2 ≠ w.heap.size + 1; omega)).trans (unhide hB2))
      have HBB := hide (((unhide HB).trans ((unhide HBA).mono (by omega))).setCell (p := ⟨w.heap.size + 1, i, none⟩) (by show _ ≤ w.heap.size + 1; omega) (.slice (some ⟨gr, 0, none⟩) k k))
      have hsB : w.heap.size + 3 ≤ (wA.setCell ⟨w.heap.size + 1, i, none⟩ (.slice (some ⟨gr, 0, none⟩) k k)).heap.size := by simp; omega
      have hcO := World.cell?_setCell_same wA ⟨w.heap.size + 1, i, none⟩ (.slice (some ⟨gr, 0, none⟩) k k) c1
      have hui : (us.set i (.slice (some ⟨gr, 0, none⟩) k k))[i]? = some (.slice (some ⟨gr, 0, none⟩) k k) := by
        have hlu : i < us.length := by rw [(unhide HRR).len, outF, rowsF_len]; exact hlt
        simp [hlu]
      have HUI := hide hui
      clear hui
      rw [outF_in k k f i hlt] at HN
      generalize us.set i (.slice (some ⟨gr, 0, none⟩) k k) = us' at HN HUI
      generalize wA.setCell ⟨w.heap.size + 1, i, none⟩ (.slice (some ⟨gr, 0, none⟩) k k) = wB at HN hB0' hB2' HBB hsB hcO ⊢
      clear hgr hB0 hB2 HBA HOA HRR c1 f1 g2 gz HB hsw hsA f0
      have d2 := cell_of_one (unhide hB2')
      have q2 := kept_cell (B := wB.heap.size) d2 (cell_lt d2)
      have qO := kept_cell (B := wB.heap.size) hcO (cell_lt hcO)
      have dz := ((unhide HBB).cell cg).trans cz
      have qz := kept_cell (B := wB.heap.size) dz (cell_lt dz)
      clear d2 hcO dz
      have k24 : (k : Int) ≤ 24 := by omega
      have k24n : ¬ 24 = k := by omega
      have hk0 : (0 : Int) ≤ k := by omega
      refine wp_region_ord_thenT (S := Below wB.heap.size wB) [(true, 0), (true, 1), (true, 2), (true, 3), (true, 4), (true, 5), (true, 6), (true, 7), (true, 8), (true, 9), (true, 10), (true, 11), (true, 12), (true, 13), (true, 14)] (List.cons_ne_nil _ _) (by kernel_rfl) (by kernel_rfl) (by kernel_rfl) (by kernel_rfl) (by kernel_rfl) ((Below.refl _ _).drew) ?_
      simp only [List.dropLast_cons_cons, List.dropLast_singleton, List.getLast_cons_cons, List.getLast_singleton, withOps, List.map_cons, List.map_nil, List.getElem?_cons_succ, List.getElem?_cons_zero]
      repeat (refine walkH_read (by rfl) (by (intro gx; go_simp; try (with_reducible rfl))) ?_; try simp only [Act.put, List.setIfInBounds_toArray, List.set_cons_zero, List.set_cons_succ])
      refine lastPost_do (fun K hK => ?_)
      have hrowB := (unhide HN).row i _ (unhide HUI)
      have hPB := (unhide HP).below (unhide HBB)
      refine step_copy_front (by rfl) (.tmp 31) (.tmp 41) 38 38 (by rfl) 3 Tryd.underlying38 (by kernel_rfl) (w.heap.size + 1) 3 gr k (24 - k) k (24 - k) g (1 + i * 24 + k) (by omega) _ ((colsF k (f i)).map (Value.int .i64)) (by simp [Act.eval]) (by simp [Act.eval]) (hrowB.below (Below.refl _ _).drew) (by simp [colsF]) ?_ ?_ ?_
      · intro j v hv
        have hj : j < k := by
          have := (List.getElem?_eq_some_iff.1 hv).1
          simpa [colsF] using this
        have hcell := hPB.cell (r := i) (c := k + j) (by omega) (by omega)
        have := (((Below.refl wB.heap.size wB).drew).cell (cell_lt hcell)).trans hcell
        simp [colsF, hj, unhide EF] at hv
        rw [← hv, show 1 + i * 24 + k + j = 1 + i * 24 + (k + j) by omega]
        exact this
      · exact ints_oneCell _ _
      · intro w' hO hF hB
        refine hK _ _ ?_
        clear hK K
        refine NoPanic.normal ?_
        have hN' := RowsO.setRow ((unhide HN).below (w' := wB.drew) ((Below.refl _ _).drew)) (by decide) (unhide HUI) hO (fun j hj hlt => hF j (fun e => hj (by rw [e]; rfl)) hlt)
        rw [inF_put k k f i hlt] at hN'
        have HN' := hide hN'
        have hsz2 := hB.size
        have n0 := hide ((hF _ (by omega) (by simp; omega)).trans (unhide hB0'))
        have n2 := hide ((hF _ (by omega) (by simp; omega)).trans (unhide hB2'))
        have HB9 := hide ((unhide HBB).trans (((Below.refl _ wB).drew (B := w.heap.size)).trans (hB.mono (by omega))))
        clear hO hF hB hN' hrowB hPB q2 qO qz HN
        try simp only [Act.put, List.setIfInBounds_toArray, List.set_cons_zero, List.set_cons_succ]
        go_wp2
        go_roundw
        case rel => exact ⟨i + 1, by omega, by go_num, unhide n0, unhide n2, hide ⟨us', unhide HN'⟩, HB9, by simp at hsz2; omega⟩
        case measure => simp [intOf]; omega
    · have hlt' : ¬ (i : Int) < k := by omega
      obtain rfl : i = k := by omega
      obtain ⟨us, hR0⟩ := unhide HR
      have HRR := hide hR0
      clear hR0
      have c0 := cell_of_one hb0
      go_wp2
      have cr := cell_of_one (one_setCell (u := .slice (some ⟨w.heap.size + 1, 0, none⟩) i i) hb0)
      refine bodyPost_ret (v := .agg #[.slice (some ⟨w.heap.size + 1, 0, none⟩) i i]) (by simp [results, Tryd.results39, go_sem, cr]) rfl ⟨_, rfl, ⟨us, ?_⟩, (unhide HB).setCell (Nat.le_refl _) _⟩
      rw [← outF_end]
      exact ((unhide HRR).setBelow (by show w.heap.size < _; omega) _).mono (by omega)
end Go.Proofs.YtfeepmjkamdldaaDoor
