/- The document's own matrices of noughts (ossuaryref1.blank): a contract. -/
import Derived.Test.YtfeepmjkamdldaaDoorProg
import Derived.Test.YtfeepmjkamdldaaDoorLaw0
import Derived.Test.YtfeepmjkamdldaaDoorOwnM
import Derived.Deep.DrawnRows
namespace Go.Proofs.YtfeepmjkamdldaaDoor
open Go.RowKit
set_option linter.unusedVariables false
set_option linter.unusedSimpArgs false
theorem Tryd.infoRow : (Tryd.prog.info? 38).map (fun i => (i.zero, i.size, i.bytes)) = some (some (.slice none 0 0), 1, 24) := by kernel_rfl
theorem two_old (w : World) (o o' : Obj) : ((w.alloc o).alloc o').heap[w.heap.size]? = some o := by
  rw [heap_alloc_old _ _ (by simp), heap_alloc_new]
theorem two_new (w : World) (o o' : Obj) : ((w.alloc o).alloc o').heap[w.heap.size + 1]? = some o' := by
  have := heap_alloc_new (w.alloc o) o'
  simpa using this
theorem two_over (w : World) (o o' : Obj) {k : Nat} {x : Obj} (h : w.heap[k]? = some x) : ((w.alloc o).alloc o').heap[k]? = some x := by
  have := lt_of_block h
  rw [heap_alloc_old _ _ (by simp; omega), heap_alloc_old _ _ this, h]
def zeroM (r c : Nat) : List (List Int) := List.replicate r (List.replicate c 0)
theorem own_made (w : World) (B n : Nat) (E : TypeId) (h : B ≤ w.heap.size) (hn : n ≤ maxLen) : OwnL (w.alloc (.cells (madeCells #[.int .i64 0] n) E)) B E (.slice (some ⟨w.heap.size, 0, none⟩) n n) ((List.replicate n (0 : Int)).map (Value.int .i64)) := by
  have := World.ownsRow_lit (e := E) (size := 1) w (madeCells #[.int .i64 0] n) n h hn (by rw [size_madeCells]; omega)
  rw [toList_madeCells_one] at this
  unfold OwnL
  simpa using this
attribute [local go_sem ↓] Go.wp_at_zero Go.wp_at_succ
set_option maxRecDepth 100000 in
set_option maxHeartbeats 4000000 in
theorem blank_any (r c : Nat) (w : World) (hr : r ≤ 12) (hc : c ≤ 12) :
    Calls Tryd.prog 27 #[.int .i64 r, .int .i64 c] w fun e w' => ∃ u, e = .returned (.agg #[u]) ∧ OwnM w' (w.heap.size + 2) 38 3 u (zeroM r c) ∧ Below w.heap.size w w' := by
  have hmk := fun w => run_make_row' (P := Tryd.prog) 38 3 (.int .i64 0) 8 Tryd.underlying38 Tryd.infoInt rfl .i64 .i64 c (by omega) (by omega) w
  go_enter Tryd.func27, Tryd.ntmps27
  go_wp2
  go_loopw [6] (fun i wr => ∃ k : Nat, k ≤ r ∧ i = .int .i64 k ∧ wr.heap[w.heap.size]? = some (.cells #[.slice none 0 0] 26 (0, 0)) ∧ ∃ u, wr.heap[w.heap.size + 1]? = some (.cells #[u] 26 (0, 0)) ∧ Hid (OwnM wr (w.heap.size + 2) 38 3 u (zeroM k c)) ∧ Hid (Below w.heap.size w wr) ∧ w.heap.size + 2 ≤ wr.heap.size) (fun i _ => r - (intOf i).toNat)
  case atStart => exact ⟨0, by omega, rfl, two_old _ _ _, _, two_new _ _ _, OwnM.nil _ _ _ _, below_two _ _ _, by simp⟩
  case round =>
    obtain ⟨k, hk, rfl, hb0, u, hb1, HM, HB, hsz⟩ := hrel
    have c0 := cell_of_one hb0
    have c1 := cell_of_one hb1
    have f1 := free_of_one hb1
    by_cases hlt : k < r
    · have hlt' : (k : Int) < r := by omega
      obtain ⟨us, hR⟩ := unhide HM
      have hl := hR.len
      have hlu : us.length ≤ 12 := by rw [hl]; simp [zeroM]; omega
      have HO := hide hR.outer
      have HR := hide hR
      clear hR
      have c1a : ∀ o, (wr.alloc o).cell? ⟨w.heap.size + 1, 0, none⟩ = some u := fun o => ((below_alloc wr o).cell (cell_lt c1)).trans c1
      have c1b : ∀ o o', ((wr.alloc o).alloc o').cell? ⟨w.heap.size + 1, 0, none⟩ = some u := fun o o' => ((below_two wr o o').cell (cell_lt c1)).trans c1
      go_wp2
      go_region_law ((refine step_push _ (by rfl) (.tmp 13) (.tmp 16) 24 (by rfl) (w.heap.size + 2) 38 (.slice none 0 0) 24 Tryd.underlying24 Tryd.infoRow rfl u us (by simp [Act.eval, Act.put]) ((unhide HO).below (by go_grown)) (.slice (some ⟨wr.heap.size, 0, none⟩) c c) (by rfl) (wr.heap.size + 1) 0 (by simp [Act.eval, Act.put]) (by simp [go_sem]) (by omega) (by omega) (by simp; omega) ?_; intro v' w' O' P'; obtain ⟨gv, cv, ev, _⟩ := own_form O' (by simp); subst ev; have hbl := P'.block ((unhide HO).below (by go_grown)) (k := w.heap.size + 1) (by omega) (by simp; omega); have hbl0 := P'.block ((unhide HO).below (by go_grown)) (k := w.heap.size) (by omega) (by simp; omega); have hb1' : w'.heap[w.heap.size + 1]? = some (.cells #[u] 26 (0, 0)) := hbl.trans (two_over wr _ _ hb1); have hb0' : w'.heap[w.heap.size]? = some (.cells #[.slice none 0 0] 26 (0, 0)) := hbl0.trans (two_over wr _ _ hb0); have c1' := cell_of_one hb1'; have f1' := free_of_one hb1'; have OO := hide O'; have PP := hide P'; have HB0' := hide hb0'; have HB1' := hide hb1'; clear O' P' hbl hbl0 hb0' hb1'))
      all_goals
        go_wp2
        go_roundw
        case rel =>
          have hM : OwnM _ (w.heap.size + 2) 38 3 _ (zeroM k c ++ [List.replicate c 0]) := ⟨_, RowsO.push ((unhide HR).below (by go_grown)) (own_made wr (w.heap.size + 2) c 3 hsz (by unfold maxLen; omega) |>.below (by go_grown)) (fun j x hx => apt_new ((unhide HR).row j x hx) rfl (Nat.le_refl _)) (by decide) (unhide OO) (unhide PP)⟩
          have hB : Below w.heap.size w _ := (unhide PP).below ((unhide HO).below (by go_grown)) ((unhide HB).trans (by go_grown)) (by omega) (by simp; omega)
          refine ⟨k + 1, by omega, by go_num, (heap_set_other _ _ _ _ (by omega)).trans (unhide HB0'), _, one_setCell (unhide HB1'), hide ?_, hide (hB.setCell (by show _ ≤ w.heap.size + 1; omega) _), ?_⟩
          · rw [show zeroM (k + 1) c = zeroM k c ++ [List.replicate c 0] from List.replicate_succ']
            have := hM.setBelow (a := ⟨w.heap.size + 1, 0, none⟩) (by show w.heap.size + 1 < _; omega) (.slice (some ⟨gv, 0, none⟩) ((zeroM k c).length + 1) cv)
            simpa [hl] using this
          · have := (unhide PP).grown.size
            simp at this ⊢
            omega
        case measure => simp [intOf]; omega
    · have hlt' : ¬ (k : Int) < r := by omega
      obtain rfl : k = r := by omega
      obtain ⟨us, hl, ho, hrow, _⟩ := unhide HM
      obtain ⟨au, cu, rfl, _⟩ := own_row (f := fun i => us.getD i undef) ho (fun i hi => by simp [List.getD, List.getElem?_eq_getElem hi])
      clear ho hrow
      have f0 := free_of_one hb0
      go_wp2
      have cr := cell_of_one (one_setCell (u := .slice au (zeroM k c).length cu) hb0)
      refine bodyPost_ret (v := .agg #[.slice au (zeroM k c).length cu]) (by simp [results, Tryd.results27, go_sem, cr]) rfl ⟨_, rfl, ?_, ?_⟩
      · have := (unhide HM).setBelow (a := ⟨w.heap.size, 0, none⟩) (by show w.heap.size < _; omega) (.slice au (zeroM k c).length cu)
        simpa [hl] using this
      · exact (unhide HB).setCell (Nat.le_refl _) _
end Go.Proofs.YtfeepmjkamdldaaDoor
