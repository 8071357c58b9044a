/- Texts one behind the other: RefMat1, RefMat2, RefMat3, CopyMat, RefMat4, MatMath, RefMat5, RefMat6, RefMat7, Spoil, Law0M, MatFun. -/
import Derived.Test.YtcgagkaalbljmaaDoorProg
import Derived.Test.YtcgagkaalbljmaaDoorKCore
import Derived.Test.YtcgagkaalbljmaaDoorKRegs
import Derived.Deep.DrawnRows
import Derived.Deep.RegionHeld
/- The document's own matrices of noughts (ossuaryref1.blank): a contract. -/
namespace Go.Proofs.YtcgagkaalbljmaaDoor
open Go.RowKit
set_option linter.unusedVariables false
set_option linter.unusedSimpArgs false
theorem Tryd.infoRow : (Tryd.prog.info? 36).map (fun i => (i.zero, i.size, i.bytes)) = some (some (.slice none 0 0), 1, 24) := by kernel_rfl
theorem two_old (w : World) (o o' : Obj) : ((w.alloc o).alloc o').heap[w.heap.size]? = some o := by
  rw [heap_alloc_old _ _ (by simp), heap_alloc_new]
theorem two_new (w : World) (o o' : Obj) : ((w.alloc o).alloc o').heap[w.heap.size + 1]? = some o' := by
  have := heap_alloc_new (w.alloc o) o'
  simpa using this
theorem two_over (w : World) (o o' : Obj) {k : Nat} {x : Obj} (h : w.heap[k]? = some x) : ((w.alloc o).alloc o').heap[k]? = some x := by
  have := lt_of_block h
  rw [heap_alloc_old _ _ (by simp; omega), heap_alloc_old _ _ this, h]
def zeroM (r c : Nat) : List (List Int) := List.replicate r (List.replicate c 0)
theorem own_made (w : World) (B n : Nat) (E : TypeId) (h : B ≤ w.heap.size) (hn : n ≤ maxLen) : OwnL (w.alloc (.cells (madeCells #[.int .i64 0] n) E)) B E (.slice (some ⟨w.heap.size, 0, none⟩) n n) ((List.replicate n (0 : Int)).map (Value.int .i64)) := by
  have := World.ownsRow_lit (e := E) (size := 1) w (madeCells #[.int .i64 0] n) n h hn (by rw [size_madeCells]; omega)
  rw [toList_madeCells_one] at this
  unfold OwnL
  simpa using this
attribute [local go_sem ↓] Go.wp_at_zero Go.wp_at_succ
set_option maxRecDepth 100000 in
set_option maxHeartbeats 4000000 in
theorem blank_any (r c : Nat) (w : World) (hr : r ≤ 12) (hc : c ≤ 12) :
    Calls Tryd.prog 40 #[.int .i64 r, .int .i64 c] w fun e w' => ∃ u, e = .returned (.agg #[u]) ∧ OwnM w' (w.heap.size + 2) 36 3 u (zeroM r c) ∧ Below w.heap.size w w' := by
  have hmk := fun w => run_make_row' (P := Tryd.prog) 36 3 (.int .i64 0) 8 Tryd.underlying36 Tryd.infoInt rfl .i64 .i64 c (by omega) (by omega) w
  go_enter Tryd.func40, Tryd.ntmps40
  go_wp2
  go_loopw [6] (fun i wr => ∃ k : Nat, k ≤ r ∧ i = .int .i64 k ∧ wr.heap[w.heap.size]? = some (.cells #[.slice none 0 0] 52 (0, 0)) ∧ ∃ u, wr.heap[w.heap.size + 1]? = some (.cells #[u] 52 (0, 0)) ∧ Hid (OwnM wr (w.heap.size + 2) 36 3 u (zeroM k c)) ∧ Hid (Below w.heap.size w wr) ∧ w.heap.size + 2 ≤ wr.heap.size) (fun i _ => r - (intOf i).toNat)
  case atStart => exact ⟨0, by omega, rfl, two_old _ _ _, _, two_new _ _ _, OwnM.nil _ _ _ _, below_two _ _ _, by simp⟩
  case round =>
    obtain ⟨k, hk, rfl, hb0, u, hb1, HM, HB, hsz⟩ := hrel
    have c0 := cell_of_one hb0
    have c1 := cell_of_one hb1
    have f1 := free_of_one hb1
    by_cases hlt : k < r
    · have hlt' : (k : Int) < r := by omega
      obtain ⟨us, hR⟩ := unhide HM
      have hl := hR.len
      have hlu : us.length ≤ 12 := by rw [hl]; simp [zeroM]; omega
      have HO := hide hR.outer
      have HR := hide hR
      clear hR
      have c1a : ∀ o, (wr.alloc o).cell? ⟨w.heap.size + 1, 0, none⟩ = some u := fun o => ((below_alloc wr o).cell (cell_lt c1)).trans c1
      have c1b : ∀ o o', ((wr.alloc o).alloc o').cell? ⟨w.heap.size + 1, 0, none⟩ = some u := fun o o' => ((below_two wr o o').cell (cell_lt c1)).trans c1
      go_wp2
      go_region_law ((refine step_push _ (by rfl) (.tmp 13) (.tmp 16) 50 (by rfl) (w.heap.size + 2) 36 (.slice none 0 0) 24 Tryd.underlying50 Tryd.infoRow rfl u us (by simp [Act.eval, Act.put]) ((unhide HO).below (by go_grown)) (.slice (some ⟨wr.heap.size, 0, none⟩) c c) (by rfl) (wr.heap.size + 1) 0 (by simp [Act.eval, Act.put]) (by simp [go_sem]) (by omega) (by omega) (by simp; omega) ?_; intro v' w' O' P'; obtain ⟨gv, cv, ev, _⟩ := own_form O' (by simp); subst ev; have hbl := P'.block ((unhide HO).below (by go_grown)) (k := w.heap.size + 1) (by omega) (by simp; omega); have hbl0 := P'.block ((unhide HO).below (by go_grown)) (k := w.heap.size) (by omega) (by simp; omega); have hb1' : w'.heap[w.heap.size + 1]? = some (.cells #[u] 52 (0, 0)) := hbl.trans (two_over wr _ _ hb1); have hb0' : w'.heap[w.heap.size]? = some (.cells #[.slice none 0 0] 52 (0, 0)) := hbl0.trans (two_over wr _ _ hb0); have c1' := cell_of_one hb1'; have f1' := free_of_one hb1'; have OO := hide O'; have PP := hide P'; have HB0' := hide hb0'; have HB1' := hide hb1'; clear O' P' hbl hbl0 hb0' hb1'))
      all_goals
        go_wp2
        go_roundw
        case rel =>
          have hM : OwnM _ (w.heap.size + 2) 36 3 _ (zeroM k c ++ [List.replicate c 0]) := ⟨_, RowsO.push ((unhide HR).below (by go_grown)) (own_made wr (w.heap.size + 2) c 3 hsz (by unfold maxLen; omega) |>.below (by go_grown)) (fun j x hx => apt_new ((unhide HR).row j x hx) rfl (Nat.le_refl _)) (by decide) (unhide OO) (unhide PP)⟩
          have hB : Below w.heap.size w _ := (unhide PP).below ((unhide HO).below (by go_grown)) ((unhide HB).trans (by go_grown)) (by omega) (by simp; omega)
          refine ⟨k + 1, by omega, by go_num, (heap_set_other _ _ _ _ (by omega)).trans (unhide HB0'), _, one_setCell (unhide HB1'), hide ?_, hide (hB.setCell (by show _ ≤ w.heap.size + 1; omega) _), ?_⟩
          · rw [show zeroM (k + 1) c = zeroM k c ++ [List.replicate c 0] from List.replicate_succ']
            have := hM.setBelow (a := ⟨w.heap.size + 1, 0, none⟩) (by show w.heap.size + 1 < _; omega) (.slice (some ⟨gv, 0, none⟩) ((zeroM k c).length + 1) cv)
            simpa [hl] using this
          · have := (unhide PP).grown.size
            simp at this ⊢
            omega
        case measure => simp [intOf]; omega
    · have hlt' : ¬ (k : Int) < r := by omega
      obtain rfl : k = r := by omega
      obtain ⟨us, hl, ho, hrow, _⟩ := unhide HM
      obtain ⟨au, cu, rfl, _⟩ := own_row (f := fun i => us.getD i undef) ho (fun i hi => by simp [List.getD, List.getElem?_eq_getElem hi])
      clear ho hrow
      have f0 := free_of_one hb0
      go_wp2
      have cr := cell_of_one (one_setCell (u := .slice au (zeroM k c).length cu) hb0)
      refine bodyPost_ret (v := .agg #[.slice au (zeroM k c).length cu]) (by simp [results, Tryd.results40, go_sem, cr]) rfl ⟨_, rfl, ?_, ?_⟩
      · have := (unhide HM).setBelow (a := ⟨w.heap.size, 0, none⟩) (by show w.heap.size < _; omega) (.slice au (zeroM k c).length cu)
        simpa [hl] using this
      · exact (unhide HB).setCell (Nat.le_refl _) _
end Go.Proofs.YtcgagkaalbljmaaDoor
/- The document's own identity (ossuaryref1.Identity): a contract. -/
namespace Go.Proofs.YtcgagkaalbljmaaDoor
open Go.RowKit
set_option linter.unusedVariables false
set_option linter.unusedSimpArgs false
/-- the identity's rows, where the first i are set -/
def idTo (k i : Nat) : List (List Int) := (List.range k).map fun r => (List.range k).map fun c => if r = c ∧ r < i then 1 else 0
def idM (k : Nat) : List (List Int) := (List.range k).map fun r => (List.range k).map fun c => if r = c then 1 else 0
theorem idTo_zero (k : Nat) : idTo k 0 = zeroM k k := by
  unfold idTo zeroM
  apply List.ext_getElem <;> simp
  intro i hi
  apply List.ext_getElem <;> simp
theorem idTo_all (k : Nat) : idTo k k = idM k := by
  unfold idTo idM
  apply List.map_congr_left
  intro r hr
  apply List.map_congr_left
  intro c hc
  simp only [List.mem_range] at hr
  simp [hr]
theorem idTo_row (k i r : Nat) (h : r < k) : (idTo k i).getD r [] = (List.range k).map fun c => if r = c ∧ r < i then 1 else 0 := by
  simp [idTo, List.getD, h]
theorem idTo_len (k i : Nat) : (idTo k i).length = k := by simp [idTo]
theorem idTo_rowlen (k i r : Nat) (h : r < k) : ((idTo k i).getD r []).length = k := by rw [idTo_row k i r h]; simp
theorem idTo_step (k i : Nat) (h : i < k) : (idTo k i).set i (((idTo k i).getD i []).set i 1) = idTo k (i + 1) := by
  rw [idTo_row k i i h]
  unfold idTo
  apply List.ext_getElem
  · simp
  · intro r h1 h2
    simp at h1
    rw [List.getElem_set]
    by_cases hr : i = r
    · subst hr
      rw [if_pos rfl]
      apply List.ext_getElem
      · simp
      · intro c h3 h4
        simp at h3
        rw [List.getElem_set]
        by_cases hc : i = c
        · subst hc; simp
        · simp [hc]
    · rw [if_neg hr]
      simp only [List.getElem_map, List.getElem_range]
      apply List.map_congr_left
      intro c hc
      have : (r = c ∧ r < i) ↔ (r = c ∧ r < i + 1) := by omega
      simp only [this]
set_option maxRecDepth 100000 in
theorem refIdentity_no (k : Int) (w : World) (h : k < 1 ∨ 12 < k) : Calls Tryd.prog 49 #[.int .i64 k] w fun e w' => e = .returned (.tuple #[.agg #[.slice none 0 0], .int .i64 300]) ∧ Below w.heap.size w w' := by
  by_cases h1 : k < 1
  · clear h
    go_enter Tryd.func49, Tryd.ntmps49
    go_wp2
    exact bodyPost_ret (v := .tuple #[.agg #[.slice none 0 0], .int .i64 300]) (by simp [results, Tryd.results49, go_sem]) rfl ⟨rfl, by go_grown⟩
  · have h2 : 12 < k := by omega
    clear h
    go_enter Tryd.func49, Tryd.ntmps49
    go_wp2
    exact bodyPost_ret (v := .tuple #[.agg #[.slice none 0 0], .int .i64 300]) (by simp [results, Tryd.results49, go_sem]) rfl ⟨rfl, by go_grown⟩
set_option maxRecDepth 100000 in
set_option maxHeartbeats 2000000 in
theorem refIdentity_yes (k : Nat) (w : World) (h1 : 1 ≤ k) (h2 : k ≤ 12) : Calls Tryd.prog 49 #[.int .i64 k] w fun e w' => ∃ u, e = .returned (.tuple #[.agg #[u], .int .i64 0]) ∧ OwnM w' (w.heap.size + 1) 36 3 u (idM k) ∧ Below w.heap.size w w' := by
  have h1' : ¬ (k : Int) < 1 := by omega
  have h2' : ¬ (12 : Int) < k := by omega
  go_enter Tryd.func49, Tryd.ntmps49
  go_wp2_with fail
  refine (blank_any k k _ h2 h2).mono ?_
  rintro e w1 ⟨u, rfl, ⟨us, hR⟩, hb1⟩
  obtain ⟨gu, cu, rfl, hgu, hcu⟩ := hR.form (by simp [zeroM]; omega)
  have hH : w1.heap[w.heap.size]? = some (.cells #[.slice none 0 0] 52 (0, 0)) := (hb1.block _ (by simp)).trans (heap_alloc_new w _)
  have hs1 : w.heap.size + 1 ≤ w1.heap.size := by have := hb1.size; simpa using this
  have hb1' : Below w.heap.size w w1 := (below_alloc w _).trans (hb1.mono (by simp))
  have hR2 : RowsO w1 (w.heap.size + 1) 36 3 (.slice (some ⟨gu, 0, none⟩) (zeroM k k).length cu) us (zeroM k k) := hR.mono (by simp)
  have hz : (zeroM k k).length = k := by simp [zeroM]
  rw [hz] at hR2 ⊢
  have HR := hide hR2
  have HB := hide hb1'
  have HH := hide hH
  clear hR hR2 hb1 hb1' hH hcu hgu hz
  go_wp2
  go_loopw [5] (fun iv wr => ∃ i : Nat, i ≤ k ∧ iv = .int .i64 i ∧ wr.heap[w.heap.size]? = some (.cells #[.slice none 0 0] 52 (0, 0)) ∧ wr.heap[w1.heap.size]? = some (.cells #[.slice (some ⟨gu, 0, none⟩) k cu] 52 (0, 0)) ∧ Hid (RowsO wr (w.heap.size + 1) 36 3 (.slice (some ⟨gu, 0, none⟩) k cu) us (idTo k i)) ∧ Hid (Below w.heap.size w wr)) (fun iv _ => k - (intOf iv).toNat)
  case atStart => exact ⟨0, by omega, rfl, (heap_alloc_old _ _ (lt_of_block (unhide HH))).trans (unhide HH), heap_alloc_new _ _, by rw [idTo_zero]; exact (unhide HR).below (below_alloc _ _), bt (unhide HB) (below_alloc _ _)⟩
  case round =>
    obtain ⟨i, hi, rfl, hb0, hbx, HR, HB⟩ := hrel
    have cx := cell_of_one hbx
    by_cases hlt : i < k
    · have hlt' : (i : Int) < k := by omega
      have hR := unhide HR
      obtain ⟨g, cap, hg, hBg, hcell, hfr⟩ := hR.at (i := i) (by rw [idTo_len]; exact hlt) (by rw [idTo_rowlen k i i hlt]; omega)
      rw [idTo_rowlen k i i hlt] at hg hcell
      obtain ⟨gu', cu', eu, _, hcu⟩ := hR.form (by rw [idTo_len]; omega)
      rw [idTo_len] at eu
      simp only [Value.slice.injEq, Option.some.injEq, Addr.mk.injEq, and_true, true_and] at eu
      obtain ⟨rfl, rfl⟩ := eu
      have c1 := hcu i _ hg
      have c2 := hcell i hlt
      have f2 := hfr i
      obtain ⟨hR', hbl⟩ := hR.store (by decide) hg (c := i) 1
      rw [idTo_step k i hlt] at hR'
      have n1 := own_ne (hR.row i _ hg) hbx (by decide)
      have n0 := own_ne (hR.row i _ hg) hb0 (by decide)
      have hb0' := (hbl _ (lt_of_block hb0) n0).trans hb0
      have hbx' := (hbl _ (lt_of_block hbx) n1).trans hbx
      have HR' := hide hR'
      have H0' := hide hb0'
      have HX' := hide hbx'
      have HB' := hide ((unhide HB).setCell (p := ⟨g, i, none⟩) (by show w.heap.size ≤ g; omega) (.int .i64 1))
      clear hR hR' hbl hb0' hbx' hcell hfr hcu
      go_wp2
      go_roundw
      case rel => exact ⟨i + 1, by omega, by go_num, unhide H0', unhide HX', HR', HB'⟩
      case measure => simp [intOf]; omega
    · have hlt' : ¬ (i : Int) < k := by omega
      obtain rfl : i = k := by omega
      have f0 := free_of_one hb0
      have c0 := cell_of_one hb0
      go_wp2
      have cr := cell_of_one (one_setCell (u := .slice (some ⟨gu, 0, none⟩) i cu) hb0)
      refine bodyPost_ret (v := .tuple #[.agg #[.slice (some ⟨gu, 0, none⟩) i cu], .int .i64 0]) (by simp [results, Tryd.results49, go_sem, cr]) rfl ⟨_, rfl, ⟨us, ?_⟩, ?_⟩
      · rw [← idTo_all]
        exact (unhide HR).setBelow (by show w.heap.size < _; omega) _
      · exact (unhide HB).setCell (Nat.le_refl _) _
end Go.Proofs.YtcgagkaalbljmaaDoor
/- The document's own test of a matrix (ossuaryref1.MatrixMay): a contract. -/
namespace Go.Proofs.YtcgagkaalbljmaaDoor
open Go.RowKit
set_option linter.unusedVariables false
set_option linter.unusedSimpArgs false
def byteI (x : Int) : Prop := 0 ≤ x ∧ x < 256
def rowMay (k : Nat) (r : List Int) : Prop := r.length = k ∧ ∀ j, j < k → byteI (r.getD j 0)
/-- may this be a matrix? -/
def MMay (M : List (List Int)) : Prop := 1 ≤ M.length ∧ M.length ≤ 12 ∧ 1 ≤ (M.getD 0 []).length ∧ (M.getD 0 []).length ≤ 12 ∧ ∀ i, i < M.length → rowMay (M.getD 0 []).length (M.getD i [])
set_option maxRecDepth 100000 in
theorem refMay_len (a : Option Addr) (n cap : Nat) (w : World) (h : n < 1 ∨ 12 < n) (hn : n ≤ maxLen) : Calls Tryd.prog 48 #[.agg #[.slice a n cap]] w fun e w' => e = .returned (.bool false) ∧ Below w.heap.size w w' := by
  unfold maxLen at hn
  by_cases h1 : n < 1
  · have h1' : (n : Int) < 1 := by omega
    go_enter Tryd.func48, Tryd.ntmps48
    go_wp2
    go_ret
    exact ⟨rfl, by go_grown⟩
  · have h1' : ¬ (n : Int) < 1 := by omega
    have h2' : (12 : Int) < n := by omega
    clear h
    go_enter Tryd.func48, Tryd.ntmps48
    go_wp2
    go_ret
    exact ⟨rfl, by go_grown⟩
set_option maxRecDepth 100000 in
set_option maxHeartbeats 2000000 in
theorem refMay_some (b off n cap : Nat) (M : List (List Int)) (w : World) (hl : M.length = n) (h1 : 1 ≤ n) (h2 : n ≤ 12) (hc : ∀ i, i < n → ∃ u, w.cell? ⟨b, off + i, none⟩ = some u ∧ RowV w u (M.getD i [])) :
    Calls Tryd.prog 48 #[.agg #[.slice (some ⟨b, off, none⟩) n cap]] w fun e w' => ((MMay M ∧ e = .returned (.bool true)) ∨ (¬ MMay M ∧ e = .returned (.bool false))) ∧ Below w.heap.size w w' := by
  have h1' : ¬ (n : Int) < 1 := by omega
  have h2' : ¬ (12 : Int) < n := by omega
  have hp : (0 : Int) < n := by omega
  obtain ⟨u0, hu0, x0, k, c0, rfl, hk, hx0⟩ := hc 0 h1
  have hu0' : w.cell? ⟨b, off, none⟩ = some (.slice x0 k c0) := hu0
  have ek : (M.getD 0 []).length = k := hx0.1
  unfold maxLen at hk
  have HC := hide hc
  have EK := hide ek
  have hbox := below_alloc w (.cells #[.slice (some ⟨b, off, none⟩) n cap] 52)
  have cu := (hbox.cell (cell_lt hu0')).trans hu0'
  have HB := hide hbox
  clear hc hu0 hx0 ek hbox hu0'
  by_cases k1 : k < 1
  · have k1' : (k : Int) < 1 := by omega
    go_enter Tryd.func48, Tryd.ntmps48
    go_wp2
    go_ret
    exact ⟨.inr ⟨fun h => by have := h.2.2.1; rw [unhide EK] at this; omega, rfl⟩, unhide HB⟩
  · have k1' : ¬ (k : Int) < 1 := by omega
    by_cases k2 : 12 < k
    · have k2' : (12 : Int) < k := by omega
      go_enter Tryd.func48, Tryd.ntmps48
      go_wp2
      go_ret
      exact ⟨.inr ⟨fun h => by have := h.2.2.2.1; rw [unhide EK] at this; omega, rfl⟩, unhide HB⟩
    · have k2' : ¬ (12 : Int) < k := by omega
      go_enter Tryd.func48, Tryd.ntmps48
      go_wp2
      go_loop [4] (fun iv => ∃ i : Nat, i ≤ n ∧ iv = .int .i64 i ∧ Hid (∀ r, r < i → rowMay k (M.getD r []))) (fun iv => n - (intOf iv).toNat)
      case atStart => exact ⟨0, by omega, rfl, fun r hr => by omega⟩
      case round =>
        obtain ⟨i, hi, rfl, HG⟩ := hrel
        by_cases hlt : i < n
        · have hlt' : (i : Int) < n := by omega
          obtain ⟨u, hu, x, nx, cx, rfl, hnx, hx⟩ := unhide HC i hlt
          have c1 := ((unhide HB).cell (cell_lt hu)).trans hu
          have HX := hide hx
          unfold maxLen at hnx
          clear hu hx cu
          by_cases hk : nx = k
          · subst hk
            have t1 : ((nx : Int) != (nx : Int)) = false := by simp
            obtain ⟨bx, ox, rfl, hcx⟩ : ∃ bx ox, x = some ⟨bx, ox, none⟩ ∧ ∀ c, c < nx → w.cell? ⟨bx, ox + c, none⟩ = some (.int .i64 ((M.getD i []).getD c 0)) := by
              rcases (unhide HX).2.two with h | h
              · omega
              · exact h
            have HCX := hide hcx
            clear hcx
            go_wp2
            go_loop [5] (fun jv => ∃ j : Nat, j ≤ nx ∧ jv = .int .i64 j ∧ Hid (∀ c, c < j → byteI ((M.getD i []).getD c 0))) (fun jv => nx - (intOf jv).toNat)
            case atStart => exact ⟨0, by omega, rfl, fun c hc => by omega⟩
            case round =>
              obtain ⟨j, hj, rfl, HJ⟩ := hrel
              by_cases hltj : j < nx
              · have hltj' : (j : Int) < nx := by omega
                have c2 := ((unhide HB).cell (cell_lt (unhide HCX j hltj))).trans (unhide HCX j hltj)
                obtain ⟨y, ey⟩ : ∃ y, y = (M.getD i []).getD j 0 := ⟨_, rfl⟩
                rw [← ey] at c2
                have EY := hide ey
                clear ey
                by_cases hy : y < 0 ∨ 256 ≤ y
                · have HY := hide hy
                  clear hy
                  go_wp2_with (go_at_call 43; refine (byteNum_no _ _ (unhide HY)).mono ?_; rintro e w' ⟨rfl, rfl⟩)
                  go_ret
                  refine ⟨.inr ⟨fun h => ?_, rfl⟩, unhide HB⟩
                  have h3 := (h.2.2.2.2 i (by omega)).2 j (by rw [unhide EK]; exact hltj)
                  rw [← unhide EY] at h3
                  have := unhide HY
                  unfold byteI at h3
                  omega
                · have y1 : 0 ≤ y := by omega
                  have y2 : y ≤ 255 := by omega
                  clear hy
                  go_wp2_with (go_at_call 43; refine (byteNum_yes _ _ y1 y2).mono ?_; rintro e w' ⟨rfl, rfl⟩)
                  go_round
                  case rel =>
                    refine ⟨j + 1, by omega, by go_num, hide (fun c hc => ?_)⟩
                    by_cases q : c = j
                    · rw [q, ← unhide EY]; unfold byteI; omega
                    · exact unhide HJ c (by omega)
                  case measure => simp [intOf]; omega
              · have hltj' : ¬ (j : Int) < nx := by omega
                obtain rfl : j = nx := by omega
                go_wp2
                go_round
                case rel =>
                  refine ⟨i + 1, by omega, by go_num, hide (fun r hr => ?_)⟩
                  by_cases q : r = i
                  · rw [q]; exact ⟨(unhide HX).1, unhide HJ⟩
                  · exact unhide HG r (by omega)
                case measure => simp [intOf]; omega
          · have t1 : ((nx : Int) != (k : Int)) = true := by simp; omega
            go_wp2
            go_ret
            refine ⟨.inr ⟨fun h => hk ?_, rfl⟩, unhide HB⟩
            have := (h.2.2.2.2 i (by omega)).1
            rw [unhide EK, (unhide HX).1] at this
            exact this
        · have hlt' : ¬ (i : Int) < n := by omega
          obtain rfl : i = n := by omega
          go_wp2
          go_ret
          refine ⟨.inl ⟨⟨by omega, by omega, by rw [unhide EK]; omega, by rw [unhide EK]; omega, fun r hr => ?_⟩, rfl⟩, unhide HB⟩
          rw [unhide EK]
          exact unhide HG r (by omega)
theorem refMay_any (v : Value) (M : List (List Int)) (w : World) (h : MatV w v M) :
    Calls Tryd.prog 48 #[v] w fun e w' => ((MMay M ∧ e = .returned (.bool true)) ∨ (¬ MMay M ∧ e = .returned (.bool false))) ∧ Below w.heap.size w w' := by
  obtain ⟨a, n, cap, rfl, R⟩ := h
  have hl : M.length = n := by obtain ⟨_, h, _⟩ := R; exact h
  have hn : n ≤ maxLen := by obtain ⟨_, _, h, _⟩ := R; exact h
  by_cases h : n < 1 ∨ 12 < n
  · refine (refMay_len a n cap w h hn).mono ?_
    rintro e w' ⟨rfl, hb⟩
    exact ⟨.inr ⟨fun hm => by have := hm.1; have := hm.2.1; omega, rfl⟩, hb⟩
  · rcases R.two with h0 | ⟨b, off, rfl, hc⟩
    · omega
    · exact refMay_some b off n cap M w hl (by omega) (by omega) hc
end Go.Proofs.YtcgagkaalbljmaaDoor
/- A copy of a matrix (ossuarylaw0.CopyMatrix): a contract. -/
namespace Go.Proofs.YtcgagkaalbljmaaDoor
open Go.RowKit
set_option linter.unusedVariables false
set_option linter.unusedSimpArgs false
attribute [local go_sem ↓] Go.wp_at_zero Go.wp_at_succ
theorem three_old (w : World) (o o' o'' : Obj) : (((w.alloc o).alloc o').alloc o'').heap[w.heap.size]? = some o := by
  rw [heap_alloc_old _ _ (by simp; omega), two_old]
theorem three_mid (w : World) (o o' o'' : Obj) : (((w.alloc o).alloc o').alloc o'').heap[w.heap.size + 1]? = some o' := by
  rw [heap_alloc_old _ _ (by simp), two_new]
theorem three_new (w : World) (o o' o'' : Obj) : (((w.alloc o).alloc o').alloc o'').heap[w.heap.size + 1 + 1]? = some o'' := by
  have := heap_alloc_new ((w.alloc o).alloc o') o''
  simpa using this
theorem take_snoc_getD (M : List (List Int)) (k : Nat) (h : k < M.length) : M.take (k + 1) = M.take k ++ [M.getD k []] := by
  rw [List.take_succ_eq_append_getElem h]
  simp [List.getD, List.getElem?_eq_getElem h]
end Go.Proofs.YtcgagkaalbljmaaDoor
/- The document's own product of matrices (ossuaryref1.MulMatrix): a contract. -/
namespace Go.Proofs.YtcgagkaalbljmaaDoor
open Go.RowKit
set_option linter.unusedVariables false
set_option linter.unusedSimpArgs false
/-- R rows of C numbers, by their places -/
def matF (R C : Nat) (f : Nat → Nat → Nat) : List (List Int) := (List.range R).map fun r => (List.range C).map fun c => ((f r c : Nat) : Int)
theorem matF_len (R C : Nat) (f : Nat → Nat → Nat) : (matF R C f).length = R := by simp [matF]
theorem matF_row (R C : Nat) (f : Nat → Nat → Nat) (r : Nat) (h : r < R) : (matF R C f).getD r [] = (List.range C).map fun c => ((f r c : Nat) : Int) := by
  simp [matF, List.getD, h]
theorem matF_rowlen (R C : Nat) (f : Nat → Nat → Nat) (r : Nat) (h : r < R) : ((matF R C f).getD r []).length = C := by rw [matF_row R C f r h]; simp
theorem matF_at (R C : Nat) (f : Nat → Nat → Nat) (r c : Nat) (h : r < R) (hc : c < C) : ((matF R C f).getD r []).getD c 0 = ((f r c : Nat) : Int) := by
  rw [matF_row R C f r h]; simp [List.getD, hc]
theorem matF_congr {R C : Nat} {f g : Nat → Nat → Nat} (h : ∀ r c, r < R → c < C → f r c = g r c) : matF R C f = matF R C g := by
  unfold matF
  apply List.map_congr_left
  intro r hr
  apply List.map_congr_left
  intro c hc
  simp only [List.mem_range] at hr hc
  rw [h r c hr hc]
theorem matF_zero (R C : Nat) : matF R C (fun _ _ => 0) = zeroM R C := by
  unfold matF zeroM
  apply List.ext_getElem <;> simp
  intro i hi
  apply List.ext_getElem <;> simp
theorem matF_set (R C : Nat) (f : Nat → Nat → Nat) (i j x : Nat) (hi : i < R) (hj : j < C) :
    (matF R C f).set i (((matF R C f).getD i []).set j ((x : Nat) : Int)) = matF R C (fun r c => if r = i ∧ c = j then x else f r c) := by
  rw [matF_row R C f i hi]
  unfold matF
  apply List.ext_getElem
  · simp
  · intro r h1 h2
    simp at h1
    rw [List.getElem_set]
    by_cases hr : i = r
    · subst hr
      rw [if_pos rfl]
      apply List.ext_getElem
      · simp
      · intro c h3 h4
        simp at h3
        rw [List.getElem_set]
        by_cases hc : j = c
        · subst hc; simp
        · simp [hc, Ne.symm hc]
    · rw [if_neg hr]
      simp only [List.getElem_map, List.getElem_range]
      apply List.map_congr_left
      intro c hc
      rw [if_neg (by rintro ⟨h, _⟩; exact hr h.symm)]
/-- the number of a matrix at a place -/
def entry (M : List (List Int)) (r c : Nat) : Nat := ((M.getD r []).getD c 0).toNat
/-- the first n products of a row and a column, added up -/
def dot (A B : List (List Int)) (r c : Nat) : Nat → Nat
  | 0 => 0
  | n + 1 => dot A B r c n ^^^ Gf.mul (entry A r n) (entry B n c)
theorem dot_lt (A B : List (List Int)) (r c n : Nat) : dot A B r c n < 256 := by
  induction n with
  | zero => simp [dot]
  | succ n ih => exact Nat.xor_lt_two_pow (n := 8) ih (Gf.mul_lt _ _)
/-- the product of two matrices -/
def mulM (A B : List (List Int)) : List (List Int) := matF A.length (B.getD 0 []).length (fun r c => dot A B r c B.length)
/-- the product, as far as the loops are come -/
def part (A B : List (List Int)) (K i j k r c : Nat) : Nat := if r < i then dot A B r c K else if r = i then (if c < j then dot A B r c K else if c = j then dot A B r c k else 0) else 0
theorem mmay_at {M : List (List Int)} (h : MMay M) {r c : Nat} (hr : r < M.length) (hc : c < (M.getD 0 []).length) : (M.getD r []).getD c 0 = ((entry M r c : Nat) : Int) ∧ entry M r c < 256 := by
  have := (h.2.2.2.2 r hr).2 c hc
  unfold byteI at this
  unfold entry
  omega
theorem refMay_yes (v : Value) (M : List (List Int)) (w : World) (h : MatV w v M) (hm : MMay M) : Calls Tryd.prog 48 #[v] w fun e w' => e = .returned (.bool true) ∧ Below w.heap.size w w' :=
  (refMay_any v M w h).mono fun e w' ⟨h, hb⟩ => ⟨by rcases h with h | h; exact h.2; exact absurd hm h.1, hb⟩
theorem refMay_no (v : Value) (M : List (List Int)) (w : World) (h : MatV w v M) (hm : ¬ MMay M) : Calls Tryd.prog 48 #[v] w fun e w' => e = .returned (.bool false) ∧ Below w.heap.size w w' :=
  (refMay_any v M w h).mono fun e w' ⟨h, hb⟩ => ⟨by rcases h with h | h; exact absurd h.1 hm; exact h.2, hb⟩
theorem mul_open {pa pb : Option Addr} {na ca nb cb : Nat} {A B : List (List Int)} {w : World} (ha : MatV w (.agg #[.slice pa na ca]) A) (hb : MatV w (.agg #[.slice pb nb cb]) B) (hmA : MMay A) (hmB : MMay B) :
    ∃ ba oa, pa = some ⟨ba, oa, none⟩ ∧ 1 ≤ na ∧ ∃ x0 m0 q0, w.cell? ⟨ba, oa, none⟩ = some (.slice x0 m0 q0) ∧ (A.getD 0 []).length = m0 ∧ na ≤ 12 ∧ m0 ≤ 12 ∧ nb ≤ 12 ∧ A.length = na ∧ B.length = nb := by
  obtain ⟨a, n, c, e, R⟩ := ha
  simp only [Value.agg.injEq, Array.mk.injEq, List.cons.injEq, Value.slice.injEq, and_true] at e
  obtain ⟨rfl, rfl, rfl⟩ := e
  obtain ⟨a', n', c', e, R'⟩ := hb
  simp only [Value.agg.injEq, Array.mk.injEq, List.cons.injEq, Value.slice.injEq, and_true] at e
  obtain ⟨rfl, rfl, rfl⟩ := e
  have hlA : A.length = na := by obtain ⟨_, h, _⟩ := R; exact h
  have hlB : B.length = nb := by obtain ⟨_, h, _⟩ := R'; exact h
  have h1 := hmA.1
  have h2 := hmA.2.1
  have h3 := hmA.2.2.2.1
  have h4 := hmB.2.1
  rcases R.two with h0 | ⟨b, off, rfl, hc⟩
  · omega
  · obtain ⟨u, hu, x, n, q, rfl, hn, hx⟩ := hc 0 (by omega)
    exact ⟨b, off, rfl, by omega, x, n, q, hu, hx.1, by omega, by rw [← hx.1]; exact h3, by omega, hlA, hlB⟩
attribute [local go_sem ↓] Go.wp_at_zero Go.wp_at_succ
set_option maxRecDepth 100000 in
set_option maxHeartbeats 4000000 in
theorem refMulMatrix_noA (pa pb : Option Addr) (na ca nb cb : Nat) (A B : List (List Int)) (w : World) (ha : MatV w (.agg #[.slice pa na ca]) A) (hb : MatV w (.agg #[.slice pb nb cb]) B) (hmA : ¬ MMay A) :
    Calls Tryd.prog 42 #[.agg #[.slice pa na ca], .agg #[.slice pb nb cb]] w fun e w' => e = .returned (.tuple #[.agg #[.slice none 0 0], .int .i64 300]) ∧ Below w.heap.size w w' := by
  have HA := hide ha
  have HB := hide hb
  clear ha hb
  go_enter Tryd.func42, Tryd.ntmps42
  go_wp2_with fail
  have k0 := hide (three_old w (.cells #[.slice pa na ca] 52) (.cells #[.slice pb nb cb] 52) (.cells #[.slice none 0 0] 52))
  have k1 := hide (three_mid w (.cells #[.slice pa na ca] 52) (.cells #[.slice pb nb cb] 52) (.cells #[.slice none 0 0] 52))
  have k2 := hide (three_new w (.cells #[.slice pa na ca] 52) (.cells #[.slice pb nb cb] 52) (.cells #[.slice none 0 0] 52))
  have k3 : Hid (Below w.heap.size w (((w.alloc (.cells #[.slice pa na ca] 52)).alloc (.cells #[.slice pb nb cb] 52)).alloc (.cells #[.slice none 0 0] 52))) := hide (by go_grown)
  have k4 : (((w.alloc (.cells #[.slice pa na ca] 52)).alloc (.cells #[.slice pb nb cb] 52)).alloc (.cells #[.slice none 0 0] 52)).heap.size = w.heap.size + 3 := by simp
  generalize (((w.alloc (.cells #[.slice pa na ca] 52)).alloc (.cells #[.slice pb nb cb] 52)).alloc (.cells #[.slice none 0 0] 52)) = W at k0 k1 k2 k3 k4 ⊢
  have c0 := cell_of_one (unhide k0)
  have c1 := cell_of_one (unhide k1)
  have g0 := grown_cell c0
  have g1 := grown_cell c1
  refine wp_region_grows (by kernel_rfl) (by kernel_rfl) ?_
  repeat (first | go_big_quiet_step ((go_at_call 48; exact Calls.grows (refMay_no _ A _ (((unhide HA).below (unhide k3)).below (GrownW.prop _)) hmA))) | quiet_step ((go_at_call 48; exact Calls.grows (refMay_no _ A _ (((unhide HA).below (unhide k3)).below (GrownW.prop _)) hmA))))
  refine wpQuiet_nil ?_
  intro gw hw'
  have gb := grown_below hw'
  clear hw'
  clear g0 g1 c0 c1
  have r2 := (gb.block _ (by omega)).trans (unhide k2)
  have c2 := cell_of_one r2
  have f2 := free_of_one r2
  have HB1 := hide (bt (unhide k3) gb)
  clear gb
  go_wp2
  have cr := cell_of_one (one_setCell (u := .slice none 0 0) r2)
  exact bodyPost_ret (v := .tuple #[.agg #[.slice none 0 0], .int .i64 300]) (by simp [results, Tryd.results42, go_sem, cr]) rfl ⟨rfl, (unhide HB1).setCell (by show _ ≤ w.heap.size + 1 + 1; omega) _⟩
set_option maxRecDepth 100000 in
set_option maxHeartbeats 4000000 in
theorem refMulMatrix_noB (pa pb : Option Addr) (na ca nb cb : Nat) (A B : List (List Int)) (w : World) (ha : MatV w (.agg #[.slice pa na ca]) A) (hb : MatV w (.agg #[.slice pb nb cb]) B) (hmA : MMay A) (hmB : ¬ MMay B) :
    Calls Tryd.prog 42 #[.agg #[.slice pa na ca], .agg #[.slice pb nb cb]] w fun e w' => e = .returned (.tuple #[.agg #[.slice none 0 0], .int .i64 300]) ∧ Below w.heap.size w w' := by
  have HA := hide ha
  have HB := hide hb
  clear ha hb
  go_enter Tryd.func42, Tryd.ntmps42
  go_wp2_with fail
  have k0 := hide (three_old w (.cells #[.slice pa na ca] 52) (.cells #[.slice pb nb cb] 52) (.cells #[.slice none 0 0] 52))
  have k1 := hide (three_mid w (.cells #[.slice pa na ca] 52) (.cells #[.slice pb nb cb] 52) (.cells #[.slice none 0 0] 52))
  have k2 := hide (three_new w (.cells #[.slice pa na ca] 52) (.cells #[.slice pb nb cb] 52) (.cells #[.slice none 0 0] 52))
  have k3 : Hid (Below w.heap.size w (((w.alloc (.cells #[.slice pa na ca] 52)).alloc (.cells #[.slice pb nb cb] 52)).alloc (.cells #[.slice none 0 0] 52))) := hide (by go_grown)
  have k4 : (((w.alloc (.cells #[.slice pa na ca] 52)).alloc (.cells #[.slice pb nb cb] 52)).alloc (.cells #[.slice none 0 0] 52)).heap.size = w.heap.size + 3 := by simp
  generalize (((w.alloc (.cells #[.slice pa na ca] 52)).alloc (.cells #[.slice pb nb cb] 52)).alloc (.cells #[.slice none 0 0] 52)) = W at k0 k1 k2 k3 k4 ⊢
  have c0 := cell_of_one (unhide k0)
  have c1 := cell_of_one (unhide k1)
  have g0 := grown_cell c0
  have g1 := grown_cell c1
  refine wp_region_grows (by kernel_rfl) (by kernel_rfl) ?_
  repeat (first | go_big_quiet_step ((first
    | (go_at_call 48; exact Calls.grows (refMay_yes _ A _ (((unhide HA).below (unhide k3)).below (GrownW.prop _)) hmA))
    | (go_at_call 48; exact Calls.grows (refMay_no _ B _ (((unhide HB).below (unhide k3)).below (GrownW.prop _)) hmB)))) | quiet_step ((first
    | (go_at_call 48; exact Calls.grows (refMay_yes _ A _ (((unhide HA).below (unhide k3)).below (GrownW.prop _)) hmA))
    | (go_at_call 48; exact Calls.grows (refMay_no _ B _ (((unhide HB).below (unhide k3)).below (GrownW.prop _)) hmB)))))
  refine wpQuiet_nil ?_
  intro gw hw'
  have gb := grown_below hw'
  clear hw'
  clear g0 g1 c0 c1
  have r2 := (gb.block _ (by omega)).trans (unhide k2)
  have c2 := cell_of_one r2
  have f2 := free_of_one r2
  have HB1 := hide (bt (unhide k3) gb)
  clear gb
  go_wp2
  have cr := cell_of_one (one_setCell (u := .slice none 0 0) r2)
  exact bodyPost_ret (v := .tuple #[.agg #[.slice none 0 0], .int .i64 300]) (by simp [results, Tryd.results42, go_sem, cr]) rfl ⟨rfl, (unhide HB1).setCell (by show _ ≤ w.heap.size + 1 + 1; omega) _⟩
set_option maxRecDepth 100000 in
set_option maxHeartbeats 4000000 in
theorem refMulMatrix_noLen (pa pb : Option Addr) (na ca nb cb : Nat) (A B : List (List Int)) (w : World) (ha : MatV w (.agg #[.slice pa na ca]) A) (hb : MatV w (.agg #[.slice pb nb cb]) B) (hmA : MMay A) (hmB : MMay B) (hne : (A.getD 0 []).length ≠ B.length) :
    Calls Tryd.prog 42 #[.agg #[.slice pa na ca], .agg #[.slice pb nb cb]] w fun e w' => e = .returned (.tuple #[.agg #[.slice none 0 0], .int .i64 300]) ∧ Below w.heap.size w w' := by
  obtain ⟨ba, oa, rfl, na1, x0, m0, q0, hrow0, em0, hna, hm0, hnb, hlA, hlB⟩ : ∃ ba oa, pa = some ⟨ba, oa, none⟩ ∧ 1 ≤ na ∧ ∃ x0 m0 q0, w.cell? ⟨ba, oa, none⟩ = some (.slice x0 m0 q0) ∧ (A.getD 0 []).length = m0 ∧ na ≤ 12 ∧ m0 ≤ 12 ∧ nb ≤ 12 ∧ A.length = na ∧ B.length = nb := mul_open ha hb hmA hmB
  have HA := hide ha
  have HB := hide hb
  clear ha hb
  go_enter Tryd.func42, Tryd.ntmps42
  go_wp2_with fail
  have k0 := hide (three_old w (.cells #[.slice (some ⟨ba, oa, none⟩) na ca] 52) (.cells #[.slice pb nb cb] 52) (.cells #[.slice none 0 0] 52))
  have k1 := hide (three_mid w (.cells #[.slice (some ⟨ba, oa, none⟩) na ca] 52) (.cells #[.slice pb nb cb] 52) (.cells #[.slice none 0 0] 52))
  have k2 := hide (three_new w (.cells #[.slice (some ⟨ba, oa, none⟩) na ca] 52) (.cells #[.slice pb nb cb] 52) (.cells #[.slice none 0 0] 52))
  have k3 : Hid (Below w.heap.size w (((w.alloc (.cells #[.slice (some ⟨ba, oa, none⟩) na ca] 52)).alloc (.cells #[.slice pb nb cb] 52)).alloc (.cells #[.slice none 0 0] 52))) := hide (by go_grown)
  have k4 : (((w.alloc (.cells #[.slice (some ⟨ba, oa, none⟩) na ca] 52)).alloc (.cells #[.slice pb nb cb] 52)).alloc (.cells #[.slice none 0 0] 52)).heap.size = w.heap.size + 3 := by simp
  generalize (((w.alloc (.cells #[.slice (some ⟨ba, oa, none⟩) na ca] 52)).alloc (.cells #[.slice pb nb cb] 52)).alloc (.cells #[.slice none 0 0] 52)) = W at k0 k1 k2 k3 k4 ⊢
  have c0 := cell_of_one (unhide k0)
  have c1 := cell_of_one (unhide k1)
  have c3 := ((unhide k3).cell (cell_lt hrow0)).trans hrow0
  have p1 : (0 : Int) < na := by omega
  have t1 : ((m0 : Int) != (nb : Int)) = true := by simp; omega
  have g3 := grown_cell c3
  have g0 := grown_cell c0
  have g1 := grown_cell c1
  refine wp_region_grows (by kernel_rfl) (by kernel_rfl) ?_
  repeat (first | go_big_quiet_step ((first
    | (go_at_call 48; exact Calls.grows (refMay_yes _ A _ (((unhide HA).below (unhide k3)).below (GrownW.prop _)) hmA))
    | (go_at_call 48; exact Calls.grows (refMay_yes _ B _ (((unhide HB).below (unhide k3)).below (GrownW.prop _)) hmB)))) | quiet_step ((first
    | (go_at_call 48; exact Calls.grows (refMay_yes _ A _ (((unhide HA).below (unhide k3)).below (GrownW.prop _)) hmA))
    | (go_at_call 48; exact Calls.grows (refMay_yes _ B _ (((unhide HB).below (unhide k3)).below (GrownW.prop _)) hmB)))))
  refine wpQuiet_nil ?_
  intro gw hw'
  have gb := grown_below hw'
  clear hw'
  clear g0 g1 g3 c0 c1 c3
  have r2 := (gb.block _ (by omega)).trans (unhide k2)
  have c2 := cell_of_one r2
  have f2 := free_of_one r2
  have HB1 := hide (bt (unhide k3) gb)
  clear gb
  go_wp2
  have cr := cell_of_one (one_setCell (u := .slice none 0 0) r2)
  exact bodyPost_ret (v := .tuple #[.agg #[.slice none 0 0], .int .i64 300]) (by simp [results, Tryd.results42, go_sem, cr]) rfl ⟨rfl, (unhide HB1).setCell (by show _ ≤ w.heap.size + 1 + 1; omega) _⟩
end Go.Proofs.YtcgagkaalbljmaaDoor
/- Matrices over the field: three of them, the identity, picked rows. -/
namespace Go.Proofs.YtcgagkaalbljmaaDoor
open Go.RowKit
set_option linter.unusedVariables false
set_option linter.unusedSimpArgs false
/-- the first n of these numbers, added up -/
def xsum (f : Nat → Nat) : Nat → Nat
  | 0 => 0
  | n + 1 => xsum f n ^^^ f n
theorem xsum_congr {f g : Nat → Nat} : ∀ {n : Nat}, (∀ k, k < n → f k = g k) → xsum f n = xsum g n
  | 0, _ => rfl
  | n + 1, h => by unfold xsum; rw [xsum_congr (fun k hk => h k (by omega)), h n (by omega)]
theorem xsum_zero : ∀ n : Nat, xsum (fun _ => 0) n = 0
  | 0 => rfl
  | n + 1 => by unfold xsum; rw [xsum_zero n]; rfl
theorem xor4 (a b c d : Nat) : (a ^^^ b) ^^^ (c ^^^ d) = (a ^^^ c) ^^^ (b ^^^ d) := by
  rw [Nat.xor_assoc, ← Nat.xor_assoc b c d, Nat.xor_comm b c, Nat.xor_assoc c b d, ← Nat.xor_assoc]
theorem xsum_xor (f g : Nat → Nat) : ∀ n : Nat, xsum (fun k => f k ^^^ g k) n = xsum f n ^^^ xsum g n
  | 0 => by simp [xsum]
  | n + 1 => by
    unfold xsum
    rw [xsum_xor f g n, xor4]
theorem xsum_swap (f : Nat → Nat → Nat) (m : Nat) : ∀ n : Nat, xsum (fun k => xsum (f k) m) n = xsum (fun l => xsum (fun k => f k l) n) m
  | 0 => (xsum_zero m).symm
  | n + 1 => by
    show xsum (fun k => xsum (f k) m) n ^^^ xsum (f n) m = xsum (fun l => xsum (fun k => f k l) n ^^^ f n l) m
    rw [xsum_swap f m n, ← xsum_xor]
theorem mul_xsum (c : Nat) (f : Nat → Nat) : ∀ n : Nat, Gf.mul c (xsum f n) = xsum (fun k => Gf.mul c (f k)) n
  | 0 => Gf.mul_zero c
  | n + 1 => by
    show Gf.mul c (xsum f n ^^^ f n) = xsum (fun k => Gf.mul c (f k)) n ^^^ Gf.mul c (f n)
    rw [Gf.mul_xor_right, mul_xsum c f n]
theorem xsum_mul (c : Nat) (f : Nat → Nat) (n : Nat) : Gf.mul (xsum f n) c = xsum (fun k => Gf.mul (f k) c) n := by
  rw [Gf.mul_comm, mul_xsum]
  exact xsum_congr fun k _ => Gf.mul_comm _ _
/-- all but one of them are 0 -/
theorem xsum_one {f : Nat → Nat} {j : Nat} : ∀ {n : Nat}, j < n → (∀ k, k < n → k ≠ j → f k = 0) → xsum f n = f j
  | 0, hj, _ => absurd hj (Nat.not_lt_zero _)
  | n + 1, hj, h => by
    unfold xsum
    by_cases e : j = n
    · subst e
      rw [xsum_congr (g := fun _ => 0) (fun k hk => h k (by omega) (by omega)), xsum_zero, Nat.zero_xor]
    · rw [xsum_one (j := j) (by omega) (fun k hk hkj => h k (by omega) hkj), h n (by omega) (fun q => e q.symm), Nat.xor_zero]
theorem dot_xsum (A B : List (List Int)) (r c : Nat) : ∀ n : Nat, dot A B r c n = xsum (fun k => Gf.mul (entry A r k) (entry B k c)) n
  | 0 => rfl
  | n + 1 => by unfold dot xsum; rw [dot_xsum A B r c n]
theorem entry_matF {R C : Nat} {f : Nat → Nat → Nat} {r c : Nat} (hr : r < R) (hc : c < C) : entry (matF R C f) r c = f r c := by
  unfold entry; rw [matF_at _ _ _ _ _ hr hc]; simp
theorem matF_head {R C : Nat} {f : Nat → Nat → Nat} (hR : 0 < R) : ((matF R C f).getD 0 []).length = C := matF_rowlen _ _ _ _ hR
theorem entry_mulM {A B : List (List Int)} {r c : Nat} (hr : r < A.length) (hc : c < (B.getD 0 []).length) : entry (mulM A B) r c = dot A B r c B.length := entry_matF hr hc
theorem mulM_len (A B : List (List Int)) : (mulM A B).length = A.length := matF_len _ _ _
theorem mulM_head {A B : List (List Int)} (h : 0 < A.length) : ((mulM A B).getD 0 []).length = (B.getD 0 []).length := matF_head h
/-- of three matrices it is one which two are multiplied first -/
theorem mulM_assoc {A B C : List (List Int)} (hA : 0 < A.length) (hB : 0 < B.length) (h1 : (A.getD 0 []).length = B.length) (h2 : (B.getD 0 []).length = C.length) : mulM (mulM A B) C = mulM A (mulM B C) := by
  unfold mulM
  rw [matF_len, matF_len, matF_head hB]
  apply matF_congr
  intro r c hr hc
  rw [dot_xsum, dot_xsum]
  have e1 : ∀ k, k < C.length → Gf.mul (entry (matF A.length (B.getD 0 []).length fun r c => dot A B r c B.length) r k) (entry C k c) = xsum (fun l => Gf.mul (entry A r l) (Gf.mul (entry B l k) (entry C k c))) B.length := by
    intro k hk
    rw [entry_matF hr (by omega), dot_xsum, xsum_mul]
    exact xsum_congr fun l _ => Gf.mul_assoc _ _ _
  have e2 : ∀ l, l < B.length → Gf.mul (entry A r l) (entry (matF B.length (C.getD 0 []).length fun r c => dot B C r c C.length) l c) = xsum (fun k => Gf.mul (entry A r l) (Gf.mul (entry B l k) (entry C k c))) C.length := by
    intro l hl
    rw [entry_matF hl hc, dot_xsum, mul_xsum]
  rw [xsum_congr e1, xsum_congr e2, xsum_swap]
theorem get_getD {α : Type} {l : List α} {i : Nat} {d : α} (h : i < l.length) : l[i] = l.getD i d := by simp [List.getD, List.getElem?_eq_getElem h]
/-- a matrix that may be one is the matrix of its numbers -/
theorem mmay_matF {M : List (List Int)} (hm : MMay M) : M = matF M.length (M.getD 0 []).length (entry M) := by
  apply List.ext_getElem
  · rw [matF_len]
  · intro i h1 h2
    have hrow := hm.2.2.2.2 i h1
    have e1 : M[i] = M.getD i [] := get_getD h1
    have e2 : (matF M.length (M.getD 0 []).length (entry M))[i] = (matF M.length (M.getD 0 []).length (entry M)).getD i [] := get_getD h2
    rw [e1, e2, matF_row _ _ _ _ h1]
    apply List.ext_getElem
    · rw [hrow.1, List.length_map, List.length_range]
    · intro j h3 h4
      have hj : j < (M.getD 0 []).length := by rw [← hrow.1]; exact h3
      have e3 : (M.getD i [])[j] = (M.getD i []).getD j 0 := get_getD h3
      rw [e3, (mmay_at hm h1 hj).1]
      simp
theorem matF_may {R C : Nat} {f : Nat → Nat → Nat} (h1 : 1 ≤ R) (h2 : R ≤ 12) (h3 : 1 ≤ C) (h4 : C ≤ 12) (h : ∀ r c, r < R → c < C → f r c < 256) : MMay (matF R C f) := by
  refine ⟨by rw [matF_len]; exact h1, by rw [matF_len]; exact h2, by rw [matF_head h1]; exact h3, by rw [matF_head h1]; exact h4, fun i hi => ?_⟩
  rw [matF_len] at hi
  rw [matF_head h1]
  refine ⟨matF_rowlen _ _ _ _ hi, fun j hj => ?_⟩
  rw [matF_at _ _ _ _ _ hi hj]
  have := h i j hi hj
  unfold byteI
  omega
theorem mulM_may {A B : List (List Int)} (hA : MMay A) (hB : MMay B) : MMay (mulM A B) :=
  matF_may hA.1 hA.2.1 hB.2.2.1 hB.2.2.2.1 (fun r c _ _ => dot_lt _ _ _ _ _)
theorem idM_matF (k : Nat) : idM k = matF k k (fun r c => if r = c then 1 else 0) := by
  unfold idM matF
  apply List.map_congr_left
  intro r _
  apply List.map_congr_left
  intro c _
  by_cases h : r = c <;> simp [h]
theorem idM_len (k : Nat) : (idM k).length = k := by simp [idM]
theorem idM_may {k : Nat} (h1 : 1 ≤ k) (h2 : k ≤ 12) : MMay (idM k) := by
  rw [idM_matF]
  exact matF_may h1 h2 h1 h2 (fun r c _ _ => by by_cases h : r = c <;> simp [h])
theorem idM_head {k : Nat} (h : 0 < k) : ((idM k).getD 0 []).length = k := by rw [idM_matF]; exact matF_head h
/-- the identity turns nothing -/
theorem idM_mul {A : List (List Int)} (hA : MMay A) : mulM (idM A.length) A = A := by
  conv => rhs; rw [mmay_matF hA]
  unfold mulM
  rw [idM_len]
  apply matF_congr
  intro r c hr hc
  rw [dot_xsum, xsum_one (j := r) hr]
  · rw [idM_matF, entry_matF hr hr, if_pos rfl]
    exact Gf.one_mul (mmay_at hA hr hc).2
  · intro k hk hkr
    rw [idM_matF, entry_matF hr hk, if_neg (Ne.symm hkr), Gf.zero_mul]
theorem dot_row {A A' B : List (List Int)} {r r' : Nat} (h : A.getD r [] = A'.getD r' []) (c n : Nat) : dot A B r c n = dot A' B r' c n := by
  rw [dot_xsum, dot_xsum]
  exact xsum_congr fun k _ => by unfold entry; rw [h]
/-- rows picked of a product are those rows, multiplied -/
theorem mul_picked {A B : List (List Int)} {rs : List Int} (h : ∀ i, i < rs.length → (rs.getD i 0).toNat < A.length) :
    mulM (rs.map fun r => A.getD r.toNat []) B = rs.map fun r => (mulM A B).getD r.toNat [] := by
  apply List.ext_getElem
  · rw [mulM_len, List.length_map, List.length_map]
  · intro i h1 h2
    rw [mulM_len, List.length_map] at h1
    have hr := h i h1
    have e0 : rs[i] = rs.getD i 0 := get_getD h1
    rw [get_getD (d := []), List.getElem_map, e0]
    unfold mulM
    rw [matF_row _ _ _ _ (by rw [List.length_map]; exact h1), matF_row _ _ _ _ hr]
    apply List.map_congr_left
    intro c _
    have e1 : (rs.map fun r => A.getD r.toNat []).getD i [] = A.getD (rs.getD i 0).toNat [] := by
      rw [← get_getD (d := []) (by rw [List.length_map]; exact h1), List.getElem_map, e0]
    rw [dot_row e1]
end Go.Proofs.YtcgagkaalbljmaaDoor
/- The document's own product of matrices (ossuaryref1.MulMatrix), where there is one. -/
namespace Go.Proofs.YtcgagkaalbljmaaDoor
open Go.RowKit
set_option linter.unusedVariables false
set_option linter.unusedSimpArgs false
/-- a matrix that may be one, in memory: its cells -/
theorem mat_at {p : Option Addr} {n c : Nat} {M : List (List Int)} {w : World} (h : MatV w (.agg #[.slice p n c]) M) (hm : MMay M) :
    M.length = n ∧ 1 ≤ n ∧ n ≤ 12 ∧ ∃ k b o, (M.getD 0 []).length = k ∧ 1 ≤ k ∧ k ≤ 12 ∧ p = some ⟨b, o, none⟩ ∧ ∀ i, i < n → ∃ g og cap, w.cell? ⟨b, o + i, none⟩ = some (.slice (some ⟨g, og, none⟩) k cap) ∧ ∀ j, j < k → w.cell? ⟨g, og + j, none⟩ = some (.int .i64 ((entry M i j : Nat) : Int)) ∧ entry M i j < 256 := by
  obtain ⟨a, n', c', e, R⟩ := h
  simp only [Value.agg.injEq, Array.mk.injEq, List.cons.injEq, Value.slice.injEq, and_true] at e
  obtain ⟨rfl, rfl, rfl⟩ := e
  have hl : M.length = n := by obtain ⟨_, h, _⟩ := R; exact h
  have h1 := hm.1
  have h2 := hm.2.1
  refine ⟨hl, by omega, by omega, ?_⟩
  rcases R.two with h0 | ⟨b, off, rfl, hc⟩
  · omega
  · refine ⟨(M.getD 0 []).length, b, off, rfl, hm.2.2.1, hm.2.2.2.1, rfl, fun i hi => ?_⟩
    obtain ⟨u, hu, x, m, q, rfl, hn, hx⟩ := hc i hi
    have hk : (M.getD i []).length = (M.getD 0 []).length := (hm.2.2.2.2 i (by omega)).1
    have hxl := hx.1
    rcases hx.2.two with h0 | ⟨g, og, rfl, hcell⟩
    · have := hm.2.2.1; omega
    · refine ⟨g, og, q, by rw [hu, ← hxl, hk], fun j hj => ?_⟩
      obtain ⟨e1, e2⟩ := mmay_at hm (r := i) (c := j) (by omega) hj
      exact ⟨by rw [hcell j (by omega), e1], e2⟩
theorem part_start (A B : List (List Int)) (R C K : Nat) : matF R C (part A B K 0 0 0) = zeroM R C := by
  rw [← matF_zero]
  apply matF_congr
  intro r c hr hc
  unfold part
  by_cases h : r = 0
  · subst h
    by_cases h2 : c = 0
    · subst h2; simp [dot]
    · simp [h2]
  · simp [h]
theorem part_col (A B : List (List Int)) (R C K i j : Nat) : matF R C (part A B K i j K) = matF R C (part A B K i (j + 1) 0) := by
  apply matF_congr
  intro r c hr hc
  unfold part
  by_cases h : r < i
  · simp [h]
  · by_cases h2 : r = i
    · subst h2
      by_cases h3 : c < j
      · simp [h3, show c < j + 1 by omega]
      · by_cases h4 : c = j
        · subst h4; simp
        · by_cases h5 : c = j + 1
          · subst h5; simp [dot, h3, h4]
          · simp [h3, h4, h5, show ¬ c < j + 1 by omega]
    · simp [h, h2]
theorem part_row (A B : List (List Int)) (R C K i : Nat) : matF R C (part A B K i C 0) = matF R C (part A B K (i + 1) 0 0) := by
  apply matF_congr
  intro r c hr hc
  unfold part
  by_cases h : r < i
  · simp [h, show r < i + 1 by omega]
  · by_cases h2 : r = i
    · subst h2; simp [hc]
    · by_cases h3 : r = i + 1
      · subst h3
        by_cases h4 : c = 0
        · subst h4; simp [dot, h]
        · simp [h4, h]
      · simp [h, h2, h3, show ¬ r < i + 1 by omega]
theorem part_end (A B : List (List Int)) (R C K : Nat) : matF R C (part A B K R 0 0) = matF R C (fun r c => dot A B r c K) := by
  apply matF_congr
  intro r c hr hc
  simp [part, hr]
theorem part_step (A B : List (List Int)) (R C K i j k : Nat) (hi : i < R) (hj : j < C) :
    (matF R C (part A B K i j k)).set i (((matF R C (part A B K i j k)).getD i []).set j ((dot A B i j (k + 1) : Nat) : Int)) = matF R C (part A B K i j (k + 1)) := by
  rw [matF_set _ _ _ _ _ _ hi hj]
  apply matF_congr
  intro r c hr hc
  unfold part
  by_cases h : r = i ∧ c = j
  · obtain ⟨rfl, rfl⟩ := h; simp
  · rw [if_neg h]
    by_cases h1 : r < i
    · simp [h1]
    · by_cases h2 : r = i
      · subst h2
        have h3 : c ≠ j := fun e => h ⟨rfl, e⟩
        simp [h3]
      · simp [h1, h2]
theorem part_here (A B : List (List Int)) (K i j k : Nat) : part A B K i j k i j = dot A B i j k := by simp [part]
theorem own_row_at {w : World} {B : Nat} {T E : TypeId} {gu na cu kb : Nat} {us : List Value} {f : Nat → Nat → Nat} (h : RowsO w B T E (.slice (some ⟨gu, 0, none⟩) na cu) us (matF na kb f)) {i : Nat} (hi : i < na) (hk : 1 ≤ kb) :
    ∃ g cap, us[i]? = some (.slice (some ⟨g, 0, none⟩) kb cap) ∧ w.cell? ⟨gu, i, none⟩ = some (.slice (some ⟨g, 0, none⟩) kb cap) := by
  obtain ⟨g, cap, hg, _, _, _⟩ := h.at (i := i) (by rw [matF_len]; exact hi) (by rw [matF_rowlen _ _ _ _ hi]; omega)
  rw [matF_rowlen _ _ _ _ hi] at hg
  obtain ⟨gu', cu', eu, _, hcu⟩ := h.form (by rw [matF_len]; omega)
  simp only [Value.slice.injEq, Option.some.injEq, Addr.mk.injEq, and_true, true_and] at eu
  obtain ⟨rfl, _, rfl⟩ := eu
  exact ⟨g, cap, hg, hcu i _ hg⟩
theorem own_cell_at {w : World} {B : Nat} {T E : TypeId} {gu na cu kb : Nat} {us : List Value} {f : Nat → Nat → Nat} (h : RowsO w B T E (.slice (some ⟨gu, 0, none⟩) na cu) us (matF na kb f)) {i j g cap : Nat} (hi : i < na) (hj : j < kb) (hg : us[i]? = some (.slice (some ⟨g, 0, none⟩) kb cap)) :
    w.cell? ⟨gu, i, none⟩ = some (.slice (some ⟨g, 0, none⟩) kb cap) ∧ w.cell? ⟨g, j, none⟩ = some (.int .i64 ((f i j : Nat) : Int)) ∧ w.frozen? ⟨g, j, none⟩ = false ∧ B ≤ g := by
  obtain ⟨g', cap', hg', hB, hcell, hfr⟩ := h.at (i := i) (by rw [matF_len]; exact hi) (by rw [matF_rowlen _ _ _ _ hi]; omega)
  rw [matF_rowlen _ _ _ _ hi] at hg' hcell
  rw [hg] at hg'
  simp only [Option.some.injEq, Value.slice.injEq, Addr.mk.injEq, and_true, true_and] at hg'
  obtain ⟨rfl, rfl⟩ := hg'
  obtain ⟨gu', cu', eu, _, hcu⟩ := h.form (by rw [matF_len]; omega)
  simp only [Value.slice.injEq, Option.some.injEq, Addr.mk.injEq, and_true, true_and] at eu
  obtain ⟨rfl, _, rfl⟩ := eu
  exact ⟨hcu i _ hg, by rw [hcell j hj, matF_at _ _ _ _ _ hi hj], hfr j, hB⟩
attribute [local go_sem ↓] Go.wp_at_zero Go.wp_at_succ
set_option maxRecDepth 100000 in
set_option maxHeartbeats 4000000 in
theorem refMulMatrix_yes (pa pb : Option Addr) (na ca nb cb : Nat) (A B : List (List Int)) (w : World) (ha : MatV w (.agg #[.slice pa na ca]) A) (hb : MatV w (.agg #[.slice pb nb cb]) B) (hmA : MMay A) (hmB : MMay B) (heq : (A.getD 0 []).length = B.length) :
    Calls Tryd.prog 42 #[.agg #[.slice pa na ca], .agg #[.slice pb nb cb]] w fun e w' => (∃ u, e = .returned (.tuple #[.agg #[u], .int .i64 0]) ∧ OwnM w' w.heap.size 36 3 u (mulM A B)) ∧ Below w.heap.size w w' := by
  obtain ⟨hlA, na1, na2, ka, ba, oa, eka, ka1, ka2, rfl, hcA⟩ := mat_at ha hmA
  obtain ⟨hlB, nb1, nb2, kb, bb, ob, ekb, kb1, kb2, rfl, hcB⟩ := mat_at hb hmB
  obtain rfl : ka = nb := by omega
  have HA := hide ha
  have HB := hide hb
  have HCA := hide hcA
  have HCB := hide hcB
  obtain ⟨ga, oga, qa, hrowA, _⟩ := hcA 0 na1
  obtain ⟨gb0, ogb, qb, hrowB, _⟩ := hcB 0 nb1
  simp only [Nat.add_zero] at hrowA hrowB
  have EKB := hide ekb
  have ELA := hide hlA
  have ELB := hide hlB
  clear ha hb hcA hcB eka ekb hlA hlB heq
  go_enter Tryd.func42, Tryd.ntmps42
  go_wp2_with fail
  have k0 := hide (three_old w (.cells #[.slice (some ⟨ba, oa, none⟩) na ca] 52) (.cells #[.slice (some ⟨bb, ob, none⟩) ka cb] 52) (.cells #[.slice none 0 0] 52))
  have k1 := hide (three_mid w (.cells #[.slice (some ⟨ba, oa, none⟩) na ca] 52) (.cells #[.slice (some ⟨bb, ob, none⟩) ka cb] 52) (.cells #[.slice none 0 0] 52))
  have k2 := hide (three_new w (.cells #[.slice (some ⟨ba, oa, none⟩) na ca] 52) (.cells #[.slice (some ⟨bb, ob, none⟩) ka cb] 52) (.cells #[.slice none 0 0] 52))
  have k3 : Hid (Below w.heap.size w (((w.alloc (.cells #[.slice (some ⟨ba, oa, none⟩) na ca] 52)).alloc (.cells #[.slice (some ⟨bb, ob, none⟩) ka cb] 52)).alloc (.cells #[.slice none 0 0] 52))) := hide (by go_grown)
  have k4 : (((w.alloc (.cells #[.slice (some ⟨ba, oa, none⟩) na ca] 52)).alloc (.cells #[.slice (some ⟨bb, ob, none⟩) ka cb] 52)).alloc (.cells #[.slice none 0 0] 52)).heap.size = w.heap.size + 3 := by simp
  generalize (((w.alloc (.cells #[.slice (some ⟨ba, oa, none⟩) na ca] 52)).alloc (.cells #[.slice (some ⟨bb, ob, none⟩) ka cb] 52)).alloc (.cells #[.slice none 0 0] 52)) = W at k0 k1 k2 k3 k4 ⊢
  have c0 := cell_of_one (unhide k0)
  have c1 := cell_of_one (unhide k1)
  have c3 := ((unhide k3).cell (cell_lt hrowA)).trans hrowA
  have c4 := ((unhide k3).cell (cell_lt hrowB)).trans hrowB
  have p1 : (0 : Int) < na := by omega
  have p2 : (0 : Int) < ka := by omega
  have t1 : ((ka : Int) != (ka : Int)) = false := by simp
  have C0 := hide c0
  have C1 := hide c1
  have C3 := hide c3
  have C4 := hide c4
  have g3 := grown_cell c3
  have g0 := grown_cell c0
  have g1 := grown_cell c1
  clear hrowA hrowB
  refine wp_region_grows (by kernel_rfl) (by kernel_rfl) ?_
  repeat (first | go_big_quiet_step ((first
    | (go_at_call 48; exact Calls.grows (refMay_yes _ A _ (((unhide HA).below (unhide k3)).below (GrownW.prop _)) hmA))
    | (go_at_call 48; exact Calls.grows (refMay_yes _ B _ (((unhide HB).below (unhide k3)).below (GrownW.prop _)) hmB)))) | quiet_step ((first
    | (go_at_call 48; exact Calls.grows (refMay_yes _ A _ (((unhide HA).below (unhide k3)).below (GrownW.prop _)) hmA))
    | (go_at_call 48; exact Calls.grows (refMay_yes _ B _ (((unhide HB).below (unhide k3)).below (GrownW.prop _)) hmB)))))
  refine wpQuiet_nil ?_
  intro gw hw'
  have gb := grown_below hw'
  clear hw'
  clear g0 g1 g3 c0 c1 c3 c4
  have c0 := (gb.cell (cell_lt (unhide C0))).trans (unhide C0)
  have c1 := (gb.cell (cell_lt (unhide C1))).trans (unhide C1)
  have c4 := (gb.cell (cell_lt (unhide C4))).trans (unhide C4)
  have GB := hide gb
  clear gb
  have SK : Hid (∀ w', Below gw.heap.size gw w' → (Below gw.heap.size gw w' ∧ w'.cell? ⟨w.heap.size, 0, none⟩ = some (.slice (some ⟨ba, oa, none⟩) na ca) ∧ w'.cell? ⟨w.heap.size + 1, 0, none⟩ = some (.slice (some ⟨bb, ob, none⟩) ka cb) ∧ w'.cell? ⟨bb, ob, none⟩ = some (.slice (some ⟨gb0, ogb, none⟩) kb qb))) := hide (fun w' q => ⟨q, (q.cell (cell_lt c0)).trans c0, (q.cell (cell_lt c1)).trans c1, (q.cell (cell_lt c4)).trans c4⟩)
  have hz : (zeroM na kb).length = na := by simp [zeroM]
  have HZ := hide hz
  clear hz
  go_wp2
  refine' (fun (H : Later _) => ?main) (Later.mk ?prf)
  case main =>
    go_region_held (fun w' => Below gw.heap.size gw w' ∧ w'.cell? ⟨w.heap.size, 0, none⟩ = some (.slice (some ⟨ba, oa, none⟩) na ca) ∧ w'.cell? ⟨w.heap.size + 1, 0, none⟩ = some (.slice (some ⟨bb, ob, none⟩) ka cb) ∧ w'.cell? ⟨bb, ob, none⟩ = some (.slice (some ⟨gb0, ogb, none⟩) kb qb))
      ((refine unhide SK _ ?_; first
         | exact (Below.refl _ _).drew
         | exact And.left (by assumption : Below gw.heap.size gw _ ∧ _)
         | exact bt (And.left (by assumption : Below gw.heap.size gw _ ∧ _)) hbc
         | exact bt (And.left (by assumption : Below gw.heap.size gw _ ∧ _)) (below_alloc _ _)
         | exact bt (bt (Below.refl _ _).drew hbc) (below_alloc _ _)
         | exact (And.left (by assumption : Below gw.heap.size gw _ ∧ _)).setCell (by have := hbc.size; simp at this ⊢; try omega) _))
      ((go_at_call 40; refine (blank_any na kb _ na2 kb2).mono ?_; rintro e w2 ⟨u, rfl, ⟨us, hR⟩, hbc⟩; obtain ⟨gu, cu, eu, -, -⟩ := hR.form (by rw [unhide HZ]; omega); rw [unhide HZ] at eu; subst eu; have HR0 := hide hR; clear hR; try (have r9 : w2.heap[gw.heap.size]? = some (.cells #[.slice none 0 0] 52 (0, 0)) := (hbc.block gw.heap.size (by simp)).trans (heap_alloc_new gw _); have c9 := cell_of_one r9; have f9 := free_of_one r9; have R9 := hide r9; clear r9)))
    all_goals
      first
        | (have rx : (w2.alloc (.cells #[.slice (some ⟨gu, 0, none⟩) na cu] 52)).heap[w2.heap.size]? = some (.cells #[.slice (some ⟨gu, 0, none⟩) na cu] 52 (0, 0)) := heap_alloc_new _ _; have hR3 := ((unhide HR0).below (below_alloc _ (.cells #[.slice (some ⟨gu, 0, none⟩) na cu] 52))).mono (B' := W.heap.size) (by have := (unhide GB).size; simp; omega); have hB3 : Below W.heap.size W (w2.alloc (.cells #[.slice (some ⟨gu, 0, none⟩) na cu] 52)) := bt (unhide GB) (And.left (by assumption : Below gw.heap.size gw _ ∧ _)); generalize (w2.alloc (.cells #[.slice (some ⟨gu, 0, none⟩) na cu] 52)) = W3 at rx hR3 hB3 ⊢; generalize w2.heap.size = gm at rx ⊢; have RX := hide rx; have HR3 := hide hR3; have HB3 := hide hB3)
        | (have rx : (w2.setCell ⟨gw.heap.size, 0, none⟩ (.slice (some ⟨gu, 0, none⟩) na cu)).heap[gw.heap.size]? = some (.cells #[.slice (some ⟨gu, 0, none⟩) na cu] 52 (0, 0)) := one_setCell (unhide R9); have hR3 := ((unhide HR0).setBelow (a := ⟨gw.heap.size, 0, none⟩) (by simp; omega) (.slice (some ⟨gu, 0, none⟩) na cu)).mono (B' := W.heap.size) (by have := (unhide GB).size; simp; omega); have hB3 : Below W.heap.size W (w2.setCell ⟨gw.heap.size, 0, none⟩ (.slice (some ⟨gu, 0, none⟩) na cu)) := bt (unhide GB) (And.left (by assumption : Below gw.heap.size gw _ ∧ _)); generalize (w2.setCell ⟨gw.heap.size, 0, none⟩ (.slice (some ⟨gu, 0, none⟩) na cu)) = W3 at rx hR3 hB3 ⊢; generalize gw.heap.size = gm at rx ⊢; have RX := hide rx; have HR3 := hide hR3; have HB3 := hide hB3)
      clear rx hR3 hB3 hbc HR0
      try clear R9 c9 f9
      rename (Below gw.heap.size gw _ ∧ _) => hh
      clear hh w2
      revert RX HR3 HB3
      revert W3
      revert gm
      revert us cu
      revert gu
      exact H.get
  case prf =>
    intro gu us cu gm W3 RX HR3 HB3
    go_wp2
    go_loopw [7] (fun iv wr => ∃ i : Nat, i ≤ na ∧ iv = .int .i64 i ∧ wr.heap[gm]? = some (.cells #[.slice (some ⟨gu, 0, none⟩) na cu] 52 (0, 0)) ∧ Hid (RowsO wr W.heap.size 36 3 (.slice (some ⟨gu, 0, none⟩) na cu) us (matF na kb (part A B ka i 0 0))) ∧ Hid (Below W.heap.size W wr)) (fun iv _ => na - (intOf iv).toNat)
    case atStart => exact ⟨0, by omega, rfl, unhide RX, by rw [part_start]; exact HR3, HB3⟩
    case round =>
      obtain ⟨i, hi, rfl, hbx, HR, HBr⟩ := hrel
      have cx := cell_of_one hbx
      by_cases hlt : i < na
      · have hlt' : (i : Int) < na := by omega
        go_wp2
        go_loopw [8] (fun jv wr => ∃ j : Nat, j ≤ kb ∧ jv = .int .i64 j ∧ wr.heap[gm]? = some (.cells #[.slice (some ⟨gu, 0, none⟩) na cu] 52 (0, 0)) ∧ Hid (RowsO wr W.heap.size 36 3 (.slice (some ⟨gu, 0, none⟩) na cu) us (matF na kb (part A B ka i j 0))) ∧ Hid (Below W.heap.size W wr)) (fun jv _ => kb - (intOf jv).toNat)
        case atStart => exact ⟨0, by omega, rfl, hbx, HR, HBr⟩
        case round =>
          obtain ⟨j, hj, rfl, hbx, HR, HBr⟩ := hrel
          have cx := cell_of_one hbx
          obtain ⟨g, cap, hg, c5⟩ : ∃ g cap, us[i]? = some (.slice (some ⟨g, 0, none⟩) kb cap) ∧ wr.cell? ⟨gu, i, none⟩ = some (.slice (some ⟨g, 0, none⟩) kb cap) := own_row_at (unhide HR) hlt kb1
          by_cases hltj : j < kb
          · have hltj' : (j : Int) < kb := by omega
            go_wp2
            go_loopw [9] (fun kv wr => ∃ k : Nat, k ≤ ka ∧ kv = .int .i64 k ∧ wr.heap[gm]? = some (.cells #[.slice (some ⟨gu, 0, none⟩) na cu] 52 (0, 0)) ∧ Hid (RowsO wr W.heap.size 36 3 (.slice (some ⟨gu, 0, none⟩) na cu) us (matF na kb (part A B ka i j k))) ∧ Hid (Below W.heap.size W wr)) (fun kv _ => ka - (intOf kv).toNat)
            case atStart => exact ⟨0, by omega, rfl, hbx, HR, HBr⟩
            case round =>
              obtain ⟨k, hk, rfl, hbx, HR, HBr⟩ := hrel
              have cx := cell_of_one hbx
              have cb1 := ((unhide HBr).cell (cell_lt (unhide C1))).trans (unhide C1)
              by_cases hltk : k < ka
              · have hltk' : (k : Int) < ka := by omega
                have hR := unhide HR
                obtain ⟨c6, c7, f7, hBg⟩ := own_cell_at hR hlt hltj hg
                rw [part_here] at c7
                have ca0 := ((unhide HBr).cell (cell_lt (unhide C0))).trans (unhide C0)
                obtain ⟨gA, oA, qA, hA1, hA2⟩ := unhide HCA i hlt
                obtain ⟨hA3, hx⟩ := hA2 k hltk
                obtain ⟨gB, oB, qB, hB1, hB2⟩ := unhide HCB k hltk
                obtain ⟨hB4, hy⟩ := hB2 j hltj
                have hWr := bt (unhide k3) (unhide HBr)
                have a1 := (hWr.cell (cell_lt hA1)).trans hA1
                have a2 := (hWr.cell (cell_lt hA3)).trans hA3
                have b1 := (hWr.cell (cell_lt hB1)).trans hB1
                have b2 := (hWr.cell (cell_lt hB4)).trans hB4
                obtain ⟨x, ex⟩ : ∃ x, x = entry A i k := ⟨_, rfl⟩
                obtain ⟨y, ey⟩ : ∃ y, y = entry B k j := ⟨_, rfl⟩
                obtain ⟨o, eo⟩ : ∃ o, o = dot A B i j k := ⟨_, rfl⟩
                rw [← ex] at a2 hx
                rw [← ey] at b2
                rw [← eo] at c7
                have EX := hide ex
                have EY := hide ey
                have EO := hide eo
                have n1 := own_ne (hR.row i _ hg) hbx (by decide)
                have HBX := hide hbx
                clear hR hA1 hA2 hA3 hB1 hB2 hB4 hWr ex ey eo hy
                go_wp2
                refine wp_region_quiet_then (List.cons_ne_nil _ _) ?_ ?_ ?_ ?_
                · kernel_rfl
                · kernel_rfl
                · kernel_rfl
                simp only [List.dropLast_cons_cons, List.dropLast_singleton, List.getLast_cons_cons, List.getLast_singleton]
                repeat (first | go_big_quiet_step ((go_at_call 44; exact Calls.quiet_of_same (refmul_any x y _ hx))) | quiet_step ((go_at_call 44; exact Calls.quiet_of_same (refmul_any x y _ hx))))
                refine wpQuiet_nil ?_
                intro _ hw'
                obtain ⟨nq, hw''⟩ := hw'
                subst hw''
                simp only [List.cons_append, List.nil_append]
                go_wp2
                go_roundw
                case rel =>
                  have hbits : bits .xor .i64 ((o : Nat) : Int) ((Gf.mul x y : Nat) : Int) = ((dot A B i j (k + 1) : Nat) : Int) := by
                    have h1 : o < 256 := by rw [unhide EO]; exact dot_lt _ _ _ _ _
                    have h2 := Gf.mul_lt x y
                    rw [xor_i64 _ _ (by omega) (by omega), unhide EO, unhide EX, unhide EY]
                    rfl
                  have hS := RowsO.store ((unhide HR).below (below_drewN wr _ nq)) (by decide) hg (c := j) ((dot A B i j (k + 1) : Nat) : Int)
                  rw [part_step A B na kb ka i j k hlt hltj] at hS
                  rw [hbits]
                  exact ⟨k + 1, by omega, by go_num, (hS.2 _ (lt_of_block (unhide HBX)) n1).trans (unhide HBX), hide hS.1, hide (((unhide HBr).trans (below_drewN _ _ nq)).setCell hBg _)⟩
                case measure => simp [intOf]; omega
              · have hltk' : ¬ (k : Int) < ka := by omega
                obtain rfl : k = ka := by omega
                go_wp2
                go_roundw
                case rel => exact ⟨j + 1, by omega, by go_num, hbx, by rw [← part_col]; exact HR, HBr⟩
                case measure => simp [intOf]; omega
          · have hltj' : ¬ (j : Int) < kb := by omega
            obtain rfl : j = kb := by omega
            go_wp2
            go_roundw
            case rel => exact ⟨i + 1, by omega, by go_num, hbx, by rw [← part_row]; exact HR, HBr⟩
            case measure => simp [intOf]; omega
      · have hlt' : ¬ (i : Int) < na := by omega
        obtain rfl : i = na := by omega
        have r2 := ((unhide HBr).block _ (by omega)).trans (unhide k2)
        have c2 := cell_of_one r2
        have f2 := free_of_one r2
        go_wp2
        have cr := cell_of_one (one_setCell (u := .slice (some ⟨gu, 0, none⟩) i cu) r2)
        refine bodyPost_ret (v := .tuple #[.agg #[.slice (some ⟨gu, 0, none⟩) i cu], .int .i64 0]) (by simp [results, Tryd.results42, go_sem, cr]) rfl ⟨⟨_, rfl, ⟨us, ?_⟩⟩, ?_⟩
        · have h1 := ((unhide HR).setBelow (a := ⟨w.heap.size + 1 + 1, 0, none⟩) (by show w.heap.size + 1 + 1 < _; omega) (.slice (some ⟨gu, 0, none⟩) i cu)).mono (B' := w.heap.size) (by omega)
          rw [part_end] at h1
          unfold mulM
          rw [unhide ELA, unhide ELB, unhide EKB]
          exact h1
        · exact (bt (unhide k3) (unhide HBr)).setCell (by show _ ≤ w.heap.size + 1 + 1; omega) _
/-- may these be multiplied? -/
def MulMay (A B : List (List Int)) : Prop := MMay A ∧ MMay B ∧ (A.getD 0 []).length = B.length
theorem refMulMatrix_any (a b : Value) (A B : List (List Int)) (w : World) (ha : MatV w a A) (hb : MatV w b B) :
    Calls Tryd.prog 42 #[a, b] w fun e w' => ((MulMay A B ∧ ∃ u, e = .returned (.tuple #[.agg #[u], .int .i64 0]) ∧ OwnM w' w.heap.size 36 3 u (mulM A B)) ∨ (¬ MulMay A B ∧ e = .returned (.tuple #[.agg #[.slice none 0 0], .int .i64 300]))) ∧ Below w.heap.size w w' := by
  have ha' := ha
  have hb' := hb
  obtain ⟨pa, na, ca, rfl, _⟩ := ha
  obtain ⟨pb, nb, cb, rfl, _⟩ := hb
  by_cases h1 : MMay A
  · by_cases h2 : MMay B
    · by_cases h3 : (A.getD 0 []).length = B.length
      · exact (refMulMatrix_yes pa pb na ca nb cb A B w ha' hb' h1 h2 h3).mono fun e w' ⟨he, hB⟩ => ⟨.inl ⟨⟨h1, h2, h3⟩, he⟩, hB⟩
      · exact (refMulMatrix_noLen pa pb na ca nb cb A B w ha' hb' h1 h2 h3).mono fun e w' ⟨he, hB⟩ => ⟨.inr ⟨fun h => h3 h.2.2, he⟩, hB⟩
    · exact (refMulMatrix_noB pa pb na ca nb cb A B w ha' hb' h1 h2).mono fun e w' ⟨he, hB⟩ => ⟨.inr ⟨fun h => h2 h.2.1, he⟩, hB⟩
  · exact (refMulMatrix_noA pa pb na ca nb cb A B w ha' hb' h1).mono fun e w' ⟨he, hB⟩ => ⟨.inr ⟨fun h => h1 h.1, he⟩, hB⟩
end Go.Proofs.YtcgagkaalbljmaaDoor
/- The document's own choice of rows (ossuaryref1.Pick): a contract. -/
namespace Go.Proofs.YtcgagkaalbljmaaDoor
open Go.RowKit
set_option linter.unusedVariables false
set_option linter.unusedSimpArgs false
/-- may these rows be picked? -/
def PickMay (M : List (List Int)) (rs : List Int) : Prop := MMay M ∧ 1 ≤ rs.length ∧ rs.length ≤ 12 ∧ ∀ i, i < rs.length → 0 ≤ rs.getD i 0 ∧ rs.getD i 0 < M.length
def pickM (M : List (List Int)) (rs : List Int) : List (List Int) := rs.map fun r => M.getD r.toNat []
theorem mat_rows {p : Option Addr} {n c : Nat} {M : List (List Int)} {w : World} (h : MatV w (.agg #[.slice p n c]) M) (hm : MMay M) :
    M.length = n ∧ 1 ≤ n ∧ n ≤ 12 ∧ ∃ b o, p = some ⟨b, o, none⟩ ∧ ∀ i, i < n → ∃ u, w.cell? ⟨b, o + i, none⟩ = some u ∧ RowV w u (M.getD i []) := by
  obtain ⟨a, n', c', e, R⟩ := h
  simp only [Value.agg.injEq, Array.mk.injEq, List.cons.injEq, Value.slice.injEq, and_true] at e
  obtain ⟨rfl, rfl, rfl⟩ := e
  have hl : M.length = n := by obtain ⟨_, h, _⟩ := R; exact h
  have h1 := hm.1
  have h2 := hm.2.1
  refine ⟨hl, by omega, by omega, ?_⟩
  rcases R.two with h0 | ⟨b, off, rfl, hc⟩
  · omega
  · exact ⟨b, off, rfl, hc⟩
theorem mrow_le {M : List (List Int)} (hm : MMay M) (i : Nat) : (M.getD i []).length ≤ 12 := by
  by_cases h : i < M.length
  · rw [(hm.2.2.2.2 i h).1]; exact hm.2.2.2.1
  · simp [List.getD, List.getElem?_eq_none (Nat.le_of_not_lt h)]
theorem pick_snoc (M : List (List Int)) (rs : List Int) (k : Nat) (h : k < rs.length) : pickM M (rs.take (k + 1)) = pickM M (rs.take k) ++ [M.getD (rs.getD k 0).toNat []] := by
  unfold pickM
  rw [List.take_succ_eq_append_getElem h, List.map_append]
  simp [List.getD, List.getElem?_eq_getElem h]
attribute [local go_sem ↓] Go.wp_at_zero Go.wp_at_succ
set_option maxRecDepth 100000 in
set_option maxHeartbeats 4000000 in
theorem refPick_noM (pa pr : Option Addr) (na ca n cap : Nat) (M : List (List Int)) (w : World) (ha : MatV w (.agg #[.slice pa na ca]) M) (hm : ¬ MMay M) :
    Calls Tryd.prog 32 #[.agg #[.slice pa na ca], .slice pr n cap] w fun e w' => e = .returned (.tuple #[.agg #[.slice none 0 0], .int .i64 300]) ∧ Below w.heap.size w w' := by
  have HA := hide ha
  clear ha
  go_enter Tryd.func32, Tryd.ntmps32
  go_wp2_with fail
  have k0 := hide (two_old w (.cells #[.slice pa na ca] 52) (.cells #[.slice none 0 0] 52))
  have k2 := hide (two_new w (.cells #[.slice pa na ca] 52) (.cells #[.slice none 0 0] 52))
  have k3 : Hid (Below w.heap.size w ((w.alloc (.cells #[.slice pa na ca] 52)).alloc (.cells #[.slice none 0 0] 52))) := hide (by go_grown)
  have k4 : ((w.alloc (.cells #[.slice pa na ca] 52)).alloc (.cells #[.slice none 0 0] 52)).heap.size = w.heap.size + 2 := by simp
  generalize ((w.alloc (.cells #[.slice pa na ca] 52)).alloc (.cells #[.slice none 0 0] 52)) = W at k0 k2 k3 k4 ⊢
  have c0 := cell_of_one (unhide k0)
  refine (refMay_no _ M _ ((unhide HA).below (unhide k3)) hm).mono ?_
  rintro e gw ⟨rfl, gb⟩
  have r2 := (gb.block _ (by omega)).trans (unhide k2)
  have c2 := cell_of_one r2
  have f2 := free_of_one r2
  have HB1 := hide (bt (unhide k3) gb)
  clear gb c0
  go_wp2
  have cr := cell_of_one (one_setCell (u := .slice none 0 0) r2)
  exact bodyPost_ret (v := .tuple #[.agg #[.slice none 0 0], .int .i64 300]) (by simp [results, Tryd.results32, go_sem, cr]) rfl ⟨rfl, (unhide HB1).setCell (by show _ ≤ w.heap.size + 1; omega) _⟩
set_option maxRecDepth 100000 in
set_option maxHeartbeats 4000000 in
theorem refPick_len (pa pr : Option Addr) (na ca n cap : Nat) (M : List (List Int)) (w : World) (ha : MatV w (.agg #[.slice pa na ca]) M) (hm : MMay M) (hn : n < 1 ∨ 12 < n) :
    Calls Tryd.prog 32 #[.agg #[.slice pa na ca], .slice pr n cap] w fun e w' => e = .returned (.tuple #[.agg #[.slice none 0 0], .int .i64 300]) ∧ Below w.heap.size w w' := by
  have HA := hide ha
  clear ha
  go_enter Tryd.func32, Tryd.ntmps32
  go_wp2_with fail
  have k0 := hide (two_old w (.cells #[.slice pa na ca] 52) (.cells #[.slice none 0 0] 52))
  have k2 := hide (two_new w (.cells #[.slice pa na ca] 52) (.cells #[.slice none 0 0] 52))
  have k3 : Hid (Below w.heap.size w ((w.alloc (.cells #[.slice pa na ca] 52)).alloc (.cells #[.slice none 0 0] 52))) := hide (by go_grown)
  have k4 : ((w.alloc (.cells #[.slice pa na ca] 52)).alloc (.cells #[.slice none 0 0] 52)).heap.size = w.heap.size + 2 := by simp
  generalize ((w.alloc (.cells #[.slice pa na ca] 52)).alloc (.cells #[.slice none 0 0] 52)) = W at k0 k2 k3 k4 ⊢
  have c0 := cell_of_one (unhide k0)
  refine (refMay_yes _ M _ ((unhide HA).below (unhide k3)) hm).mono ?_
  rintro e gw ⟨rfl, gb⟩
  have r2 := (gb.block _ (by omega)).trans (unhide k2)
  have c2 := cell_of_one r2
  have f2 := free_of_one r2
  have HB1 := hide (bt (unhide k3) gb)
  clear gb c0
  rcases hn with hn | hn
  · have h1 : (n : Int) < 1 := by omega
    go_wp2
    have cr := cell_of_one (one_setCell (u := .slice none 0 0) r2)
    exact bodyPost_ret (v := .tuple #[.agg #[.slice none 0 0], .int .i64 300]) (by simp [results, Tryd.results32, go_sem, cr]) rfl ⟨rfl, (unhide HB1).setCell (by show _ ≤ w.heap.size + 1; omega) _⟩
  · have h1 : ¬ (n : Int) < 1 := by omega
    have h2 : (12 : Int) < n := by omega
    go_wp2
    have cr := cell_of_one (one_setCell (u := .slice none 0 0) r2)
    exact bodyPost_ret (v := .tuple #[.agg #[.slice none 0 0], .int .i64 300]) (by simp [results, Tryd.results32, go_sem, cr]) rfl ⟨rfl, (unhide HB1).setCell (by show _ ≤ w.heap.size + 1; omega) _⟩
end Go.Proofs.YtcgagkaalbljmaaDoor
/- The document's own Pick (ossuaryref1): the rows that it picks. -/
namespace Go.Proofs.YtcgagkaalbljmaaDoor
open Go.RowKit
set_option linter.unusedVariables false
set_option linter.unusedSimpArgs false
set_option maxRecDepth 100000 in
set_option maxHeartbeats 4000000 in
theorem refPick_some (pa : Option Addr) (b off na ca n cap : Nat) (M : List (List Int)) (rs : List Int) (w : World) (ha : MatV w (.agg #[.slice pa na ca]) M) (hm : MMay M) (h1 : 1 ≤ n) (h2 : n ≤ 12) (hl : rs.length = n)
    (hc : ∀ i, i < n → w.cell? ⟨b, off + i, none⟩ = some (.int .i64 (rs.getD i 0))) :
    Calls Tryd.prog 32 #[.agg #[.slice pa na ca], .slice (some ⟨b, off, none⟩) n cap] w fun e w' => ((PickMay M rs ∧ ∃ u, e = .returned (.tuple #[.agg #[u], .int .i64 0]) ∧ OwnM w' w.heap.size 36 3 u (pickM M rs)) ∨ (¬ PickMay M rs ∧ e = .returned (.tuple #[.agg #[.slice none 0 0], .int .i64 300]))) ∧ Below w.heap.size w w' := by
  obtain ⟨hlM, na1, na2, ba, oa, rfl, hcM⟩ := mat_rows ha hm
  have HA := hide ha
  have HC := hide hc
  have HCM := hide hcM
  have HL := hide hl
  have HLM := hide hlM
  clear ha hc hcM hl hlM
  have h1' : ¬ (n : Int) < 1 := by omega
  have h2' : ¬ (12 : Int) < n := by omega
  go_enter Tryd.func32, Tryd.ntmps32
  go_wp2_with fail
  have k0 := hide (two_old w (.cells #[.slice (some ⟨ba, oa, none⟩) na ca] 52) (.cells #[.slice none 0 0] 52))
  have k2 := hide (two_new w (.cells #[.slice (some ⟨ba, oa, none⟩) na ca] 52) (.cells #[.slice none 0 0] 52))
  have k3 : Hid (Below w.heap.size w ((w.alloc (.cells #[.slice (some ⟨ba, oa, none⟩) na ca] 52)).alloc (.cells #[.slice none 0 0] 52))) := hide (by go_grown)
  have k4 : ((w.alloc (.cells #[.slice (some ⟨ba, oa, none⟩) na ca] 52)).alloc (.cells #[.slice none 0 0] 52)).heap.size = w.heap.size + 2 := by simp
  generalize ((w.alloc (.cells #[.slice (some ⟨ba, oa, none⟩) na ca] 52)).alloc (.cells #[.slice none 0 0] 52)) = W at k0 k2 k3 k4 ⊢
  refine (refMay_yes _ M _ ((unhide HA).below (unhide k3)) hm).mono ?_
  rintro e g1 ⟨rfl, gb⟩
  have GB := hide gb
  clear gb
  go_wp2
  go_loopw [7] (fun iv wr => ∃ k : Nat, k ≤ n ∧ iv = .int .i64 k ∧ ∃ u, wr.heap[g1.heap.size]? = some (.cells #[u] 52 (0, 0)) ∧ Hid (∀ i, i < k → 0 ≤ rs.getD i 0 ∧ rs.getD i 0 < na) ∧ Hid (OwnM wr (g1.heap.size + 1) 36 3 u (pickM M (rs.take k))) ∧ Hid (Below g1.heap.size g1 wr) ∧ g1.heap.size + 1 ≤ wr.heap.size) (fun iv _ => n - (intOf iv).toNat)
  case atStart => exact ⟨0, by omega, rfl, _, heap_alloc_new _ _, hide (fun i hi => by omega), OwnM.nil _ _ _ _, hide (by go_grown), by simp⟩
  case round =>
    obtain ⟨k, hk, rfl, u, hb1, HG, HM, HB, hsz⟩ := hrel
    have c1 := cell_of_one hb1
    have f1 := free_of_one hb1
    have hBW : Below W.heap.size W wr := bt (unhide GB) (unhide HB)
    have r2 := (hBW.block _ (by omega)).trans (unhide k2)
    have r0 := (hBW.block _ (by omega)).trans (unhide k0)
    have c0 := cell_of_one r0
    have c2 := cell_of_one r2
    have f2 := free_of_one r2
    have HBW := hide hBW
    clear hBW
    by_cases hlt : k < n
    · have hlt' : (k : Int) < n := by omega
      have c3 := ((bt (unhide k3) (unhide HBW)).cell (cell_lt (unhide HC k hlt))).trans (unhide HC k hlt)
      obtain ⟨x, ex⟩ : ∃ x, x = rs.getD k 0 := ⟨_, rfl⟩
      rw [← ex] at c3
      have EX := hide ex
      clear ex
      have g3 := grown_cell c3
      have g0 := grown_cell c0
      have R2 := hide r2
      clear c2 f2 r2 r0
      by_cases hx0 : x < 0
      · go_wp2
        refine wp_region_grows (by kernel_rfl) (by kernel_rfl) ?_
        repeat (first | go_big_quiet_step ((fail)) | quiet_step ((fail)))
        refine wpQuiet_nil ?_
        intro gw hw'
        have gb := grown_below hw'
        clear hw'
        have r2 := (gb.block _ (lt_of_block (unhide R2))).trans (unhide R2)
        have c2 := cell_of_one r2
        have f2 := free_of_one r2
        have HF := hide (bt (bt (unhide k3) (unhide HBW)) gb)
        clear g0 g3 gb c0 c1 c3 f1
        go_wp2
        have cr := cell_of_one (one_setCell (u := .slice none 0 0) r2)
        refine bodyPost_ret (v := .tuple #[.agg #[.slice none 0 0], .int .i64 300]) (by simp [results, Tryd.results32, go_sem, cr]) rfl ⟨.inr ⟨fun h => ?_, rfl⟩, (unhide HF).setCell (by show _ ≤ w.heap.size + 1; omega) _⟩
        have := (h.2.2.2 k (by rw [unhide HL]; exact hlt)).1
        rw [← unhide EX] at this
        omega
      · by_cases hx1 : (na : Int) ≤ x
        · go_wp2
          refine wp_region_grows (by kernel_rfl) (by kernel_rfl) ?_
          repeat (first | go_big_quiet_step ((fail)) | quiet_step ((fail)))
          refine wpQuiet_nil ?_
          intro gw hw'
          have gb := grown_below hw'
          clear hw'
          have r2 := (gb.block _ (lt_of_block (unhide R2))).trans (unhide R2)
          have c2 := cell_of_one r2
          have f2 := free_of_one r2
          have HF := hide (bt (bt (unhide k3) (unhide HBW)) gb)
          clear g0 g3 gb c0 c1 c3 f1
          go_wp2
          have cr := cell_of_one (one_setCell (u := .slice none 0 0) r2)
          refine bodyPost_ret (v := .tuple #[.agg #[.slice none 0 0], .int .i64 300]) (by simp [results, Tryd.results32, go_sem, cr]) rfl ⟨.inr ⟨fun h => ?_, rfl⟩, (unhide HF).setCell (by show _ ≤ w.heap.size + 1; omega) _⟩
          have := (h.2.2.2 k (by rw [unhide HL]; exact hlt)).2
          rw [← unhide EX, unhide HLM] at this
          omega
        · go_wp2
          refine wp_region_grows (by kernel_rfl) (by kernel_rfl) ?_
          repeat (first | go_big_quiet_step ((fail)) | quiet_step ((fail)))
          refine wpQuiet_nil ?_
          intro gw hw'
          have gb := grown_below hw'
          clear hw'
          obtain ⟨y, hy, rfl⟩ : ∃ y : Nat, y < na ∧ x = y := ⟨x.toNat, by omega, by omega⟩
          have hy' : (y : Int) < na := by omega
          have hy0 : (0 : Int) ≤ y := by omega
          obtain ⟨v, hv, x, nx, cx, rfl, hnx, hx⟩ := unhide HCM y hy
          have hFB := bt (bt (unhide k3) (unhide HBW)) gb
          have c2 := (hFB.cell (cell_lt hv)).trans hv
          have c3 := (gb.cell (cell_lt c3)).trans c3
          have c0 := (gb.cell (cell_lt c0)).trans c0
          have hb1 := (gb.block _ (lt_of_block hb1)).trans hb1
          have c1 := cell_of_one hb1
          have f1 := free_of_one hb1
          have hnx12 : nx ≤ 12 := by rw [← hx.1]; exact mrow_le hm y
          obtain ⟨row, er⟩ : ∃ r, r = M.getD y [] := ⟨_, rfl⟩
          rw [← er] at hx
          have ER := hide er
          have HLR := hide hx.1
          have HX := hide (hx.below hFB)
          have HGB := hide gb
          have hsz' : g1.heap.size + 1 ≤ gw.heap.size := Nat.le_trans hsz gb.size
          obtain ⟨us, hR⟩ := unhide HM
          have hR := hR.below gb
          have hlu : us.length = k := by rw [hR.len]; simp [pickM, unhide HL]; omega
          have HO := hide hR.outer
          have HR := hide hR
          have lba : ba < w.heap.size := cell_lt hv
          have lb : b < w.heap.size := cell_lt (unhide HC k hlt)
          have lg := (unhide GB).size
          clear hR hv hx hnx er hFB gb hx0 hx1 g0 g3
          have g0 := kept_cell (B := g1.heap.size + 1) c0 (by show w.heap.size < _; omega)
          have g1' := kept_cell (B := g1.heap.size + 1) c1 (by show g1.heap.size < _; omega)
          have g2 := kept_cell (B := g1.heap.size + 1) c2 (by show ba < _; omega)
          have g3 := kept_cell (B := g1.heap.size + 1) c3 (by show b < _; omega)
          clear c0 c1 c2 c3
          go_wp2
          refine wp_region_ord_then (S := Below (g1.heap.size + 1) gw) [(true, 0), (true, 1), (true, 3), (true, 4), (true, 5), (true, 6), (true, 7), (true, 8), (true, 9), (true, 10), (false, 2), (false, 11), (false, 12), (false, 13), (true, 14)] (List.cons_ne_nil _ _) (by kernel_rfl) (by kernel_rfl) (by kernel_rfl) (by kernel_rfl) (by kernel_rfl) ((Below.refl _ _).drew) ?_
          simp only [List.dropLast_cons_cons, List.dropLast_singleton, List.getLast_cons_cons, List.getLast_singleton, withOps, List.map_cons, List.map_nil, List.getElem?_cons_succ, List.getElem?_cons_zero]
          repeat (refine walkH_read (by rfl) (by (intro gx; go_simp; try (with_reducible rfl))) ?_; try simp only [Act.put, List.setIfInBounds_toArray, List.set_cons_zero, List.set_cons_succ])
          refine walkH_do rfl (fun K hK => ?_)
          go_simp
          refine hK _ _ (Below.mono (by go_grown) hsz') ?_
          clear hK K
          try simp only [Act.put, List.setIfInBounds_toArray, List.set_cons_zero, List.set_cons_succ]
          have hb2 : Below gw.heap.size gw (gw.alloc (.cells #[] 3)).drew := by go_grown
          have HE0 := hide ((own_empty' gw 3 (g1.heap.size + 1) hsz').below (w' := (gw.alloc (.cells #[] 3)).drew) (by go_grown))
          have HE1 := hide ((own_empty' gw 3 gw.heap.size (Nat.le_refl _)).below (w' := (gw.alloc (.cells #[] 3)).drew) (by go_grown))
          have RA := hide ((unhide HR).below hb2)
          have HXA := hide ((unhide HX).below hb2)
          have AU : Hid (Apt (.slice (some ⟨gw.heap.size, 0, none⟩) 0 0) u) := hide (apt_new (unhide HO) rfl (Nat.le_refl _))
          have AR : Hid (∀ (j : Nat) x, us[j]? = some x → Apt (.slice (some ⟨gw.heap.size, 0, none⟩) 0 0) x) := hide (fun j x hx => apt_new ((unhide HR).row j x hx) rfl (Nat.le_refl _))
          have hsA : gw.heap.size + 1 ≤ (gw.alloc (.cells #[] 3)).drew.heap.size := by simp
          have HbA := hide hb2
          clear hb2
          generalize (gw.alloc (.cells #[] 3)).drew = wA at *
          refine walkH_do rfl (fun K hK => ?_)
          refine step_append_row _ (by rfl) (.tmp 46) (.tmp 54) 36 (by rfl) (g1.heap.size + 1) 3 (.int .i64 0) 8 Tryd.underlying36 Tryd.infoInt rfl (.slice (some ⟨gw.heap.size, 0, none⟩) 0 0) [] (by simp [Act.eval]) (unhide HE0) x nx cx _ (row.map (Value.int .i64)) (by simp [Act.eval]) (unhide HXA).2 (by simpa using (unhide HX).1) (int_at (unhide HX).1) (ints_oneCell _ _) (by simp; omega) (by omega) (by omega) ?_
          intro v1 w1 O1 P1
          have hB1 : Below gw.heap.size gw w1 := P1.below (unhide HE1) (unhide HbA) (Nat.le_refl _) (by omega)
          refine hK _ _ (hB1.mono hsz') ?_
          clear hK K
          have HR1 := hide ((unhide RA).other P1 (unhide AU) (unhide AR))
          have HAn := hide (fun (j : Nat) (y : Value) (hy : us[j]? = some y) => P1.apt ((unhide RA).row j y hy) (unhide AR j y hy))
          simp only [List.nil_append] at O1
          obtain ⟨a1, q1, e1⟩ := O1.form
          rw [List.length_map, unhide HLR] at e1
          subst e1
          have hs1 : g1.heap.size + 1 ≤ w1.heap.size := Nat.le_trans hsz' hB1.size
          have HO1 := hide O1
          have HB1 := hide hB1
          clear O1 P1 hB1
          try simp only [Act.put, List.setIfInBounds_toArray, List.set_cons_zero, List.set_cons_succ]
          refine walkH_do rfl (fun K hK => ?_)
          go_simp
          have hb3 : Below w1.heap.size w1 (w1.alloc (.cells #[.slice a1 nx q1] 36)) := by go_grown
          refine hK _ _ ((bt (unhide HB1) hb3).mono hsz') ?_
          clear hK K
          try simp only [Act.put, List.setIfInBounds_toArray, List.set_cons_zero, List.set_cons_succ]
          refine walkH_do rfl (fun K hK => ?_)
          refine step_push _ (by rfl) (.tmp 45) (.tmp 56) 50 (by rfl) (g1.heap.size + 1) 36 (.slice none 0 0) 24 Tryd.underlying50 Tryd.infoRow rfl u us (by simp [Act.eval]) (((unhide HR1).outer).below hb3) (.slice a1 nx q1) (by rfl) w1.heap.size 0 (by simp [Act.eval]) (by simp [go_sem]) (by omega) (by omega) (by simp; omega) ?_
          intro v2 w2 O2 P2
          have hB2 : Below (g1.heap.size + 1) w1 w2 := P2.below (((unhide HR1).outer).below hb3) (hb3.mono hs1) (Nat.le_refl _) (by simp; omega)
          have hB02 : Below (g1.heap.size + 1) gw w2 := ((unhide HB1).mono hsz').trans hB2
          refine hK _ _ hB02 ?_
          clear hK K
          obtain ⟨gv, cv, ev, _⟩ := own_form O2 (by simp)
          subst ev
          have hb12 := (hB02.block _ (by omega)).trans hb1
          have c12 := cell_of_one hb12
          have f12 := free_of_one hb12
          have HP2 := hide P2
          have HO2 := hide O2
          have HB12 := hide hb12
          have HBB := hide hB02
          clear P2 O2 hb12 hB02 hB2
          try simp only [Act.put, List.setIfInBounds_toArray, List.set_cons_zero, List.set_cons_succ]
          repeat (refine walkH_read (by rfl) (by (intro gx; go_simp; try (with_reducible rfl))) ?_; try simp only [Act.put, List.setIfInBounds_toArray, List.set_cons_zero, List.set_cons_succ])
          refine lastPost_of_list ?_
          simp only [List.cons_append, List.nil_append]
          go_wp2
          refine NoPanic.normal ?_
          go_wp2
          go_roundw
          case rel =>
            have hM : OwnM w2 (g1.heap.size + 1) 36 3 _ (pickM M (rs.take k) ++ [row]) := ⟨_, RowsO.push ((unhide HR1).below hb3) ((unhide HO1).below hb3) (unhide HAn) (by decide) (unhide HO2) (unhide HP2)⟩
            refine ⟨k + 1, by omega, by go_num, _, one_setCell (unhide HB12), hide (fun i hi => ?_), hide ?_, hide ((((unhide HB).trans ((unhide HGB).mono (by omega))).trans ((unhide HBB).mono (by omega))).setCell (Nat.le_refl _) _), ?_⟩
            · by_cases q : i = k
              · rw [q, ← unhide EX]; omega
              · exact unhide HG i (by omega)
            · rw [pick_snoc M rs k (by rw [unhide HL]; omega), ← unhide EX, Int.toNat_natCast, ← unhide ER]
              have := hM.setBelow (a := ⟨g1.heap.size, 0, none⟩) (by show g1.heap.size < _; omega) (.slice (some ⟨gv, 0, none⟩) (us.length + 1) cv)
              simpa [hlu] using this
            · have := (unhide HBB).size
              simp
              omega
          case measure => simp [intOf]; omega
    · have hlt' : ¬ (k : Int) < n := by omega
      obtain rfl : k = n := by omega
      obtain ⟨us, hR⟩ := unhide HM
      obtain ⟨au, cu, eu⟩ := hR.outer.form
      have hlu : us.length = k := by rw [hR.len]; simp [pickM, unhide HL]
      rw [hlu] at eu
      subst eu
      have HR := hide hR
      have HF := hide (bt (unhide k3) (unhide HBW))
      clear hR
      go_wp2
      have cr := cell_of_one (one_setCell (u := .slice au k cu) r2)
      refine bodyPost_ret (v := .tuple #[.agg #[.slice au k cu], .int .i64 0]) (by simp [results, Tryd.results32, go_sem, cr]) rfl ⟨.inl ⟨⟨hm, by rw [unhide HL]; omega, by rw [unhide HL]; omega, fun i hi => ?_⟩, _, rfl, ⟨us, ?_⟩⟩, (unhide HF).setCell (by show _ ≤ w.heap.size + 1; omega) _⟩
      · rw [unhide HLM]
        exact unhide HG i (by rw [← unhide HL]; exact hi)
      · have hh := ((unhide HR).setBelow (a := ⟨w.heap.size + 1, 0, none⟩) (by show w.heap.size + 1 < _; have := (unhide GB).size; omega) (.slice au k cu)).mono (B' := w.heap.size) (by have := (unhide GB).size; omega)
        rw [List.take_of_length_le (by rw [unhide HL]; omega)] at hh
        exact hh
theorem pick_len {M : List (List Int)} {rs : List Int} (h : rs.length < 1 ∨ 12 < rs.length) : ¬ PickMay M rs := fun hm => by obtain ⟨_, h1, h2, _⟩ := hm; omega
/-- what Pick answers: the rows, the error's number -/
def pickR (M : List (List Int)) (rs : List Int) (r : List (List Int) × Int) : Prop := (PickMay M rs ∧ r = (pickM M rs, 0)) ∨ (¬ PickMay M rs ∧ r = ([], 300))
theorem refPick_any (v : Value) (a : Option Addr) (n cap : Nat) (M : List (List Int)) (rs : List Int) (w : World) (hv : MatV w v M) (hr : Ints w a n cap rs) (hn : n ≤ maxLen) :
    Calls Tryd.prog 32 #[v, .slice a n cap] w fun e w' => ∃ u r, pickR M rs r ∧ e = .returned (.tuple #[.agg #[u], .int .i64 r.2]) ∧ OwnM w' w.heap.size 36 3 u r.1 ∧ Below w.heap.size w w' := by
  have hv' := hv
  obtain ⟨pa, na, ca, rfl, _⟩ := hv'
  obtain ⟨hl, hrow⟩ := hr
  by_cases hm : MMay M
  · by_cases h : n < 1 ∨ 12 < n
    · refine (refPick_len pa a na ca n cap M w hv hm h).mono ?_
      rintro e w' ⟨rfl, hb⟩
      exact ⟨_, ([], 300), .inr ⟨pick_len (by rw [hl]; exact h), rfl⟩, rfl, OwnM.nil _ _ _ _, hb⟩
    · rcases hrow with ⟨_, h0, _⟩ | ⟨h0, _⟩ | ⟨_, _, b, off, rfl, hc⟩
      · omega
      · omega
      · refine (refPick_some pa b off na ca n cap M rs w hv hm (by omega) (by omega) hl hc).mono ?_
        rintro e w' ⟨⟨hp, u, rfl, ho⟩ | ⟨hp, rfl⟩, hb⟩
        · exact ⟨u, (pickM M rs, 0), .inl ⟨hp, rfl⟩, rfl, ho, hb⟩
        · exact ⟨_, ([], 300), .inr ⟨hp, rfl⟩, rfl, OwnM.nil _ _ _ _, hb⟩
  · refine (refPick_noM pa a na ca n cap M w hv hm).mono ?_
    rintro e w' ⟨rfl, hb⟩
    exact ⟨_, ([], 300), .inr ⟨fun h => hm h.1, rfl⟩, rfl, OwnM.nil _ _ _ _, hb⟩
end Go.Proofs.YtcgagkaalbljmaaDoor
/- Writing over what a call has made: SpoilInts, SpoilMatrix (ossuarylaw0): contracts. -/
namespace Go.Proofs.YtcgagkaalbljmaaDoor
open Go.RowKit
set_option linter.unusedVariables false
set_option linter.unusedSimpArgs false
attribute [local go_sem ↓] Go.wp_at_zero Go.wp_at_succ
theorem OwnL.keep {w w' : World} {B : Nat} {e : TypeId} {v : Value} {xs : List Value} (h : OwnL w B e v xs) (hk : ∀ g, v.ownBlock = some g → w'.heap[g]? = w.heap[g]?) : OwnL w' B e v xs := by
  refine ⟨h.1, ?_⟩
  rcases h.2 with h | ⟨g, cap, cur, rfl, hb, hh, r⟩
  · exact .inl h
  · exact .inr ⟨g, cap, cur, rfl, hb, (hk g rfl).trans hh, r⟩
theorem RowsO.keep {w w' : World} {B : Nat} {T E : TypeId} {u : Value} {us : List Value} {M : List (List Int)} (h : RowsO w B T E u us M) (hk : ∀ k, B ≤ k → k < w.heap.size → w'.heap[k]? = w.heap[k]?) : RowsO w' B T E u us M :=
  ⟨h.len, h.outer.keep (fun g hg => hk g (h.outer.lt hg).1 (h.outer.lt hg).2), fun j v hv => (h.row j v hv).keep (fun g hg => hk g ((h.row j v hv).lt hg).1 ((h.row j v hv).lt hg).2), h.apart⟩
theorem OwnM.keep {w w' : World} {B : Nat} {T E : TypeId} {u : Value} {M : List (List Int)} (h : OwnM w B T E u M) (hk : ∀ k, B ≤ k → k < w.heap.size → w'.heap[k]? = w.heap[k]?) : OwnM w' B T E u M := by
  obtain ⟨us, h⟩ := h; exact ⟨us, h.keep hk⟩
theorem own_len {w : World} {B E g n cap : Nat} {xs : List Value} (h : OwnL w B E (.slice (some ⟨g, 0, none⟩) n cap) xs) : xs.length = n := by
  rcases h.2 with ⟨h1, _⟩ | ⟨g1, c1, cur, h1, _⟩
  · simp at h1
  · simp only [Value.slice.injEq] at h1
    exact h1.2.1.symm
theorem own_row' {w : World} {B E g n cap : Nat} {xs : List Value} (h : OwnL w B E (.slice (some ⟨g, 0, none⟩) n cap) xs) : w.ownsRow B E 1 (.slice (some ⟨g, 0, none⟩) n cap) n xs := by
  have := own_len h
  unfold OwnL at h
  rwa [this] at h
theorem own_cell {w : World} {B E g n cap : Nat} {xs : List Int} (h : OwnL w B E (.slice (some ⟨g, 0, none⟩) n cap) (xs.map (Value.int .i64))) (k : Nat) (hk : k < xs.length) : w.cell? ⟨g, k, none⟩ = some (.int .i64 (xs.getD k 0)) := by
  obtain ⟨g1, cap1, e, hb, _, _, hc⟩ := own_form (n := (xs.map (Value.int .i64)).length) h (by simp; omega)
  simp only [Value.slice.injEq, Option.some.injEq, Addr.mk.injEq, and_true, true_and] at e
  obtain ⟨rfl, _⟩ := e
  exact hc k _ (int_at rfl k hk)
theorem own_free {w : World} {B E g n cap : Nat} {xs : List Value} (h : OwnL w B E (.slice (some ⟨g, 0, none⟩) n cap) xs) (k : Nat) : w.frozen? ⟨g, k, none⟩ = false := World.ownsRow.frozenAt (own_row' h) k
theorem own_put {w : World} {B E g n cap : Nat} {xs : List Value} (h : OwnL w B E (.slice (some ⟨g, 0, none⟩) n cap) xs) (k : Nat) (x : Value) : OwnL (w.setCell ⟨g, k, none⟩ x) B E (.slice (some ⟨g, 0, none⟩) n cap) (xs.set k x) := by
  have := (World.ownsRow.stored (own_row' h) k x).1
  unfold OwnL
  rw [List.length_set, own_len h]
  exact this
/-- the rows are of the call's own, whatever they hold -/
def SpoilR (w : World) (B : Nat) (T E : TypeId) (u : Value) (us : List Value) (ns : List Nat) : Prop := ∃ M : List (List Int), M.map List.length = ns ∧ RowsO w B T E u us M
theorem set_same {l : List Nat} {k x : Nat} (h : l.getD k 0 = x) : l.set k x = l := by
  apply List.ext_getElem?
  intro i
  rw [List.getElem?_set]
  by_cases hk : k = i
  · subst hk
    by_cases hl : k < l.length
    · simp [hl, List.getD] at h ⊢; exact h.symm
    · simp [hl]
  · simp [hk]
theorem RowsO.setRow {w w' : World} {B : Nat} {T E : TypeId} {u v : Value} {us : List Value} {M : List (List Int)} {k : Nat} {ys : List Int} (h : RowsO w B T E u us M) (hne : T ≠ E) (hv : us[k]? = some v) (hy : OwnL w' B E v (ys.map (Value.int .i64)))
    (hf : ∀ k, v.ownBlock ≠ some k → k < w.heap.size → w'.heap[k]? = w.heap[k]?) : RowsO w' B T E u us (M.set k ys) := by
  have hrow := h.row k v hv
  refine ⟨by simp [h.len], h.outer.keep (fun g hg => hf g (fun e => apt_types hrow h.outer (Ne.symm hne) g e hg) (h.outer.lt hg).2), fun j x hx => ?_, h.apart⟩
  by_cases hjk : j = k
  · subst hjk
    rw [hv] at hx
    cases hx
    have hlt : j < M.length := by rw [← h.len]; exact (List.getElem?_eq_some_iff.1 hv).1
    have e : (M.set j ys).getD j [] = ys := by simp [List.getD, hlt]
    rw [e]; exact hy
  · have e : (M.set k ys).getD j [] = M.getD j [] := by simp [List.getD, List.getElem?_set, Ne.symm hjk]
    rw [e]
    exact (h.row j x hx).keep (fun g hg => hf g (fun e => h.apart k j v x hv hx (Ne.symm hjk) g e hg) ((h.row j x hx).lt hg).2)
theorem getD_len (M : List (List Int)) (k : Nat) : (M.map List.length).getD k 0 = (M.getD k []).length := by
  simp [List.getD]
  cases M[k]? <;> rfl
end Go.Proofs.YtcgagkaalbljmaaDoor
/- What the statements need of ossuarylaw0 on matrices: contracts, one a function. -/
namespace Go.Proofs.YtcgagkaalbljmaaDoor
open Go.RowKit
set_option linter.unusedVariables false
set_option linter.unusedSimpArgs false
end Go.Proofs.YtcgagkaalbljmaaDoor
/- What the calls over matrices answer, as functions of plain lists; the document's own calls answer so. -/
namespace Go.Proofs.YtcgagkaalbljmaaDoor
open Go.RowKit
set_option linter.unusedVariables false
set_option linter.unusedSimpArgs false
instance mmayDec (M : List (List Int)) : Decidable (MMay M) := by unfold MMay rowMay byteI; exact inferInstance
instance mulMayDec (A B : List (List Int)) : Decidable (MulMay A B) := by unfold MulMay; exact inferInstance
instance pickMayDec (M : List (List Int)) (rs : List Int) : Decidable (PickMay M rs) := by unfold PickMay; exact inferInstance
/-- the product, the error's number -/
def mulF (A B : List (List Int)) : List (List Int) × Int := if MulMay A B then (mulM A B, 0) else ([], 300)
def pickF (M : List (List Int)) (rs : List Int) : List (List Int) × Int := if PickMay M rs then (pickM M rs, 0) else ([], 300)
def idF (k : Int) : List (List Int) × Int := if 1 ≤ k ∧ k ≤ 12 then (idM k.toNat, 0) else ([], 300)
theorem rows_le {M : List (List Int)} (h : MMay M) : M.length ≤ maxLen ∧ ∀ j, (M.getD j []).length ≤ maxLen :=
  ⟨Nat.le_trans h.2.1 (by decide), fun j => Nat.le_trans (mrow_le h j) (by decide)⟩
theorem nil_le : ([] : List (List Int)).length ≤ maxLen ∧ ∀ j, (([] : List (List Int)).getD j []).length ≤ maxLen := ⟨by decide, fun j => by simp⟩
theorem pickM_len (M : List (List Int)) (rs : List Int) : (pickM M rs).length = rs.length := by simp [pickM]
theorem pickM_row {M : List (List Int)} {rs : List Int} {j : Nat} (h : j < rs.length) : (pickM M rs).getD j [] = M.getD (rs.getD j 0).toNat [] := by
  simp [pickM, List.getD, List.getElem?_eq_getElem h]
theorem pickM_may {M : List (List Int)} {rs : List Int} (h : PickMay M rs) : MMay (pickM M rs) := by
  obtain ⟨hm, h1, h2, h3⟩ := h
  have hrow : ∀ j, j < rs.length → rowMay (M.getD 0 []).length ((pickM M rs).getD j []) := fun j hj => by
    rw [pickM_row hj]
    have := h3 j hj
    exact hm.2.2.2.2 _ (by omega)
  have h0 : ((pickM M rs).getD 0 []).length = (M.getD 0 []).length := (hrow 0 h1).1
  refine ⟨by rw [pickM_len]; exact h1, by rw [pickM_len]; exact h2, by rw [h0]; exact hm.2.2.1, by rw [h0]; exact hm.2.2.2.1, fun i hi => ?_⟩
  rw [h0]
  exact hrow i (by rwa [pickM_len] at hi)
theorem mulF_le (A B : List (List Int)) : (mulF A B).1.length ≤ maxLen ∧ ∀ j, ((mulF A B).1.getD j []).length ≤ maxLen := by
  unfold mulF
  split
  · next h => exact rows_le (mulM_may h.1 h.2.1)
  · exact nil_le
theorem pickF_le (M : List (List Int)) (rs : List Int) : (pickF M rs).1.length ≤ maxLen ∧ ∀ j, ((pickF M rs).1.getD j []).length ≤ maxLen := by
  unfold pickF
  split
  · next h => exact rows_le (pickM_may h)
  · exact nil_le
theorem idF_le (k : Int) : (idF k).1.length ≤ maxLen ∧ ∀ j, ((idF k).1.getD j []).length ≤ maxLen := by
  unfold idF
  split
  · next h => exact rows_le (idM_may (by omega) (by omega))
  · exact nil_le
/-- a matrix of the call's own can be read -/
theorem OwnM.matV {w : World} {B : Nat} {T E : TypeId} {u : Value} {M : List (List Int)} (h : OwnM w B T E u M) (hM : M.length ≤ maxLen ∧ ∀ j, (M.getD j []).length ≤ maxLen) : MatV w (.agg #[u]) M := by
  obtain ⟨a, cap, rfl, hr⟩ := h.rows hM.1 hM.2
  exact ⟨a, _, cap, rfl, hr⟩
theorem OwnM.mono {w : World} {B B' : Nat} {T E : TypeId} {u : Value} {M : List (List Int)} (h : OwnM w B T E u M) (hB : B' ≤ B) : OwnM w B' T E u M := by
  obtain ⟨us, h⟩ := h; exact ⟨us, h.mono hB⟩
theorem OwnM.form {w : World} {B : Nat} {T E : TypeId} {u : Value} {M : List (List Int)} (h : OwnM w B T E u M) : ∃ p n c, u = .slice p n c ∧ n = M.length := by
  obtain ⟨us, h⟩ := h
  obtain ⟨a, cap, e⟩ := h.outer.form
  exact ⟨a, _, cap, e, h.len⟩
theorem refMul_fun (a b : Value) (A B : List (List Int)) (w : World) (ha : MatV w a A) (hb : MatV w b B) :
    Calls Tryd.prog 42 #[a, b] w fun e w' => ∃ u, e = .returned (.tuple #[.agg #[u], .int .i64 (mulF A B).2]) ∧ OwnM w' w.heap.size 36 3 u (mulF A B).1 ∧ Below w.heap.size w w' := by
  refine (refMulMatrix_any a b A B w ha hb).mono ?_
  rintro e w' ⟨⟨hm, u, rfl, ho⟩ | ⟨hm, rfl⟩, hB⟩
  · simp only [mulF, if_pos hm]; exact ⟨u, rfl, ho, hB⟩
  · simp only [mulF, if_neg hm]; exact ⟨_, rfl, OwnM.nil _ _ _ _, hB⟩
theorem refPick_fun (v : Value) (a : Option Addr) (n cap : Nat) (M : List (List Int)) (rs : List Int) (w : World) (hv : MatV w v M) (hr : Ints w a n cap rs) (hn : n ≤ maxLen) :
    Calls Tryd.prog 32 #[v, .slice a n cap] w fun e w' => ∃ u, e = .returned (.tuple #[.agg #[u], .int .i64 (pickF M rs).2]) ∧ OwnM w' w.heap.size 36 3 u (pickF M rs).1 ∧ Below w.heap.size w w' := by
  refine (refPick_any v a n cap M rs w hv hr hn).mono ?_
  rintro e w' ⟨u, r, ⟨hm, rfl⟩ | ⟨hm, rfl⟩, rfl, ho, hB⟩
  · simp only [pickF, if_pos hm]; exact ⟨u, rfl, ho, hB⟩
  · simp only [pickF, if_neg hm]; exact ⟨u, rfl, ho, hB⟩
theorem refIdentity_fun (k : Int) (w : World) :
    Calls Tryd.prog 49 #[.int .i64 k] w fun e w' => ∃ u, e = .returned (.tuple #[.agg #[u], .int .i64 (idF k).2]) ∧ OwnM w' w.heap.size 36 3 u (idF k).1 ∧ Below w.heap.size w w' := by
  by_cases h : 1 ≤ k ∧ k ≤ 12
  · obtain ⟨n, rfl⟩ : ∃ n : Nat, k = n := ⟨k.toNat, by omega⟩
    refine (refIdentity_yes n w (by omega) (by omega)).mono ?_
    rintro e w' ⟨u, rfl, ho, hB⟩
    simp only [idF, if_pos h, Int.toNat_natCast]
    exact ⟨u, rfl, ho.mono (by omega), hB⟩
  · refine (refIdentity_no k w (by omega)).mono ?_
    rintro e w' ⟨rfl, hB⟩
    simp only [idF, if_neg h]
    exact ⟨_, rfl, OwnM.nil _ _ _ _, hB⟩
theorem refMay_fun (v : Value) (M : List (List Int)) (w : World) (h : MatV w v M) : Calls Tryd.prog 48 #[v] w fun e w' => e = .returned (.bool (decide (MMay M))) ∧ Below w.heap.size w w' := by
  refine (refMay_any v M w h).mono ?_
  rintro e w' ⟨⟨hm, rfl⟩ | ⟨hm, rfl⟩, hB⟩
  · rw [decide_eq_true hm]; exact ⟨rfl, hB⟩
  · rw [decide_eq_false hm]; exact ⟨rfl, hB⟩
end Go.Proofs.YtcgagkaalbljmaaDoor
