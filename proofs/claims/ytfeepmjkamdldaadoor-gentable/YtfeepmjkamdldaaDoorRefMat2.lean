/- The document's own identity (ossuaryref1.Identity): a contract. -/
import Derived.Test.YtfeepmjkamdldaaDoorRefMat1
namespace Go.Proofs.YtfeepmjkamdldaaDoor
open Go.RowKit
set_option linter.unusedVariables false
set_option linter.unusedSimpArgs false
/-- the identity's rows, where the first i are set -/
def idTo (k i : Nat) : List (List Int) := (List.range k).map fun r => (List.range k).map fun c => if r = c ∧ r < i then 1 else 0
def idM (k : Nat) : List (List Int) := (List.range k).map fun r => (List.range k).map fun c => if r = c then 1 else 0
theorem idTo_zero (k : Nat) : idTo k 0 = zeroM k k := by
  unfold idTo zeroM
  apply List.ext_getElem <;> simp
  intro i hi
  apply List.ext_getElem <;> simp
theorem idTo_all (k : Nat) : idTo k k = idM k := by
  unfold idTo idM
  apply List.map_congr_left
  intro r hr
  apply List.map_congr_left
  intro c hc
  simp only [List.mem_range] at hr
  simp [hr]
theorem idTo_row (k i r : Nat) (h : r < k) : (idTo k i).getD r [] = (List.range k).map fun c => if r = c ∧ r < i then 1 else 0 := by
  simp [idTo, List.getD, h]
theorem idTo_len (k i : Nat) : (idTo k i).length = k := by simp [idTo]
theorem idTo_rowlen (k i r : Nat) (h : r < k) : ((idTo k i).getD r []).length = k := by rw [idTo_row k i r h]; simp
theorem idTo_step (k i : Nat) (h : i < k) : (idTo k i).set i (((idTo k i).getD i []).set i 1) = idTo k (i + 1) := by
  rw [idTo_row k i i h]
  unfold idTo
  apply List.ext_getElem
  · simp
  · intro r h1 h2
    simp at h1
    rw [List.getElem_set]
    by_cases hr : i = r
    · subst hr
      rw [if_pos rfl]
      apply List.ext_getElem
      · simp
      · intro c h3 h4
        simp at h3
        rw [List.getElem_set]
        by_cases hc : i = c
        · subst hc; simp
        · simp [hc]
    · rw [if_neg hr]
      simp only [List.getElem_map, List.getElem_range]
      apply List.map_congr_left
      intro c hc
      have : (r = c ∧ r < i) ↔ (r = c ∧ r < i + 1) := by omega
      simp only [this]
set_option maxRecDepth 100000 in
theorem refIdentity_no (k : Int) (w : World) (h : k < 1 ∨ 12 < k) : Calls Tryd.prog 51 #[.int .i64 k] w fun e w' => e = .returned (.tuple #[.agg #[.slice none 0 0], .int .i64 300]) ∧ Below w.heap.size w w' := by
  by_cases h1 : k < 1
  · clear h
    go_enter Tryd.func51, Tryd.ntmps51
    go_wp2
    exact bodyPost_ret (v := .tuple #[.agg #[.slice none 0 0], .int .i64 300]) (by simp [results, Tryd.results51, go_sem]) rfl ⟨rfl, by go_grown⟩
  · have h2 : 12 < k := by omega
    clear h
    go_enter Tryd.func51, Tryd.ntmps51
    go_wp2
    exact bodyPost_ret (v := .tuple #[.agg #[.slice none 0 0], .int .i64 300]) (by simp [results, Tryd.results51, go_sem]) rfl ⟨rfl, by go_grown⟩
set_option maxRecDepth 100000 in
set_option maxHeartbeats 2000000 in
theorem refIdentity_yes (k : Nat) (w : World) (h1 : 1 ≤ k) (h2 : k ≤ 12) : Calls Tryd.prog 51 #[.int .i64 k] w fun e w' => ∃ u, e = .returned (.tuple #[.agg #[u], .int .i64 0]) ∧ OwnM w' (w.heap.size + 1) 38 3 u (idM k) ∧ Below w.heap.size w w' := by
  have h1' : ¬ (k : Int) < 1 := by omega
  have h2' : ¬ (12 : Int) < k := by omega
  go_enter Tryd.func51, Tryd.ntmps51
  go_wp2_with fail
  refine (blank_any k k _ h2 h2).mono ?_
  rintro e w1 ⟨u, rfl, ⟨us, hR⟩, hb1⟩
  obtain ⟨gu, cu, rfl, hgu, hcu⟩ := hR.form (by simp [zeroM]; omega)
  have hH : w1.heap[w.heap.size]? = some (.cells #[.slice none 0 0] 26 (0, 0)) := (hb1.block _ (by simp)).trans (heap_alloc_new w _)
  have hs1 : w.heap.size + 1 ≤ w1.heap.size := by have := hb1.size; simpa using this
  have hb1' : Below w.heap.size w w1 := (below_alloc w _).trans (hb1.mono (by simp))
  have hR2 : RowsO w1 (w.heap.size + 1) 38 3 (.slice (some ⟨gu, 0, none⟩) (zeroM k k).length cu) us (zeroM k k) := hR.mono (by simp)
  have hz : (zeroM k k).length = k := by simp [zeroM]
  rw [hz] at hR2 ⊢
  have HR := hide hR2
  have HB := hide hb1'
  have HH := hide hH
  clear hR hR2 hb1 hb1' hH hcu hgu hz
  go_wp2
  go_loopw [5] (fun iv wr => ∃ i : Nat, i ≤ k ∧ iv = .int .i64 i ∧ wr.heap[w.heap.size]? = some (.cells #[.slice none 0 0] 26 (0, 0)) ∧ wr.heap[w1.heap.size]? = some (.cells #[.slice (some ⟨gu, 0, none⟩) k cu] 26 (0, 0)) ∧ Hid (RowsO wr (w.heap.size + 1) 38 3 (.slice (some ⟨gu, 0, none⟩) k cu) us (idTo k i)) ∧ Hid (Below w.heap.size w wr)) (fun iv _ => k - (intOf iv).toNat)
  case atStart => exact ⟨0, by omega, rfl, (heap_alloc_old _ _ (lt_of_block (unhide HH))).trans (unhide HH), heap_alloc_new _ _, by rw [idTo_zero]; exact (unhide HR).below (below_alloc _ _), bt (unhide HB) (below_alloc _ _)⟩
  case round =>
    obtain ⟨i, hi, rfl, hb0, hbx, HR, HB⟩ := hrel
    have cx := cell_of_one hbx
    by_cases hlt : i < k
    · have hlt' : (i : Int) < k := by omega
      have hR := unhide HR
      obtain ⟨g, cap, hg, hBg, hcell, hfr⟩ := hR.at (i := i) (by rw [idTo_len]; exact hlt) (by rw [idTo_rowlen k i i hlt]; omega)
      rw [idTo_rowlen k i i hlt] at hg hcell
      obtain ⟨gu', cu', eu, _, hcu⟩ := hR.form (by rw [idTo_len]; omega)
      rw [idTo_len] at eu
      simp only [Value.slice.injEq, Option.some.injEq, Addr.mk.injEq, and_true, true_and] at eu
      obtain ⟨rfl, rfl⟩ := eu
      have c1 := hcu i _ hg
      have c2 := hcell i hlt
      have f2 := hfr i
      obtain ⟨hR', hbl⟩ := hR.store (by decide) hg (c := i) 1
      rw [idTo_step k i hlt] at hR'
      have n1 := own_ne (hR.row i _ hg) hbx (by decide)
      have n0 := own_ne (hR.row i _ hg) hb0 (by decide)
      have hb0' := (hbl _ (lt_of_block hb0) n0).trans hb0
      have hbx' := (hbl _ (lt_of_block hbx) n1).trans hbx
      have HR' := hide hR'
      have H0' := hide hb0'
      have HX' := hide hbx'
      have HB' := hide ((unhide HB).setCell (p := ⟨g, i, none⟩) (by show w.heap.size ≤ g; omega) (.int .i64 1))
      clear hR hR' hbl hb0' hbx' hcell hfr hcu
      go_wp2
      go_roundw
      case rel => exact ⟨i + 1, by omega, by go_num, unhide H0', unhide HX', HR', HB'⟩
      case measure => simp [intOf]; omega
    · have hlt' : ¬ (i : Int) < k := by omega
      obtain rfl : i = k := by omega
      have f0 := free_of_one hb0
      have c0 := cell_of_one hb0
      go_wp2
      have cr := cell_of_one (one_setCell (u := .slice (some ⟨gu, 0, none⟩) i cu) hb0)
      refine bodyPost_ret (v := .tuple #[.agg #[.slice (some ⟨gu, 0, none⟩) i cu], .int .i64 0]) (by simp [results, Tryd.results51, go_sem, cr]) rfl ⟨_, rfl, ⟨us, ?_⟩, ?_⟩
      · rw [← idTo_all]
        exact (unhide HR).setBelow (by show w.heap.size < _; omega) _
      · exact (unhide HB).setCell (Nat.le_refl _) _
end Go.Proofs.YtfeepmjkamdldaaDoor
