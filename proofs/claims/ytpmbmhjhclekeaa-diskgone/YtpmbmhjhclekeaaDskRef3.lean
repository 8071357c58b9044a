/- The document's own disks (ossuaryref13): CopyDisk. -/
import Derived.Test.YtpmbmhjhclekeaaDskRef2
import Derived.Test.YtpmbmhjhclekeaaAppRec
namespace Go.Proofs.Ytpmbmhjhclekeaa
open Go.RowKit
set_option linter.unusedVariables false
set_option linter.unusedSimpArgs false
attribute [local go_sem ↓] Go.wp_at_zero Go.wp_at_succ
theorem Try.infoWr : (Try.prog.info? 62).map (fun i => (i.zero, i.size, i.bytes)) = some (some (.agg #[.int .i64 0, .string ByteArray.empty]), 2, 24) := by kernel_rfl
theorem wrCells_one (l : List (Int × ByteArray)) : ∀ u ∈ wrCells l, u.oneCell' = true := by
  intro u hu
  unfold wrCells at hu
  obtain ⟨p, _, h⟩ := List.mem_flatMap.1 hu
  simp at h
  rcases h with rfl | rfl <;> rfl
theorem dsk_set1 {w : World} {b : Nat} {x y z y' : Value} {T : TypeId} (h : w.heap[b]? = some (.cells #[x, y, z] T (0, 0))) : (w.setCell ⟨b, 1, none⟩ y').heap[b]? = some (.cells #[x, y', z] T (0, 0)) := by
  rw [heap_setCell_same w b 1 _ T y' h]; rfl
theorem dsk_set2 {w : World} {b : Nat} {x y z z' : Value} {T : TypeId} (h : w.heap[b]? = some (.cells #[x, y, z] T (0, 0))) : (w.setCell ⟨b, 2, none⟩ z').heap[b]? = some (.cells #[x, y, z'] T (0, 0)) := by
  rw [heap_setCell_same w b 2 _ T z' h]; rfl
theorem dsk_put {w : World} {b : Nat} {x y z x' y' z' : Value} {T : TypeId} (h : w.heap[b]? = some (.cells #[x, y, z] T (0, 0))) : (((w.setCell ⟨b, 0, none⟩ x').setCell ⟨b, 1, none⟩ y').setCell ⟨b, 2, none⟩ z').heap[b]? = some (.cells #[x', y', z'] T (0, 0)) := by
  rw [heap_setCell_same _ b 2 _ T z' (heap_setCell_same _ b 1 _ T y' (heap_setCell_same w b 0 _ T x' h))]
  rfl
theorem dsk_free {w : World} {b : Nat} {C : Array Value} {T : TypeId} (h : w.heap[b]? = some (.cells C T (0, 0))) (i : Nat) : w.frozen? ⟨b, i, none⟩ = false := by
  unfold World.frozen?; simp [h]
set_option maxRecDepth 100000 in
set_option maxHeartbeats 1000000 in
theorem refCopyDisk_any (d : Dsk) (sa : Option Addr) (n sc : Nat) (ca : Option Addr) (m cc : Nat) (w : World) (hS : Strs w sa n sc d.secs) (hC : WrV w ca m cc d.cache) (hn : n * 16 ≤ 140737488351232) (hm : m * 24 ≤ 140737488351232) :
    Calls Try.prog 42 #[.agg #[.bool d.lost, .slice sa n sc, .slice ca m cc]] w fun e w' => ∃ v, e = .returned v ∧ DskO w' w.heap.size 9 62 v d ∧ Below w.heap.size w w' := by
  have hsl := hS.1
  have hcl := hC.1
  have HS := hide hS
  have HC := hide hC
  obtain ⟨b, eb⟩ : ∃ b, b = d.lost := ⟨_, rfl⟩
  have EB := hide eb
  rw [← eb]
  obtain ⟨ss, ess⟩ : ∃ ss, ss = d.secs := ⟨_, rfl⟩
  obtain ⟨cl, ecl⟩ : ∃ cl, cl = d.cache := ⟨_, rfl⟩
  rw [← ess] at hsl HS
  rw [← ecl] at hcl HC
  have ESS := hide ess
  have ECL := hide ecl
  clear hS hC eb ess ecl
  go_enter Try.func42, Try.ntmps42
  go_upto_region 1 with fail
  have HB := hide (below_two w (.cells #[.bool b, .slice sa n sc, .slice ca m cc] 25) (.cells #[.bool false, .slice none 0 0, .slice none 0 0] 25))
  have RX := hide (two_new w (.cells #[.bool b, .slice sa n sc, .slice ca m cc] 25) (.cells #[.bool false, .slice none 0 0, .slice none 0 0] 25))
  have BX := hide ((((below_alloc (w.alloc (.cells #[.bool b, .slice sa n sc, .slice ca m cc] 25)) (.cells #[.bool false, .slice none 0 0, .slice none 0 0] 25)).block w.heap.size (by simp)).trans (heap_alloc_new w (.cells #[.bool b, .slice sa n sc, .slice ca m cc] 25))))
  generalize ((w.alloc (.cells #[.bool b, .slice sa n sc, .slice ca m cc] 25)).alloc (.cells #[.bool false, .slice none 0 0, .slice none 0 0] 25)) = W at *
  obtain ⟨x0, x1, x2⟩ := box_dsk (unhide BX)
  have hs1 := hide ((unhide HS).below (bt (unhide HB) (below_alloc W (.cells #[] 9))))
  have hsz := lt_of_block (unhide RX)
  have d1 := fun o => ((below_alloc W o).cell (cell_lt x1)).trans x1
  go_upto_region 2 with (at_builtin; refine wpList_append_row (W.alloc (.cells #[] 9)) (by rfl) (.tmp 3) (.tmp 5) 22 (by rfl) (w.heap.size + 2) 9 (.string ByteArray.empty) 16 Try.underlying22 Try.infoText rfl _ 0 [] (by rfl) (own_emptyZ W 9 1 (w.heap.size + 2) (by omega)) sa n sc _ (ss.map Value.string) (by rfl) (unhide hs1).2 (by rw [List.length_map]; exact hsl) (str_at hsl) (strs_oneCell _) (by unfold maxLen; omega) (by omega) (by simp; omega) ?_; intro v1 W1 O1 G1; have HG1 := hide ((below_alloc W (.cells #[] 9)).trans (Below.refl _ _)); have BX1 := hide ((G1.block w.heap.size (by simp; omega) (by simp [Value.ownBlock]; omega)).trans (((below_alloc W (.cells #[] 9)).block _ (lt_of_block (unhide BX))).trans (unhide BX))); have RX1 := hide ((G1.block (w.heap.size + 1) (by simp; omega) (by simp [Value.ownBlock]; omega)).trans (((below_alloc W (.cells #[] 9)).block _ (lt_of_block (unhide RX))).trans (unhide RX))); have OO1 := hide O1; have GG1 := hide G1; obtain ⟨y0, y1, y2⟩ := box_dsk (unhide BX1); have fy := dsk_free (unhide BX1) 1; obtain ⟨p1, c1, e1⟩ := ownZ_slice O1; subst e1; clear O1 G1)
  have HB1 : Hid (Below w.heap.size w W1) := hide (((unhide HB).trans ((below_alloc W (.cells #[] 9)).mono (unhide HB).size)).grown (unhide GG1) (by have := (unhide HB).size; simp; omega) (fun k hk => by simp [Value.ownBlock] at hk; have := (unhide HB).size; omega))
  have BX2 := hide (dsk_set1 (y' := .slice p1 n c1) (unhide BX1))
  have RX2 := hide ((Below.heap_setCell W1 ⟨w.heap.size, 1, none⟩ (.slice p1 n c1) (w.heap.size + 1) (by show w.heap.size + 1 ≠ w.heap.size; omega)).trans (unhide RX1))
  have HB2 := hide ((unhide HB1).setCell (p := ⟨w.heap.size, 1, none⟩) (Nat.le_refl _) (.slice p1 n c1))
  have OO2 : Hid (OwnL (W1.setCell ⟨w.heap.size, 1, none⟩ (.slice p1 n c1)) (w.heap.size + 2) 9 (.slice p1 n c1) (ss.map Value.string)) := hide (by
    have h := unhide OO1
    have h2 : OwnL W1 (w.heap.size + 2) 9 (.slice p1 n c1) (ss.map Value.string) := by
      unfold OwnL
      rw [List.length_map, hsl]
      simpa using h
    exact h2.setBelow (by show w.heap.size < _; omega) _)
  clear y0 y1 y2 fy x0 x1 x2 d1 BX1 RX1 OO1 GG1 HG1 hs1 BX RX HB hsz HB1
  generalize (W1.setCell ⟨w.heap.size, 1, none⟩ (.slice p1 n c1)) = W2 at *
  obtain ⟨x0, x1, x2⟩ := box_dsk (unhide BX2)
  have hc1 := hide ((unhide HC).below (bt (unhide HB2) (below_alloc W2 (.cells #[] 62))))
  have hsz := lt_of_block (unhide RX2)
  have d2 := fun o => ((below_alloc W2 o).cell (cell_lt x2)).trans x2
  go_upto_region 3 with (at_builtin; refine wpList_append_rec (W2.alloc (.cells #[] 62)) (by rfl) (.tmp 8) (.tmp 10) 23 (by rfl) (w.heap.size + 2) 62 (.agg #[.int .i64 0, .string ByteArray.empty]) 2 24 Try.underlying23 Try.infoWr rfl (by decide) _ 0 [] (by rfl) (own_emptyZ W2 62 2 (w.heap.size + 2) (by omega)) ca m cc _ (wrCells cl) (by rfl) (unhide hc1).2 (by rw [wrCells_len, hcl]) (fun i hi => by simp [List.getD, List.getElem?_eq_getElem (show i < (wrCells cl).length by rw [wrCells_len, hcl]; exact hi)]) (wrCells_one _) (by unfold maxLen; omega) (by omega) (by simp; omega) ?_; intro v3 W3 O3 G3; have BX3 := hide ((G3.block w.heap.size (by simp; omega) (by simp [Value.ownBlock]; omega)).trans (((below_alloc W2 (.cells #[] 62)).block _ (lt_of_block (unhide BX2))).trans (unhide BX2))); have RX3 := hide ((G3.block (w.heap.size + 1) (by simp; omega) (by simp [Value.ownBlock]; omega)).trans (((below_alloc W2 (.cells #[] 62)).block _ (lt_of_block (unhide RX2))).trans (unhide RX2))); have OO3 := hide O3; have GG3 := hide G3; obtain ⟨y0, y1, y2⟩ := box_dsk (unhide BX3); have fy := dsk_free (unhide BX3) 2; obtain ⟨p3, c3, e3⟩ := ownZ_slice O3; subst e3; clear O3 G3)
  simp only [Nat.zero_add, List.nil_append] at *
  have HB3 : Hid (Below w.heap.size w W3) := hide (((unhide HB2).trans ((below_alloc W2 (.cells #[] 62)).mono (unhide HB2).size)).grown (unhide GG3) (by have := (unhide HB2).size; simp; omega) (fun k hk => by simp [Value.ownBlock] at hk; have := (unhide HB2).size; omega))
  have BX4 := hide (dsk_set2 (z' := .slice p3 m c3) (unhide BX3))
  have RX4 := hide ((Below.heap_setCell W3 ⟨w.heap.size, 2, none⟩ (.slice p3 m c3) (w.heap.size + 1) (by show w.heap.size + 1 ≠ w.heap.size; omega)).trans (unhide RX3))
  have HB4 := hide ((unhide HB3).setCell (p := ⟨w.heap.size, 2, none⟩) (Nat.le_refl _) (.slice p3 m c3))
  have OS4 : Hid (OwnL (W3.setCell ⟨w.heap.size, 2, none⟩ (.slice p3 m c3)) (w.heap.size + 2) 9 (.slice p1 n c1) (ss.map Value.string)) := hide (by
    have h := (unhide OO2).below (below_alloc W2 (.cells #[] 62))
    have h2 : OwnL W3 (w.heap.size + 2) 9 (.slice p1 n c1) (ss.map Value.string) := World.ownsRow.kept h (unhide GG3) (by
      cases hp : (Value.slice p1 n c1).ownBlock with
      | none => exact .inl rfl
      | some g =>
        refine .inr (fun e => ?_)
        have h3 := ((unhide OO2).lt hp).2
        simp [Value.ownBlock] at e
        omega)
    exact h2.setBelow (by show w.heap.size < _; omega) _)
  have OC4 : Hid ((W3.setCell ⟨w.heap.size, 2, none⟩ (.slice p3 m c3)).ownsRow (w.heap.size + 2) 62 2 (.slice p3 m c3) m (wrCells cl)) := hide (ownsRow_setCell_other (a := ⟨w.heap.size, 2, none⟩) (unhide OO3) (fun e => by have := (World.ownsRow.lt (unhide OO3) w.heap.size e).1; omega) _)
  clear y0 y1 y2 fy x0 x1 x2 d2 BX3 RX3 OO3 GG3 hc1 BX2 RX2 HB2 hsz HB3 OO2
  generalize (W3.setCell ⟨w.heap.size, 2, none⟩ (.slice p3 m c3)) = W4 at *
  obtain ⟨x0, x1, x2⟩ := box_dsk (unhide BX4)
  obtain ⟨r0, r1, r2⟩ := box_dsk (unhide RX4)
  have f0 := dsk_free (unhide RX4) 0
  have f1 := dsk_free (unhide RX4) 1
  have f2 := dsk_free (unhide RX4) 2
  go_wp2
  obtain ⟨q0, q1, q2⟩ := box_dsk (dsk_put (x' := .bool b) (y' := .slice p1 n c1) (z' := .slice p3 m c3) (unhide RX4))
  refine bodyPost_ret (v := .agg #[.bool b, .slice p1 n c1, .slice p3 m c3]) (by simp [results, Try.results42, go_sem, q0, q1, q2]) rfl ⟨_, rfl, ⟨_, _, by rw [unhide EB], ?_, ?_⟩, ?_⟩
  · rw [← unhide ESS]
    have h := (((unhide OS4).setBelow (a := ⟨w.heap.size + 1, 0, none⟩) (by show w.heap.size + 1 < _; omega) (.bool b)).setBelow (a := ⟨w.heap.size + 1, 1, none⟩) (by show w.heap.size + 1 < _; omega) (.slice p1 n c1)).setBelow (a := ⟨w.heap.size + 1, 2, none⟩) (by show w.heap.size + 1 < _; omega) (.slice p3 m c3)
    exact h.mono (by omega)
  · rw [← unhide ECL, hcl]
    have ho := unhide OC4
    have hne : ∀ i, (Value.slice p3 m c3).ownBlock ≠ some (⟨w.heap.size + 1, i, none⟩ : Addr).block := fun i e => by have h9 : w.heap.size + 2 ≤ w.heap.size + 1 := (World.ownsRow.lt ho _ e).1; omega
    have h := ownsRow_setCell_other (ownsRow_setCell_other (ownsRow_setCell_other ho (a := ⟨w.heap.size + 1, 0, none⟩) (hne 0) (.bool b)) (a := ⟨w.heap.size + 1, 1, none⟩) (hne 1) (.slice p1 n c1)) (a := ⟨w.heap.size + 1, 2, none⟩) (hne 2) (.slice p3 m c3)
    exact ownZ_mono' h (by omega)
  · exact (((unhide HB4).setCell (p := ⟨w.heap.size + 1, 0, none⟩) (by show w.heap.size ≤ w.heap.size + 1; omega) _).setCell (p := ⟨w.heap.size + 1, 1, none⟩) (by show w.heap.size ≤ w.heap.size + 1; omega) _).setCell (p := ⟨w.heap.size + 1, 2, none⟩) (by show w.heap.size ≤ w.heap.size + 1; omega) _
end Go.Proofs.Ytpmbmhjhclekeaa
