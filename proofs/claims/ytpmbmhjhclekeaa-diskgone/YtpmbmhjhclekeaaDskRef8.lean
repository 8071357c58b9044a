/- The document's own disks (ossuaryref13): zeros, NewDisk. -/
import Derived.Test.YtpmbmhjhclekeaaDskRef7
import Derived.Test.YtpmbmhjhclekeaaZeros
namespace Go.Proofs.Ytpmbmhjhclekeaa
open Go.RowKit
set_option linter.unusedVariables false
set_option linter.unusedSimpArgs false
attribute [local go_sem ↓] Go.wp_at_zero Go.wp_at_succ
def newD (n : Int) : Dsk × Int := if 1 ≤ n ∧ n ≤ 72 then (⟨false, List.replicate n.toNat (zerosB 64), []⟩, 0) else (dsk0, 1300)
set_option maxRecDepth 100000 in
set_option maxHeartbeats 1000000 in
theorem refNewDisk_any (x : Int) (w : World) : Calls Try.prog 10 #[.int .i64 x] w (dskPost (newD x) w) := by
  go_enter Try.func10, Try.ntmps10
  go_upto_region 1 with fail
  have HB := hide (below_alloc w (.cells #[.bool false, .slice none 0 0, .slice none 0 0] 25))
  have RX := hide (heap_alloc_new w (.cells #[.bool false, .slice none 0 0, .slice none 0 0] 25))
  have hsz : (w.alloc (.cells #[.bool false, .slice none 0 0, .slice none 0 0] 25)).heap.size = w.heap.size + 1 := by simp
  have HSZ := hide hsz
  clear hsz
  generalize (w.alloc (.cells #[.bool false, .slice none 0 0, .slice none 0 0] 25)) = W at *
  by_cases hok : 1 ≤ x ∧ x ≤ 72
  · have hw : Hid (newD x = (⟨false, List.replicate x.toNat (zerosB 64), []⟩, 0)) := hide (by rw [newD, if_pos hok])
    obtain ⟨h1, h2⟩ := hok
    have d1 : decide (x < 1) = false := decide_eq_false (by omega)
    have d2 : decide ((72 : Int) < x) = false := decide_eq_false (by omega)
    obtain ⟨n, rfl⟩ : ∃ n : Nat, x = (n : Int) := ⟨x.toNat, by omega⟩
    have hn72 : n ≤ 72 := by omega
    go_upto_region 4 with fail
    have BG := hide (heap_alloc_new W (.cells #[.bool false, .slice none 0 0, .slice none 0 0] 25))
    have b3 := below_alloc W (.cells #[.bool false, .slice none 0 0, .slice none 0 0] 25)
    replace RX := hide ((b3.block _ (lt_of_block (unhide RX))).trans (unhide RX))
    replace HB := hide (bt (unhide HB) b3)
    clear b3 d1 d2
    generalize (W.alloc (.cells #[.bool false, .slice none 0 0, .slice none 0 0] 25)) = W3 at *
    obtain ⟨Z, eZ⟩ : ∃ Z, Z = zerosB 64 := ⟨_, rfl⟩
    have EZ := hide eZ
    clear eZ
    go_wp2
    go_loopw [5] (fun iv wr => ∃ (k : Nat) (v : Value), k ≤ n ∧ iv = .int .i64 k ∧ Hid (wr.heap[w.heap.size]? = some (.cells #[.bool false, .slice none 0 0, .slice none 0 0] 25 (0, 0))) ∧ Hid (wr.heap[W.heap.size]? = some (.cells #[.bool false, v, .slice none 0 0] 25 (0, 0))) ∧ Hid (OwnL wr (W.heap.size + 1) 9 v ((List.replicate k Z).map Value.string)) ∧ Hid (Below w.heap.size w wr)) (fun iv _ => n - (intOf iv).toNat)
    case atStart => exact ⟨0, _, by omega, rfl, RX, BG, hide (OwnL.nil _ _ _), HB⟩
    case round =>
      obtain ⟨k, v, hk, rfl, RXr, BGr, HO, HBr⟩ := hrel
      obtain ⟨pv, cv, ev⟩ := (unhide HO).form
      rw [List.length_map, List.length_replicate] at ev
      subst ev
      obtain ⟨y0, y1, y2⟩ := box_dsk (unhide BGr)
      by_cases hlt : k < n
      · have hlt' : (k : Int) < n := by omega
        have k1 := kept_cell (B := W.heap.size + 1) y1 (by show W.heap.size < _; omega)
        have hszr := lt_of_block (unhide BGr)
        have hrr := lt_of_block (unhide RXr)
        have hww : w.heap.size < W.heap.size := by have := unhide HSZ; omega
        go_upto_region 7 with fail
        clear y0 y1 y2
        refine wp_region_ord_then (S := Below (W.heap.size + 1) wr) [(true, 0), (true, 1), (false, 2), (false, 3), (false, 4), (true, 5)] (List.cons_ne_nil _ _) (by kernel_rfl) (by kernel_rfl) (by kernel_rfl) (by kernel_rfl) (by kernel_rfl) ((Below.refl _ _).drew) ?_
        simp only [List.dropLast_cons_cons, List.dropLast_singleton, List.getLast_cons_cons, List.getLast_singleton, withOps, List.map_cons, List.map_nil, List.getElem?_cons_succ, List.getElem?_cons_zero]
        repeat (refine walkH_read (by rfl) (by (intro gx; go_simp; try (with_reducible rfl))) ?_; try simp only [Act.put, List.setIfInBounds_toArray, List.set_cons_zero, List.set_cons_succ])
        refine walkH_do rfl (fun K hK => ?_)
        go_simp
        refine (zeros_any 64 (by decide) _).mono ?_
        rintro e w5 ⟨rfl, b5⟩
        rw [← unhide EZ]
        have hb5 : Below wr.heap.size wr w5 := ((Below.refl _ _).drew).trans b5
        refine hK _ _ (hb5.mono (by omega)) ?_
        clear hK K b5
        try simp only [Act.put, List.setIfInBounds_toArray, List.set_cons_zero, List.set_cons_succ]
        repeat (refine walkH_read (by rfl) (by (intro gx; go_simp; try (with_reducible rfl))) ?_; try simp only [Act.put, List.setIfInBounds_toArray, List.set_cons_zero, List.set_cons_succ])
        refine walkH_do rfl (fun K hK => ?_)
        go_simp
        have hb6 : Below wr.heap.size wr (w5.alloc (.cells #[.string Z] 9)) := bt hb5 (below_alloc _ _)
        have cA : (w5.alloc (.cells #[.string Z] 9)).cell? ⟨w5.heap.size, 0, none⟩ = some (.string Z) := cell_of_one (heap_alloc_new w5 _)
        refine hK _ _ (hb6.mono (by omega)) ?_
        clear hK K
        try simp only [Act.put, List.setIfInBounds_toArray, List.set_cons_zero, List.set_cons_succ]
        have HO6 := hide ((unhide HO).below hb6)
        have HB6 := hide (hb6.mono (B' := W.heap.size + 1) (by omega))
        have BG6 := hide ((hb6.block _ hszr).trans (unhide BGr))
        have RX6 := hide ((hb6.block _ hrr).trans (unhide RXr))
        have HW6 := hide (bt (unhide HBr) hb6)
        have hsz6 := hb6.size
        clear hb6 hb5
        generalize (w5.alloc (.cells #[.string Z] 9)) = w6 at *
        refine walkH_do rfl (fun K hK => ?_)
        refine step_push _ (by rfl) (.tmp 19) (.tmp 21) 22 (by rfl) (W.heap.size + 1) 9 (.string ByteArray.empty) 16 Try.underlying22 Try.infoText rfl (.slice pv k cv) ((List.replicate k Z).map Value.string) (by simp [Act.eval]) (unhide HO6) (.string Z) (by rfl) w5.heap.size 0 (by simp [Act.eval]) cA (by rw [List.length_map, List.length_replicate]; omega) (by omega) (by omega) ?_
        intro v7 w7 O7 P7
        have hB7 : Below (W.heap.size + 1) wr w7 := P7.below (unhide HO6) (unhide HB6) (Nat.le_refl _) (by omega)
        have BG7 := hide ((P7.block (unhide HO6) (k := W.heap.size) (by omega) (by omega)).trans (unhide BG6))
        have RX7 := hide ((P7.block (unhide HO6) (k := w.heap.size) (by omega) (by omega)).trans (unhide RX6))
        have HW7 := hide (P7.below (unhide HO6) (unhide HW6) (by omega) (by omega))
        have HO7 := hide O7
        refine hK _ _ hB7 ?_
        clear hK K O7 P7 k1 cA HB6 BG6 RX6 HW6 HO6 hB7
        try simp only [Act.put, List.setIfInBounds_toArray, List.set_cons_zero, List.set_cons_succ]
        repeat (refine walkH_read (by rfl) (by (intro gx; go_simp; try (with_reducible rfl))) ?_; try simp only [Act.put, List.setIfInBounds_toArray, List.set_cons_zero, List.set_cons_succ])
        refine lastPost_of_list ?_
        simp only [List.cons_append, List.nil_append]
        obtain ⟨p7, c7, e7⟩ := (unhide HO7).form
        rw [List.length_append, List.length_map, List.length_replicate] at e7
        simp only [List.length_cons, List.length_nil, Nat.zero_add] at e7
        subst e7
        obtain ⟨z0, z1, z2⟩ := box_dsk (unhide BG7)
        have f1 := dsk_free (unhide BG7) 1
        go_wp2
        refine NoPanic.normal ?_
        go_wp2
        go_roundw
        case rel =>
          refine ⟨k + 1, _, by omega, by go_num, hide ?_, hide (dsk_set1 (unhide BG7)), hide ?_, hide ((unhide HW7).setCell (p := ⟨W.heap.size, 1, none⟩) (by show w.heap.size ≤ W.heap.size; omega) _)⟩
          · exact (Below.heap_setCell w7 ⟨W.heap.size, 1, none⟩ _ w.heap.size (by show w.heap.size ≠ W.heap.size; omega)).trans (unhide RX7)
          · have h := (unhide HO7).setBelow (a := ⟨W.heap.size, 1, none⟩) (Nat.lt_succ_self _) (.slice p7 (k + 1) c7)
            have e : (List.replicate (k + 1) Z).map Value.string = (List.replicate k Z).map Value.string ++ [.string Z] := by
              rw [List.replicate_succ']; simp
            rw [e]; exact h
        case measure => simp [intOf]; omega
      · have hlt' : ¬ (k : Int) < n := by omega
        obtain rfl : n = k := by omega
        obtain ⟨r0, r1, r2⟩ := box_dsk (unhide RXr)
        have f0 := dsk_free (unhide RXr) 0
        have f1 := dsk_free (unhide RXr) 1
        have f2 := dsk_free (unhide RXr) 2
        obtain ⟨q0, q1, q2⟩ := box_dsk (dsk_put (x' := .bool false) (y' := .slice pv n cv) (z' := .slice none 0 0) (unhide RXr))
        go_wp2
        refine bodyPost_ret (v := .tuple #[.agg #[.bool false, .slice pv n cv, .slice none 0 0], .int .i64 0]) (by simp [results, Try.results10, go_sem, q0, q1, q2]) rfl ?_
        rw [unhide hw, Int.toNat_natCast, ← unhide EZ]
        have hO : DskO wr (W.heap.size + 1) 9 62 (.agg #[.bool false, .slice pv n cv, .slice none 0 0]) ⟨false, List.replicate n Z, []⟩ := ⟨_, _, rfl, unhide HO, World.ownsRow_nil _ _ _ _⟩
        exact ⟨_, rfl, (hO.put (by have := unhide HSZ; omega) _ _ _).mono (by have := unhide HSZ; omega), below_put (unhide HBr) (Nat.le_refl _) _ _ _⟩
  · have hw : Hid (newD x = (dsk0, 1300)) := hide (by rw [newD, if_neg hok])
    obtain ⟨r0, r1, r2⟩ := box_dsk (unhide RX)
    have f0 := dsk_free (unhide RX) 0
    have f1 := dsk_free (unhide RX) 1
    have f2 := dsk_free (unhide RX) 2
    obtain ⟨z0, z1, z2⟩ := box_dsk (dsk_put (x' := .bool false) (y' := .slice none 0 0) (z' := .slice none 0 0) (unhide RX))
    have hBz := hide (below_put (unhide HB) (r := w.heap.size) (by omega) (.bool false) (.slice none 0 0) (.slice none 0 0))
    by_cases h1 : x < 1
    · have d1 : decide (x < 1) = true := decide_eq_true h1
      go_wp2
      refine bodyPost_ret (v := .tuple #[.agg #[.bool false, .slice none 0 0, .slice none 0 0], .int .i64 1300]) (by simp [results, Try.results10, go_sem, z0, z1, z2]) rfl ?_
      rw [unhide hw]
      exact ⟨_, rfl, DskO.zero _ _ _ _, unhide hBz⟩
    · have d1 : decide (x < 1) = false := decide_eq_false h1
      have h2 : (72 : Int) < x := by omega
      have d2 : decide ((72 : Int) < x) = true := decide_eq_true h2
      go_wp2
      refine bodyPost_ret (v := .tuple #[.agg #[.bool false, .slice none 0 0, .slice none 0 0], .int .i64 1300]) (by simp [results, Try.results10, go_sem, z0, z1, z2]) rfl ?_
      rw [unhide hw]
      exact ⟨_, rfl, DskO.zero _ _ _ _, unhide hBz⟩
end Go.Proofs.Ytpmbmhjhclekeaa
