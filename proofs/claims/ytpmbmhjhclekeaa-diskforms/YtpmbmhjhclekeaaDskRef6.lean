/- The document's own disks (ossuaryref13): Crash, Flush, Lose. -/
import Derived.Test.YtpmbmhjhclekeaaDskRef5
namespace Go.Proofs.Ytpmbmhjhclekeaa
open Go.RowKit
set_option linter.unusedVariables false
set_option linter.unusedSimpArgs false
attribute [local go_sem ↓] Go.wp_at_zero Go.wp_at_succ
set_option maxRecDepth 100000 in
set_option maxHeartbeats 1000000 in
theorem refCrash_any (d : Dsk) (sa : Option Addr) (n sc : Nat) (ca : Option Addr) (m cc : Nat) (keep : Int) (w : World) (hS : Strs w sa n sc d.secs) (hC : WrV w ca m cc d.cache) (hn : n * 16 ≤ 140737488351232) (hm : m * 24 ≤ 140737488351232) :
    Calls Try.prog 21 #[.agg #[.bool d.lost, .slice sa n sc, .slice ca m cc], .int .i64 keep] w (dskPost (crashD d keep) w) := by
  have hsl := hS.1
  have hcl := hC.1
  have HS := hide hS
  have HC := hide hC
  obtain ⟨b, eb⟩ : ∃ b, b = d.lost := ⟨_, rfl⟩
  have EB := hide eb
  rw [← eb]
  clear hS hC eb
  go_enter Try.func21, Try.ntmps21
  go_upto_region 1 with fail
  have HB := hide (below_two w (.cells #[.bool b, .slice sa n sc, .slice ca m cc] 25) (.cells #[.bool false, .slice none 0 0, .slice none 0 0] 25))
  have RX := hide (two_new w (.cells #[.bool b, .slice sa n sc, .slice ca m cc] 25) (.cells #[.bool false, .slice none 0 0, .slice none 0 0] 25))
  have BX := hide ((((below_alloc (w.alloc (.cells #[.bool b, .slice sa n sc, .slice ca m cc] 25)) (.cells #[.bool false, .slice none 0 0, .slice none 0 0] 25)).block w.heap.size (by simp)).trans (heap_alloc_new w (.cells #[.bool b, .slice sa n sc, .slice ca m cc] 25))))
  generalize ((w.alloc (.cells #[.bool b, .slice sa n sc, .slice ca m cc] 25)).alloc (.cells #[.bool false, .slice none 0 0, .slice none 0 0] 25)) = W at *
  obtain ⟨x0, x1, x2⟩ := box_dsk (unhide BX)
  go_wp2_with fail
  rw [unhide EB]
  refine (refState_any d sa n sc ca m cc W ((unhide HS).below (unhide HB)) ((unhide HC).below (unhide HB)) (by omega) (by omega)).mono ?_
  rintro e w1 ⟨rfl, b1⟩
  rw [← unhide EB]
  replace BX := hide ((b1.block _ (lt_of_block (unhide BX))).trans (unhide BX))
  replace RX := hide ((b1.block _ (lt_of_block (unhide RX))).trans (unhide RX))
  replace HB := hide (bt (unhide HB) b1)
  clear b1 x0 x1 x2
  obtain ⟨x0, x1, x2⟩ := box_dsk (unhide BX)
  obtain ⟨r0, r1, r2⟩ := box_dsk (unhide RX)
  have f0 := dsk_free (unhide RX) 0
  have f1 := dsk_free (unhide RX) 1
  have f2 := dsk_free (unhide RX) 2
  by_cases h0 : stateD d = 0
  · rw [h0]
    have H0 := hide h0
    have hw : Hid (crashD d keep = (lastsD d keep, 0)) := hide (by first | (rw [crashD, if_pos h0]) | (rw [flushD, crashD, if_pos h0]))
    clear h0
    have hr1 := lt_of_block (unhide RX)
    go_wp2_with fail
    rw [unhide EB]
    refine (refLasts_any d sa n sc ca m cc keep w1 ((unhide HS).below (unhide HB)) ((unhide HC).below (unhide HB)) (unhide H0)).mono ?_
    rintro e w2 ⟨v2, rfl, O2, b2⟩
    have hO := O2
    obtain ⟨pa, ka, pc, kc, ev, _, _⟩ := O2.read
    subst ev
    obtain ⟨l1, e1⟩ : ∃ l1, l1 = (lastsD d keep).secs.length := ⟨_, rfl⟩
    obtain ⟨l2, e2⟩ : ∃ l2, l2 = (lastsD d keep).cache.length := ⟨_, rfl⟩
    obtain ⟨lb, e3⟩ : ∃ lb, lb = (lastsD d keep).lost := ⟨_, rfl⟩
    rw [← e1, ← e2, ← e3] at hO ⊢
    rw [← unhide EB]
    have HO := hide hO
    replace RX := hide ((b2.block _ hr1).trans (unhide RX))
    replace HB := hide (bt (unhide HB) b2)
    clear b2 x0 x1 x2 r0 r1 r2 f0 f1 f2 O2 hO e1 e2 e3 BX
    obtain ⟨r0, r1, r2⟩ := box_dsk (unhide RX)
    have f0 := dsk_free (unhide RX) 0
    have f1 := dsk_free (unhide RX) 1
    have f2 := dsk_free (unhide RX) 2
    obtain ⟨q0, q1, q2⟩ := box_dsk (dsk_put (x' := .bool lb) (y' := .slice pa l1 ka) (z' := .slice pc l2 kc) (unhide RX))
    go_wp2
    refine bodyPost_ret (v := .tuple #[.agg #[.bool lb, .slice pa l1 ka, .slice pc l2 kc], .int .i64 0]) (by simp [results, Try.results21, go_sem, q0, q1, q2]) rfl ?_
    rw [unhide hw]
    exact ⟨_, rfl, ((unhide HO).put hr1 _ _ _).mono (by omega), below_put (unhide HB) (by omega) _ _ _⟩
  · have h0' := ne_zero h0
    have hw : crashD d keep = (dsk0, stateD d) := by first | (rw [crashD, if_neg h0]) | (rw [flushD, crashD, if_neg h0])
    obtain ⟨st, est⟩ : ∃ st, st = stateD d := ⟨_, rfl⟩
    rw [← est] at h0' hw ⊢
    have HWR := hide hw
    clear h0 est hw
    obtain ⟨z0, z1, z2⟩ := box_dsk (dsk_put (x' := .bool false) (y' := .slice none 0 0) (z' := .slice none 0 0) (unhide RX))
    have hBz := hide (below_put (unhide HB) (r := w.heap.size + 1) (by omega) (.bool false) (.slice none 0 0) (.slice none 0 0))
    go_wp2
    refine bodyPost_ret (v := .tuple #[.agg #[.bool false, .slice none 0 0, .slice none 0 0], .int .i64 st]) (by simp [results, Try.results21, go_sem, z0, z1, z2]) rfl ?_
    rw [unhide HWR]
    exact ⟨_, rfl, DskO.zero _ _ _ _, unhide hBz⟩
set_option maxRecDepth 100000 in
set_option maxHeartbeats 1000000 in
theorem refFlush_any (d : Dsk) (sa : Option Addr) (n sc : Nat) (ca : Option Addr) (m cc : Nat) (w : World) (hS : Strs w sa n sc d.secs) (hC : WrV w ca m cc d.cache) (hn : n * 16 ≤ 140737488351232) (hm : m * 24 ≤ 140737488351232) :
    Calls Try.prog 19 #[.agg #[.bool d.lost, .slice sa n sc, .slice ca m cc]] w (dskPost (flushD d) w) := by
  have hsl := hS.1
  have hcl := hC.1
  have HS := hide hS
  have HC := hide hC
  obtain ⟨b, eb⟩ : ∃ b, b = d.lost := ⟨_, rfl⟩
  have EB := hide eb
  rw [← eb]
  clear hS hC eb
  go_enter Try.func19, Try.ntmps19
  go_upto_region 1 with fail
  have HB := hide (below_two w (.cells #[.bool b, .slice sa n sc, .slice ca m cc] 25) (.cells #[.bool false, .slice none 0 0, .slice none 0 0] 25))
  have RX := hide (two_new w (.cells #[.bool b, .slice sa n sc, .slice ca m cc] 25) (.cells #[.bool false, .slice none 0 0, .slice none 0 0] 25))
  have BX := hide ((((below_alloc (w.alloc (.cells #[.bool b, .slice sa n sc, .slice ca m cc] 25)) (.cells #[.bool false, .slice none 0 0, .slice none 0 0] 25)).block w.heap.size (by simp)).trans (heap_alloc_new w (.cells #[.bool b, .slice sa n sc, .slice ca m cc] 25))))
  generalize ((w.alloc (.cells #[.bool b, .slice sa n sc, .slice ca m cc] 25)).alloc (.cells #[.bool false, .slice none 0 0, .slice none 0 0] 25)) = W at *
  obtain ⟨x0, x1, x2⟩ := box_dsk (unhide BX)
  go_wp2_with fail
  rw [unhide EB]
  refine (refState_any d sa n sc ca m cc W ((unhide HS).below (unhide HB)) ((unhide HC).below (unhide HB)) (by omega) (by omega)).mono ?_
  rintro e w1 ⟨rfl, b1⟩
  rw [← unhide EB]
  replace BX := hide ((b1.block _ (lt_of_block (unhide BX))).trans (unhide BX))
  replace RX := hide ((b1.block _ (lt_of_block (unhide RX))).trans (unhide RX))
  replace HB := hide (bt (unhide HB) b1)
  clear b1 x0 x1 x2
  obtain ⟨x0, x1, x2⟩ := box_dsk (unhide BX)
  obtain ⟨r0, r1, r2⟩ := box_dsk (unhide RX)
  have f0 := dsk_free (unhide RX) 0
  have f1 := dsk_free (unhide RX) 1
  have f2 := dsk_free (unhide RX) 2
  by_cases h0 : stateD d = 0
  · rw [h0]
    have H0 := hide h0
    have hw : Hid (flushD d = (lastsD d (-1), 0)) := hide (by first | (rw [crashD, if_pos h0]) | (rw [flushD, crashD, if_pos h0]))
    clear h0
    have hr1 := lt_of_block (unhide RX)
    go_wp2_with fail
    rw [unhide EB]
    refine (refLasts_any d sa n sc ca m cc (-1) w1 ((unhide HS).below (unhide HB)) ((unhide HC).below (unhide HB)) (unhide H0)).mono ?_
    rintro e w2 ⟨v2, rfl, O2, b2⟩
    have hO := O2
    obtain ⟨pa, ka, pc, kc, ev, _, _⟩ := O2.read
    subst ev
    obtain ⟨l1, e1⟩ : ∃ l1, l1 = (lastsD d (-1)).secs.length := ⟨_, rfl⟩
    obtain ⟨l2, e2⟩ : ∃ l2, l2 = (lastsD d (-1)).cache.length := ⟨_, rfl⟩
    obtain ⟨lb, e3⟩ : ∃ lb, lb = (lastsD d (-1)).lost := ⟨_, rfl⟩
    rw [← e1, ← e2, ← e3] at hO ⊢
    rw [← unhide EB]
    have HO := hide hO
    replace RX := hide ((b2.block _ hr1).trans (unhide RX))
    replace HB := hide (bt (unhide HB) b2)
    clear b2 x0 x1 x2 r0 r1 r2 f0 f1 f2 O2 hO e1 e2 e3 BX
    obtain ⟨r0, r1, r2⟩ := box_dsk (unhide RX)
    have f0 := dsk_free (unhide RX) 0
    have f1 := dsk_free (unhide RX) 1
    have f2 := dsk_free (unhide RX) 2
    obtain ⟨q0, q1, q2⟩ := box_dsk (dsk_put (x' := .bool lb) (y' := .slice pa l1 ka) (z' := .slice pc l2 kc) (unhide RX))
    go_wp2
    refine bodyPost_ret (v := .tuple #[.agg #[.bool lb, .slice pa l1 ka, .slice pc l2 kc], .int .i64 0]) (by simp [results, Try.results19, go_sem, q0, q1, q2]) rfl ?_
    rw [unhide hw]
    exact ⟨_, rfl, ((unhide HO).put hr1 _ _ _).mono (by omega), below_put (unhide HB) (by omega) _ _ _⟩
  · have h0' := ne_zero h0
    have hw : flushD d = (dsk0, stateD d) := by first | (rw [crashD, if_neg h0]) | (rw [flushD, crashD, if_neg h0])
    obtain ⟨st, est⟩ : ∃ st, st = stateD d := ⟨_, rfl⟩
    rw [← est] at h0' hw ⊢
    have HWR := hide hw
    clear h0 est hw
    obtain ⟨z0, z1, z2⟩ := box_dsk (dsk_put (x' := .bool false) (y' := .slice none 0 0) (z' := .slice none 0 0) (unhide RX))
    have hBz := hide (below_put (unhide HB) (r := w.heap.size + 1) (by omega) (.bool false) (.slice none 0 0) (.slice none 0 0))
    go_wp2
    refine bodyPost_ret (v := .tuple #[.agg #[.bool false, .slice none 0 0, .slice none 0 0], .int .i64 st]) (by simp [results, Try.results19, go_sem, z0, z1, z2]) rfl ?_
    rw [unhide HWR]
    exact ⟨_, rfl, DskO.zero _ _ _ _, unhide hBz⟩
set_option maxRecDepth 100000 in
set_option maxHeartbeats 1000000 in
theorem refLose_any (d : Dsk) (sa : Option Addr) (n sc : Nat) (ca : Option Addr) (m cc : Nat) (w : World) (hS : Strs w sa n sc d.secs) (hC : WrV w ca m cc d.cache) (hn : n * 16 ≤ 140737488351232) (hm : m * 24 ≤ 140737488351232) :
    Calls Try.prog 25 #[.agg #[.bool d.lost, .slice sa n sc, .slice ca m cc]] w (dskPost (loseD d) w) := by
  have hsl := hS.1
  have hcl := hC.1
  have HS := hide hS
  have HC := hide hC
  obtain ⟨b, eb⟩ : ∃ b, b = d.lost := ⟨_, rfl⟩
  have EB := hide eb
  rw [← eb]
  clear hS hC eb
  go_enter Try.func25, Try.ntmps25
  go_upto_region 1 with fail
  have HB := hide (below_two w (.cells #[.bool b, .slice sa n sc, .slice ca m cc] 25) (.cells #[.bool false, .slice none 0 0, .slice none 0 0] 25))
  have RX := hide (two_new w (.cells #[.bool b, .slice sa n sc, .slice ca m cc] 25) (.cells #[.bool false, .slice none 0 0, .slice none 0 0] 25))
  have BX := hide ((((below_alloc (w.alloc (.cells #[.bool b, .slice sa n sc, .slice ca m cc] 25)) (.cells #[.bool false, .slice none 0 0, .slice none 0 0] 25)).block w.heap.size (by simp)).trans (heap_alloc_new w (.cells #[.bool b, .slice sa n sc, .slice ca m cc] 25))))
  generalize ((w.alloc (.cells #[.bool b, .slice sa n sc, .slice ca m cc] 25)).alloc (.cells #[.bool false, .slice none 0 0, .slice none 0 0] 25)) = W at *
  obtain ⟨x0, x1, x2⟩ := box_dsk (unhide BX)
  go_wp2_with fail
  rw [unhide EB]
  refine (refDiskMay_any d sa n sc ca m cc W ((unhide HS).below (unhide HB)) ((unhide HC).below (unhide HB)) (by omega) (by omega)).mono ?_
  rintro e w1 ⟨rfl, b1⟩
  rw [← unhide EB]
  replace BX := hide ((b1.block _ (lt_of_block (unhide BX))).trans (unhide BX))
  replace RX := hide ((b1.block _ (lt_of_block (unhide RX))).trans (unhide RX))
  replace HB := hide (bt (unhide HB) b1)
  clear b1 x0 x1 x2
  obtain ⟨x0, x1, x2⟩ := box_dsk (unhide BX)
  obtain ⟨r0, r1, r2⟩ := box_dsk (unhide RX)
  have f0 := dsk_free (unhide RX) 0
  have f1 := dsk_free (unhide RX) 1
  have f2 := dsk_free (unhide RX) 2
  by_cases hM : MayD d
  · rw [decide_eq_true hM]
    have hw : Hid (loseD d = (⟨true, [], []⟩, 0)) := hide (by rw [loseD, if_pos hM])
    clear hM
    obtain ⟨q0, q1, q2⟩ := box_dsk (dsk_put (x' := .bool true) (y' := .slice none 0 0) (z' := .slice none 0 0) (unhide RX))
    have hBz := hide (below_put (unhide HB) (r := w.heap.size + 1) (by omega) (.bool true) (.slice none 0 0) (.slice none 0 0))
    go_wp2
    refine bodyPost_ret (v := .tuple #[.agg #[.bool true, .slice none 0 0, .slice none 0 0], .int .i64 0]) (by simp [results, Try.results25, go_sem, q0, q1, q2]) rfl ?_
    rw [unhide hw]
    exact ⟨_, rfl, ⟨_, _, rfl, OwnL.nil _ _ _, World.ownsRow_nil _ _ _ _⟩, unhide hBz⟩
  · rw [decide_eq_false hM]
    have hw : Hid (loseD d = (dsk0, 1300)) := hide (by rw [loseD, if_neg hM])
    clear hM
    obtain ⟨z0, z1, z2⟩ := box_dsk (dsk_put (x' := .bool false) (y' := .slice none 0 0) (z' := .slice none 0 0) (unhide RX))
    have hBz := hide (below_put (unhide HB) (r := w.heap.size + 1) (by omega) (.bool false) (.slice none 0 0) (.slice none 0 0))
    go_wp2
    refine bodyPost_ret (v := .tuple #[.agg #[.bool false, .slice none 0 0, .slice none 0 0], .int .i64 1300]) (by simp [results, Try.results25, go_sem, z0, z1, z2]) rfl ?_
    rw [unhide hw]
    exact ⟨_, rfl, DskO.zero _ _ _ _, unhide hBz⟩
end Go.Proofs.Ytpmbmhjhclekeaa
