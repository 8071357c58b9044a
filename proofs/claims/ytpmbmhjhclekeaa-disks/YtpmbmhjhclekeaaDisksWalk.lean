/- The Go text of the statement Disks returns true, whatever the disk and the acts. -/
import Derived.Test.YtpmbmhjhclekeaaDskActs
import Derived.Deep.CutBlock
import Derived.Deep.CutRange
namespace Go.Proofs.Ytpmbmhjhclekeaa
open Go.RowKit
set_option linter.unusedVariables false
set_option linter.unusedSimpArgs false
attribute [local go_sem ↓] Go.wp_at_zero Go.wp_at_succ
theorem same_dd {W : World} (x : GrownW W) {d : Dsk} {sa ca sb cb : Option Addr} {sc cc sd cd : Nat} (hS : Strs W sa d.secs.length sc d.secs) (hC : WrV W ca d.cache.length cc d.cache) (hS' : Strs W sb d.secs.length sd d.secs) (hC' : WrV W cb d.cache.length cd d.cache) (hn : d.secs.length ≤ maxLen) (hm : d.cache.length ≤ maxLen) :
    Calls Try.prog 11 #[.agg #[.bool d.lost, .slice sa d.secs.length sc, .slice ca d.cache.length cc], .agg #[.bool d.lost, .slice sb d.secs.length sd, .slice cb d.cache.length cd]] x.val fun r w' => r = .returned (.bool true) ∧ Below x.val.heap.size x.val w' := by
  refine (sameDisk_any d d _ _ _ _ _ _ _ _ _ _ _ _ _ (hS.below x.prop) (hC.below x.prop) (hS'.below x.prop) (hC'.below x.prop) hn hm).mono ?_
  rintro e w' ⟨he, hb⟩
  rw [decide_eq_true (sameD_refl d)] at he
  exact ⟨he, hb⟩
theorem may_d {W : World} (x : GrownW W) {d : Dsk} {sa ca : Option Addr} {sc cc : Nat} (hS : Strs W sa d.secs.length sc d.secs) (hC : WrV W ca d.cache.length cc d.cache) (hn : d.secs.length ≤ 140737488351232) (hm : d.cache.length ≤ 140737488351232) :
    Calls Try.prog 26 #[.agg #[.bool d.lost, .slice sa d.secs.length sc, .slice ca d.cache.length cc]] x.val fun r w' => r = .returned (.bool (decide (MayD d))) ∧ Below x.val.heap.size x.val w' := diskMay_any d _ _ _ _ _ _ _ (hS.below x.prop) (hC.below x.prop) hn hm
theorem may_r {W : World} (x : GrownW W) {d : Dsk} {sa ca : Option Addr} {sc cc : Nat} (hS : Strs W sa d.secs.length sc d.secs) (hC : WrV W ca d.cache.length cc d.cache) (hn : d.secs.length ≤ 140737488351232) (hm : d.cache.length ≤ 140737488351232) :
    Calls Try.prog 27 #[.agg #[.bool d.lost, .slice sa d.secs.length sc, .slice ca d.cache.length cc]] x.val fun r w' => r = .returned (.bool (decide (MayD d))) ∧ Below x.val.heap.size x.val w' := refDiskMay_any d _ _ _ _ _ _ _ (hS.below x.prop) (hC.below x.prop) hn hm
set_option maxRecDepth 100000 in
set_option maxHeartbeats 8000000 in
theorem Disks_walk {w : World} (d : Dsk) (sa : Option Addr) (n sc : Nat) (ca : Option Addr) (m cc : Nat) (hS : Strs w sa n sc d.secs) (hC : WrV w ca m cc d.cache) (hn : n * 16 ≤ 140737488351232) (hm : m * 24 ≤ 140737488351232) (q1 : ∀ x ∈ d.secs, x.size ≤ 140737488351232) (q2 : ∀ x ∈ d.cache, (Lit.int .i64 x.1).wf = true ∧ x.2.size ≤ 140737488351232)
    (fr : Int) (wfr : (Lit.int .i64 fr).wf = true) (aa : Option Addr) (na capa : Nat) (zs : List ActR) (hz : ActV w aa na capa zs) (hna : na * 48 ≤ 140737488351232) : Calls Try.prog 3 #[.agg #[.bool d.lost, .slice sa n sc, .slice ca m cc], .int .i64 fr, .slice aa na capa] w fun e w' => e = .returned (.bool true) ∧ Below w.heap.size w w' := by
  clear q1 q2 wfr
  obtain rfl : d.secs.length = n := hS.1
  obtain rfl : d.cache.length = m := hC.1
  have HZ := hide hz
  have HFD := hide (show FitD d from ⟨hn, hm⟩)
  have HS := hide hS
  have HC := hide hC
  have na2 : na ≤ 140737488351232 := by omega
  clear hz hn hm hS hC hna
  go_enter Try.func3, Try.ntmps3
  go_upto_region 1 with fail
  have VP : Hid (DVar (w.alloc (.cells #[.bool d.lost, .slice sa d.secs.length sc, .slice ca d.cache.length cc] 25)) w.heap.size w.heap.size d) := hide ⟨⟨sa, sc, ca, cc, heap_alloc_new w _, (unhide HS).below (below_alloc _ _), (unhide HC).below (below_alloc _ _)⟩, Nat.le_refl _, by simp⟩
  have HB := hide (below_alloc w (.cells #[.bool d.lost, .slice sa d.secs.length sc, .slice ca d.cache.length cc] 25))
  generalize (w.alloc (.cells #[.bool d.lost, .slice sa d.secs.length sc, .slice ca d.cache.length cc] 25)) = W3 at *
  clear HS HC
  obtain ⟨⟨sa', sc', ca', cc', hbx, hS, hC⟩, hlt⟩ := unhide VP
  obtain ⟨x0, x1, x2⟩ := box_dsk hbx
  have HS := hide hS
  have HC := hide hC
  clear hbx hlt hS hC
  go_upto_region 2 with fail
  have V7 : Hid (DVar (W3.alloc (.cells #[.bool d.lost, .slice sa' d.secs.length sc', .slice ca' d.cache.length cc'] 25)) w.heap.size W3.heap.size d) := hide ⟨⟨sa', sc', ca', cc', heap_alloc_new W3 _, (unhide HS).below (below_alloc _ _), (unhide HC).below (below_alloc _ _)⟩, (unhide HB).size, by simp⟩
  replace HB := hide (bt (unhide HB) (below_alloc W3 (.cells #[.bool d.lost, .slice sa' d.secs.length sc', .slice ca' d.cache.length cc'] 25)))
  clear x0 x1 x2 HS HC VP
  generalize (W3.alloc (.cells #[.bool d.lost, .slice sa' d.secs.length sc', .slice ca' d.cache.length cc'] 25)) = W7 at *
  generalize W3.heap.size = g7 at *
  go_upto_if 35 with fail
  go_cut [] from 34 to 56 (fun wr => ∃ d0 : Dsk, Hid (FitD d0) ∧ Hid (DVar wr w.heap.size g7 d0) ∧ Hid (Below w.heap.size w wr))
  case first =>
    by_cases hf : 0 < fr
    · obtain ⟨r, er⟩ : ∃ r, r = newD fr := ⟨_, rfl⟩
      have ER := hide er
      clear er
      go_wp2_with fail
      refine (diskNew_any fr _).mono ?_
      rintro e wr1 ⟨v, he, O, b1⟩
      rw [← unhide ER] at he O
      obtain ⟨pa1, ka1, pc1, kc1, ev, hS1, hC1⟩ := O.read
      subst ev
      subst he
      replace V7 := hide ((unhide V7).below b1)
      replace HB := hide (bt (unhide HB) b1)
      clear b1  O
      go_upto_region 4 with fail
      have V8 : Hid (DVar (wr1.alloc (.cells #[.bool r.1.lost, .slice pa1 r.1.secs.length ka1, .slice pc1 r.1.cache.length kc1] 25)) w.heap.size wr1.heap.size r.1) := hide ⟨⟨pa1, ka1, pc1, kc1, heap_alloc_new wr1 _, hS1.below (below_alloc _ _), hC1.below (below_alloc _ _)⟩, (unhide HB).size, by simp⟩
      have bb1 := below_alloc wr1 (.cells #[.bool r.1.lost, .slice pa1 r.1.secs.length ka1, .slice pc1 r.1.cache.length kc1] 25)
      replace V7 := hide ((unhide V7).below bb1)
      replace HB := hide (bt (unhide HB) bb1)
      clear bb1 hS1 hC1
      generalize (wr1.alloc (.cells #[.bool r.1.lost, .slice pa1 r.1.secs.length ka1, .slice pc1 r.1.cache.length kc1] 25)) = WD1 at *
      go_wp2_with fail
      refine (refNewDisk_any fr _).mono ?_
      rintro e wr2 ⟨v, he, O, b2⟩
      rw [← unhide ER] at he O
      obtain ⟨pa2, ka2, pc2, kc2, ev, hS2, hC2⟩ := O.read
      subst ev
      subst he
      replace V7 := hide ((unhide V7).below b2)
      replace V8 := hide ((unhide V8).below b2)
      replace HB := hide (bt (unhide HB) b2)
      clear b2  O
      have NE := hide (Nat.ne_of_gt (unhide V7).lt.2)
      go_upto_region 5 with fail
      have V10 : Hid (DVar (wr2.alloc (.cells #[.bool r.1.lost, .slice pa2 r.1.secs.length ka2, .slice pc2 r.1.cache.length kc2] 25)) w.heap.size wr2.heap.size r.1) := hide ⟨⟨pa2, ka2, pc2, kc2, heap_alloc_new wr2 _, hS2.below (below_alloc _ _), hC2.below (below_alloc _ _)⟩, (unhide HB).size, by simp⟩
      have bb2 := below_alloc wr2 (.cells #[.bool r.1.lost, .slice pa2 r.1.secs.length ka2, .slice pc2 r.1.cache.length kc2] 25)
      replace V7 := hide ((unhide V7).below bb2)
      replace V8 := hide ((unhide V8).below bb2)
      replace HB := hide (bt (unhide HB) bb2)
      clear bb2 hS2 hC2
      generalize (wr2.alloc (.cells #[.bool r.1.lost, .slice pa2 r.1.secs.length ka2, .slice pc2 r.1.cache.length kc2] 25)) = WD2 at *
      have HSM : Hid (Small r.1) := hide (by rw [unhide ER]; exact small_new fr)
      obtain ⟨⟨sa, sc, ca, cc, hbx, hS, hC⟩, hlt⟩ := unhide V8
      obtain ⟨x0, x1, x2⟩ := box_dsk hbx
      obtain ⟨⟨sb, sd, cb, cd, hby, hT, hD⟩, hlu⟩ := unhide V10
      obtain ⟨y0, y1, y2⟩ := box_dsk hby
      clear hbx hby hlt hlu
      go_wp2_with fail
      refine (sameDisk_any r.1 r.1 _ _ _ _ _ _ _ _ _ _ _ _ _ hS hC hT hD (unhide HSM).fit.lens.1.1 (unhide HSM).fit.lens.1.2).mono ?_
      rintro e wf1 ⟨rfl, bf1⟩
      rw [decide_eq_true (sameD_refl r.1)]
      clear x0 x1 x2 y0 y1 y2 hS hC hT hD
      replace V7 := hide ((unhide V7).below bf1)
      replace V10 := hide ((unhide V10).below bf1)
      replace HB := hide (bt (unhide HB) bf1)
      clear bf1
      clear V8
      have hnn : (r.2 != r.2) = false := by simp
      go_upto_region 7 with (go_at_call 12; refine (num_any _ _).mono ?_; rintro e w' ⟨rfl, hw'⟩; rw [hw']; clear hw' w')
      obtain ⟨⟨sa, sc, ca, cc, hbx, hS, hC⟩, hlt⟩ := unhide V10
      obtain ⟨x0, x1, x2⟩ := box_dsk hbx
      obtain ⟨⟨sb, sd, cb, cd, hbt, hT, hD⟩, hlu⟩ := unhide V7
      obtain ⟨y0, y1, y2⟩ := box_dsk hbt
      have q0 := dsk_free hbt 0
      have q1 := dsk_free hbt 1
      have q2 := dsk_free hbt 2
      clear hbx hlt hbt hT hD hlu
      go_wp2_with fail
      have hVT := (unhide V7).put hS hC
      replace HB := hide (below_put (unhide HB) (unhide V7).lt.1 (.bool r.1.lost) (.slice sa r.1.secs.length sc) (.slice ca r.1.cache.length cc))
      replace V7 := hide hVT
      clear hVT x0 x1 x2 y0 y1 y2 q0 q1 q2 hS hC
      generalize ((((wf1).setCell ⟨g7, 0, none⟩ (.bool r.1.lost)).setCell ⟨g7, 1, none⟩ (.slice sa r.1.secs.length sc)).setCell ⟨g7, 2, none⟩ (.slice ca r.1.cache.length cc)) = WS0 at *
      go_meet
      case rel => exact ⟨r.1, hide (unhide HSM).fit, V7, HB⟩
    · have hf' : ¬ (0 : Int) < fr := hf
      go_wp2
      go_meet
      case rel => exact ⟨d, HFD, V7, HB⟩
  case rest =>
    clear V7 HB HFD
    obtain ⟨d0, HF0, V7, HB⟩ := hcut
    go_wp2
    go_loopw [12] (fun iv wr => ∃ (k : Nat) (q : Dsk), k ≤ na ∧ k ≤ 40 ∧ iv = .int .i64 k ∧ Hid (FitD q) ∧ Hid (DVar wr w.heap.size g7 q) ∧ Hid (Below w.heap.size w wr)) (fun iv _ => na - (intOf iv).toNat)
    case atStart => exact ⟨0, d0, Nat.zero_le _, by decide, rfl, HF0, V7, HB⟩
    case round =>
      clear V7 HB HF0
      obtain ⟨k, q, hk, hk40, rfl, HF, V7, HB⟩ := hrel
      by_cases hend : k < na ∧ k < 40
      · obtain ⟨hkn, h40⟩ := hend
        have hkn' : (k : Int) < na := by omega
        have h40' : (k : Int) < 40 := by omega
        obtain ⟨b, off, rfl, hc⟩ := (unhide HZ).at hkn
        obtain ⟨c0, c1, c2, c3, c4⟩ := hc k hkn
        obtain ⟨z, ez⟩ : ∃ z, z = zs.getD k act0 := ⟨_, rfl⟩
        rw [← ez] at c0 c1 c2 c3 c4
        obtain ⟨kd, av, tx, pv, yv⟩ := z
        simp only at c0 c1 c2 c3 c4
        have e0 := ((unhide HB).cell (cell_lt c0)).trans c0
        have e1 := ((unhide HB).cell (cell_lt c1)).trans c1
        have e2 := ((unhide HB).cell (cell_lt c2)).trans c2
        have e3 := ((unhide HB).cell (cell_lt c3)).trans c3
        have e4 := ((unhide HB).cell (cell_lt c4)).trans c4
        clear ez hc c0 c1 c2 c3 c4
        have HKN := hide hkn
        have HK := hide h40
        have HG7 := hide (unhide V7).lt.1
        go_upto_region 12 with fail
        have A13 := hide (heap_alloc_new wr (.cells #[.int .i64 kd, .int .i64 av, .string tx, .int .i64 pv, .int .i64 yv] 35))
        have bb := below_alloc wr (.cells #[.int .i64 kd, .int .i64 av, .string tx, .int .i64 pv, .int .i64 yv] 35)
        have N13 := hide (show wr.heap.size ≠ g7 from Nat.ne_of_gt (unhide V7).lt.2)
        replace V7 := hide ((unhide V7).below bb)
        replace HB := hide (bt (unhide HB) bb)
        clear bb e0 e1 e2 e3 e4
        generalize (wr.alloc (.cells #[.int .i64 kd, .int .i64 av, .string tx, .int .i64 pv, .int .i64 yv] 35)) = W13 at *
        generalize wr.heap.size = g13 at *
        obtain ⟨⟨sa, sc, ca, cc, hbx, hS, hC⟩, hlt⟩ := unhide V7
        obtain ⟨x0, x1, x2⟩ := box_dsk hbx
        go_wp2_with fail
        refine (copyDisk_any q _ _ _ _ _ _ _ hS hC (unhide HF).1 (unhide HF).2).mono ?_
        rintro e wr4 ⟨v, he, O, b4⟩
        obtain ⟨pa4, ka4, pc4, kc4, ev, hS4, hC4⟩ := O.read
        subst ev
        subst he
        replace A13 := hide ((b4.block _ (lt_of_block (unhide A13))).trans (unhide A13))
        replace V7 := hide ((unhide V7).below b4)
        replace HB := hide (bt (unhide HB) b4)
        clear b4 hbx hS hC hlt x0 x1 x2 O
        go_upto_region 13 with fail
        have HS4 := hide hS4
        have HC4 := hide hC4
        clear hS4 hC4
        have V14 : Hid (DVar (wr4.alloc (.cells #[.bool q.lost, .slice pa4 q.secs.length ka4, .slice pc4 q.cache.length kc4] 25)) w.heap.size wr4.heap.size q) := hide ⟨⟨pa4, ka4, pc4, kc4, heap_alloc_new wr4 _, (unhide HS4).below (below_alloc _ _), (unhide HC4).below (below_alloc _ _)⟩, (unhide HB).size, by simp⟩
        have bb := below_alloc wr4 (.cells #[.bool q.lost, .slice pa4 q.secs.length ka4, .slice pc4 q.cache.length kc4] 25)
        replace A13 := hide ((bb.block _ (lt_of_block (unhide A13))).trans (unhide A13))
        replace V7 := hide ((unhide V7).below bb)
        replace HB := hide (bt (unhide HB) bb)
        clear bb HS4 HC4
        generalize (wr4.alloc (.cells #[.bool q.lost, .slice pa4 q.secs.length ka4, .slice pc4 q.cache.length kc4] 25)) = W14 at *
        generalize wr4.heap.size = g14 at *
        go_upto_region 14 with fail
        have hz15 : (W14.alloc (.cells #[.bool false, .slice none 0 0, .slice none 0 0] 25)).heap[W14.heap.size]? = some (.cells #[.bool false, .slice none 0 0, .slice none 0 0] 25 (0, 0)) := heap_alloc_new W14 _
        have hs15 : (W14.alloc (.cells #[.bool false, .slice none 0 0, .slice none 0 0] 25)).heap.size = W14.heap.size + 1 := by simp
        have hz16 := heap_alloc_new (W14.alloc (.cells #[.bool false, .slice none 0 0, .slice none 0 0] 25)) (.cells #[.bool false, .slice none 0 0, .slice none 0 0] 25)
        rw [hs15] at hz16
        have bb := below_alloc W14 (.cells #[.bool false, .slice none 0 0, .slice none 0 0] 25)
        have bc := below_alloc (W14.alloc (.cells #[.bool false, .slice none 0 0, .slice none 0 0] 25)) (.cells #[.bool false, .slice none 0 0, .slice none 0 0] 25)
        have hz15' := (bc.block W14.heap.size (by rw [hs15]; omega)).trans hz15
        have bd := bt bb bc
        have N15 := hide (show W14.heap.size ≠ g7 ∧ W14.heap.size ≠ g14 ∧ W14.heap.size ≠ g13 from ⟨Nat.ne_of_gt (unhide V7).lt.2, Nat.ne_of_gt (unhide V14).lt.2, Nat.ne_of_gt (lt_of_block (unhide A13))⟩)
        have N16 := hide (show W14.heap.size + 1 ≠ g7 ∧ W14.heap.size + 1 ≠ g14 ∧ W14.heap.size + 1 ≠ g13 ∧ W14.heap.size + 1 ≠ W14.heap.size from ⟨by have := (unhide V7).lt.2; omega, by have := (unhide V14).lt.2; omega, by have := lt_of_block (unhide A13); omega, by omega⟩)
        have hg15 : w.heap.size ≤ W14.heap.size := (unhide HB).size
        have HG15 := hide hg15
        have HG16' := hide (show w.heap.size ≤ W14.heap.size + 1 by omega)
        replace A13 := hide ((bd.block _ (lt_of_block (unhide A13))).trans (unhide A13))
        have A15 := hide hz15'
        have A16 := hide hz16
        replace V7 := hide ((unhide V7).below bd)
        replace V14 := hide ((unhide V14).below bd)
        replace HB := hide (bt (unhide HB) bd)
        clear bb bc bd hz15 hz16 hz15' hs15 hg15
        generalize ((W14.alloc (.cells #[.bool false, .slice none 0 0, .slice none 0 0] 25)).alloc (.cells #[.bool false, .slice none 0 0, .slice none 0 0] 25)) = W16 at *
        obtain ⟨g16, eg16⟩ : ∃ g16, g16 = W14.heap.size + 1 := ⟨_, rfl⟩
        have HG16 : Hid (w.heap.size ≤ g16) := hide (by rw [eg16]; exact unhide HG16')
        clear HG16'
        rw [← eg16] at N16 A16 ⊢
        generalize W14.heap.size = g15 at *
        clear eg16
        obtain ⟨y0, y1, y2, y3, y4⟩ : W16.cell? ⟨g13, 0, none⟩ = some (.int .i64 kd) ∧ W16.cell? ⟨g13, 1, none⟩ = some (.int .i64 av) ∧ W16.cell? ⟨g13, 2, none⟩ = some (.string tx) ∧ W16.cell? ⟨g13, 3, none⟩ = some (.int .i64 pv) ∧ W16.cell? ⟨g13, 4, none⟩ = some (.int .i64 yv) := box_act (unhide A13)
        go_upto_block 2 with fail
        clear y0 y1 y2 y3 y4
        go_cut [17, 18, 19, 20] from 77 to 192 (fun ev fv sv uv wr => ∃ (r : Dsk × Int) (s : ByteArray) (B1 M : Nat), ev = .int .i64 r.2 ∧ fv = .int .i64 r.2 ∧ sv = .string s ∧ uv = .string s ∧ Hid (Small r.1) ∧ Hid (g7 < B1 ∧ g13 < B1 ∧ g14 < B1 ∧ g15 < B1 ∧ g16 < B1 ∧ w.heap.size ≤ B1 ∧ B1 ≤ wr.heap.size) ∧ Hid (wr.heap[g13]? = some (.cells #[.int .i64 kd, .int .i64 av, .string tx, .int .i64 pv, .int .i64 yv] 35 (0, 0))) ∧ Hid (DVarK (fun k => k < B1 ∨ M ≤ k) wr g7 q) ∧ Hid (DVarK (fun k => k < B1 ∨ M ≤ k) wr g14 q) ∧ Hid (DVarK (fun k => k < B1 ∨ M ≤ k) wr g16 r.1) ∧ Hid (DOwn wr B1 M g15 r.1) ∧ Hid (Below w.heap.size w wr))
        case first =>
          by_cases h0 : kd = 0
          · have t0 : (kd == 0) = true := by simp [h0]
            have H0 := hide h0
            clear h0
            obtain ⟨r, er⟩ : ∃ r, r = readD q av := ⟨_, rfl⟩
            have ER := hide er
            clear er
            obtain ⟨y0, y1, y2, y3, y4⟩ := box_act (unhide A13)
            obtain ⟨⟨sa, sc, ca, cc, hbx, hS, hC⟩, hlt⟩ := unhide V14
            obtain ⟨x0, x1, x2⟩ := box_dsk hbx
            go_wp2_with fail
            refine (diskRead_any q _ _ _ _ _ _ av _ hS hC (unhide HF).lens.2.1 (unhide HF).lens.2.2).mono ?_
            rintro e wr1 ⟨he, b1⟩
            rw [← unhide ER] at he
            subst he
            replace A13 := hide ((b1.block _ (lt_of_block (unhide A13))).trans (unhide A13))
            replace A15 := hide ((b1.block _ (lt_of_block (unhide A15))).trans (unhide A15))
            replace A16 := hide ((b1.block _ (lt_of_block (unhide A16))).trans (unhide A16))
            replace V7 := hide ((unhide V7).below b1)
            replace V14 := hide ((unhide V14).below b1)
            replace HB := hide (bt (unhide HB) b1)
            clear b1 hbx hS hC hlt x0 x1 x2 y0 y1 y2 y3 y4
            obtain ⟨y0, y1, y2, y3, y4⟩ := box_act (unhide A13)
            obtain ⟨⟨sa, sc, ca, cc, hbx, hS, hC⟩, hlt⟩ := unhide V7
            obtain ⟨x0, x1, x2⟩ := box_dsk hbx
            go_wp2_with (go_at_call 12; refine (num_any _ _).mono ?_; rintro e w' ⟨rfl, hw'⟩; rw [hw']; clear hw' w')
            refine (refRead_any q _ _ _ _ _ _ av _ hS hC (unhide HF).lens.2.1 (unhide HF).lens.2.2).mono ?_
            rintro e wr2 ⟨he, b1⟩
            rw [← unhide ER] at he
            subst he
            replace A13 := hide ((b1.block _ (lt_of_block (unhide A13))).trans (unhide A13))
            replace A15 := hide ((b1.block _ (lt_of_block (unhide A15))).trans (unhide A15))
            replace A16 := hide ((b1.block _ (lt_of_block (unhide A16))).trans (unhide A16))
            replace V7 := hide ((unhide V7).below b1)
            replace V14 := hide ((unhide V14).below b1)
            replace HB := hide (bt (unhide HB) b1)
            clear b1 hbx hS hC hlt x0 x1 x2 y0 y1 y2 y3 y4
            go_wp2
            go_meet
            case rel =>
              obtain ⟨B1, eB1⟩ : ∃ B1, B1 = wr2.heap.size := ⟨_, rfl⟩
              have EB1 := hide eB1
              have L7 := hide (show g7 < B1 by rw [eB1]; exact (unhide V7).lt.2)
              have L13 := hide (show g13 < B1 by rw [eB1]; exact lt_of_block (unhide A13))
              have L14 := hide (show g14 < B1 by rw [eB1]; exact (unhide V14).lt.2)
              have L15 := hide (show g15 < B1 by rw [eB1]; exact lt_of_block (unhide A15))
              have L16 := hide (show g16 < B1 by rw [eB1]; exact lt_of_block (unhide A16))
              have LW := hide (show w.heap.size ≤ B1 by rw [eB1]; exact (unhide HB).size)
              have U7 : Hid (DVarK (fun k => k < B1) wr2 g7 q) := hide ((unhide V7).old (fun k hk => by rw [eB1]; exact hk))
              have U14 : Hid (DVarK (fun k => k < B1) wr2 g14 q) := hide ((unhide V14).old (fun k hk => by rw [eB1]; exact hk))
              clear eB1 V7 V14
              have hM : ∀ k, k < B1 → k < B1 ∨ 0 ≤ k := fun k hk => .inl hk
              refine ⟨(dsk0, r.2), r.1, B1, 0, rfl, rfl, rfl, rfl, hide small0, hide ⟨unhide L7, unhide L13, unhide L14, unhide L15, unhide L16, unhide LW, by rw [unhide EB1]; exact Nat.le_refl _⟩, A13, hide ((unhide U7).mono hM), hide ((unhide U14).mono hM), hide ?_, hide (down0 (unhide A15)), HB⟩
              exact ⟨⟨none, 0, none, 0, unhide A16, ⟨rfl, .inl ⟨rfl, rfl, rfl⟩⟩, WrV.nil _, fun ad e => (by cases e), fun ad e => (by cases e)⟩, .inl (unhide L16)⟩
          · have n0 : (kd == 0) = false := by simp [h0]
            have H0 := hide h0
            clear h0
            by_cases h1 : kd = 1
            · have t1 : (kd == 1) = true := by simp [h1]
              have H1 := hide h1
              clear h1
              obtain ⟨r, er⟩ : ∃ r, r = writeD q av tx := ⟨_, rfl⟩
              have ER := hide er
              clear er
              have HSM : Hid (Small r.1) := hide (by rw [unhide ER]; exact small_write q av tx)
              obtain ⟨B1, eB1⟩ : ∃ B1, B1 = W16.heap.size := ⟨_, rfl⟩
              have EB1 := hide eB1
              have L7 := hide (show g7 < B1 by rw [eB1]; exact (unhide V7).lt.2)
              have L13 := hide (show g13 < B1 by rw [eB1]; exact lt_of_block (unhide A13))
              have L14 := hide (show g14 < B1 by rw [eB1]; exact (unhide V14).lt.2)
              have L15 := hide (show g15 < B1 by rw [eB1]; exact lt_of_block (unhide A15))
              have L16 := hide (show g16 < B1 by rw [eB1]; exact lt_of_block (unhide A16))
              have LW := hide (show w.heap.size ≤ B1 by rw [eB1]; exact (unhide HB).size)
              have U7 : Hid (DVarK (fun k => k < B1) W16 g7 q) := hide ((unhide V7).old (fun k hk => by rw [eB1]; exact hk))
              have U14 : Hid (DVarK (fun k => k < B1) W16 g14 q) := hide ((unhide V14).old (fun k hk => by rw [eB1]; exact hk))
              clear eB1 V7 V14
              have HL := hide (show B1 ≤ W16.heap.size by rw [unhide EB1]; exact Nat.le_refl _)
              obtain ⟨y0, y1, y2, y3, y4⟩ := box_act (unhide A13)
              obtain ⟨⟨sa, sc, ca, cc, hbx, hS, hC, -, -⟩, -⟩ := unhide U14
              obtain ⟨x0, x1, x2⟩ := box_dsk hbx
              go_wp2_with fail
              refine (diskWrite_any q _ _ _ _ _ _ av tx _ hS hC (unhide HF).1 (unhide HF).2).mono ?_
              rintro e wr1 ⟨v, he, O, b1⟩
              rw [← unhide ER] at he O
              rw [← unhide EB1] at O
              obtain ⟨pa1, ka1, pc1, kc1, ev, hS1, hC1, hO1, hO2, -, -⟩ := dsk_new O (K := fun _ => True) (fun _ _ => trivial)
              subst ev
              subst he
              have O1 := hide hO1
              have O2 := hide hO2
              clear hbx hS hC x0 x1 x2 y0 y1 y2 y3 y4 O hS1 hC1 hO1 hO2
              replace A13 := hide ((b1.block _ (lt_of_block (unhide A13))).trans (unhide A13))
              replace A15 := hide ((b1.block _ (lt_of_block (unhide A15))).trans (unhide A15))
              replace A16 := hide ((b1.block _ (lt_of_block (unhide A16))).trans (unhide A16))
              replace U7 := hide ((unhide U7).below b1)
              replace U14 := hide ((unhide U14).below b1)
              replace HB := hide (bt (unhide HB) b1)
              replace HL := hide (Nat.le_trans (unhide HL) b1.size)
              clear b1
              go_upto_region 28 with fail
              have A23 := hide (heap_alloc_new wr1 (.cells #[.bool r.1.lost, .slice pa1 r.1.secs.length ka1, .slice pc1 r.1.cache.length kc1] 25))
              have bb := below_alloc wr1 (.cells #[.bool r.1.lost, .slice pa1 r.1.secs.length ka1, .slice pc1 r.1.cache.length kc1] 25)
              replace O1 := hide ((unhide O1).below bb)
              replace O2 := hide (ownZ_below (unhide O2) bb)
              replace A13 := hide ((bb.block _ (lt_of_block (unhide A13))).trans (unhide A13))
              replace A15 := hide ((bb.block _ (lt_of_block (unhide A15))).trans (unhide A15))
              replace A16 := hide ((bb.block _ (lt_of_block (unhide A16))).trans (unhide A16))
              replace U7 := hide ((unhide U7).below bb)
              replace U14 := hide ((unhide U14).below bb)
              replace HB := hide (bt (unhide HB) bb)
              replace HL := hide (Nat.le_trans (unhide HL) bb.size)
              clear bb
              generalize (wr1.alloc (.cells #[.bool r.1.lost, .slice pa1 r.1.secs.length ka1, .slice pc1 r.1.cache.length kc1] 25)) = WA at *
              generalize wr1.heap.size = g23 at *
              obtain ⟨x0, x1, x2⟩ := box_dsk (unhide A23)
              obtain ⟨y0, y1, y2⟩ := box_dsk (unhide A15)
              have p0 := dsk_free (unhide A15) 0
              have p1 := dsk_free (unhide A15) 1
              have p2 := dsk_free (unhide A15) 2
              go_upto_region 29 with fail
              clear x0 x1 x2 y0 y1 y2 p0 p1 p2 A23
              have D15 := hide (DOwn.fill (unhide A15) (unhide L15) (unhide O1) (unhide O2))
              replace A13 := hide (heap_of_put (unhide A13) (unhide N15).2.2.symm (.bool r.1.lost) (.slice pa1 r.1.secs.length ka1) (.slice pc1 r.1.cache.length kc1))
              replace A16 := hide (heap_of_put (unhide A16) (unhide N16).2.2.2 (.bool r.1.lost) (.slice pa1 r.1.secs.length ka1) (.slice pc1 r.1.cache.length kc1))
              replace U7 := hide ((unhide U7).putOther (unhide A15) (unhide N15).1.symm (.bool r.1.lost) (.slice pa1 r.1.secs.length ka1) (.slice pc1 r.1.cache.length kc1))
              replace U14 := hide ((unhide U14).putOther (unhide A15) (unhide N15).2.1.symm (.bool r.1.lost) (.slice pa1 r.1.secs.length ka1) (.slice pc1 r.1.cache.length kc1))
              replace HB := hide (below_put (unhide HB) (unhide HG15) (.bool r.1.lost) (.slice pa1 r.1.secs.length ka1) (.slice pc1 r.1.cache.length kc1))
              have hL2 : B1 ≤ ((((WA.setCell ⟨g15, 0, none⟩ (.bool r.1.lost)).setCell ⟨g15, 1, none⟩ (.slice pa1 r.1.secs.length ka1)).setCell ⟨g15, 2, none⟩ (.slice pc1 r.1.cache.length kc1))).heap.size := by simpa using unhide HL
              have hWM : WA.heap.size ≤ ((((WA.setCell ⟨g15, 0, none⟩ (.bool r.1.lost)).setCell ⟨g15, 1, none⟩ (.slice pa1 r.1.secs.length ka1)).setCell ⟨g15, 2, none⟩ (.slice pc1 r.1.cache.length kc1))).heap.size := by simp
              replace HL := hide hL2
              replace D15 := hide ((unhide D15).upto hWM)
              clear hL2 hWM O1 O2 A15
              generalize (((WA.setCell ⟨g15, 0, none⟩ (.bool r.1.lost)).setCell ⟨g15, 1, none⟩ (.slice pa1 r.1.secs.length ka1)).setCell ⟨g15, 2, none⟩ (.slice pc1 r.1.cache.length kc1)) = WB at *
              obtain ⟨y0, y1, y2, y3, y4⟩ := box_act (unhide A13)
              obtain ⟨⟨sa, sc, ca, cc, hbx, hS, hC, -, -⟩, -⟩ := unhide U7
              obtain ⟨x0, x1, x2⟩ := box_dsk hbx
              go_wp2_with (go_at_call 12; refine (num_any _ _).mono ?_; rintro e w' ⟨rfl, hw'⟩; rw [hw']; clear hw' w')
              refine (refWrite_any q _ _ _ _ _ _ av tx _ hS hC (unhide HF).1 (unhide HF).2).mono ?_
              rintro e wr2 ⟨v, he, O, b2⟩
              rw [← unhide ER] at he O
              obtain ⟨pa2, ka2, pc2, kc2, ev, hS2, hC2, -, -, hk1, hk2⟩ := dsk_new O (K := fun k => k < B1 ∨ WB.heap.size ≤ k) (fun k hk => .inr hk)
              subst ev
              subst he
              have HS2 := hide hS2
              have HC2 := hide hC2
              have HK1 := hide hk1
              have HK2 := hide hk2
              clear hbx hS hC x0 x1 x2 y0 y1 y2 y3 y4 O hS2 hC2 hk1 hk2
              replace A13 := hide ((b2.block _ (lt_of_block (unhide A13))).trans (unhide A13))
              replace A16 := hide ((b2.block _ (lt_of_block (unhide A16))).trans (unhide A16))
              replace D15 := hide ((unhide D15).below b2)
              replace U7 := hide ((unhide U7).below b2)
              replace U14 := hide ((unhide U14).below b2)
              replace HB := hide (bt (unhide HB) b2)
              replace HL := hide (Nat.le_trans (unhide HL) b2.size)
              clear b2
              obtain ⟨y0, y1, y2⟩ := box_dsk (unhide A16)
              have p0 := dsk_free (unhide A16) 0
              have p1 := dsk_free (unhide A16) 1
              have p2 := dsk_free (unhide A16) 2
              go_wp2_with fail
              clear y0 y1 y2 p0 p1 p2
              go_meet
              case rel =>
                refine ⟨r, ByteArray.empty, B1, WB.heap.size, rfl, rfl, rfl, rfl, HSM, hide ⟨unhide L7, unhide L13, unhide L14, unhide L15, unhide L16, unhide LW, by simpa using unhide HL⟩, hide (heap_of_put (unhide A13) (unhide N16).2.2.1.symm _ _ _), hide (((unhide U7).putOther (unhide A16) (unhide N16).1.symm _ _ _).mono (fun k hk => .inl hk)), hide (((unhide U14).putOther (unhide A16) (unhide N16).2.1.symm _ _ _).mono (fun k hk => .inl hk)), hide (dvk_put (unhide A16) (.inl (unhide L16)) (unhide HS2) (unhide HC2) (unhide HK1) (unhide HK2)), hide ((unhide D15).putOther (unhide L16) (unhide N16).2.2.2.symm _ _ _), hide (below_put (unhide HB) (unhide HG16) _ _ _)⟩
            · have n1 : (kd == 1) = false := by simp [h1]
              have H1 := hide h1
              clear h1
              by_cases h2 : kd = 2
              · have t2 : (kd == 2) = true := by simp [h2]
                have H2 := hide h2
                clear h2
                obtain ⟨r, er⟩ : ∃ r, r = flushD q := ⟨_, rfl⟩
                have ER := hide er
                clear er
                have HSM : Hid (Small r.1) := hide (by rw [unhide ER]; exact small_crash q (-1))
                obtain ⟨B1, eB1⟩ : ∃ B1, B1 = W16.heap.size := ⟨_, rfl⟩
                have EB1 := hide eB1
                have L7 := hide (show g7 < B1 by rw [eB1]; exact (unhide V7).lt.2)
                have L13 := hide (show g13 < B1 by rw [eB1]; exact lt_of_block (unhide A13))
                have L14 := hide (show g14 < B1 by rw [eB1]; exact (unhide V14).lt.2)
                have L15 := hide (show g15 < B1 by rw [eB1]; exact lt_of_block (unhide A15))
                have L16 := hide (show g16 < B1 by rw [eB1]; exact lt_of_block (unhide A16))
                have LW := hide (show w.heap.size ≤ B1 by rw [eB1]; exact (unhide HB).size)
                have U7 : Hid (DVarK (fun k => k < B1) W16 g7 q) := hide ((unhide V7).old (fun k hk => by rw [eB1]; exact hk))
                have U14 : Hid (DVarK (fun k => k < B1) W16 g14 q) := hide ((unhide V14).old (fun k hk => by rw [eB1]; exact hk))
                clear eB1 V7 V14
                have HL := hide (show B1 ≤ W16.heap.size by rw [unhide EB1]; exact Nat.le_refl _)
                obtain ⟨y0, y1, y2, y3, y4⟩ := box_act (unhide A13)
                obtain ⟨⟨sa, sc, ca, cc, hbx, hS, hC, -, -⟩, -⟩ := unhide U14
                obtain ⟨x0, x1, x2⟩ := box_dsk hbx
                go_wp2_with fail
                refine (diskFlush_any q _ _ _ _ _ _ _ hS hC (unhide HF).1 (unhide HF).2).mono ?_
                rintro e wr1 ⟨v, he, O, b1⟩
                rw [← unhide ER] at he O
                rw [← unhide EB1] at O
                obtain ⟨pa1, ka1, pc1, kc1, ev, hS1, hC1, hO1, hO2, -, -⟩ := dsk_new O (K := fun _ => True) (fun _ _ => trivial)
                subst ev
                subst he
                have O1 := hide hO1
                have O2 := hide hO2
                clear hbx hS hC x0 x1 x2 y0 y1 y2 y3 y4 O hS1 hC1 hO1 hO2
                replace A13 := hide ((b1.block _ (lt_of_block (unhide A13))).trans (unhide A13))
                replace A15 := hide ((b1.block _ (lt_of_block (unhide A15))).trans (unhide A15))
                replace A16 := hide ((b1.block _ (lt_of_block (unhide A16))).trans (unhide A16))
                replace U7 := hide ((unhide U7).below b1)
                replace U14 := hide ((unhide U14).below b1)
                replace HB := hide (bt (unhide HB) b1)
                replace HL := hide (Nat.le_trans (unhide HL) b1.size)
                clear b1
                go_upto_region 33 with fail
                have A23 := hide (heap_alloc_new wr1 (.cells #[.bool r.1.lost, .slice pa1 r.1.secs.length ka1, .slice pc1 r.1.cache.length kc1] 25))
                have bb := below_alloc wr1 (.cells #[.bool r.1.lost, .slice pa1 r.1.secs.length ka1, .slice pc1 r.1.cache.length kc1] 25)
                replace O1 := hide ((unhide O1).below bb)
                replace O2 := hide (ownZ_below (unhide O2) bb)
                replace A13 := hide ((bb.block _ (lt_of_block (unhide A13))).trans (unhide A13))
                replace A15 := hide ((bb.block _ (lt_of_block (unhide A15))).trans (unhide A15))
                replace A16 := hide ((bb.block _ (lt_of_block (unhide A16))).trans (unhide A16))
                replace U7 := hide ((unhide U7).below bb)
                replace U14 := hide ((unhide U14).below bb)
                replace HB := hide (bt (unhide HB) bb)
                replace HL := hide (Nat.le_trans (unhide HL) bb.size)
                clear bb
                generalize (wr1.alloc (.cells #[.bool r.1.lost, .slice pa1 r.1.secs.length ka1, .slice pc1 r.1.cache.length kc1] 25)) = WA at *
                generalize wr1.heap.size = g23 at *
                obtain ⟨x0, x1, x2⟩ := box_dsk (unhide A23)
                obtain ⟨y0, y1, y2⟩ := box_dsk (unhide A15)
                have p0 := dsk_free (unhide A15) 0
                have p1 := dsk_free (unhide A15) 1
                have p2 := dsk_free (unhide A15) 2
                go_upto_region 34 with fail
                clear x0 x1 x2 y0 y1 y2 p0 p1 p2 A23
                have D15 := hide (DOwn.fill (unhide A15) (unhide L15) (unhide O1) (unhide O2))
                replace A13 := hide (heap_of_put (unhide A13) (unhide N15).2.2.symm (.bool r.1.lost) (.slice pa1 r.1.secs.length ka1) (.slice pc1 r.1.cache.length kc1))
                replace A16 := hide (heap_of_put (unhide A16) (unhide N16).2.2.2 (.bool r.1.lost) (.slice pa1 r.1.secs.length ka1) (.slice pc1 r.1.cache.length kc1))
                replace U7 := hide ((unhide U7).putOther (unhide A15) (unhide N15).1.symm (.bool r.1.lost) (.slice pa1 r.1.secs.length ka1) (.slice pc1 r.1.cache.length kc1))
                replace U14 := hide ((unhide U14).putOther (unhide A15) (unhide N15).2.1.symm (.bool r.1.lost) (.slice pa1 r.1.secs.length ka1) (.slice pc1 r.1.cache.length kc1))
                replace HB := hide (below_put (unhide HB) (unhide HG15) (.bool r.1.lost) (.slice pa1 r.1.secs.length ka1) (.slice pc1 r.1.cache.length kc1))
                have hL2 : B1 ≤ ((((WA.setCell ⟨g15, 0, none⟩ (.bool r.1.lost)).setCell ⟨g15, 1, none⟩ (.slice pa1 r.1.secs.length ka1)).setCell ⟨g15, 2, none⟩ (.slice pc1 r.1.cache.length kc1))).heap.size := by simpa using unhide HL
                have hWM : WA.heap.size ≤ ((((WA.setCell ⟨g15, 0, none⟩ (.bool r.1.lost)).setCell ⟨g15, 1, none⟩ (.slice pa1 r.1.secs.length ka1)).setCell ⟨g15, 2, none⟩ (.slice pc1 r.1.cache.length kc1))).heap.size := by simp
                replace HL := hide hL2
                replace D15 := hide ((unhide D15).upto hWM)
                clear hL2 hWM O1 O2 A15
                generalize (((WA.setCell ⟨g15, 0, none⟩ (.bool r.1.lost)).setCell ⟨g15, 1, none⟩ (.slice pa1 r.1.secs.length ka1)).setCell ⟨g15, 2, none⟩ (.slice pc1 r.1.cache.length kc1)) = WB at *
                obtain ⟨y0, y1, y2, y3, y4⟩ := box_act (unhide A13)
                obtain ⟨⟨sa, sc, ca, cc, hbx, hS, hC, -, -⟩, -⟩ := unhide U7
                obtain ⟨x0, x1, x2⟩ := box_dsk hbx
                go_wp2_with (go_at_call 12; refine (num_any _ _).mono ?_; rintro e w' ⟨rfl, hw'⟩; rw [hw']; clear hw' w')
                refine (refFlush_any q _ _ _ _ _ _ _ hS hC (unhide HF).1 (unhide HF).2).mono ?_
                rintro e wr2 ⟨v, he, O, b2⟩
                rw [← unhide ER] at he O
                obtain ⟨pa2, ka2, pc2, kc2, ev, hS2, hC2, -, -, hk1, hk2⟩ := dsk_new O (K := fun k => k < B1 ∨ WB.heap.size ≤ k) (fun k hk => .inr hk)
                subst ev
                subst he
                have HS2 := hide hS2
                have HC2 := hide hC2
                have HK1 := hide hk1
                have HK2 := hide hk2
                clear hbx hS hC x0 x1 x2 y0 y1 y2 y3 y4 O hS2 hC2 hk1 hk2
                replace A13 := hide ((b2.block _ (lt_of_block (unhide A13))).trans (unhide A13))
                replace A16 := hide ((b2.block _ (lt_of_block (unhide A16))).trans (unhide A16))
                replace D15 := hide ((unhide D15).below b2)
                replace U7 := hide ((unhide U7).below b2)
                replace U14 := hide ((unhide U14).below b2)
                replace HB := hide (bt (unhide HB) b2)
                replace HL := hide (Nat.le_trans (unhide HL) b2.size)
                clear b2
                obtain ⟨y0, y1, y2⟩ := box_dsk (unhide A16)
                have p0 := dsk_free (unhide A16) 0
                have p1 := dsk_free (unhide A16) 1
                have p2 := dsk_free (unhide A16) 2
                go_wp2_with fail
                clear y0 y1 y2 p0 p1 p2
                go_meet
                case rel =>
                  refine ⟨r, ByteArray.empty, B1, WB.heap.size, rfl, rfl, rfl, rfl, HSM, hide ⟨unhide L7, unhide L13, unhide L14, unhide L15, unhide L16, unhide LW, by simpa using unhide HL⟩, hide (heap_of_put (unhide A13) (unhide N16).2.2.1.symm _ _ _), hide (((unhide U7).putOther (unhide A16) (unhide N16).1.symm _ _ _).mono (fun k hk => .inl hk)), hide (((unhide U14).putOther (unhide A16) (unhide N16).2.1.symm _ _ _).mono (fun k hk => .inl hk)), hide (dvk_put (unhide A16) (.inl (unhide L16)) (unhide HS2) (unhide HC2) (unhide HK1) (unhide HK2)), hide ((unhide D15).putOther (unhide L16) (unhide N16).2.2.2.symm _ _ _), hide (below_put (unhide HB) (unhide HG16) _ _ _)⟩
              · have n2 : (kd == 2) = false := by simp [h2]
                have H2 := hide h2
                clear h2
                by_cases h3 : kd = 3
                · have t3 : (kd == 3) = true := by simp [h3]
                  have H3 := hide h3
                  clear h3
                  obtain ⟨r, er⟩ : ∃ r, r = crashD q yv := ⟨_, rfl⟩
                  have ER := hide er
                  clear er
                  have HSM : Hid (Small r.1) := hide (by rw [unhide ER]; exact small_crash q yv)
                  obtain ⟨B1, eB1⟩ : ∃ B1, B1 = W16.heap.size := ⟨_, rfl⟩
                  have EB1 := hide eB1
                  have L7 := hide (show g7 < B1 by rw [eB1]; exact (unhide V7).lt.2)
                  have L13 := hide (show g13 < B1 by rw [eB1]; exact lt_of_block (unhide A13))
                  have L14 := hide (show g14 < B1 by rw [eB1]; exact (unhide V14).lt.2)
                  have L15 := hide (show g15 < B1 by rw [eB1]; exact lt_of_block (unhide A15))
                  have L16 := hide (show g16 < B1 by rw [eB1]; exact lt_of_block (unhide A16))
                  have LW := hide (show w.heap.size ≤ B1 by rw [eB1]; exact (unhide HB).size)
                  have U7 : Hid (DVarK (fun k => k < B1) W16 g7 q) := hide ((unhide V7).old (fun k hk => by rw [eB1]; exact hk))
                  have U14 : Hid (DVarK (fun k => k < B1) W16 g14 q) := hide ((unhide V14).old (fun k hk => by rw [eB1]; exact hk))
                  clear eB1 V7 V14
                  have HL := hide (show B1 ≤ W16.heap.size by rw [unhide EB1]; exact Nat.le_refl _)
                  obtain ⟨y0, y1, y2, y3, y4⟩ := box_act (unhide A13)
                  obtain ⟨⟨sa, sc, ca, cc, hbx, hS, hC, -, -⟩, -⟩ := unhide U14
                  obtain ⟨x0, x1, x2⟩ := box_dsk hbx
                  go_wp2_with fail
                  refine (diskCrash_any q _ _ _ _ _ _ yv _ hS hC (unhide HF).1 (unhide HF).2).mono ?_
                  rintro e wr1 ⟨v, he, O, b1⟩
                  rw [← unhide ER] at he O
                  rw [← unhide EB1] at O
                  obtain ⟨pa1, ka1, pc1, kc1, ev, hS1, hC1, hO1, hO2, -, -⟩ := dsk_new O (K := fun _ => True) (fun _ _ => trivial)
                  subst ev
                  subst he
                  have O1 := hide hO1
                  have O2 := hide hO2
                  clear hbx hS hC x0 x1 x2 y0 y1 y2 y3 y4 O hS1 hC1 hO1 hO2
                  replace A13 := hide ((b1.block _ (lt_of_block (unhide A13))).trans (unhide A13))
                  replace A15 := hide ((b1.block _ (lt_of_block (unhide A15))).trans (unhide A15))
                  replace A16 := hide ((b1.block _ (lt_of_block (unhide A16))).trans (unhide A16))
                  replace U7 := hide ((unhide U7).below b1)
                  replace U14 := hide ((unhide U14).below b1)
                  replace HB := hide (bt (unhide HB) b1)
                  replace HL := hide (Nat.le_trans (unhide HL) b1.size)
                  clear b1
                  go_upto_region 38 with fail
                  have A23 := hide (heap_alloc_new wr1 (.cells #[.bool r.1.lost, .slice pa1 r.1.secs.length ka1, .slice pc1 r.1.cache.length kc1] 25))
                  have bb := below_alloc wr1 (.cells #[.bool r.1.lost, .slice pa1 r.1.secs.length ka1, .slice pc1 r.1.cache.length kc1] 25)
                  replace O1 := hide ((unhide O1).below bb)
                  replace O2 := hide (ownZ_below (unhide O2) bb)
                  replace A13 := hide ((bb.block _ (lt_of_block (unhide A13))).trans (unhide A13))
                  replace A15 := hide ((bb.block _ (lt_of_block (unhide A15))).trans (unhide A15))
                  replace A16 := hide ((bb.block _ (lt_of_block (unhide A16))).trans (unhide A16))
                  replace U7 := hide ((unhide U7).below bb)
                  replace U14 := hide ((unhide U14).below bb)
                  replace HB := hide (bt (unhide HB) bb)
                  replace HL := hide (Nat.le_trans (unhide HL) bb.size)
                  clear bb
                  generalize (wr1.alloc (.cells #[.bool r.1.lost, .slice pa1 r.1.secs.length ka1, .slice pc1 r.1.cache.length kc1] 25)) = WA at *
                  generalize wr1.heap.size = g23 at *
                  obtain ⟨x0, x1, x2⟩ := box_dsk (unhide A23)
                  obtain ⟨y0, y1, y2⟩ := box_dsk (unhide A15)
                  have p0 := dsk_free (unhide A15) 0
                  have p1 := dsk_free (unhide A15) 1
                  have p2 := dsk_free (unhide A15) 2
                  go_upto_region 39 with fail
                  clear x0 x1 x2 y0 y1 y2 p0 p1 p2 A23
                  have D15 := hide (DOwn.fill (unhide A15) (unhide L15) (unhide O1) (unhide O2))
                  replace A13 := hide (heap_of_put (unhide A13) (unhide N15).2.2.symm (.bool r.1.lost) (.slice pa1 r.1.secs.length ka1) (.slice pc1 r.1.cache.length kc1))
                  replace A16 := hide (heap_of_put (unhide A16) (unhide N16).2.2.2 (.bool r.1.lost) (.slice pa1 r.1.secs.length ka1) (.slice pc1 r.1.cache.length kc1))
                  replace U7 := hide ((unhide U7).putOther (unhide A15) (unhide N15).1.symm (.bool r.1.lost) (.slice pa1 r.1.secs.length ka1) (.slice pc1 r.1.cache.length kc1))
                  replace U14 := hide ((unhide U14).putOther (unhide A15) (unhide N15).2.1.symm (.bool r.1.lost) (.slice pa1 r.1.secs.length ka1) (.slice pc1 r.1.cache.length kc1))
                  replace HB := hide (below_put (unhide HB) (unhide HG15) (.bool r.1.lost) (.slice pa1 r.1.secs.length ka1) (.slice pc1 r.1.cache.length kc1))
                  have hL2 : B1 ≤ ((((WA.setCell ⟨g15, 0, none⟩ (.bool r.1.lost)).setCell ⟨g15, 1, none⟩ (.slice pa1 r.1.secs.length ka1)).setCell ⟨g15, 2, none⟩ (.slice pc1 r.1.cache.length kc1))).heap.size := by simpa using unhide HL
                  have hWM : WA.heap.size ≤ ((((WA.setCell ⟨g15, 0, none⟩ (.bool r.1.lost)).setCell ⟨g15, 1, none⟩ (.slice pa1 r.1.secs.length ka1)).setCell ⟨g15, 2, none⟩ (.slice pc1 r.1.cache.length kc1))).heap.size := by simp
                  replace HL := hide hL2
                  replace D15 := hide ((unhide D15).upto hWM)
                  clear hL2 hWM O1 O2 A15
                  generalize (((WA.setCell ⟨g15, 0, none⟩ (.bool r.1.lost)).setCell ⟨g15, 1, none⟩ (.slice pa1 r.1.secs.length ka1)).setCell ⟨g15, 2, none⟩ (.slice pc1 r.1.cache.length kc1)) = WB at *
                  obtain ⟨y0, y1, y2, y3, y4⟩ := box_act (unhide A13)
                  obtain ⟨⟨sa, sc, ca, cc, hbx, hS, hC, -, -⟩, -⟩ := unhide U7
                  obtain ⟨x0, x1, x2⟩ := box_dsk hbx
                  go_wp2_with (go_at_call 12; refine (num_any _ _).mono ?_; rintro e w' ⟨rfl, hw'⟩; rw [hw']; clear hw' w')
                  refine (refCrash_any q _ _ _ _ _ _ yv _ hS hC (unhide HF).1 (unhide HF).2).mono ?_
                  rintro e wr2 ⟨v, he, O, b2⟩
                  rw [← unhide ER] at he O
                  obtain ⟨pa2, ka2, pc2, kc2, ev, hS2, hC2, -, -, hk1, hk2⟩ := dsk_new O (K := fun k => k < B1 ∨ WB.heap.size ≤ k) (fun k hk => .inr hk)
                  subst ev
                  subst he
                  have HS2 := hide hS2
                  have HC2 := hide hC2
                  have HK1 := hide hk1
                  have HK2 := hide hk2
                  clear hbx hS hC x0 x1 x2 y0 y1 y2 y3 y4 O hS2 hC2 hk1 hk2
                  replace A13 := hide ((b2.block _ (lt_of_block (unhide A13))).trans (unhide A13))
                  replace A16 := hide ((b2.block _ (lt_of_block (unhide A16))).trans (unhide A16))
                  replace D15 := hide ((unhide D15).below b2)
                  replace U7 := hide ((unhide U7).below b2)
                  replace U14 := hide ((unhide U14).below b2)
                  replace HB := hide (bt (unhide HB) b2)
                  replace HL := hide (Nat.le_trans (unhide HL) b2.size)
                  clear b2
                  obtain ⟨y0, y1, y2⟩ := box_dsk (unhide A16)
                  have p0 := dsk_free (unhide A16) 0
                  have p1 := dsk_free (unhide A16) 1
                  have p2 := dsk_free (unhide A16) 2
                  go_wp2_with fail
                  clear y0 y1 y2 p0 p1 p2
                  go_meet
                  case rel =>
                    refine ⟨r, ByteArray.empty, B1, WB.heap.size, rfl, rfl, rfl, rfl, HSM, hide ⟨unhide L7, unhide L13, unhide L14, unhide L15, unhide L16, unhide LW, by simpa using unhide HL⟩, hide (heap_of_put (unhide A13) (unhide N16).2.2.1.symm _ _ _), hide (((unhide U7).putOther (unhide A16) (unhide N16).1.symm _ _ _).mono (fun k hk => .inl hk)), hide (((unhide U14).putOther (unhide A16) (unhide N16).2.1.symm _ _ _).mono (fun k hk => .inl hk)), hide (dvk_put (unhide A16) (.inl (unhide L16)) (unhide HS2) (unhide HC2) (unhide HK1) (unhide HK2)), hide ((unhide D15).putOther (unhide L16) (unhide N16).2.2.2.symm _ _ _), hide (below_put (unhide HB) (unhide HG16) _ _ _)⟩
                · have n3 : (kd == 3) = false := by simp [h3]
                  have H3 := hide h3
                  clear h3
                  by_cases h4 : kd = 4
                  · have t4 : (kd == 4) = true := by simp [h4]
                    have H4 := hide h4
                    clear h4
                    obtain ⟨r, er⟩ : ∃ r, r = rotD q av pv yv := ⟨_, rfl⟩
                    have ER := hide er
                    clear er
                    have HSM : Hid (Small r.1) := hide (by rw [unhide ER]; exact small_rot q av pv yv)
                    obtain ⟨B1, eB1⟩ : ∃ B1, B1 = W16.heap.size := ⟨_, rfl⟩
                    have EB1 := hide eB1
                    have L7 := hide (show g7 < B1 by rw [eB1]; exact (unhide V7).lt.2)
                    have L13 := hide (show g13 < B1 by rw [eB1]; exact lt_of_block (unhide A13))
                    have L14 := hide (show g14 < B1 by rw [eB1]; exact (unhide V14).lt.2)
                    have L15 := hide (show g15 < B1 by rw [eB1]; exact lt_of_block (unhide A15))
                    have L16 := hide (show g16 < B1 by rw [eB1]; exact lt_of_block (unhide A16))
                    have LW := hide (show w.heap.size ≤ B1 by rw [eB1]; exact (unhide HB).size)
                    have U7 : Hid (DVarK (fun k => k < B1) W16 g7 q) := hide ((unhide V7).old (fun k hk => by rw [eB1]; exact hk))
                    have U14 : Hid (DVarK (fun k => k < B1) W16 g14 q) := hide ((unhide V14).old (fun k hk => by rw [eB1]; exact hk))
                    clear eB1 V7 V14
                    have HL := hide (show B1 ≤ W16.heap.size by rw [unhide EB1]; exact Nat.le_refl _)
                    obtain ⟨y0, y1, y2, y3, y4⟩ := box_act (unhide A13)
                    obtain ⟨⟨sa, sc, ca, cc, hbx, hS, hC, -, -⟩, -⟩ := unhide U14
                    obtain ⟨x0, x1, x2⟩ := box_dsk hbx
                    go_wp2_with fail
                    refine (diskRot_any q _ _ _ _ _ _ av pv yv _ hS hC (unhide HF).1 (unhide HF).2).mono ?_
                    rintro e wr1 ⟨v, he, O, b1⟩
                    rw [← unhide ER] at he O
                    rw [← unhide EB1] at O
                    obtain ⟨pa1, ka1, pc1, kc1, ev, hS1, hC1, hO1, hO2, -, -⟩ := dsk_new O (K := fun _ => True) (fun _ _ => trivial)
                    subst ev
                    subst he
                    have O1 := hide hO1
                    have O2 := hide hO2
                    clear hbx hS hC x0 x1 x2 y0 y1 y2 y3 y4 O hS1 hC1 hO1 hO2
                    replace A13 := hide ((b1.block _ (lt_of_block (unhide A13))).trans (unhide A13))
                    replace A15 := hide ((b1.block _ (lt_of_block (unhide A15))).trans (unhide A15))
                    replace A16 := hide ((b1.block _ (lt_of_block (unhide A16))).trans (unhide A16))
                    replace U7 := hide ((unhide U7).below b1)
                    replace U14 := hide ((unhide U14).below b1)
                    replace HB := hide (bt (unhide HB) b1)
                    replace HL := hide (Nat.le_trans (unhide HL) b1.size)
                    clear b1
                    go_upto_region 43 with fail
                    have A23 := hide (heap_alloc_new wr1 (.cells #[.bool r.1.lost, .slice pa1 r.1.secs.length ka1, .slice pc1 r.1.cache.length kc1] 25))
                    have bb := below_alloc wr1 (.cells #[.bool r.1.lost, .slice pa1 r.1.secs.length ka1, .slice pc1 r.1.cache.length kc1] 25)
                    replace O1 := hide ((unhide O1).below bb)
                    replace O2 := hide (ownZ_below (unhide O2) bb)
                    replace A13 := hide ((bb.block _ (lt_of_block (unhide A13))).trans (unhide A13))
                    replace A15 := hide ((bb.block _ (lt_of_block (unhide A15))).trans (unhide A15))
                    replace A16 := hide ((bb.block _ (lt_of_block (unhide A16))).trans (unhide A16))
                    replace U7 := hide ((unhide U7).below bb)
                    replace U14 := hide ((unhide U14).below bb)
                    replace HB := hide (bt (unhide HB) bb)
                    replace HL := hide (Nat.le_trans (unhide HL) bb.size)
                    clear bb
                    generalize (wr1.alloc (.cells #[.bool r.1.lost, .slice pa1 r.1.secs.length ka1, .slice pc1 r.1.cache.length kc1] 25)) = WA at *
                    generalize wr1.heap.size = g23 at *
                    obtain ⟨x0, x1, x2⟩ := box_dsk (unhide A23)
                    obtain ⟨y0, y1, y2⟩ := box_dsk (unhide A15)
                    have p0 := dsk_free (unhide A15) 0
                    have p1 := dsk_free (unhide A15) 1
                    have p2 := dsk_free (unhide A15) 2
                    go_upto_region 44 with fail
                    clear x0 x1 x2 y0 y1 y2 p0 p1 p2 A23
                    have D15 := hide (DOwn.fill (unhide A15) (unhide L15) (unhide O1) (unhide O2))
                    replace A13 := hide (heap_of_put (unhide A13) (unhide N15).2.2.symm (.bool r.1.lost) (.slice pa1 r.1.secs.length ka1) (.slice pc1 r.1.cache.length kc1))
                    replace A16 := hide (heap_of_put (unhide A16) (unhide N16).2.2.2 (.bool r.1.lost) (.slice pa1 r.1.secs.length ka1) (.slice pc1 r.1.cache.length kc1))
                    replace U7 := hide ((unhide U7).putOther (unhide A15) (unhide N15).1.symm (.bool r.1.lost) (.slice pa1 r.1.secs.length ka1) (.slice pc1 r.1.cache.length kc1))
                    replace U14 := hide ((unhide U14).putOther (unhide A15) (unhide N15).2.1.symm (.bool r.1.lost) (.slice pa1 r.1.secs.length ka1) (.slice pc1 r.1.cache.length kc1))
                    replace HB := hide (below_put (unhide HB) (unhide HG15) (.bool r.1.lost) (.slice pa1 r.1.secs.length ka1) (.slice pc1 r.1.cache.length kc1))
                    have hL2 : B1 ≤ ((((WA.setCell ⟨g15, 0, none⟩ (.bool r.1.lost)).setCell ⟨g15, 1, none⟩ (.slice pa1 r.1.secs.length ka1)).setCell ⟨g15, 2, none⟩ (.slice pc1 r.1.cache.length kc1))).heap.size := by simpa using unhide HL
                    have hWM : WA.heap.size ≤ ((((WA.setCell ⟨g15, 0, none⟩ (.bool r.1.lost)).setCell ⟨g15, 1, none⟩ (.slice pa1 r.1.secs.length ka1)).setCell ⟨g15, 2, none⟩ (.slice pc1 r.1.cache.length kc1))).heap.size := by simp
                    replace HL := hide hL2
                    replace D15 := hide ((unhide D15).upto hWM)
                    clear hL2 hWM O1 O2 A15
                    generalize (((WA.setCell ⟨g15, 0, none⟩ (.bool r.1.lost)).setCell ⟨g15, 1, none⟩ (.slice pa1 r.1.secs.length ka1)).setCell ⟨g15, 2, none⟩ (.slice pc1 r.1.cache.length kc1)) = WB at *
                    obtain ⟨y0, y1, y2, y3, y4⟩ := box_act (unhide A13)
                    obtain ⟨⟨sa, sc, ca, cc, hbx, hS, hC, -, -⟩, -⟩ := unhide U7
                    obtain ⟨x0, x1, x2⟩ := box_dsk hbx
                    go_wp2_with (go_at_call 12; refine (num_any _ _).mono ?_; rintro e w' ⟨rfl, hw'⟩; rw [hw']; clear hw' w')
                    refine (refRot_any q _ _ _ _ _ _ av pv yv _ hS hC (unhide HF).1 (unhide HF).2).mono ?_
                    rintro e wr2 ⟨v, he, O, b2⟩
                    rw [← unhide ER] at he O
                    obtain ⟨pa2, ka2, pc2, kc2, ev, hS2, hC2, -, -, hk1, hk2⟩ := dsk_new O (K := fun k => k < B1 ∨ WB.heap.size ≤ k) (fun k hk => .inr hk)
                    subst ev
                    subst he
                    have HS2 := hide hS2
                    have HC2 := hide hC2
                    have HK1 := hide hk1
                    have HK2 := hide hk2
                    clear hbx hS hC x0 x1 x2 y0 y1 y2 y3 y4 O hS2 hC2 hk1 hk2
                    replace A13 := hide ((b2.block _ (lt_of_block (unhide A13))).trans (unhide A13))
                    replace A16 := hide ((b2.block _ (lt_of_block (unhide A16))).trans (unhide A16))
                    replace D15 := hide ((unhide D15).below b2)
                    replace U7 := hide ((unhide U7).below b2)
                    replace U14 := hide ((unhide U14).below b2)
                    replace HB := hide (bt (unhide HB) b2)
                    replace HL := hide (Nat.le_trans (unhide HL) b2.size)
                    clear b2
                    obtain ⟨y0, y1, y2⟩ := box_dsk (unhide A16)
                    have p0 := dsk_free (unhide A16) 0
                    have p1 := dsk_free (unhide A16) 1
                    have p2 := dsk_free (unhide A16) 2
                    go_wp2_with fail
                    clear y0 y1 y2 p0 p1 p2
                    go_meet
                    case rel =>
                      refine ⟨r, ByteArray.empty, B1, WB.heap.size, rfl, rfl, rfl, rfl, HSM, hide ⟨unhide L7, unhide L13, unhide L14, unhide L15, unhide L16, unhide LW, by simpa using unhide HL⟩, hide (heap_of_put (unhide A13) (unhide N16).2.2.1.symm _ _ _), hide (((unhide U7).putOther (unhide A16) (unhide N16).1.symm _ _ _).mono (fun k hk => .inl hk)), hide (((unhide U14).putOther (unhide A16) (unhide N16).2.1.symm _ _ _).mono (fun k hk => .inl hk)), hide (dvk_put (unhide A16) (.inl (unhide L16)) (unhide HS2) (unhide HC2) (unhide HK1) (unhide HK2)), hide ((unhide D15).putOther (unhide L16) (unhide N16).2.2.2.symm _ _ _), hide (below_put (unhide HB) (unhide HG16) _ _ _)⟩
                  · have n4 : (kd == 4) = false := by simp [h4]
                    have H4 := hide h4
                    clear h4
                    obtain ⟨r, er⟩ : ∃ r, r = loseD q := ⟨_, rfl⟩
                    have ER := hide er
                    clear er
                    have HSM : Hid (Small r.1) := hide (by rw [unhide ER]; exact small_lose q)
                    obtain ⟨B1, eB1⟩ : ∃ B1, B1 = W16.heap.size := ⟨_, rfl⟩
                    have EB1 := hide eB1
                    have L7 := hide (show g7 < B1 by rw [eB1]; exact (unhide V7).lt.2)
                    have L13 := hide (show g13 < B1 by rw [eB1]; exact lt_of_block (unhide A13))
                    have L14 := hide (show g14 < B1 by rw [eB1]; exact (unhide V14).lt.2)
                    have L15 := hide (show g15 < B1 by rw [eB1]; exact lt_of_block (unhide A15))
                    have L16 := hide (show g16 < B1 by rw [eB1]; exact lt_of_block (unhide A16))
                    have LW := hide (show w.heap.size ≤ B1 by rw [eB1]; exact (unhide HB).size)
                    have U7 : Hid (DVarK (fun k => k < B1) W16 g7 q) := hide ((unhide V7).old (fun k hk => by rw [eB1]; exact hk))
                    have U14 : Hid (DVarK (fun k => k < B1) W16 g14 q) := hide ((unhide V14).old (fun k hk => by rw [eB1]; exact hk))
                    clear eB1 V7 V14
                    have HL := hide (show B1 ≤ W16.heap.size by rw [unhide EB1]; exact Nat.le_refl _)
                    obtain ⟨y0, y1, y2, y3, y4⟩ := box_act (unhide A13)
                    obtain ⟨⟨sa, sc, ca, cc, hbx, hS, hC, -, -⟩, -⟩ := unhide U14
                    obtain ⟨x0, x1, x2⟩ := box_dsk hbx
                    go_wp2_with fail
                    refine (diskLose_any q _ _ _ _ _ _ _ hS hC (unhide HF).1 (unhide HF).2).mono ?_
                    rintro e wr1 ⟨v, he, O, b1⟩
                    rw [← unhide ER] at he O
                    rw [← unhide EB1] at O
                    obtain ⟨pa1, ka1, pc1, kc1, ev, hS1, hC1, hO1, hO2, -, -⟩ := dsk_new O (K := fun _ => True) (fun _ _ => trivial)
                    subst ev
                    subst he
                    have O1 := hide hO1
                    have O2 := hide hO2
                    clear hbx hS hC x0 x1 x2 y0 y1 y2 y3 y4 O hS1 hC1 hO1 hO2
                    replace A13 := hide ((b1.block _ (lt_of_block (unhide A13))).trans (unhide A13))
                    replace A15 := hide ((b1.block _ (lt_of_block (unhide A15))).trans (unhide A15))
                    replace A16 := hide ((b1.block _ (lt_of_block (unhide A16))).trans (unhide A16))
                    replace U7 := hide ((unhide U7).below b1)
                    replace U14 := hide ((unhide U14).below b1)
                    replace HB := hide (bt (unhide HB) b1)
                    replace HL := hide (Nat.le_trans (unhide HL) b1.size)
                    clear b1
                    go_upto_region 18 with fail
                    have A23 := hide (heap_alloc_new wr1 (.cells #[.bool r.1.lost, .slice pa1 r.1.secs.length ka1, .slice pc1 r.1.cache.length kc1] 25))
                    have bb := below_alloc wr1 (.cells #[.bool r.1.lost, .slice pa1 r.1.secs.length ka1, .slice pc1 r.1.cache.length kc1] 25)
                    replace O1 := hide ((unhide O1).below bb)
                    replace O2 := hide (ownZ_below (unhide O2) bb)
                    replace A13 := hide ((bb.block _ (lt_of_block (unhide A13))).trans (unhide A13))
                    replace A15 := hide ((bb.block _ (lt_of_block (unhide A15))).trans (unhide A15))
                    replace A16 := hide ((bb.block _ (lt_of_block (unhide A16))).trans (unhide A16))
                    replace U7 := hide ((unhide U7).below bb)
                    replace U14 := hide ((unhide U14).below bb)
                    replace HB := hide (bt (unhide HB) bb)
                    replace HL := hide (Nat.le_trans (unhide HL) bb.size)
                    clear bb
                    generalize (wr1.alloc (.cells #[.bool r.1.lost, .slice pa1 r.1.secs.length ka1, .slice pc1 r.1.cache.length kc1] 25)) = WA at *
                    generalize wr1.heap.size = g23 at *
                    obtain ⟨x0, x1, x2⟩ := box_dsk (unhide A23)
                    obtain ⟨y0, y1, y2⟩ := box_dsk (unhide A15)
                    have p0 := dsk_free (unhide A15) 0
                    have p1 := dsk_free (unhide A15) 1
                    have p2 := dsk_free (unhide A15) 2
                    go_upto_region 19 with fail
                    clear x0 x1 x2 y0 y1 y2 p0 p1 p2 A23
                    have D15 := hide (DOwn.fill (unhide A15) (unhide L15) (unhide O1) (unhide O2))
                    replace A13 := hide (heap_of_put (unhide A13) (unhide N15).2.2.symm (.bool r.1.lost) (.slice pa1 r.1.secs.length ka1) (.slice pc1 r.1.cache.length kc1))
                    replace A16 := hide (heap_of_put (unhide A16) (unhide N16).2.2.2 (.bool r.1.lost) (.slice pa1 r.1.secs.length ka1) (.slice pc1 r.1.cache.length kc1))
                    replace U7 := hide ((unhide U7).putOther (unhide A15) (unhide N15).1.symm (.bool r.1.lost) (.slice pa1 r.1.secs.length ka1) (.slice pc1 r.1.cache.length kc1))
                    replace U14 := hide ((unhide U14).putOther (unhide A15) (unhide N15).2.1.symm (.bool r.1.lost) (.slice pa1 r.1.secs.length ka1) (.slice pc1 r.1.cache.length kc1))
                    replace HB := hide (below_put (unhide HB) (unhide HG15) (.bool r.1.lost) (.slice pa1 r.1.secs.length ka1) (.slice pc1 r.1.cache.length kc1))
                    have hL2 : B1 ≤ ((((WA.setCell ⟨g15, 0, none⟩ (.bool r.1.lost)).setCell ⟨g15, 1, none⟩ (.slice pa1 r.1.secs.length ka1)).setCell ⟨g15, 2, none⟩ (.slice pc1 r.1.cache.length kc1))).heap.size := by simpa using unhide HL
                    have hWM : WA.heap.size ≤ ((((WA.setCell ⟨g15, 0, none⟩ (.bool r.1.lost)).setCell ⟨g15, 1, none⟩ (.slice pa1 r.1.secs.length ka1)).setCell ⟨g15, 2, none⟩ (.slice pc1 r.1.cache.length kc1))).heap.size := by simp
                    replace HL := hide hL2
                    replace D15 := hide ((unhide D15).upto hWM)
                    clear hL2 hWM O1 O2 A15
                    generalize (((WA.setCell ⟨g15, 0, none⟩ (.bool r.1.lost)).setCell ⟨g15, 1, none⟩ (.slice pa1 r.1.secs.length ka1)).setCell ⟨g15, 2, none⟩ (.slice pc1 r.1.cache.length kc1)) = WB at *
                    obtain ⟨y0, y1, y2, y3, y4⟩ := box_act (unhide A13)
                    obtain ⟨⟨sa, sc, ca, cc, hbx, hS, hC, -, -⟩, -⟩ := unhide U7
                    obtain ⟨x0, x1, x2⟩ := box_dsk hbx
                    go_wp2_with (go_at_call 12; refine (num_any _ _).mono ?_; rintro e w' ⟨rfl, hw'⟩; rw [hw']; clear hw' w')
                    refine (refLose_any q _ _ _ _ _ _ _ hS hC (unhide HF).1 (unhide HF).2).mono ?_
                    rintro e wr2 ⟨v, he, O, b2⟩
                    rw [← unhide ER] at he O
                    obtain ⟨pa2, ka2, pc2, kc2, ev, hS2, hC2, -, -, hk1, hk2⟩ := dsk_new O (K := fun k => k < B1 ∨ WB.heap.size ≤ k) (fun k hk => .inr hk)
                    subst ev
                    subst he
                    have HS2 := hide hS2
                    have HC2 := hide hC2
                    have HK1 := hide hk1
                    have HK2 := hide hk2
                    clear hbx hS hC x0 x1 x2 y0 y1 y2 y3 y4 O hS2 hC2 hk1 hk2
                    replace A13 := hide ((b2.block _ (lt_of_block (unhide A13))).trans (unhide A13))
                    replace A16 := hide ((b2.block _ (lt_of_block (unhide A16))).trans (unhide A16))
                    replace D15 := hide ((unhide D15).below b2)
                    replace U7 := hide ((unhide U7).below b2)
                    replace U14 := hide ((unhide U14).below b2)
                    replace HB := hide (bt (unhide HB) b2)
                    replace HL := hide (Nat.le_trans (unhide HL) b2.size)
                    clear b2
                    obtain ⟨y0, y1, y2⟩ := box_dsk (unhide A16)
                    have p0 := dsk_free (unhide A16) 0
                    have p1 := dsk_free (unhide A16) 1
                    have p2 := dsk_free (unhide A16) 2
                    go_wp2_with fail
                    clear y0 y1 y2 p0 p1 p2
                    go_meet
                    case rel =>
                      refine ⟨r, ByteArray.empty, B1, WB.heap.size, rfl, rfl, rfl, rfl, HSM, hide ⟨unhide L7, unhide L13, unhide L14, unhide L15, unhide L16, unhide LW, by simpa using unhide HL⟩, hide (heap_of_put (unhide A13) (unhide N16).2.2.1.symm _ _ _), hide (((unhide U7).putOther (unhide A16) (unhide N16).1.symm _ _ _).mono (fun k hk => .inl hk)), hide (((unhide U14).putOther (unhide A16) (unhide N16).2.1.symm _ _ _).mono (fun k hk => .inl hk)), hide (dvk_put (unhide A16) (.inl (unhide L16)) (unhide HS2) (unhide HC2) (unhide HK1) (unhide HK2)), hide ((unhide D15).putOther (unhide L16) (unhide N16).2.2.2.symm _ _ _), hide (below_put (unhide HB) (unhide HG16) _ _ _)⟩
        case rest =>
          clear V7 V14 A13 A15 A16 HB
          obtain ⟨r, s, B1, M, rfl, rfl, rfl, rfl, HSM, HL, A13, U7, U14, U16, D15, HB⟩ := hcut
          generalize wc = WC at *
          obtain ⟨pa, ka, pc, kc, hb15, hS15, hC15, -, -, -, -⟩ := (unhide D15).read
          obtain ⟨x0, x1, x2⟩ := box_dsk hb15
          obtain ⟨⟨sb, sd, cb, cd, hb16, hS16, hC16, -, -⟩, -⟩ := unhide U16
          obtain ⟨y0, y1, y2⟩ := box_dsk hb16
          obtain ⟨⟨se, sf, ce, cf, hb14, hS14, hC14, -, -⟩, -⟩ := unhide U14
          obtain ⟨z0, z1, z2⟩ := box_dsk hb14
          obtain ⟨⟨sg, sh, cg, ch, hb7, hS7, hC7, -, -⟩, -⟩ := unhide U7
          obtain ⟨u0, u1, u2⟩ := box_dsk hb7
          have gx0 := grown_cell x0
          have gx1 := grown_cell x1
          have gx2 := grown_cell x2
          have gy0 := grown_cell y0
          have gy1 := grown_cell y1
          have gy2 := grown_cell y2
          have gz0 := grown_cell z0
          have gz1 := grown_cell z1
          have gz2 := grown_cell z2
          have gu0 := grown_cell u0
          have gu1 := grown_cell u1
          have gu2 := grown_cell u2
          have I1 := hide hS15
          have I2 := hide hC15
          have I3 := hide hS16
          have I4 := hide hC16
          have I5 := hide hS14
          have I6 := hide hC14
          have I7 := hide hS7
          have I8 := hide hC7
          have t0 : (s.toList == s.toList) = true := by simp
          have t0' : (s.toList != s.toList) = false := by simp
          have t1 : (r.2 != r.2) = false := by simp
          have t2 : (decide (MayD q) != decide (MayD q)) = false := by simp
          clear x0 x1 x2 y0 y1 y2 z0 z1 z2 u0 u1 u2 hb15 hb16 hb14 hb7 hS15 hC15 hS16 hC16 hS14 hC14 hS7 hC7
          go_upto_region 46 with fail
          refine wp_region_grows (by kernel_rfl) (by kernel_rfl) ?_
          repeat (first | go_big_quiet_step ((first | (go_at_call 11; first | exact Calls.grows (same_dd _ (unhide I1) (unhide I2) (unhide I3) (unhide I4) (unhide HSM).fit.lens.1.1 (unhide HSM).fit.lens.1.2) | exact Calls.grows (same_dd _ (unhide I5) (unhide I6) (unhide I7) (unhide I8) (unhide HF).lens.1.1 (unhide HF).lens.1.2)) | (go_at_call 26; exact Calls.grows (may_d _ (unhide I5) (unhide I6) (unhide HF).lens.2.1 (unhide HF).lens.2.2)) | (go_at_call 27; exact Calls.grows (may_r _ (unhide I7) (unhide I8) (unhide HF).lens.2.1 (unhide HF).lens.2.2)))) | quiet_step ((first | (go_at_call 11; first | exact Calls.grows (same_dd _ (unhide I1) (unhide I2) (unhide I3) (unhide I4) (unhide HSM).fit.lens.1.1 (unhide HSM).fit.lens.1.2) | exact Calls.grows (same_dd _ (unhide I5) (unhide I6) (unhide I7) (unhide I8) (unhide HF).lens.1.1 (unhide HF).lens.1.2)) | (go_at_call 26; exact Calls.grows (may_d _ (unhide I5) (unhide I6) (unhide HF).lens.2.1 (unhide HF).lens.2.2)) | (go_at_call 27; exact Calls.grows (may_r _ (unhide I7) (unhide I8) (unhide HF).lens.2.1 (unhide HF).lens.2.2)))))
          refine wpQuiet_nil ?_
          intro gw hw'
          have gb := grown_below hw'
          clear hw'
          replace A13 := hide ((gb.block _ (lt_of_block (unhide A13))).trans (unhide A13))
          replace U7 := hide ((unhide U7).below gb)
          replace U16 := hide ((unhide U16).below gb)
          replace D15 := hide ((unhide D15).below gb)
          replace HB := hide (bt (unhide HB) gb)
          have HLg := hide (Nat.le_trans (unhide HL).2.2.2.2.2.2 gb.size)
          clear gb gx0 gx1 gx2 gy0 gy1 gy2 gz0 gz1 gz2 gu0 gu1 gu2 I1 I2 I3 I4 I5 I6 I7 I8 U14 t0 t0' t1 t2
          obtain ⟨pa, ka, pc, kc, hb15, hS15, hC15, hO1, hO2, ho1, ho2⟩ := (unhide D15).read
          obtain ⟨x0, x1, x2⟩ := box_dsk hb15
          have HO1 := hide ho1
          have HO2 := hide ho2
          clear hb15 hS15 hC15 ho1 ho2
          go_wp2_with fail
          refine (spoilDisk_any B1 r.1.lost _ _ _ _ _ _ r.1.secs r.1.cache gw hO1 hO2 (unhide HSM).fit.lens.1.1 rfl (unhide HSM).fit.lens.1.2 (unhide HSM).sz (unhide HLg)).mono ?_
          rintro e wsp ⟨rfl, hkp, bsp⟩
          have hkeep : ∀ k, (k < B1 ∨ M ≤ k) → k < gw.heap.size → wsp.heap[k]? = gw.heap[k]? := fun k hK hl => hkp k hl (fun e => by have := unhide HO1 k e; omega) (fun e => by have := unhide HO2 k e; omega)
          replace A13 := hide ((hkeep _ (.inl (unhide HL).2.1) (lt_of_block (unhide A13))).trans (unhide A13))
          replace U7 := hide ((unhide U7).keep hkeep)
          replace U16 := hide ((unhide U16).keep hkeep)
          replace HB := hide ((unhide HB).trans (bsp.mono (unhide HL).2.2.2.2.2.1))
          clear hkp hkeep bsp hO1 hO2 x0 x1 x2 HO1 HO2 D15
          obtain ⟨y0, y1, y2, y3, y4⟩ := box_act (unhide A13)
          by_cases hk0 : kd = 0
          · have hk0' : (kd != 0) = false := by simp [hk0]
            have HK0 := hide hk0
            clear hk0
            go_wp2
            go_roundw
            case rel => exact ⟨k + 1, q, by have := unhide HKN; omega, by have := unhide HK; omega, by go_num, HF, hide ((unhide U7).var (unhide HG7)), HB⟩
            case measure => simp [intOf]; omega
          · have hk0' : (kd != 0) = true := by simp [hk0]
            have HK0 := hide hk0
            clear hk0
            by_cases hr0 : r.2 = 0
            · have hr0' : (r.2 == 0) = true := by simp [hr0]
              have HR0 := hide hr0
              clear hr0
              obtain ⟨⟨sb, sd, cb, cd, hb16, hS16, hC16, -, -⟩, -⟩ := unhide U16
              obtain ⟨x0, x1, x2⟩ := box_dsk hb16
              obtain ⟨⟨sg, sh, cg, ch, hb7, hS7, hC7, -, -⟩, -⟩ := unhide U7
              obtain ⟨u0, u1, u2⟩ := box_dsk hb7
              have p0 := dsk_free hb7 0
              have p1 := dsk_free hb7 1
              have p2 := dsk_free hb7 2
              have J1 := hide hS16
              have J2 := hide hC16
              clear hb16 hb7 hS16 hC16 hS7 hC7
              go_wp2
              go_roundw
              case rel => exact ⟨k + 1, r.1, by have := unhide HKN; omega, by have := unhide HK; omega, by go_num, hide (unhide HSM).fit, hide (((unhide U7).var (unhide HG7)).put (unhide J1) (unhide J2)), hide (below_put (unhide HB) (unhide HG7) _ _ _)⟩
              case measure => simp [intOf]; omega
            · have hr0' : (r.2 == 0) = false := by simp [hr0]
              have HR0 := hide hr0
              clear hr0
              go_wp2
              go_roundw
              case rel => exact ⟨k + 1, q, by have := unhide HKN; omega, by have := unhide HK; omega, by go_num, HF, hide ((unhide U7).var (unhide HG7)), HB⟩
              case measure => simp [intOf]; omega
      · by_cases hkn : k < na
        · have hk6 : k = 40 := by omega
          subst hk6
          go_wp2_with fail
          refine (awake13_any _).mono ?_
          rintro e w9 ⟨rfl, b9⟩
          go_wp2
          go_ret
          exact ⟨rfl, bt (unhide HB) b9⟩
        · go_wp2_with fail
          refine (awake13_any _).mono ?_
          rintro e w9 ⟨rfl, b9⟩
          go_wp2
          go_ret
          exact ⟨rfl, bt (unhide HB) b9⟩
end Go.Proofs.Ytpmbmhjhclekeaa
