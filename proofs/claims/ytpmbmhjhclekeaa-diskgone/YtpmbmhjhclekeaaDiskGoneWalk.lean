/- The Go text of the statement DiskGone returns true, whatever the number. -/
import Derived.Test.YtpmbmhjhclekeaaAwake13
namespace Go.Proofs.Ytpmbmhjhclekeaa
open Go.RowKit
set_option linter.unusedVariables false
set_option linter.unusedSimpArgs false
attribute [local go_sem ↓] Go.wp_at_zero Go.wp_at_succ
def gF : ByteArray := fullB 120
theorem gF_size : gF.size = 64 := fullB_size 120
def gD1 : Dsk := ⟨false, [aZ, aZ], [(0, gF)]⟩
theorem gD1_st : MayD gD1 ∧ stateD gD1 = 0 := two_st aZ_size aZ_size (by simp) (by simp; exact gF_size)
theorem g_w1 : writeD aD0 0 (fullB 120) = (gD1, 0) := by
  rw [writeD, if_pos aD0_st.2, if_pos ⟨by decide, by decide, gF_size, by decide⟩]; rfl
theorem g1_fit : gD1.secs.length * 16 ≤ 140737488351232 ∧ gD1.cache.length * 24 ≤ 140737488351232 := fit_two (by simp)
theorem g_l : loseD gD1 = (aDL, 0) := by rw [loseD, if_pos gD1_st.1]; rfl
theorem aDL_may : MayD aDL := (mayD_lost rfl).2 ⟨rfl, rfl⟩
theorem g_ll : loseD aDL = (aDL, 0) := by rw [loseD, if_pos aDL_may]; rfl
theorem g_r : readD aDL 0 = (ByteArray.empty, 1301) := by rw [readD, aDL_st, if_neg (by decide)]
theorem g_w (s : ByteArray) : writeD aDL 0 s = (dsk0, 1301) := by rw [writeD, aDL_st, if_neg (by decide)]
theorem g_f : flushD aDL = (dsk0, 1301) := by rw [flushD, crashD, aDL_st, if_neg (by decide)]
theorem g_c (k : Int) : crashD aDL k = (dsk0, 1301) := by rw [crashD, aDL_st, if_neg (by decide)]
theorem g_rot : rotD aDL 0 0 1 = (dsk0, 1301) := by rw [rotD, aDL_st, if_neg (by decide)]
set_option maxRecDepth 100000 in
set_option maxHeartbeats 4000000 in
theorem DiskGone_walk {w : World} (kp : Int) (wf0 : (Lit.int .i64 kp).wf = true) : Calls Try.prog 8 #[.int .i64 kp] w fun e w' => e = .returned (.bool true) ∧ Below w.heap.size w w' := by
  clear wf0
  go_enter Try.func8, Try.ntmps8
  go_wp2_with fail
  refine (awake13_any _).mono ?_
  rintro e w0 ⟨rfl, b0⟩
  have HB := hide b0
  clear b0
  go_wp2_with fail
  refine (diskNew_any 2 _).mono ?_
  rintro e wr1 ⟨v, he, O, b1⟩
  rw [a_new] at he O
  obtain ⟨pa1, ka1, pc1, kc1, ev, hS1, hC1⟩ := O.read
  subst ev
  subst he
  replace HB := hide (bt (unhide HB) b1)
  clear b1  O
  go_upto_region 4 with fail
  have V0 : Hid (DVar (wr1.alloc (.cells #[.bool aD0.lost, .slice pa1 aD0.secs.length ka1, .slice pc1 aD0.cache.length kc1] 25)) w.heap.size wr1.heap.size aD0) := hide ⟨⟨pa1, ka1, pc1, kc1, heap_alloc_new wr1 _, hS1.below (below_alloc _ _), hC1.below (below_alloc _ _)⟩, (unhide HB).size, by simp⟩
  have bb1 := below_alloc wr1 (.cells #[.bool aD0.lost, .slice pa1 aD0.secs.length ka1, .slice pc1 aD0.cache.length kc1] 25)
  replace HB := hide (bt (unhide HB) bb1)
  clear bb1 hS1 hC1
  generalize (wr1.alloc (.cells #[.bool aD0.lost, .slice pa1 aD0.secs.length ka1, .slice pc1 aD0.cache.length kc1] 25)) = WD1 at *
  have hsW1 := (unhide HB).size
  obtain ⟨⟨sa, sc, ca, cc, hbx, hS, hC⟩, hlt⟩ := unhide V0
  obtain ⟨x0, x1, x2⟩ := box_dsk hbx
  have k0 := kept_cell (B := WD1.heap.size) x0 (cell_lt x0)
  have k1 := kept_cell (B := WD1.heap.size) x1 (cell_lt x1)
  have k2 := kept_cell (B := WD1.heap.size) x2 (cell_lt x2)
  have HS := hide hS
  have HC := hide hC
  obtain ⟨bl, ebl⟩ : ∃ bl, bl = aD0.lost := ⟨_, rfl⟩
  rw [← ebl] at k0
  obtain ⟨ls, els⟩ : ∃ ls, ls = aD0.secs.length := ⟨_, rfl⟩
  obtain ⟨lc, elc⟩ : ∃ lc, lc = aD0.cache.length := ⟨_, rfl⟩
  rw [← els] at k1 HS
  rw [← elc] at k2 HC
  have EBL := hide ebl
  have ELS := hide els
  have ELC := hide elc
  clear hbx hS hC hlt x0 x1 x2 ebl els elc
  go_upto_region 4 with fail
  refine' (fun (HL1 : Later _) => ?main) (Later.mk ?prf)
  case main =>
    refine wp_region_float (S := Below WD1.heap.size WD1) 6 [(true, 0), (false, 1), (false, 2), (true, 3), (true, 4), (true, 5)] [(false, 7), (true, 8)] (by kernel_rfl) (by kernel_rfl) (by kernel_rfl) (by kernel_rfl) ((Below.refl _ _).drew) ?_
    simp only [withOps, List.map_cons, List.map_nil, List.getElem?_cons_succ, List.getElem?_cons_zero]
    repeat (refine walkF_read (by rfl) (by (intro gx; go_simp; try (with_reducible rfl))) ?_; try simp only [Act.put, List.setIfInBounds_toArray, List.set_cons_zero, List.set_cons_succ])
    refine walkF_do rfl rfl (fun K hK => ?_) (fun K hK => ?_)
    · go_simp
      refine (full_any 120 (by decide) _).mono ?_
      rintro e wa ⟨rfl, ba⟩
      have hba : Below WD1.heap.size WD1 wa := ((Below.refl _ _).drew).trans ba
      refine hK _ _ hba ?_
      clear hK K ba
      try simp only [Act.put, List.setIfInBounds_toArray, List.set_cons_zero, List.set_cons_succ]
      repeat (refine walkF_read (by rfl) (by (intro gx; go_simp; try (with_reducible rfl))) ?_; try simp only [Act.put, List.setIfInBounds_toArray, List.set_cons_zero, List.set_cons_succ])
      refine walkF_do rfl rfl (fun K hK => ?_) (fun K hK => ?_)
      · go_simp
        rw [unhide EBL]
        refine (diskWrite_any aD0 _ _ _ _ _ _ 0 (fullB 120) _ ((unhide HS).below hba) ((unhide HC).below hba) (by rw [unhide ELS]; exact a0_fit.1) (by rw [unhide ELC]; exact a0_fit.2)).mono ?_
        rintro e wb ⟨v, he, O, bb⟩
        rw [g_w1] at he O
        obtain ⟨pa, ka, pc, kc, ev, hS', hC'⟩ := O.read
        subst ev
        subst he
        have hbb : Below WD1.heap.size WD1 wb := bt hba bb
        refine hK _ _ hbb ?_
        clear hK K bb O
        try simp only [Act.put, List.setIfInBounds_toArray, List.set_cons_zero, List.set_cons_succ]
        repeat (refine walkF_read (by rfl) (by (intro gx; go_simp; try (with_reducible rfl))) ?_; try simp only [Act.put, List.setIfInBounds_toArray, List.set_cons_zero, List.set_cons_succ])
        refine walkF_end rfl (fun K hK => ?_)
        go_simp
        refine hK _ _ (bt hbb (below_alloc _ _)) ?_
        clear hK K
        try simp only [Act.put, List.setIfInBounds_toArray, List.set_cons_zero, List.set_cons_succ]
        refine walkH_do rfl (fun K hK => ?_)
        go_simp
        refine hK _ _ (bt hbb (below_alloc _ _)) ?_
        clear hK K
        try simp only [Act.put, List.setIfInBounds_toArray, List.set_cons_zero, List.set_cons_succ]
        repeat (refine walkH_read (by rfl) (by (intro gx; go_simp; try (with_reducible rfl))) ?_; try simp only [Act.put, List.setIfInBounds_toArray, List.set_cons_zero, List.set_cons_succ])
        refine walkH_nil ?_
        refine NoPanic.normal ?_
        have V1 : Hid (DVar (wb.alloc (.cells #[.bool gD1.lost, .slice pa gD1.secs.length ka, .slice pc gD1.cache.length kc] 25)) w.heap.size wb.heap.size gD1) := hide ⟨⟨pa, ka, pc, kc, heap_alloc_new wb _, hS'.below (below_alloc _ _), hC'.below (below_alloc _ _)⟩, Nat.le_trans hsW1 hbb.size, by simp⟩
        have HH1 : Hid (Below WD1.heap.size WD1 (wb.alloc (.cells #[.bool gD1.lost, .slice pa gD1.secs.length ka, .slice pc gD1.cache.length kc] 25))) := hide (bt hbb (below_alloc _ _))
        clear hbb hba hS' hC'
        generalize (wb.alloc (.cells #[.bool gD1.lost, .slice pa gD1.secs.length ka, .slice pc gD1.cache.length kc] 25)) = WW1 at *
        generalize wb.heap.size = g2 at *
        revert HH1; revert V1; revert WW1; revert g2; revert kc; revert pc; revert ka; revert pa
        exact HL1.get
      · go_simp
        have rz : (wa.alloc (.cells #[.bool false, .slice none 0 0, .slice none 0 0] 25)).heap[wa.heap.size]? = some (.cells #[.bool false, .slice none 0 0, .slice none 0 0] 25 (0, 0)) := heap_alloc_new wa _
        have hbf : Below WD1.heap.size WD1 (wa.alloc (.cells #[.bool false, .slice none 0 0, .slice none 0 0] 25)) := bt hba (below_alloc _ _)
        have hgW : WD1.heap.size ≤ wa.heap.size := hba.size
        have hgz : wa.heap.size < (wa.alloc (.cells #[.bool false, .slice none 0 0, .slice none 0 0] 25)).heap.size := by simp
        refine hK _ _ hbf ?_
        clear hK K hba
        try simp only [Act.put, List.setIfInBounds_toArray, List.set_cons_zero, List.set_cons_succ]
        generalize (wa.alloc (.cells #[.bool false, .slice none 0 0, .slice none 0 0] 25)) = wz at *
        generalize wa.heap.size = gz at *
        refine walkH_do rfl (fun K hK => ?_)
        go_simp
        rw [unhide EBL]
        refine (diskWrite_any aD0 _ _ _ _ _ _ 0 (fullB 120) _ ((unhide HS).below hbf) ((unhide HC).below hbf) (by rw [unhide ELS]; exact a0_fit.1) (by rw [unhide ELC]; exact a0_fit.2)).mono ?_
        rintro e wb ⟨v, he, O, bb⟩
        rw [g_w1] at he O
        obtain ⟨pa, ka, pc, kc, ev, -, -⟩ := O.read
        subst ev
        subst he
        have hbb : Below WD1.heap.size WD1 wb := bt hbf bb
        refine hK _ _ hbb ?_
        clear hK K
        try simp only [Act.put, List.setIfInBounds_toArray, List.set_cons_zero, List.set_cons_succ]
        have r9 : wb.heap[gz]? = some (.cells #[.bool false, .slice none 0 0, .slice none 0 0] 25 (0, 0)) := (bb.block gz hgz).trans rz
        obtain ⟨d0, d1, d2⟩ := box_dsk r9
        have f0 := dsk_free r9 0
        have f1 := dsk_free r9 1
        have f2 := dsk_free r9 2
        have hO9 := O.put hgz (.bool gD1.lost) (.slice pa gD1.secs.length ka) (.slice pc gD1.cache.length kc)
        have hB9 := below_put hbb hgW (.bool gD1.lost) (.slice pa gD1.secs.length ka) (.slice pc gD1.cache.length kc)
        have hR9 := dsk_put (x' := .bool gD1.lost) (y' := .slice pa gD1.secs.length ka) (z' := .slice pc gD1.cache.length kc) r9
        have hgb : gz < wb.heap.size := Nat.lt_of_lt_of_le hgz bb.size
        clear bb O
        repeat (refine walkH_read (by rfl) (by (intro gx; go_simp; try (with_reducible rfl))) ?_; try simp only [Act.put, List.setIfInBounds_toArray, List.set_cons_zero, List.set_cons_succ])
        refine walkH_do rfl (fun K hK => ?_)
        go_simp
        refine hK _ _ hB9 ?_
        clear hK K
        try simp only [Act.put, List.setIfInBounds_toArray, List.set_cons_zero, List.set_cons_succ]
        repeat (refine walkH_read (by rfl) (by (intro gx; go_simp; try (with_reducible rfl))) ?_; try simp only [Act.put, List.setIfInBounds_toArray, List.set_cons_zero, List.set_cons_succ])
        refine walkH_nil ?_
        refine NoPanic.normal ?_
        have V1 : Hid (DVar (((wb.setCell ⟨gz, 0, none⟩ (.bool gD1.lost)).setCell ⟨gz, 1, none⟩ (.slice pa gD1.secs.length ka)).setCell ⟨gz, 2, none⟩ (.slice pc gD1.cache.length kc)) w.heap.size gz gD1) := hide ⟨⟨pa, ka, pc, kc, hR9, hO9.readAs.1, hO9.readAs.2⟩, Nat.le_trans hsW1 hgW, by simpa using hgb⟩
        have HH1 := hide hB9
        clear hbb hB9 hO9 hR9 hgb d0 d1 d2 f0 f1 f2 r9 rz hgz hgW hbf
        generalize (((wb.setCell ⟨gz, 0, none⟩ (.bool gD1.lost)).setCell ⟨gz, 1, none⟩ (.slice pa gD1.secs.length ka)).setCell ⟨gz, 2, none⟩ (.slice pc gD1.cache.length kc)) = WW1 at *
        revert HH1; revert V1; revert WW1; revert gz; revert kc; revert pc; revert ka; revert pa
        exact HL1.get
    · go_simp
      have rz0 : (WD1.alloc (.cells #[.bool false, .slice none 0 0, .slice none 0 0] 25)).drew.heap[WD1.heap.size]? = some (.cells #[.bool false, .slice none 0 0, .slice none 0 0] 25 (0, 0)) := heap_alloc_new WD1 _
      have hbz : Below WD1.heap.size WD1 (WD1.alloc (.cells #[.bool false, .slice none 0 0, .slice none 0 0] 25)).drew := by go_grown
      have hgz0 : WD1.heap.size < (WD1.alloc (.cells #[.bool false, .slice none 0 0, .slice none 0 0] 25)).drew.heap.size := by simp
      refine hK _ _ hbz ?_
      clear hK K
      try simp only [Act.put, List.setIfInBounds_toArray, List.set_cons_zero, List.set_cons_succ]
      generalize (WD1.alloc (.cells #[.bool false, .slice none 0 0, .slice none 0 0] 25)).drew = wz0 at *
      refine walkH_do rfl (fun K hK => ?_)
      go_simp
      refine (full_any 120 (by decide) _).mono ?_
      rintro e wz ⟨rfl, bz⟩
      have hbf : Below WD1.heap.size WD1 wz := bt hbz bz
      have rz : wz.heap[WD1.heap.size]? = some (.cells #[.bool false, .slice none 0 0, .slice none 0 0] 25 (0, 0)) := (bz.block _ hgz0).trans rz0
      have hgz : WD1.heap.size < wz.heap.size := Nat.lt_of_lt_of_le hgz0 bz.size
      refine hK _ _ hbf ?_
      clear hK K bz hbz rz0 hgz0
      try simp only [Act.put, List.setIfInBounds_toArray, List.set_cons_zero, List.set_cons_succ]
      have hgW : WD1.heap.size ≤ WD1.heap.size := Nat.le_refl _
      repeat (refine walkH_read (by rfl) (by (intro gx; go_simp; try (with_reducible rfl))) ?_; try simp only [Act.put, List.setIfInBounds_toArray, List.set_cons_zero, List.set_cons_succ])
      refine walkH_do rfl (fun K hK => ?_)
      go_simp
      rw [unhide EBL]
      refine (diskWrite_any aD0 _ _ _ _ _ _ 0 (fullB 120) _ ((unhide HS).below hbf) ((unhide HC).below hbf) (by rw [unhide ELS]; exact a0_fit.1) (by rw [unhide ELC]; exact a0_fit.2)).mono ?_
      rintro e wb ⟨v, he, O, bb⟩
      rw [g_w1] at he O
      obtain ⟨pa, ka, pc, kc, ev, -, -⟩ := O.read
      subst ev
      subst he
      have hbb : Below WD1.heap.size WD1 wb := bt hbf bb
      refine hK _ _ hbb ?_
      clear hK K
      try simp only [Act.put, List.setIfInBounds_toArray, List.set_cons_zero, List.set_cons_succ]
      have r9 : wb.heap[WD1.heap.size]? = some (.cells #[.bool false, .slice none 0 0, .slice none 0 0] 25 (0, 0)) := (bb.block WD1.heap.size hgz).trans rz
      obtain ⟨d0, d1, d2⟩ := box_dsk r9
      have f0 := dsk_free r9 0
      have f1 := dsk_free r9 1
      have f2 := dsk_free r9 2
      have hO9 := O.put hgz (.bool gD1.lost) (.slice pa gD1.secs.length ka) (.slice pc gD1.cache.length kc)
      have hB9 := below_put hbb hgW (.bool gD1.lost) (.slice pa gD1.secs.length ka) (.slice pc gD1.cache.length kc)
      have hR9 := dsk_put (x' := .bool gD1.lost) (y' := .slice pa gD1.secs.length ka) (z' := .slice pc gD1.cache.length kc) r9
      have hgb : WD1.heap.size < wb.heap.size := Nat.lt_of_lt_of_le hgz bb.size
      clear bb O
      repeat (refine walkH_read (by rfl) (by (intro gx; go_simp; try (with_reducible rfl))) ?_; try simp only [Act.put, List.setIfInBounds_toArray, List.set_cons_zero, List.set_cons_succ])
      refine walkH_do rfl (fun K hK => ?_)
      go_simp
      refine hK _ _ hB9 ?_
      clear hK K
      try simp only [Act.put, List.setIfInBounds_toArray, List.set_cons_zero, List.set_cons_succ]
      repeat (refine walkH_read (by rfl) (by (intro gx; go_simp; try (with_reducible rfl))) ?_; try simp only [Act.put, List.setIfInBounds_toArray, List.set_cons_zero, List.set_cons_succ])
      refine walkH_nil ?_
      refine NoPanic.normal ?_
      have V1 : Hid (DVar (((wb.setCell ⟨WD1.heap.size, 0, none⟩ (.bool gD1.lost)).setCell ⟨WD1.heap.size, 1, none⟩ (.slice pa gD1.secs.length ka)).setCell ⟨WD1.heap.size, 2, none⟩ (.slice pc gD1.cache.length kc)) w.heap.size WD1.heap.size gD1) := hide ⟨⟨pa, ka, pc, kc, hR9, hO9.readAs.1, hO9.readAs.2⟩, Nat.le_trans hsW1 hgW, by simpa using hgb⟩
      have HH1 := hide hB9
      clear hbb hB9 hO9 hR9 hgb d0 d1 d2 f0 f1 f2 r9 rz hgz hgW hbf
      generalize (((wb.setCell ⟨WD1.heap.size, 0, none⟩ (.bool gD1.lost)).setCell ⟨WD1.heap.size, 1, none⟩ (.slice pa gD1.secs.length ka)).setCell ⟨WD1.heap.size, 2, none⟩ (.slice pc gD1.cache.length kc)) = WW1 at *
      obtain ⟨gz, egz⟩ : ∃ gz, gz = WD1.heap.size := ⟨_, rfl⟩
      rw [← egz] at V1 ⊢
      clear egz
      revert HH1; revert V1; revert WW1; revert gz; revert kc; revert pc; revert ka; revert pa
      exact HL1.get
  case prf =>
    intro pa ka pc kc gw1 WW1 V1 HH1
    clear k0 k1 k2
    replace HB := hide (bt (unhide HB) (unhide HH1))
    clear HS HC EBL ELS ELC HH1 hsW1
    clear V0
    obtain ⟨⟨sa, sc, ca, cc, hbx, hS, hC⟩, hlt⟩ := unhide V1
    obtain ⟨x0, x1, x2⟩ := box_dsk hbx
    go_wp2_with fail
    refine (diskLose_any gD1 _ _ _ _ _ _ _ hS hC g1_fit.1 g1_fit.2).mono ?_
    rintro e wr2 ⟨v, he, O, b2⟩
    rw [g_l] at he O
    obtain ⟨pa2, ka2, pc2, kc2, ev, hS2, hC2⟩ := O.read
    subst ev
    subst he
    replace HB := hide (bt (unhide HB) b2)
    clear b2 hbx hS hC hlt x0 x1 x2 O
    go_upto_region 6 with fail
    have VL : Hid (DVar (wr2.alloc (.cells #[.bool aDL.lost, .slice pa2 aDL.secs.length ka2, .slice pc2 aDL.cache.length kc2] 25)) w.heap.size wr2.heap.size aDL) := hide ⟨⟨pa2, ka2, pc2, kc2, heap_alloc_new wr2 _, hS2.below (below_alloc _ _), hC2.below (below_alloc _ _)⟩, (unhide HB).size, by simp⟩
    have bb2 := below_alloc wr2 (.cells #[.bool aDL.lost, .slice pa2 aDL.secs.length ka2, .slice pc2 aDL.cache.length kc2] 25)
    replace HB := hide (bt (unhide HB) bb2)
    clear bb2 hS2 hC2
    generalize (wr2.alloc (.cells #[.bool aDL.lost, .slice pa2 aDL.secs.length ka2, .slice pc2 aDL.cache.length kc2] 25)) = WD2 at *
    obtain ⟨⟨sa, sc, ca, cc, hbx, hS, hC⟩, hlt⟩ := unhide VL
    obtain ⟨x0, x1, x2⟩ := box_dsk hbx
    go_wp2_with fail
    refine (diskLose_any aDL _ _ _ _ _ _ _ hS hC aL_fit.1 aL_fit.2).mono ?_
    rintro e wr3 ⟨v, he, O, b3⟩
    rw [g_ll] at he O
    obtain ⟨pa3, ka3, pc3, kc3, ev, hS3, hC3⟩ := O.read
    subst ev
    subst he
    replace VL := hide ((unhide VL).below b3)
    replace HB := hide (bt (unhide HB) b3)
    clear b3 hbx hS hC hlt x0 x1 x2 O
    go_upto_region 7 with fail
    have VM : Hid (DVar (wr3.alloc (.cells #[.bool aDL.lost, .slice pa3 aDL.secs.length ka3, .slice pc3 aDL.cache.length kc3] 25)) w.heap.size wr3.heap.size aDL) := hide ⟨⟨pa3, ka3, pc3, kc3, heap_alloc_new wr3 _, hS3.below (below_alloc _ _), hC3.below (below_alloc _ _)⟩, (unhide HB).size, by simp⟩
    have bb3 := below_alloc wr3 (.cells #[.bool aDL.lost, .slice pa3 aDL.secs.length ka3, .slice pc3 aDL.cache.length kc3] 25)
    replace VL := hide ((unhide VL).below bb3)
    replace HB := hide (bt (unhide HB) bb3)
    clear bb3 hS3 hC3
    generalize (wr3.alloc (.cells #[.bool aDL.lost, .slice pa3 aDL.secs.length ka3, .slice pc3 aDL.cache.length kc3] 25)) = WD3 at *
    obtain ⟨⟨sa, sc, ca, cc, hbx, hS, hC⟩, hlt⟩ := unhide VL
    obtain ⟨x0, x1, x2⟩ := box_dsk hbx
    go_wp2_with fail
    refine (diskRead_any aDL _ _ _ _ _ _ 0 _ hS hC (by have := aL_fit.1; omega) (by have := aL_fit.2; omega)).mono ?_
    rintro e wr4 ⟨he, b4⟩
    rw [g_r] at he
    subst he
    replace VL := hide ((unhide VL).below b4)
    replace VM := hide ((unhide VM).below b4)
    replace HB := hide (bt (unhide HB) b4)
    clear b4 hbx hS hC hlt x0 x1 x2
    generalize wr4 = WR4 at *
    have hsW2 := (unhide HB).size
    obtain ⟨⟨sa, sc, ca, cc, hbx, hS, hC⟩, hlt⟩ := unhide VL
    obtain ⟨x0, x1, x2⟩ := box_dsk hbx
    have k0 := kept_cell (B := WR4.heap.size) x0 (cell_lt x0)
    have k1 := kept_cell (B := WR4.heap.size) x1 (cell_lt x1)
    have k2 := kept_cell (B := WR4.heap.size) x2 (cell_lt x2)
    have HS := hide hS
    have HC := hide hC
    obtain ⟨bl, ebl⟩ : ∃ bl, bl = aDL.lost := ⟨_, rfl⟩
    rw [← ebl] at k0
    obtain ⟨ls, els⟩ : ∃ ls, ls = aDL.secs.length := ⟨_, rfl⟩
    obtain ⟨lc, elc⟩ : ∃ lc, lc = aDL.cache.length := ⟨_, rfl⟩
    rw [← els] at k1 HS
    rw [← elc] at k2 HC
    have EBL := hide ebl
    have ELS := hide els
    have ELC := hide elc
    clear hbx hS hC hlt x0 x1 x2 ebl els elc
    go_upto_region 8 with fail
    refine' (fun (HL2 : Later _) => ?main) (Later.mk ?prf)
    case main =>
      refine wp_region_float (S := Below WR4.heap.size WR4) 6 [(true, 0), (false, 1), (false, 2), (true, 3), (true, 4), (true, 5)] [(false, 7), (true, 8)] (by kernel_rfl) (by kernel_rfl) (by kernel_rfl) (by kernel_rfl) ((Below.refl _ _).drew) ?_
      simp only [withOps, List.map_cons, List.map_nil, List.getElem?_cons_succ, List.getElem?_cons_zero]
      repeat (refine walkF_read (by rfl) (by (intro gx; go_simp; try (with_reducible rfl))) ?_; try simp only [Act.put, List.setIfInBounds_toArray, List.set_cons_zero, List.set_cons_succ])
      refine walkF_do rfl rfl (fun K hK => ?_) (fun K hK => ?_)
      · go_simp
        refine (full_any 121 (by decide) _).mono ?_
        rintro e wa ⟨rfl, ba⟩
        have hba : Below WR4.heap.size WR4 wa := ((Below.refl _ _).drew).trans ba
        refine hK _ _ hba ?_
        clear hK K ba
        try simp only [Act.put, List.setIfInBounds_toArray, List.set_cons_zero, List.set_cons_succ]
        repeat (refine walkF_read (by rfl) (by (intro gx; go_simp; try (with_reducible rfl))) ?_; try simp only [Act.put, List.setIfInBounds_toArray, List.set_cons_zero, List.set_cons_succ])
        refine walkF_do rfl rfl (fun K hK => ?_) (fun K hK => ?_)
        · go_simp
          rw [unhide EBL]
          refine (diskWrite_any aDL _ _ _ _ _ _ 0 (fullB 121) _ ((unhide HS).below hba) ((unhide HC).below hba) (by rw [unhide ELS]; exact aL_fit.1) (by rw [unhide ELC]; exact aL_fit.2)).mono ?_
          rintro e wb ⟨v, he, O, bb⟩
          rw [(g_w _)] at he O
          obtain ⟨pa, ka, pc, kc, ev, hS', hC'⟩ := O.read
          subst ev
          subst he
          have hbb : Below WR4.heap.size WR4 wb := bt hba bb
          refine hK _ _ hbb ?_
          clear hK K bb O
          try simp only [Act.put, List.setIfInBounds_toArray, List.set_cons_zero, List.set_cons_succ]
          repeat (refine walkF_read (by rfl) (by (intro gx; go_simp; try (with_reducible rfl))) ?_; try simp only [Act.put, List.setIfInBounds_toArray, List.set_cons_zero, List.set_cons_succ])
          refine walkF_end rfl (fun K hK => ?_)
          go_simp
          refine hK _ _ (bt hbb (below_alloc _ _)) ?_
          clear hK K
          try simp only [Act.put, List.setIfInBounds_toArray, List.set_cons_zero, List.set_cons_succ]
          refine walkH_do rfl (fun K hK => ?_)
          go_simp
          refine hK _ _ (bt hbb (below_alloc _ _)) ?_
          clear hK K
          try simp only [Act.put, List.setIfInBounds_toArray, List.set_cons_zero, List.set_cons_succ]
          repeat (refine walkH_read (by rfl) (by (intro gx; go_simp; try (with_reducible rfl))) ?_; try simp only [Act.put, List.setIfInBounds_toArray, List.set_cons_zero, List.set_cons_succ])
          refine walkH_nil ?_
          refine NoPanic.normal ?_
          have VX : Hid (DVar (wb.alloc (.cells #[.bool dsk0.lost, .slice pa dsk0.secs.length ka, .slice pc dsk0.cache.length kc] 25)) w.heap.size wb.heap.size dsk0) := hide ⟨⟨pa, ka, pc, kc, heap_alloc_new wb _, hS'.below (below_alloc _ _), hC'.below (below_alloc _ _)⟩, Nat.le_trans hsW2 hbb.size, by simp⟩
          have HH2 : Hid (Below WR4.heap.size WR4 (wb.alloc (.cells #[.bool dsk0.lost, .slice pa dsk0.secs.length ka, .slice pc dsk0.cache.length kc] 25))) := hide (bt hbb (below_alloc _ _))
          clear hbb hba hS' hC'
          generalize (wb.alloc (.cells #[.bool dsk0.lost, .slice pa dsk0.secs.length ka, .slice pc dsk0.cache.length kc] 25)) = WW2 at *
          generalize wb.heap.size = g2 at *
          revert HH2; revert VX; revert WW2; revert g2; revert kc; revert pc; revert ka; revert pa
          exact HL2.get
        · go_simp
          have rz : (wa.alloc (.cells #[.bool false, .slice none 0 0, .slice none 0 0] 25)).heap[wa.heap.size]? = some (.cells #[.bool false, .slice none 0 0, .slice none 0 0] 25 (0, 0)) := heap_alloc_new wa _
          have hbf : Below WR4.heap.size WR4 (wa.alloc (.cells #[.bool false, .slice none 0 0, .slice none 0 0] 25)) := bt hba (below_alloc _ _)
          have hgW : WR4.heap.size ≤ wa.heap.size := hba.size
          have hgz : wa.heap.size < (wa.alloc (.cells #[.bool false, .slice none 0 0, .slice none 0 0] 25)).heap.size := by simp
          refine hK _ _ hbf ?_
          clear hK K hba
          try simp only [Act.put, List.setIfInBounds_toArray, List.set_cons_zero, List.set_cons_succ]
          generalize (wa.alloc (.cells #[.bool false, .slice none 0 0, .slice none 0 0] 25)) = wz at *
          generalize wa.heap.size = gz at *
          refine walkH_do rfl (fun K hK => ?_)
          go_simp
          rw [unhide EBL]
          refine (diskWrite_any aDL _ _ _ _ _ _ 0 (fullB 121) _ ((unhide HS).below hbf) ((unhide HC).below hbf) (by rw [unhide ELS]; exact aL_fit.1) (by rw [unhide ELC]; exact aL_fit.2)).mono ?_
          rintro e wb ⟨v, he, O, bb⟩
          rw [(g_w _)] at he O
          obtain ⟨pa, ka, pc, kc, ev, -, -⟩ := O.read
          subst ev
          subst he
          have hbb : Below WR4.heap.size WR4 wb := bt hbf bb
          refine hK _ _ hbb ?_
          clear hK K
          try simp only [Act.put, List.setIfInBounds_toArray, List.set_cons_zero, List.set_cons_succ]
          have r9 : wb.heap[gz]? = some (.cells #[.bool false, .slice none 0 0, .slice none 0 0] 25 (0, 0)) := (bb.block gz hgz).trans rz
          obtain ⟨d0, d1, d2⟩ := box_dsk r9
          have f0 := dsk_free r9 0
          have f1 := dsk_free r9 1
          have f2 := dsk_free r9 2
          have hO9 := O.put hgz (.bool dsk0.lost) (.slice pa dsk0.secs.length ka) (.slice pc dsk0.cache.length kc)
          have hB9 := below_put hbb hgW (.bool dsk0.lost) (.slice pa dsk0.secs.length ka) (.slice pc dsk0.cache.length kc)
          have hR9 := dsk_put (x' := .bool dsk0.lost) (y' := .slice pa dsk0.secs.length ka) (z' := .slice pc dsk0.cache.length kc) r9
          have hgb : gz < wb.heap.size := Nat.lt_of_lt_of_le hgz bb.size
          clear bb O
          repeat (refine walkH_read (by rfl) (by (intro gx; go_simp; try (with_reducible rfl))) ?_; try simp only [Act.put, List.setIfInBounds_toArray, List.set_cons_zero, List.set_cons_succ])
          refine walkH_do rfl (fun K hK => ?_)
          go_simp
          refine hK _ _ hB9 ?_
          clear hK K
          try simp only [Act.put, List.setIfInBounds_toArray, List.set_cons_zero, List.set_cons_succ]
          repeat (refine walkH_read (by rfl) (by (intro gx; go_simp; try (with_reducible rfl))) ?_; try simp only [Act.put, List.setIfInBounds_toArray, List.set_cons_zero, List.set_cons_succ])
          refine walkH_nil ?_
          refine NoPanic.normal ?_
          have VX : Hid (DVar (((wb.setCell ⟨gz, 0, none⟩ (.bool dsk0.lost)).setCell ⟨gz, 1, none⟩ (.slice pa dsk0.secs.length ka)).setCell ⟨gz, 2, none⟩ (.slice pc dsk0.cache.length kc)) w.heap.size gz dsk0) := hide ⟨⟨pa, ka, pc, kc, hR9, hO9.readAs.1, hO9.readAs.2⟩, Nat.le_trans hsW2 hgW, by simpa using hgb⟩
          have HH2 := hide hB9
          clear hbb hB9 hO9 hR9 hgb d0 d1 d2 f0 f1 f2 r9 rz hgz hgW hbf
          generalize (((wb.setCell ⟨gz, 0, none⟩ (.bool dsk0.lost)).setCell ⟨gz, 1, none⟩ (.slice pa dsk0.secs.length ka)).setCell ⟨gz, 2, none⟩ (.slice pc dsk0.cache.length kc)) = WW2 at *
          revert HH2; revert VX; revert WW2; revert gz; revert kc; revert pc; revert ka; revert pa
          exact HL2.get
      · go_simp
        have rz0 : (WR4.alloc (.cells #[.bool false, .slice none 0 0, .slice none 0 0] 25)).drew.heap[WR4.heap.size]? = some (.cells #[.bool false, .slice none 0 0, .slice none 0 0] 25 (0, 0)) := heap_alloc_new WR4 _
        have hbz : Below WR4.heap.size WR4 (WR4.alloc (.cells #[.bool false, .slice none 0 0, .slice none 0 0] 25)).drew := by go_grown
        have hgz0 : WR4.heap.size < (WR4.alloc (.cells #[.bool false, .slice none 0 0, .slice none 0 0] 25)).drew.heap.size := by simp
        refine hK _ _ hbz ?_
        clear hK K
        try simp only [Act.put, List.setIfInBounds_toArray, List.set_cons_zero, List.set_cons_succ]
        generalize (WR4.alloc (.cells #[.bool false, .slice none 0 0, .slice none 0 0] 25)).drew = wz0 at *
        refine walkH_do rfl (fun K hK => ?_)
        go_simp
        refine (full_any 121 (by decide) _).mono ?_
        rintro e wz ⟨rfl, bz⟩
        have hbf : Below WR4.heap.size WR4 wz := bt hbz bz
        have rz : wz.heap[WR4.heap.size]? = some (.cells #[.bool false, .slice none 0 0, .slice none 0 0] 25 (0, 0)) := (bz.block _ hgz0).trans rz0
        have hgz : WR4.heap.size < wz.heap.size := Nat.lt_of_lt_of_le hgz0 bz.size
        refine hK _ _ hbf ?_
        clear hK K bz hbz rz0 hgz0
        try simp only [Act.put, List.setIfInBounds_toArray, List.set_cons_zero, List.set_cons_succ]
        have hgW : WR4.heap.size ≤ WR4.heap.size := Nat.le_refl _
        repeat (refine walkH_read (by rfl) (by (intro gx; go_simp; try (with_reducible rfl))) ?_; try simp only [Act.put, List.setIfInBounds_toArray, List.set_cons_zero, List.set_cons_succ])
        refine walkH_do rfl (fun K hK => ?_)
        go_simp
        rw [unhide EBL]
        refine (diskWrite_any aDL _ _ _ _ _ _ 0 (fullB 121) _ ((unhide HS).below hbf) ((unhide HC).below hbf) (by rw [unhide ELS]; exact aL_fit.1) (by rw [unhide ELC]; exact aL_fit.2)).mono ?_
        rintro e wb ⟨v, he, O, bb⟩
        rw [(g_w _)] at he O
        obtain ⟨pa, ka, pc, kc, ev, -, -⟩ := O.read
        subst ev
        subst he
        have hbb : Below WR4.heap.size WR4 wb := bt hbf bb
        refine hK _ _ hbb ?_
        clear hK K
        try simp only [Act.put, List.setIfInBounds_toArray, List.set_cons_zero, List.set_cons_succ]
        have r9 : wb.heap[WR4.heap.size]? = some (.cells #[.bool false, .slice none 0 0, .slice none 0 0] 25 (0, 0)) := (bb.block WR4.heap.size hgz).trans rz
        obtain ⟨d0, d1, d2⟩ := box_dsk r9
        have f0 := dsk_free r9 0
        have f1 := dsk_free r9 1
        have f2 := dsk_free r9 2
        have hO9 := O.put hgz (.bool dsk0.lost) (.slice pa dsk0.secs.length ka) (.slice pc dsk0.cache.length kc)
        have hB9 := below_put hbb hgW (.bool dsk0.lost) (.slice pa dsk0.secs.length ka) (.slice pc dsk0.cache.length kc)
        have hR9 := dsk_put (x' := .bool dsk0.lost) (y' := .slice pa dsk0.secs.length ka) (z' := .slice pc dsk0.cache.length kc) r9
        have hgb : WR4.heap.size < wb.heap.size := Nat.lt_of_lt_of_le hgz bb.size
        clear bb O
        repeat (refine walkH_read (by rfl) (by (intro gx; go_simp; try (with_reducible rfl))) ?_; try simp only [Act.put, List.setIfInBounds_toArray, List.set_cons_zero, List.set_cons_succ])
        refine walkH_do rfl (fun K hK => ?_)
        go_simp
        refine hK _ _ hB9 ?_
        clear hK K
        try simp only [Act.put, List.setIfInBounds_toArray, List.set_cons_zero, List.set_cons_succ]
        repeat (refine walkH_read (by rfl) (by (intro gx; go_simp; try (with_reducible rfl))) ?_; try simp only [Act.put, List.setIfInBounds_toArray, List.set_cons_zero, List.set_cons_succ])
        refine walkH_nil ?_
        refine NoPanic.normal ?_
        have VX : Hid (DVar (((wb.setCell ⟨WR4.heap.size, 0, none⟩ (.bool dsk0.lost)).setCell ⟨WR4.heap.size, 1, none⟩ (.slice pa dsk0.secs.length ka)).setCell ⟨WR4.heap.size, 2, none⟩ (.slice pc dsk0.cache.length kc)) w.heap.size WR4.heap.size dsk0) := hide ⟨⟨pa, ka, pc, kc, hR9, hO9.readAs.1, hO9.readAs.2⟩, Nat.le_trans hsW2 hgW, by simpa using hgb⟩
        have HH2 := hide hB9
        clear hbb hB9 hO9 hR9 hgb d0 d1 d2 f0 f1 f2 r9 rz hgz hgW hbf
        generalize (((wb.setCell ⟨WR4.heap.size, 0, none⟩ (.bool dsk0.lost)).setCell ⟨WR4.heap.size, 1, none⟩ (.slice pa dsk0.secs.length ka)).setCell ⟨WR4.heap.size, 2, none⟩ (.slice pc dsk0.cache.length kc)) = WW2 at *
        obtain ⟨gz, egz⟩ : ∃ gz, gz = WR4.heap.size := ⟨_, rfl⟩
        rw [← egz] at VX ⊢
        clear egz
        revert HH2; revert VX; revert WW2; revert gz; revert kc; revert pc; revert ka; revert pa
        exact HL2.get
    case prf =>
      intro pa ka pc kc gw2 WW2 VX HH2
      clear k0 k1 k2
      replace VL := hide ((unhide VL).below (unhide HH2))
      replace VM := hide ((unhide VM).below (unhide HH2))
      replace HB := hide (bt (unhide HB) (unhide HH2))
      clear HS HC EBL ELS ELC HH2 hsW2
      obtain ⟨⟨sa, sc, ca, cc, hbx, hS, hC⟩, hlt⟩ := unhide VL
      obtain ⟨x0, x1, x2⟩ := box_dsk hbx
      go_wp2_with fail
      refine (diskFlush_any aDL _ _ _ _ _ _ _ hS hC aL_fit.1 aL_fit.2).mono ?_
      rintro e wr5 ⟨v, he, O, b5⟩
      rw [g_f] at he O
      obtain ⟨pa5, ka5, pc5, kc5, ev, hS5, hC5⟩ := O.read
      subst ev
      subst he
      replace VL := hide ((unhide VL).below b5)
      replace VM := hide ((unhide VM).below b5)
      replace HB := hide (bt (unhide HB) b5)
      clear b5 hbx hS hC hlt x0 x1 x2 O
      go_upto_region 10 with fail
      have VX2 : Hid (DVar (wr5.alloc (.cells #[.bool dsk0.lost, .slice pa5 dsk0.secs.length ka5, .slice pc5 dsk0.cache.length kc5] 25)) w.heap.size wr5.heap.size dsk0) := hide ⟨⟨pa5, ka5, pc5, kc5, heap_alloc_new wr5 _, hS5.below (below_alloc _ _), hC5.below (below_alloc _ _)⟩, (unhide HB).size, by simp⟩
      have bb5 := below_alloc wr5 (.cells #[.bool dsk0.lost, .slice pa5 dsk0.secs.length ka5, .slice pc5 dsk0.cache.length kc5] 25)
      replace VL := hide ((unhide VL).below bb5)
      replace VM := hide ((unhide VM).below bb5)
      replace HB := hide (bt (unhide HB) bb5)
      clear bb5 hS5 hC5
      generalize (wr5.alloc (.cells #[.bool dsk0.lost, .slice pa5 dsk0.secs.length ka5, .slice pc5 dsk0.cache.length kc5] 25)) = WD5 at *
      obtain ⟨⟨sa, sc, ca, cc, hbx, hS, hC⟩, hlt⟩ := unhide VL
      obtain ⟨x0, x1, x2⟩ := box_dsk hbx
      go_wp2_with fail
      refine (diskCrash_any aDL _ _ _ _ _ _ kp _ hS hC aL_fit.1 aL_fit.2).mono ?_
      rintro e wr6 ⟨v, he, O, b6⟩
      rw [(g_c kp)] at he O
      obtain ⟨pa6, ka6, pc6, kc6, ev, hS6, hC6⟩ := O.read
      subst ev
      subst he
      replace VL := hide ((unhide VL).below b6)
      replace VM := hide ((unhide VM).below b6)
      replace HB := hide (bt (unhide HB) b6)
      clear b6 hbx hS hC hlt x0 x1 x2 O
      go_upto_region 11 with fail
      have VX3 : Hid (DVar (wr6.alloc (.cells #[.bool dsk0.lost, .slice pa6 dsk0.secs.length ka6, .slice pc6 dsk0.cache.length kc6] 25)) w.heap.size wr6.heap.size dsk0) := hide ⟨⟨pa6, ka6, pc6, kc6, heap_alloc_new wr6 _, hS6.below (below_alloc _ _), hC6.below (below_alloc _ _)⟩, (unhide HB).size, by simp⟩
      have bb6 := below_alloc wr6 (.cells #[.bool dsk0.lost, .slice pa6 dsk0.secs.length ka6, .slice pc6 dsk0.cache.length kc6] 25)
      replace VL := hide ((unhide VL).below bb6)
      replace VM := hide ((unhide VM).below bb6)
      replace HB := hide (bt (unhide HB) bb6)
      clear bb6 hS6 hC6
      generalize (wr6.alloc (.cells #[.bool dsk0.lost, .slice pa6 dsk0.secs.length ka6, .slice pc6 dsk0.cache.length kc6] 25)) = WD6 at *
      obtain ⟨⟨sa, sc, ca, cc, hbx, hS, hC⟩, hlt⟩ := unhide VL
      obtain ⟨x0, x1, x2⟩ := box_dsk hbx
      go_wp2_with fail
      refine (diskRot_any aDL _ _ _ _ _ _ 0 0 1 _ hS hC aL_fit.1 aL_fit.2).mono ?_
      rintro e wr7 ⟨v, he, O, b7⟩
      rw [g_rot] at he O
      obtain ⟨pa7, ka7, pc7, kc7, ev, hS7, hC7⟩ := O.read
      subst ev
      subst he
      replace VL := hide ((unhide VL).below b7)
      replace VM := hide ((unhide VM).below b7)
      replace HB := hide (bt (unhide HB) b7)
      clear b7 hbx hS hC hlt x0 x1 x2 O
      go_upto_region 12 with fail
      have VX4 : Hid (DVar (wr7.alloc (.cells #[.bool dsk0.lost, .slice pa7 dsk0.secs.length ka7, .slice pc7 dsk0.cache.length kc7] 25)) w.heap.size wr7.heap.size dsk0) := hide ⟨⟨pa7, ka7, pc7, kc7, heap_alloc_new wr7 _, hS7.below (below_alloc _ _), hC7.below (below_alloc _ _)⟩, (unhide HB).size, by simp⟩
      have bb7 := below_alloc wr7 (.cells #[.bool dsk0.lost, .slice pa7 dsk0.secs.length ka7, .slice pc7 dsk0.cache.length kc7] 25)
      replace VL := hide ((unhide VL).below bb7)
      replace VM := hide ((unhide VM).below bb7)
      replace HB := hide (bt (unhide HB) bb7)
      clear bb7 hS7 hC7
      generalize (wr7.alloc (.cells #[.bool dsk0.lost, .slice pa7 dsk0.secs.length ka7, .slice pc7 dsk0.cache.length kc7] 25)) = WD7 at *
      clear VX VX2 VX3 VX4
      have hL0 : aDL.secs.length ≤ maxLen := by decide
      have hL1 : aDL.cache.length ≤ maxLen := by decide
      obtain ⟨⟨sa, sc, ca, cc, hbx, hS, hC⟩, hlt⟩ := unhide VL
      obtain ⟨x0, x1, x2⟩ := box_dsk hbx
      obtain ⟨⟨sb, sd, cb, cd, hby, hT, hD⟩, hlu⟩ := unhide VM
      obtain ⟨y0, y1, y2⟩ := box_dsk hby
      clear hbx hby hlt hlu
      go_wp2_with (go_at_call 12; refine (num_any _ _).mono ?_; rintro e w' ⟨rfl, hw'⟩; rw [hw']; clear hw' w')
      refine (sameDisk_any aDL aDL _ _ _ _ _ _ none 0 0 none 0 0 _ hS hC ⟨rfl, .inl ⟨rfl, rfl, rfl⟩⟩ (WrV.nil _) hL0 hL1).mono ?_
      rintro e wf1 ⟨rfl, bf1⟩
      rw [decide_eq_true (sameD_refl aDL)]
      clear x0 x1 x2 y0 y1 y2 hS hC hT hD
      replace VL := hide ((unhide VL).below bf1)
      replace VM := hide ((unhide VM).below bf1)
      replace HB := hide (bt (unhide HB) bf1)
      clear bf1
      obtain ⟨⟨sa, sc, ca, cc, hbx, hS, hC⟩, hlt⟩ := unhide VL
      obtain ⟨x0, x1, x2⟩ := box_dsk hbx
      obtain ⟨⟨sb, sd, cb, cd, hby, hT, hD⟩, hlu⟩ := unhide VM
      obtain ⟨y0, y1, y2⟩ := box_dsk hby
      clear hbx hby hlt hlu
      go_wp2_with (go_at_call 12; refine (num_any _ _).mono ?_; rintro e w' ⟨rfl, hw'⟩; rw [hw']; clear hw' w')
      refine (sameDisk_any aDL aDL _ _ _ _ _ _ _ _ _ _ _ _ _ hT hD hS hC hL0 hL1).mono ?_
      rintro e wf2 ⟨rfl, bf2⟩
      rw [decide_eq_true (sameD_refl aDL)]
      clear x0 x1 x2 y0 y1 y2 hS hC hT hD
      replace VL := hide ((unhide VL).below bf2)
      replace VM := hide ((unhide VM).below bf2)
      replace HB := hide (bt (unhide HB) bf2)
      clear bf2
      obtain ⟨⟨sa, sc, ca, cc, hbx, hS, hC⟩, hlt⟩ := unhide VL
      obtain ⟨x0, x1, x2⟩ := box_dsk hbx
      obtain ⟨⟨sb, sd, cb, cd, hby, hT, hD⟩, hlu⟩ := unhide VM
      obtain ⟨y0, y1, y2⟩ := box_dsk hby
      clear hbx hby hlt hlu
      go_wp2_with (go_at_call 12; refine (num_any _ _).mono ?_; rintro e w' ⟨rfl, hw'⟩; rw [hw']; clear hw' w')
      refine (diskMay_any aDL _ _ _ _ _ _ _ hS hC (by decide) (by decide)).mono ?_
      rintro e wf3 ⟨rfl, bf3⟩
      rw [decide_eq_true aDL_may]
      clear x0 x1 x2 y0 y1 y2 hS hC hT hD
      replace VL := hide ((unhide VL).below bf3)
      replace VM := hide ((unhide VM).below bf3)
      replace HB := hide (bt (unhide HB) bf3)
      clear bf3
      go_wp2_with (go_at_call 12; refine (num_any _ _).mono ?_; rintro e w' ⟨rfl, hw'⟩; rw [hw']; clear hw' w')
      go_ret
      exact ⟨rfl, unhide HB⟩
end Go.Proofs.Ytpmbmhjhclekeaa
