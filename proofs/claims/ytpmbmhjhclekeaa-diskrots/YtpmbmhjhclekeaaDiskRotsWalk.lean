/- The Go text of the statement DiskRots returns true, whatever the numbers. -/
import Derived.Test.YtpmbmhjhclekeaaAwake13
import Derived.Test.YtpmbmhjhclekeaaRotsMath
namespace Go.Proofs.Ytpmbmhjhclekeaa
open Go.RowKit
set_option linter.unusedVariables false
set_option linter.unusedSimpArgs false
attribute [local go_sem ↓] Go.wp_at_zero Go.wp_at_succ
theorem modD (a n : Int) (h1 : 0 < n) (h2 : n ≤ 1000) : ∃ i : Nat, (i : Int) < n ∧ (IntKind.u64.wrap a).tmod n = (i : Int) := by
  have h0 : IntKind.u64.wrap a = a % 18446744073709551616 := IntKind.wrap_u64 a
  have : 0 ≤ a % 18446744073709551616 := Int.emod_nonneg _ (by decide)
  rw [h0, Int.tmod_eq_emod_of_nonneg (by omega)]
  have h3 := Int.emod_nonneg (a % 18446744073709551616) (show n ≠ 0 by omega)
  have h4 := Int.emod_lt_of_pos (a % 18446744073709551616) h1
  exact ⟨(a % 18446744073709551616 % n).toNat, by omega, by omega⟩
theorem wrapI (i : Nat) (h : i < 1000) : wrap64 (i : Int) = (i : Int) := by unfold wrap64; omega
theorem modD3 (a : Int) : ∃ i : Nat, i < 3 ∧ wrap64 ((IntKind.u64.wrap a).tmod 3) = (i : Int) := by
  obtain ⟨i, h, e⟩ := modD a 3 (by decide) (by decide)
  rw [e]
  exact ⟨i, by omega, wrapI i (by omega)⟩
theorem modD64 (a : Int) : ∃ i : Nat, i < 64 ∧ wrap64 ((IntKind.u64.wrap a).tmod 64) = (i : Int) := by
  obtain ⟨i, h, e⟩ := modD a 64 (by decide) (by decide)
  rw [e]
  exact ⟨i, by omega, wrapI i (by omega)⟩
theorem modD255 (a : Int) : ∃ i : Nat, (1 ≤ i ∧ i ≤ 255) ∧ wrap64 (1 + wrap64 ((IntKind.u64.wrap a).tmod 255)) = (i : Int) := by
  obtain ⟨i, h, e⟩ := modD a 255 (by decide) (by decide)
  rw [e, wrapI i (by omega)]
  exact ⟨1 + i, by omega, by unfold wrap64; omega⟩
theorem byteD (b : Int) : ∃ y : Nat, y < 256 ∧ IntKind.u8.wrap b = (y : Int) := by
  rw [IntKind.wrap_u8]
  have h1 := Int.emod_nonneg b (show (256 : Int) ≠ 0 by decide)
  have h2 := Int.emod_lt_of_pos b (show (0 : Int) < 256 by decide)
  exact ⟨(b % 256).toNat, by omega, by omega⟩
theorem wrapK (k : Nat) (h : 1 ≤ k ∧ k ≤ 255) : IntKind.u8.wrap (k : Int) = (k : Int) := by rw [IntKind.wrap_u8]; omega
set_option maxRecDepth 100000 in
set_option maxHeartbeats 4000000 in
theorem DiskRots_walk {w : World} (av : Int) (wa : (Lit.int .i64 av).wf = true) (pv : Int) (wp : (Lit.int .i64 pv).wf = true) (yv : Int) (wy : (Lit.int .i64 yv).wf = true) (bv : Int) (wb : (Lit.int .i64 bv).wf = true) : Calls Try.prog 7 #[.int .i64 av, .int .i64 pv, .int .i64 yv, .int .i64 bv] w fun e w' => e = .returned (.bool true) ∧ Below w.heap.size w w' := by
  clear wa wp wy wb
  obtain ⟨i, hi, ei⟩ := modD3 av
  obtain ⟨j, hj, ej⟩ := modD64 pv
  obtain ⟨kk, hk, ek⟩ := modD255 yv
  obtain ⟨y, hy, ey⟩ := byteD bv
  have HI := hide hi
  have HJ := hide hj
  have HK := hide hk
  clear hi hj hk
  go_enter Try.func7, Try.ntmps7
  go_wp2_with fail
  refine (awake13_any _).mono ?_
  rintro e w0 ⟨rfl, b0⟩
  have HB := hide b0
  clear b0
  go_wp2_with fail
  refine (diskNew_any 3 _).mono ?_
  rintro e wr1 ⟨v, he, O, b1⟩
  rw [r_new] at he O
  obtain ⟨pa1, ka1, pc1, kc1, ev, hS1, hC1⟩ := O.read
  subst ev
  subst he
  replace HB := hide (bt (unhide HB) b1)
  clear b1  O
  go_upto_region 4 with fail
  have V0 : Hid (DVar (wr1.alloc (.cells #[.bool rD0.lost, .slice pa1 rD0.secs.length ka1, .slice pc1 rD0.cache.length kc1] 25)) w.heap.size wr1.heap.size rD0) := hide ⟨⟨pa1, ka1, pc1, kc1, heap_alloc_new wr1 _, hS1.below (below_alloc _ _), hC1.below (below_alloc _ _)⟩, (unhide HB).size, by simp⟩
  have bb1 := below_alloc wr1 (.cells #[.bool rD0.lost, .slice pa1 rD0.secs.length ka1, .slice pc1 rD0.cache.length kc1] 25)
  replace HB := hide (bt (unhide HB) bb1)
  clear bb1 hS1 hC1
  generalize (wr1.alloc (.cells #[.bool rD0.lost, .slice pa1 rD0.secs.length ka1, .slice pc1 rD0.cache.length kc1] 25)) = WD1 at *
  go_upto_region 5 with fail
  simp only [ei, ej, ek]
  clear ei ej ek
  obtain ⟨⟨sa, sc, ca, cc, hbx, hS, hC⟩, hlt⟩ := unhide V0
  obtain ⟨x0, x1, x2⟩ := box_dsk hbx
  go_wp2_with fail
  refine (diskRot_any rD0 _ _ _ _ _ _ (i : Int) (j : Int) (kk : Int) _ hS hC rD0_fit.1 rD0_fit.2).mono ?_
  rintro e wr2 ⟨v, he, O, b2⟩
  rw [(r_rot1 i j kk (unhide HI) (unhide HJ) (unhide HK))] at he O
  obtain ⟨pa2, ka2, pc2, kc2, ev, hS2, hC2⟩ := O.read
  subst ev
  subst he
  replace V0 := hide ((unhide V0).below b2)
  replace HB := hide (bt (unhide HB) b2)
  clear b2 hbx hS hC hlt x0 x1 x2 O
  go_upto_region 6 with fail
  have V1 : Hid (DVar (wr2.alloc (.cells #[.bool (rX i j kk).lost, .slice pa2 (rX i j kk).secs.length ka2, .slice pc2 (rX i j kk).cache.length kc2] 25)) w.heap.size wr2.heap.size (rX i j kk)) := hide ⟨⟨pa2, ka2, pc2, kc2, heap_alloc_new wr2 _, hS2.below (below_alloc _ _), hC2.below (below_alloc _ _)⟩, (unhide HB).size, by simp⟩
  have bb2 := below_alloc wr2 (.cells #[.bool (rX i j kk).lost, .slice pa2 (rX i j kk).secs.length ka2, .slice pc2 (rX i j kk).cache.length kc2] 25)
  replace V0 := hide ((unhide V0).below bb2)
  replace HB := hide (bt (unhide HB) bb2)
  clear bb2 hS2 hC2
  generalize (wr2.alloc (.cells #[.bool (rX i j kk).lost, .slice pa2 (rX i j kk).secs.length ka2, .slice pc2 (rX i j kk).cache.length kc2] 25)) = WD2 at *
  obtain ⟨⟨sa, sc, ca, cc, hbx, hS, hC⟩, hlt⟩ := unhide V1
  obtain ⟨x0, x1, x2⟩ := box_dsk hbx
  go_wp2_with fail
  refine (diskRot_any (rX i j kk) _ _ _ _ _ _ (i : Int) (j : Int) (kk : Int) _ hS hC (rX_fit i j kk).1 (rX_fit i j kk).2).mono ?_
  rintro e wr3 ⟨v, he, O, b3⟩
  rw [(r_rot2 i j kk (unhide HI) (unhide HJ) (unhide HK))] at he O
  obtain ⟨pa3, ka3, pc3, kc3, ev, hS3, hC3⟩ := O.read
  subst ev
  subst he
  replace V0 := hide ((unhide V0).below b3)
  replace V1 := hide ((unhide V1).below b3)
  replace HB := hide (bt (unhide HB) b3)
  clear b3 hbx hS hC hlt x0 x1 x2 O
  go_upto_region 7 with fail
  have V2 : Hid (DVar (wr3.alloc (.cells #[.bool rD0.lost, .slice pa3 rD0.secs.length ka3, .slice pc3 rD0.cache.length kc3] 25)) w.heap.size wr3.heap.size rD0) := hide ⟨⟨pa3, ka3, pc3, kc3, heap_alloc_new wr3 _, hS3.below (below_alloc _ _), hC3.below (below_alloc _ _)⟩, (unhide HB).size, by simp⟩
  have bb3 := below_alloc wr3 (.cells #[.bool rD0.lost, .slice pa3 rD0.secs.length ka3, .slice pc3 rD0.cache.length kc3] 25)
  replace V0 := hide ((unhide V0).below bb3)
  replace V1 := hide ((unhide V1).below bb3)
  replace HB := hide (bt (unhide HB) bb3)
  clear bb3 hS3 hC3
  generalize (wr3.alloc (.cells #[.bool rD0.lost, .slice pa3 rD0.secs.length ka3, .slice pc3 rD0.cache.length kc3] 25)) = WD3 at *
  have hsW1 := (unhide HB).size
  obtain ⟨⟨sa, sc, ca, cc, hbx, hS, hC⟩, hlt⟩ := unhide V1
  obtain ⟨x0, x1, x2⟩ := box_dsk hbx
  have k0 := kept_cell (B := WD3.heap.size) x0 (cell_lt x0)
  have k1 := kept_cell (B := WD3.heap.size) x1 (cell_lt x1)
  have k2 := kept_cell (B := WD3.heap.size) x2 (cell_lt x2)
  have HS := hide hS
  have HC := hide hC
  obtain ⟨bl, ebl⟩ : ∃ bl, bl = (rX i j kk).lost := ⟨_, rfl⟩
  rw [← ebl] at k0
  obtain ⟨ls, els⟩ : ∃ ls, ls = (rX i j kk).secs.length := ⟨_, rfl⟩
  obtain ⟨lc, elc⟩ : ∃ lc, lc = (rX i j kk).cache.length := ⟨_, rfl⟩
  rw [← els] at k1 HS
  rw [← elc] at k2 HC
  have EBL := hide ebl
  have ELS := hide els
  have ELC := hide elc
  clear hbx hS hC hlt x0 x1 x2 ebl els elc
  go_upto_region 7 with fail
  refine' (fun (HL1 : Later _) => ?main) (Later.mk ?prf)
  case main =>
    refine wp_region_float (S := Below WD3.heap.size WD3) 9 [(true, 0), (true, 1), (true, 2), (true, 3), (false, 4), (false, 5), (true, 6), (true, 7), (true, 8)] [(false, 10), (true, 11)] (by kernel_rfl) (by kernel_rfl) (by kernel_rfl) (by kernel_rfl) ((Below.refl _ _).drew) ?_
    simp only [withOps, List.map_cons, List.map_nil, List.getElem?_cons_succ, List.getElem?_cons_zero]
    repeat (refine walkF_read (by rfl) (by (intro gx; go_simp; try (with_reducible rfl))) ?_; try simp only [Act.put, List.setIfInBounds_toArray, List.set_cons_zero, List.set_cons_succ])
    refine walkF_do rfl rfl (fun K hK => ?_) (fun K hK => ?_)
    · go_simp
      refine (full_any y hy _).mono ?_
      rintro e wa ⟨rfl, ba⟩
      have hba : Below WD3.heap.size WD3 wa := ((Below.refl _ _).drew).trans ba
      refine hK _ _ hba ?_
      clear hK K ba
      try simp only [Act.put, List.setIfInBounds_toArray, List.set_cons_zero, List.set_cons_succ]
      repeat (refine walkF_read (by rfl) (by (intro gx; go_simp; try (with_reducible rfl))) ?_; try simp only [Act.put, List.setIfInBounds_toArray, List.set_cons_zero, List.set_cons_succ])
      refine walkF_do rfl rfl (fun K hK => ?_) (fun K hK => ?_)
      · go_simp
        rw [unhide EBL]
        refine (diskWrite_any (rX i j kk) _ _ _ _ _ _ (i : Int) (fullB y) _ ((unhide HS).below hba) ((unhide HC).below hba) (by rw [unhide ELS]; exact (rX_fit i j kk).1) (by rw [unhide ELC]; exact (rX_fit i j kk).2)).mono ?_
        rintro e wb ⟨v, he, O, bb⟩
        rw [(r_write i j kk y (unhide HI))] at he O
        obtain ⟨pa, ka, pc, kc, ev, hS', hC'⟩ := O.read
        subst ev
        subst he
        have hbb : Below WD3.heap.size WD3 wb := bt hba bb
        refine hK _ _ hbb ?_
        clear hK K bb O
        try simp only [Act.put, List.setIfInBounds_toArray, List.set_cons_zero, List.set_cons_succ]
        repeat (refine walkF_read (by rfl) (by (intro gx; go_simp; try (with_reducible rfl))) ?_; try simp only [Act.put, List.setIfInBounds_toArray, List.set_cons_zero, List.set_cons_succ])
        refine walkF_end rfl (fun K hK => ?_)
        go_simp
        refine hK _ _ (bt hbb (below_alloc _ _)) ?_
        clear hK K
        try simp only [Act.put, List.setIfInBounds_toArray, List.set_cons_zero, List.set_cons_succ]
        refine walkH_do rfl (fun K hK => ?_)
        go_simp
        refine hK _ _ (bt hbb (below_alloc _ _)) ?_
        clear hK K
        try simp only [Act.put, List.setIfInBounds_toArray, List.set_cons_zero, List.set_cons_succ]
        repeat (refine walkH_read (by rfl) (by (intro gx; go_simp; try (with_reducible rfl))) ?_; try simp only [Act.put, List.setIfInBounds_toArray, List.set_cons_zero, List.set_cons_succ])
        refine walkH_nil ?_
        refine NoPanic.normal ?_
        have V3 : Hid (DVar (wb.alloc (.cells #[.bool (rW i j kk y).lost, .slice pa (rW i j kk y).secs.length ka, .slice pc (rW i j kk y).cache.length kc] 25)) w.heap.size wb.heap.size (rW i j kk y)) := hide ⟨⟨pa, ka, pc, kc, heap_alloc_new wb _, hS'.below (below_alloc _ _), hC'.below (below_alloc _ _)⟩, Nat.le_trans hsW1 hbb.size, by simp⟩
        have HH1 : Hid (Below WD3.heap.size WD3 (wb.alloc (.cells #[.bool (rW i j kk y).lost, .slice pa (rW i j kk y).secs.length ka, .slice pc (rW i j kk y).cache.length kc] 25))) := hide (bt hbb (below_alloc _ _))
        clear hbb hba hS' hC'
        generalize (wb.alloc (.cells #[.bool (rW i j kk y).lost, .slice pa (rW i j kk y).secs.length ka, .slice pc (rW i j kk y).cache.length kc] 25)) = WW1 at *
        generalize wb.heap.size = g2 at *
        revert HH1; revert V3; revert WW1; revert g2; revert kc; revert pc; revert ka; revert pa
        exact HL1.get
      · go_simp
        have rz : (wa.alloc (.cells #[.bool false, .slice none 0 0, .slice none 0 0] 25)).heap[wa.heap.size]? = some (.cells #[.bool false, .slice none 0 0, .slice none 0 0] 25 (0, 0)) := heap_alloc_new wa _
        have hbf : Below WD3.heap.size WD3 (wa.alloc (.cells #[.bool false, .slice none 0 0, .slice none 0 0] 25)) := bt hba (below_alloc _ _)
        have hgW : WD3.heap.size ≤ wa.heap.size := hba.size
        have hgz : wa.heap.size < (wa.alloc (.cells #[.bool false, .slice none 0 0, .slice none 0 0] 25)).heap.size := by simp
        refine hK _ _ hbf ?_
        clear hK K hba
        try simp only [Act.put, List.setIfInBounds_toArray, List.set_cons_zero, List.set_cons_succ]
        generalize (wa.alloc (.cells #[.bool false, .slice none 0 0, .slice none 0 0] 25)) = wz at *
        generalize wa.heap.size = gz at *
        refine walkH_do rfl (fun K hK => ?_)
        go_simp
        rw [unhide EBL]
        refine (diskWrite_any (rX i j kk) _ _ _ _ _ _ (i : Int) (fullB y) _ ((unhide HS).below hbf) ((unhide HC).below hbf) (by rw [unhide ELS]; exact (rX_fit i j kk).1) (by rw [unhide ELC]; exact (rX_fit i j kk).2)).mono ?_
        rintro e wb ⟨v, he, O, bb⟩
        rw [(r_write i j kk y (unhide HI))] at he O
        obtain ⟨pa, ka, pc, kc, ev, -, -⟩ := O.read
        subst ev
        subst he
        have hbb : Below WD3.heap.size WD3 wb := bt hbf bb
        refine hK _ _ hbb ?_
        clear hK K
        try simp only [Act.put, List.setIfInBounds_toArray, List.set_cons_zero, List.set_cons_succ]
        have r9 : wb.heap[gz]? = some (.cells #[.bool false, .slice none 0 0, .slice none 0 0] 25 (0, 0)) := (bb.block gz hgz).trans rz
        obtain ⟨d0, d1, d2⟩ := box_dsk r9
        have f0 := dsk_free r9 0
        have f1 := dsk_free r9 1
        have f2 := dsk_free r9 2
        have hO9 := O.put hgz (.bool (rW i j kk y).lost) (.slice pa (rW i j kk y).secs.length ka) (.slice pc (rW i j kk y).cache.length kc)
        have hB9 := below_put hbb hgW (.bool (rW i j kk y).lost) (.slice pa (rW i j kk y).secs.length ka) (.slice pc (rW i j kk y).cache.length kc)
        have hR9 := dsk_put (x' := .bool (rW i j kk y).lost) (y' := .slice pa (rW i j kk y).secs.length ka) (z' := .slice pc (rW i j kk y).cache.length kc) r9
        have hgb : gz < wb.heap.size := Nat.lt_of_lt_of_le hgz bb.size
        clear bb O
        repeat (refine walkH_read (by rfl) (by (intro gx; go_simp; try (with_reducible rfl))) ?_; try simp only [Act.put, List.setIfInBounds_toArray, List.set_cons_zero, List.set_cons_succ])
        refine walkH_do rfl (fun K hK => ?_)
        go_simp
        refine hK _ _ hB9 ?_
        clear hK K
        try simp only [Act.put, List.setIfInBounds_toArray, List.set_cons_zero, List.set_cons_succ]
        repeat (refine walkH_read (by rfl) (by (intro gx; go_simp; try (with_reducible rfl))) ?_; try simp only [Act.put, List.setIfInBounds_toArray, List.set_cons_zero, List.set_cons_succ])
        refine walkH_nil ?_
        refine NoPanic.normal ?_
        have V3 : Hid (DVar (((wb.setCell ⟨gz, 0, none⟩ (.bool (rW i j kk y).lost)).setCell ⟨gz, 1, none⟩ (.slice pa (rW i j kk y).secs.length ka)).setCell ⟨gz, 2, none⟩ (.slice pc (rW i j kk y).cache.length kc)) w.heap.size gz (rW i j kk y)) := hide ⟨⟨pa, ka, pc, kc, hR9, hO9.readAs.1, hO9.readAs.2⟩, Nat.le_trans hsW1 hgW, by simpa using hgb⟩
        have HH1 := hide hB9
        clear hbb hB9 hO9 hR9 hgb d0 d1 d2 f0 f1 f2 r9 rz hgz hgW hbf
        generalize (((wb.setCell ⟨gz, 0, none⟩ (.bool (rW i j kk y).lost)).setCell ⟨gz, 1, none⟩ (.slice pa (rW i j kk y).secs.length ka)).setCell ⟨gz, 2, none⟩ (.slice pc (rW i j kk y).cache.length kc)) = WW1 at *
        revert HH1; revert V3; revert WW1; revert gz; revert kc; revert pc; revert ka; revert pa
        exact HL1.get
    · go_simp
      have rz0 : (WD3.alloc (.cells #[.bool false, .slice none 0 0, .slice none 0 0] 25)).drew.heap[WD3.heap.size]? = some (.cells #[.bool false, .slice none 0 0, .slice none 0 0] 25 (0, 0)) := heap_alloc_new WD3 _
      have hbz : Below WD3.heap.size WD3 (WD3.alloc (.cells #[.bool false, .slice none 0 0, .slice none 0 0] 25)).drew := by go_grown
      have hgz0 : WD3.heap.size < (WD3.alloc (.cells #[.bool false, .slice none 0 0, .slice none 0 0] 25)).drew.heap.size := by simp
      refine hK _ _ hbz ?_
      clear hK K
      try simp only [Act.put, List.setIfInBounds_toArray, List.set_cons_zero, List.set_cons_succ]
      generalize (WD3.alloc (.cells #[.bool false, .slice none 0 0, .slice none 0 0] 25)).drew = wz0 at *
      refine walkH_do rfl (fun K hK => ?_)
      go_simp
      refine (full_any y hy _).mono ?_
      rintro e wz ⟨rfl, bz⟩
      have hbf : Below WD3.heap.size WD3 wz := bt hbz bz
      have rz : wz.heap[WD3.heap.size]? = some (.cells #[.bool false, .slice none 0 0, .slice none 0 0] 25 (0, 0)) := (bz.block _ hgz0).trans rz0
      have hgz : WD3.heap.size < wz.heap.size := Nat.lt_of_lt_of_le hgz0 bz.size
      refine hK _ _ hbf ?_
      clear hK K bz hbz rz0 hgz0
      try simp only [Act.put, List.setIfInBounds_toArray, List.set_cons_zero, List.set_cons_succ]
      have hgW : WD3.heap.size ≤ WD3.heap.size := Nat.le_refl _
      repeat (refine walkH_read (by rfl) (by (intro gx; go_simp; try (with_reducible rfl))) ?_; try simp only [Act.put, List.setIfInBounds_toArray, List.set_cons_zero, List.set_cons_succ])
      refine walkH_do rfl (fun K hK => ?_)
      go_simp
      rw [unhide EBL]
      refine (diskWrite_any (rX i j kk) _ _ _ _ _ _ (i : Int) (fullB y) _ ((unhide HS).below hbf) ((unhide HC).below hbf) (by rw [unhide ELS]; exact (rX_fit i j kk).1) (by rw [unhide ELC]; exact (rX_fit i j kk).2)).mono ?_
      rintro e wb ⟨v, he, O, bb⟩
      rw [(r_write i j kk y (unhide HI))] at he O
      obtain ⟨pa, ka, pc, kc, ev, -, -⟩ := O.read
      subst ev
      subst he
      have hbb : Below WD3.heap.size WD3 wb := bt hbf bb
      refine hK _ _ hbb ?_
      clear hK K
      try simp only [Act.put, List.setIfInBounds_toArray, List.set_cons_zero, List.set_cons_succ]
      have r9 : wb.heap[WD3.heap.size]? = some (.cells #[.bool false, .slice none 0 0, .slice none 0 0] 25 (0, 0)) := (bb.block WD3.heap.size hgz).trans rz
      obtain ⟨d0, d1, d2⟩ := box_dsk r9
      have f0 := dsk_free r9 0
      have f1 := dsk_free r9 1
      have f2 := dsk_free r9 2
      have hO9 := O.put hgz (.bool (rW i j kk y).lost) (.slice pa (rW i j kk y).secs.length ka) (.slice pc (rW i j kk y).cache.length kc)
      have hB9 := below_put hbb hgW (.bool (rW i j kk y).lost) (.slice pa (rW i j kk y).secs.length ka) (.slice pc (rW i j kk y).cache.length kc)
      have hR9 := dsk_put (x' := .bool (rW i j kk y).lost) (y' := .slice pa (rW i j kk y).secs.length ka) (z' := .slice pc (rW i j kk y).cache.length kc) r9
      have hgb : WD3.heap.size < wb.heap.size := Nat.lt_of_lt_of_le hgz bb.size
      clear bb O
      repeat (refine walkH_read (by rfl) (by (intro gx; go_simp; try (with_reducible rfl))) ?_; try simp only [Act.put, List.setIfInBounds_toArray, List.set_cons_zero, List.set_cons_succ])
      refine walkH_do rfl (fun K hK => ?_)
      go_simp
      refine hK _ _ hB9 ?_
      clear hK K
      try simp only [Act.put, List.setIfInBounds_toArray, List.set_cons_zero, List.set_cons_succ]
      repeat (refine walkH_read (by rfl) (by (intro gx; go_simp; try (with_reducible rfl))) ?_; try simp only [Act.put, List.setIfInBounds_toArray, List.set_cons_zero, List.set_cons_succ])
      refine walkH_nil ?_
      refine NoPanic.normal ?_
      have V3 : Hid (DVar (((wb.setCell ⟨WD3.heap.size, 0, none⟩ (.bool (rW i j kk y).lost)).setCell ⟨WD3.heap.size, 1, none⟩ (.slice pa (rW i j kk y).secs.length ka)).setCell ⟨WD3.heap.size, 2, none⟩ (.slice pc (rW i j kk y).cache.length kc)) w.heap.size WD3.heap.size (rW i j kk y)) := hide ⟨⟨pa, ka, pc, kc, hR9, hO9.readAs.1, hO9.readAs.2⟩, Nat.le_trans hsW1 hgW, by simpa using hgb⟩
      have HH1 := hide hB9
      clear hbb hB9 hO9 hR9 hgb d0 d1 d2 f0 f1 f2 r9 rz hgz hgW hbf
      generalize (((wb.setCell ⟨WD3.heap.size, 0, none⟩ (.bool (rW i j kk y).lost)).setCell ⟨WD3.heap.size, 1, none⟩ (.slice pa (rW i j kk y).secs.length ka)).setCell ⟨WD3.heap.size, 2, none⟩ (.slice pc (rW i j kk y).cache.length kc)) = WW1 at *
      obtain ⟨gz, egz⟩ : ∃ gz, gz = WD3.heap.size := ⟨_, rfl⟩
      rw [← egz] at V3 ⊢
      clear egz
      revert HH1; revert V3; revert WW1; revert gz; revert kc; revert pc; revert ka; revert pa
      exact HL1.get
  case prf =>
    intro pa ka pc kc gw1 WW1 V3 HH1
    clear k0 k1 k2
    replace V0 := hide ((unhide V0).below (unhide HH1))
    replace V1 := hide ((unhide V1).below (unhide HH1))
    replace V2 := hide ((unhide V2).below (unhide HH1))
    replace HB := hide (bt (unhide HB) (unhide HH1))
    clear HS HC EBL ELS ELC HH1 hsW1
    obtain ⟨⟨sa, sc, ca, cc, hbx, hS, hC⟩, hlt⟩ := unhide V3
    obtain ⟨x0, x1, x2⟩ := box_dsk hbx
    go_wp2_with fail
    refine (diskRot_any (rW i j kk y) _ _ _ _ _ _ (i : Int) (j : Int) (kk : Int) _ hS hC (rW_fit i j kk y).1 (rW_fit i j kk y).2).mono ?_
    rintro e wr4 ⟨v, he, O, b4⟩
    rw [(r_rot3 i j kk y (unhide HI) (unhide HJ) (unhide HK))] at he O
    obtain ⟨pa4, ka4, pc4, kc4, ev, hS4, hC4⟩ := O.read
    subst ev
    subst he
    replace V0 := hide ((unhide V0).below b4)
    replace V1 := hide ((unhide V1).below b4)
    replace V2 := hide ((unhide V2).below b4)
    replace HB := hide (bt (unhide HB) b4)
    clear b4 hbx hS hC hlt x0 x1 x2 O
    go_upto_region 9 with fail
    have V4 : Hid (DVar (wr4.alloc (.cells #[.bool (rZ i y).lost, .slice pa4 (rZ i y).secs.length ka4, .slice pc4 (rZ i y).cache.length kc4] 25)) w.heap.size wr4.heap.size (rZ i y)) := hide ⟨⟨pa4, ka4, pc4, kc4, heap_alloc_new wr4 _, hS4.below (below_alloc _ _), hC4.below (below_alloc _ _)⟩, (unhide HB).size, by simp⟩
    have bb4 := below_alloc wr4 (.cells #[.bool (rZ i y).lost, .slice pa4 (rZ i y).secs.length ka4, .slice pc4 (rZ i y).cache.length kc4] 25)
    replace V0 := hide ((unhide V0).below bb4)
    replace V1 := hide ((unhide V1).below bb4)
    replace V2 := hide ((unhide V2).below bb4)
    replace HB := hide (bt (unhide HB) bb4)
    clear bb4 hS4 hC4
    generalize (wr4.alloc (.cells #[.bool (rZ i y).lost, .slice pa4 (rZ i y).secs.length ka4, .slice pc4 (rZ i y).cache.length kc4] 25)) = WD4 at *
    obtain ⟨⟨sa, sc, ca, cc, hbx, hS, hC⟩, hlt⟩ := unhide V4
    obtain ⟨x0, x1, x2⟩ := box_dsk hbx
    go_wp2_with fail
    refine (diskRead_any (rZ i y) _ _ _ _ _ _ (i : Int) _ hS hC (by have := (rZ_fit i y).1; omega) (by have := (rZ_fit i y).2; omega)).mono ?_
    rintro e wr5 ⟨he, b5⟩
    rw [(r_readZ i y (unhide HI))] at he
    subst he
    replace V0 := hide ((unhide V0).below b5)
    replace V1 := hide ((unhide V1).below b5)
    replace V2 := hide ((unhide V2).below b5)
    replace HB := hide (bt (unhide HB) b5)
    clear b5 hbx hS hC hlt x0 x1 x2
    obtain ⟨⟨sa, sc, ca, cc, hbx, hS, hC⟩, hlt⟩ := unhide V1
    obtain ⟨x0, x1, x2⟩ := box_dsk hbx
    go_wp2_with fail
    refine (diskRead_any (rX i j kk) _ _ _ _ _ _ (i : Int) _ hS hC (by have := (rX_fit i j kk).1; omega) (by have := (rX_fit i j kk).2; omega)).mono ?_
    rintro e wr6 ⟨he, b6⟩
    rw [(r_readX i j kk (unhide HI))] at he
    subst he
    replace V0 := hide ((unhide V0).below b6)
    replace V2 := hide ((unhide V2).below b6)
    replace HB := hide (bt (unhide HB) b6)
    clear b6 hbx hS hC hlt x0 x1 x2
    clear V1 V3 V4
    have hts := rT_size j kk
    go_wp2_with (go_at_call 12; refine (num_any _ _).mono ?_; rintro e w' ⟨rfl, hw'⟩; rw [hw']; clear hw' w')
    go_loop [26] (fun qv => ∃ q : Nat, q ≤ 64 ∧ qv = .int .i64 q) (fun qv => (64 - intOf qv).toNat)
    case atStart => exact ⟨0, by decide, rfl⟩
    case round =>
      obtain ⟨q, hq, rfl⟩ := hrel
      by_cases h64 : q < 64
      · have hq1 : q < (rT j kk).size := by rw [hts]; exact h64
        have hby := rT_byte j kk q (unhide HK) h64 hq1
        have h64' : (q : Int) < 64 := by omega
        by_cases hqj : q = j
        · rw [if_pos hqj] at hby
          have hqj' : ((q : Int) == (j : Int)) = true := by simp [hqj]
          have hkw := wrapK kk (unhide HK)
          have HQ := hide hqj
          clear hqj
          go_wp2
          go_round
          case rel => exact ⟨q + 1, by omega, by go_num⟩
          case measure => simp [intOf]; omega
        · rw [if_neg hqj] at hby
          have hqj' : ((q : Int) == (j : Int)) = false := by simp; omega
          have HQ := hide hqj
          clear hqj
          go_wp2
          go_round
          case rel => exact ⟨q + 1, by omega, by go_num⟩
          case measure => simp [intOf]; omega
      · obtain rfl : q = 64 := by omega
        clear h64 hq
        obtain ⟨⟨sa, sc, ca, cc, hbx, hS, hC⟩, hlt⟩ := unhide V2
        obtain ⟨x0, x1, x2⟩ := box_dsk hbx
        obtain ⟨⟨sb, sd, cb, cd, hby, hT, hD⟩, hlu⟩ := unhide V0
        obtain ⟨y0, y1, y2⟩ := box_dsk hby
        clear hbx hby hlt hlu
        have hL0 : rD0.secs.length ≤ maxLen := by decide
        have hL1 : rD0.cache.length ≤ maxLen := by decide
        go_wp2_with fail
        refine (sameDisk_any rD0 rD0 _ _ _ _ _ _ _ _ _ _ _ _ _ hS hC hT hD hL0 hL1).mono ?_
        rintro e wf1 ⟨rfl, bf1⟩
        rw [decide_eq_true (sameD_refl rD0)]
        replace HB := hide (bt (unhide HB) bf1)
        clear x0 x1 x2 y0 y1 y2 hS hC hT hD bf1
        go_wp2_with fail
        refine (full_any y hy _).mono ?_
        rintro e wf2 ⟨rfl, bf2⟩
        replace HB := hide (bt (unhide HB) bf2)
        clear bf2
        go_wp2
        go_ret
        exact ⟨rfl, unhide HB⟩
end Go.Proofs.Ytpmbmhjhclekeaa
