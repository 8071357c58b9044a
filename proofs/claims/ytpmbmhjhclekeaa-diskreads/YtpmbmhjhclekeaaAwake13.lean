/- 'awake' of the statements over package disk returns true. -/
import Derived.Test.YtpmbmhjhclekeaaDiskWalk
import Derived.Test.YtpmbmhjhclekeaaAwkMath
import Derived.Test.YtpmbmhjhclekeaaFloatR
import Derived.Test.YtpmbmhjhclekeaaKCore
namespace Go.Proofs.Ytpmbmhjhclekeaa
open Go.RowKit
set_option linter.unusedVariables false
set_option linter.unusedSimpArgs false
attribute [local go_sem ↓] Go.wp_at_zero Go.wp_at_succ
/-- a disk in a variable of the call's own: its box, and what it reads -/
structure DVar (w : World) (B g : Nat) (d : Dsk) : Prop where
  box : ∃ sa sc ca cc, w.heap[g]? = some (.cells #[.bool d.lost, .slice sa d.secs.length sc, .slice ca d.cache.length cc] 25 (0, 0)) ∧ Strs w sa d.secs.length sc d.secs ∧ WrV w ca d.cache.length cc d.cache
  lt : B ≤ g ∧ g < w.heap.size
theorem DVar.below {w w' : World} {B g : Nat} {d : Dsk} (h : DVar w B g d) (hb : Below w.heap.size w w') : DVar w' B g d := by
  obtain ⟨⟨sa, sc, ca, cc, h1, h2, h3⟩, h4⟩ := h
  exact ⟨⟨sa, sc, ca, cc, (hb.block _ h4.2).trans h1, h2.below hb, h3.below hb⟩, h4.1, Nat.lt_of_lt_of_le h4.2 hb.size⟩
theorem DskO.readAs {w : World} {B : Nat} {S E : TypeId} {l : Bool} {pa pc : Option Addr} {n ka m kc : Nat} {d : Dsk} (h : DskO w B S E (.agg #[.bool l, .slice pa n ka, .slice pc m kc]) d) : Strs w pa d.secs.length ka d.secs ∧ WrV w pc d.cache.length kc d.cache := by
  obtain ⟨sa, sc, ca, cc, e, hS, hC⟩ := h.read
  simp only [Value.agg.injEq, Array.mk.injEq, List.cons.injEq, Value.slice.injEq, and_true] at e
  obtain ⟨_, ⟨rfl, _, rfl⟩, rfl, _, rfl⟩ := e
  exact ⟨hS, hC⟩
set_option maxRecDepth 100000 in
set_option maxHeartbeats 4000000 in
theorem awake13_any (w : World) : Calls Try.prog 29 #[] w fun e w' => e = .returned (.bool true) ∧ Below w.heap.size w w' := by
  go_enter Try.func29, Try.ntmps29
  go_wp2_with fail
  refine (diskNew_any 2 _).mono ?_
  rintro e w1 ⟨v1, he, O1, b1⟩
  rw [a_new] at he O1
  obtain ⟨sa1, sc1, ca1, cc1, ev1, hS1, hC1⟩ := O1.read
  subst ev1
  subst he
  go_upto_region 2 with fail
  have V0 : Hid (DVar (w1.alloc (.cells #[.bool aD0.lost, .slice sa1 aD0.secs.length sc1, .slice ca1 aD0.cache.length cc1] 25)) w.heap.size w1.heap.size aD0) := hide ⟨⟨sa1, sc1, ca1, cc1, heap_alloc_new w1 _, hS1.below (below_alloc _ _), hC1.below (below_alloc _ _)⟩, b1.size, by simp⟩
  have HB := hide (bt b1 (below_alloc w1 (.cells #[.bool aD0.lost, .slice sa1 aD0.secs.length sc1, .slice ca1 aD0.cache.length cc1] 25)))
  have hs1 := b1.size
  have hsW : w.heap.size ≤ (w1.alloc (.cells #[.bool aD0.lost, .slice sa1 aD0.secs.length sc1, .slice ca1 aD0.cache.length cc1] 25)).heap.size := by simp; omega
  clear b1 O1 hS1 hC1
  generalize (w1.alloc (.cells #[.bool aD0.lost, .slice sa1 aD0.secs.length sc1, .slice ca1 aD0.cache.length cc1] 25)) = W1 at *
  obtain ⟨⟨sa, sc, ca, cc, hbx, hS, hC⟩, hlt⟩ := unhide V0
  obtain ⟨x0, x1, x2⟩ := box_dsk hbx
  have k0 := kept_cell (B := W1.heap.size) x0 (cell_lt x0)
  have k1 := kept_cell (B := W1.heap.size) x1 (cell_lt x1)
  have k2 := kept_cell (B := W1.heap.size) x2 (cell_lt x2)
  have HS := hide hS
  have HC := hide hC
  obtain ⟨bl, ebl⟩ : ∃ bl, bl = aD0.lost := ⟨_, rfl⟩
  rw [← ebl] at k0
  obtain ⟨ls, els⟩ : ∃ ls, ls = aD0.secs.length := ⟨_, rfl⟩
  obtain ⟨lc, elc⟩ : ∃ lc, lc = aD0.cache.length := ⟨_, rfl⟩
  rw [← els] at k1 HS
  rw [← elc] at k2 HC
  have EBL := hide ebl
  have ELS := hide els
  have ELC := hide elc
  clear hbx hS hC hlt x0 x1 x2 ebl els elc
  go_upto_region 2 with fail
  refine' (fun (H : Later _) => ?main) (Later.mk ?prf)
  case main =>
    refine wp_region_float (S := Below W1.heap.size W1) 6 [(true, 0), (false, 1), (false, 2), (true, 3), (true, 4), (true, 5)] [(false, 7), (true, 8)] (by kernel_rfl) (by kernel_rfl) (by kernel_rfl) (by kernel_rfl) ((Below.refl _ _).drew) ?_
    simp only [withOps, List.map_cons, List.map_nil, List.getElem?_cons_succ, List.getElem?_cons_zero]
    repeat (refine walkF_read (by rfl) (by (intro gx; go_simp; try (with_reducible rfl))) ?_; try simp only [Act.put, List.setIfInBounds_toArray, List.set_cons_zero, List.set_cons_succ])
    refine walkF_do rfl rfl (fun K hK => ?_) (fun K hK => ?_)
    · go_simp
      refine (full_any 97 (by decide) _).mono ?_
      rintro e wa ⟨rfl, ba⟩
      have hba : Below W1.heap.size W1 wa := ((Below.refl _ _).drew).trans ba
      refine hK _ _ hba ?_
      clear hK K ba
      try simp only [Act.put, List.setIfInBounds_toArray, List.set_cons_zero, List.set_cons_succ]
      repeat (refine walkF_read (by rfl) (by (intro gx; go_simp; try (with_reducible rfl))) ?_; try simp only [Act.put, List.setIfInBounds_toArray, List.set_cons_zero, List.set_cons_succ])
      refine walkF_do rfl rfl (fun K hK => ?_) (fun K hK => ?_)
      · go_simp
        rw [unhide EBL]
        refine (diskWrite_any aD0 _ _ _ _ _ _ 1 (fullB 97) _ ((unhide HS).below hba) ((unhide HC).below hba) (by rw [unhide ELS]; exact a0_fit.1) (by rw [unhide ELC]; exact a0_fit.2)).mono ?_
        rintro e wb ⟨v, he, O, bb⟩
        rw [a_w1] at he O
        obtain ⟨pa, ka, pc, kc, ev, hS', hC'⟩ := O.read
        subst ev
        subst he
        have hbb : Below W1.heap.size W1 wb := bt hba bb
        refine hK _ _ hbb ?_
        clear hK K bb O
        try simp only [Act.put, List.setIfInBounds_toArray, List.set_cons_zero, List.set_cons_succ]
        repeat (refine walkF_read (by rfl) (by (intro gx; go_simp; try (with_reducible rfl))) ?_; try simp only [Act.put, List.setIfInBounds_toArray, List.set_cons_zero, List.set_cons_succ])
        refine walkF_end rfl (fun K hK => ?_)
        go_simp
        refine hK _ _ (bt hbb (below_alloc _ _)) ?_
        clear hK K
        try simp only [Act.put, List.setIfInBounds_toArray, List.set_cons_zero, List.set_cons_succ]
        refine walkH_do rfl (fun K hK => ?_)
        go_simp
        refine hK _ _ (bt hbb (below_alloc _ _)) ?_
        clear hK K
        try simp only [Act.put, List.setIfInBounds_toArray, List.set_cons_zero, List.set_cons_succ]
        repeat (refine walkH_read (by rfl) (by (intro gx; go_simp; try (with_reducible rfl))) ?_; try simp only [Act.put, List.setIfInBounds_toArray, List.set_cons_zero, List.set_cons_succ])
        refine walkH_nil ?_
        refine NoPanic.normal ?_
        have V1 : Hid (DVar (wb.alloc (.cells #[.bool aD1.lost, .slice pa aD1.secs.length ka, .slice pc aD1.cache.length kc] 25)) w.heap.size wb.heap.size aD1) := hide ⟨⟨pa, ka, pc, kc, heap_alloc_new wb _, hS'.below (below_alloc _ _), hC'.below (below_alloc _ _)⟩, Nat.le_trans hsW hbb.size, by simp⟩
        have H11 : Hid (Below W1.heap.size W1 (wb.alloc (.cells #[.bool aD1.lost, .slice pa aD1.secs.length ka, .slice pc aD1.cache.length kc] 25))) := hide (bt hbb (below_alloc _ _))
        clear hbb hba hS' hC'
        generalize (wb.alloc (.cells #[.bool aD1.lost, .slice pa aD1.secs.length ka, .slice pc aD1.cache.length kc] 25)) = W2 at *
        generalize wb.heap.size = g2 at *
        revert H11; revert V1; revert W2; revert g2; revert kc; revert pc; revert ka; revert pa
        exact H.get
      · go_simp
        have rz : (wa.alloc (.cells #[.bool false, .slice none 0 0, .slice none 0 0] 25)).heap[wa.heap.size]? = some (.cells #[.bool false, .slice none 0 0, .slice none 0 0] 25 (0, 0)) := heap_alloc_new wa _
        have hbf : Below W1.heap.size W1 (wa.alloc (.cells #[.bool false, .slice none 0 0, .slice none 0 0] 25)) := bt hba (below_alloc _ _)
        have hgW : W1.heap.size ≤ wa.heap.size := hba.size
        have hgz : wa.heap.size < (wa.alloc (.cells #[.bool false, .slice none 0 0, .slice none 0 0] 25)).heap.size := by simp
        refine hK _ _ hbf ?_
        clear hK K hba
        try simp only [Act.put, List.setIfInBounds_toArray, List.set_cons_zero, List.set_cons_succ]
        generalize (wa.alloc (.cells #[.bool false, .slice none 0 0, .slice none 0 0] 25)) = wz at *
        generalize wa.heap.size = gz at *
        refine walkH_do rfl (fun K hK => ?_)
        go_simp
        rw [unhide EBL]
        refine (diskWrite_any aD0 _ _ _ _ _ _ 1 (fullB 97) _ ((unhide HS).below hbf) ((unhide HC).below hbf) (by rw [unhide ELS]; exact a0_fit.1) (by rw [unhide ELC]; exact a0_fit.2)).mono ?_
        rintro e wb ⟨v, he, O, bb⟩
        rw [a_w1] at he O
        obtain ⟨pa, ka, pc, kc, ev, -, -⟩ := O.read
        subst ev
        subst he
        have hbb : Below W1.heap.size W1 wb := bt hbf bb
        refine hK _ _ hbb ?_
        clear hK K
        try simp only [Act.put, List.setIfInBounds_toArray, List.set_cons_zero, List.set_cons_succ]
        have r9 : wb.heap[gz]? = some (.cells #[.bool false, .slice none 0 0, .slice none 0 0] 25 (0, 0)) := (bb.block gz hgz).trans rz
        obtain ⟨d0, d1, d2⟩ := box_dsk r9
        have f0 := dsk_free r9 0
        have f1 := dsk_free r9 1
        have f2 := dsk_free r9 2
        have hO9 := O.put hgz (.bool aD1.lost) (.slice pa aD1.secs.length ka) (.slice pc aD1.cache.length kc)
        have hB9 := below_put hbb hgW (.bool aD1.lost) (.slice pa aD1.secs.length ka) (.slice pc aD1.cache.length kc)
        have hR9 := dsk_put (x' := .bool aD1.lost) (y' := .slice pa aD1.secs.length ka) (z' := .slice pc aD1.cache.length kc) r9
        have hgb : gz < wb.heap.size := Nat.lt_of_lt_of_le hgz bb.size
        clear bb O
        repeat (refine walkH_read (by rfl) (by (intro gx; go_simp; try (with_reducible rfl))) ?_; try simp only [Act.put, List.setIfInBounds_toArray, List.set_cons_zero, List.set_cons_succ])
        refine walkH_do rfl (fun K hK => ?_)
        go_simp
        refine hK _ _ hB9 ?_
        clear hK K
        try simp only [Act.put, List.setIfInBounds_toArray, List.set_cons_zero, List.set_cons_succ]
        repeat (refine walkH_read (by rfl) (by (intro gx; go_simp; try (with_reducible rfl))) ?_; try simp only [Act.put, List.setIfInBounds_toArray, List.set_cons_zero, List.set_cons_succ])
        refine walkH_nil ?_
        refine NoPanic.normal ?_
        have V1 : Hid (DVar (((wb.setCell ⟨gz, 0, none⟩ (.bool aD1.lost)).setCell ⟨gz, 1, none⟩ (.slice pa aD1.secs.length ka)).setCell ⟨gz, 2, none⟩ (.slice pc aD1.cache.length kc)) w.heap.size gz aD1) := hide ⟨⟨pa, ka, pc, kc, hR9, hO9.readAs.1, hO9.readAs.2⟩, Nat.le_trans hsW hgW, by simpa using hgb⟩
        have H11 := hide hB9
        clear hbb hB9 hO9 hR9 hgb d0 d1 d2 f0 f1 f2 r9 rz hgz hgW hbf
        generalize (((wb.setCell ⟨gz, 0, none⟩ (.bool aD1.lost)).setCell ⟨gz, 1, none⟩ (.slice pa aD1.secs.length ka)).setCell ⟨gz, 2, none⟩ (.slice pc aD1.cache.length kc)) = W2 at *
        revert H11; revert V1; revert W2; revert gz; revert kc; revert pc; revert ka; revert pa
        exact H.get
    · go_simp
      have rz0 : (W1.alloc (.cells #[.bool false, .slice none 0 0, .slice none 0 0] 25)).drew.heap[W1.heap.size]? = some (.cells #[.bool false, .slice none 0 0, .slice none 0 0] 25 (0, 0)) := heap_alloc_new W1 _
      have hbz : Below W1.heap.size W1 (W1.alloc (.cells #[.bool false, .slice none 0 0, .slice none 0 0] 25)).drew := by go_grown
      have hgz0 : W1.heap.size < (W1.alloc (.cells #[.bool false, .slice none 0 0, .slice none 0 0] 25)).drew.heap.size := by simp
      refine hK _ _ hbz ?_
      clear hK K
      try simp only [Act.put, List.setIfInBounds_toArray, List.set_cons_zero, List.set_cons_succ]
      generalize (W1.alloc (.cells #[.bool false, .slice none 0 0, .slice none 0 0] 25)).drew = wz0 at *
      refine walkH_do rfl (fun K hK => ?_)
      go_simp
      refine (full_any 97 (by decide) _).mono ?_
      rintro e wz ⟨rfl, bz⟩
      have hbf : Below W1.heap.size W1 wz := bt hbz bz
      have rz : wz.heap[W1.heap.size]? = some (.cells #[.bool false, .slice none 0 0, .slice none 0 0] 25 (0, 0)) := (bz.block _ hgz0).trans rz0
      have hgz : W1.heap.size < wz.heap.size := Nat.lt_of_lt_of_le hgz0 bz.size
      refine hK _ _ hbf ?_
      clear hK K bz hbz rz0 hgz0
      try simp only [Act.put, List.setIfInBounds_toArray, List.set_cons_zero, List.set_cons_succ]
      have hgW : W1.heap.size ≤ W1.heap.size := Nat.le_refl _
      repeat (refine walkH_read (by rfl) (by (intro gx; go_simp; try (with_reducible rfl))) ?_; try simp only [Act.put, List.setIfInBounds_toArray, List.set_cons_zero, List.set_cons_succ])
      refine walkH_do rfl (fun K hK => ?_)
      go_simp
      rw [unhide EBL]
      refine (diskWrite_any aD0 _ _ _ _ _ _ 1 (fullB 97) _ ((unhide HS).below hbf) ((unhide HC).below hbf) (by rw [unhide ELS]; exact a0_fit.1) (by rw [unhide ELC]; exact a0_fit.2)).mono ?_
      rintro e wb ⟨v, he, O, bb⟩
      rw [a_w1] at he O
      obtain ⟨pa, ka, pc, kc, ev, -, -⟩ := O.read
      subst ev
      subst he
      have hbb : Below W1.heap.size W1 wb := bt hbf bb
      refine hK _ _ hbb ?_
      clear hK K
      try simp only [Act.put, List.setIfInBounds_toArray, List.set_cons_zero, List.set_cons_succ]
      have r9 : wb.heap[W1.heap.size]? = some (.cells #[.bool false, .slice none 0 0, .slice none 0 0] 25 (0, 0)) := (bb.block W1.heap.size hgz).trans rz
      obtain ⟨d0, d1, d2⟩ := box_dsk r9
      have f0 := dsk_free r9 0
      have f1 := dsk_free r9 1
      have f2 := dsk_free r9 2
      have hO9 := O.put hgz (.bool aD1.lost) (.slice pa aD1.secs.length ka) (.slice pc aD1.cache.length kc)
      have hB9 := below_put hbb hgW (.bool aD1.lost) (.slice pa aD1.secs.length ka) (.slice pc aD1.cache.length kc)
      have hR9 := dsk_put (x' := .bool aD1.lost) (y' := .slice pa aD1.secs.length ka) (z' := .slice pc aD1.cache.length kc) r9
      have hgb : W1.heap.size < wb.heap.size := Nat.lt_of_lt_of_le hgz bb.size
      clear bb O
      repeat (refine walkH_read (by rfl) (by (intro gx; go_simp; try (with_reducible rfl))) ?_; try simp only [Act.put, List.setIfInBounds_toArray, List.set_cons_zero, List.set_cons_succ])
      refine walkH_do rfl (fun K hK => ?_)
      go_simp
      refine hK _ _ hB9 ?_
      clear hK K
      try simp only [Act.put, List.setIfInBounds_toArray, List.set_cons_zero, List.set_cons_succ]
      repeat (refine walkH_read (by rfl) (by (intro gx; go_simp; try (with_reducible rfl))) ?_; try simp only [Act.put, List.setIfInBounds_toArray, List.set_cons_zero, List.set_cons_succ])
      refine walkH_nil ?_
      refine NoPanic.normal ?_
      have V1 : Hid (DVar (((wb.setCell ⟨W1.heap.size, 0, none⟩ (.bool aD1.lost)).setCell ⟨W1.heap.size, 1, none⟩ (.slice pa aD1.secs.length ka)).setCell ⟨W1.heap.size, 2, none⟩ (.slice pc aD1.cache.length kc)) w.heap.size W1.heap.size aD1) := hide ⟨⟨pa, ka, pc, kc, hR9, hO9.readAs.1, hO9.readAs.2⟩, Nat.le_trans hsW hgW, by simpa using hgb⟩
      have H11 := hide hB9
      clear hbb hB9 hO9 hR9 hgb d0 d1 d2 f0 f1 f2 r9 rz hgz hgW hbf
      generalize (((wb.setCell ⟨W1.heap.size, 0, none⟩ (.bool aD1.lost)).setCell ⟨W1.heap.size, 1, none⟩ (.slice pa aD1.secs.length ka)).setCell ⟨W1.heap.size, 2, none⟩ (.slice pc aD1.cache.length kc)) = W2 at *
      obtain ⟨gz, egz⟩ : ∃ gz, gz = W1.heap.size := ⟨_, rfl⟩
      rw [← egz] at V1 ⊢
      clear egz
      revert H11; revert V1; revert W2; revert gz; revert kc; revert pc; revert ka; revert pa
      exact H.get
  case prf =>
    intro pa ka pc kc g2 W2 V1 H11
    clear k0 k1 k2
    have HB2 := hide (bt (unhide HB) (unhide H11))
    have hsW2 := (unhide HB2).size
    clear HS HC EBL ELS ELC V0
    obtain ⟨⟨sa, sc, ca, cc, hbx, hS, hC⟩, hlt⟩ := unhide V1
    obtain ⟨x0, x1, x2⟩ := box_dsk hbx
    have k0 := kept_cell (B := W2.heap.size) x0 (cell_lt x0)
    have k1 := kept_cell (B := W2.heap.size) x1 (cell_lt x1)
    have k2 := kept_cell (B := W2.heap.size) x2 (cell_lt x2)
    have HS := hide hS
    have HC := hide hC
    obtain ⟨bl, ebl⟩ : ∃ bl, bl = aD1.lost := ⟨_, rfl⟩
    rw [← ebl] at k0
    obtain ⟨ls, els⟩ : ∃ ls, ls = aD1.secs.length := ⟨_, rfl⟩
    obtain ⟨lc, elc⟩ : ∃ lc, lc = aD1.cache.length := ⟨_, rfl⟩
    rw [← els] at k1 HS
    rw [← elc] at k2 HC
    have EBL := hide ebl
    have ELS := hide els
    have ELC := hide elc
    clear hbx hS hC hlt x0 x1 x2 ebl els elc
    go_upto_region 3 with fail
    refine' (fun (HL2 : Later _) => ?main) (Later.mk ?prf)
    case main =>
      refine wp_region_float (S := Below W2.heap.size W2) 6 [(true, 0), (false, 1), (false, 2), (true, 3), (true, 4), (true, 5)] [(false, 7), (true, 8)] (by kernel_rfl) (by kernel_rfl) (by kernel_rfl) (by kernel_rfl) ((Below.refl _ _).drew) ?_
      simp only [withOps, List.map_cons, List.map_nil, List.getElem?_cons_succ, List.getElem?_cons_zero]
      repeat (refine walkF_read (by rfl) (by (intro gx; go_simp; try (with_reducible rfl))) ?_; try simp only [Act.put, List.setIfInBounds_toArray, List.set_cons_zero, List.set_cons_succ])
      refine walkF_do rfl rfl (fun K hK => ?_) (fun K hK => ?_)
      · go_simp
        refine (full_any 98 (by decide) _).mono ?_
        rintro e wa ⟨rfl, ba⟩
        have hba : Below W2.heap.size W2 wa := ((Below.refl _ _).drew).trans ba
        refine hK _ _ hba ?_
        clear hK K ba
        try simp only [Act.put, List.setIfInBounds_toArray, List.set_cons_zero, List.set_cons_succ]
        repeat (refine walkF_read (by rfl) (by (intro gx; go_simp; try (with_reducible rfl))) ?_; try simp only [Act.put, List.setIfInBounds_toArray, List.set_cons_zero, List.set_cons_succ])
        refine walkF_do rfl rfl (fun K hK => ?_) (fun K hK => ?_)
        · go_simp
          rw [unhide EBL]
          refine (diskWrite_any aD1 _ _ _ _ _ _ 1 (fullB 98) _ ((unhide HS).below hba) ((unhide HC).below hba) (by rw [unhide ELS]; exact a1_fit.1) (by rw [unhide ELC]; exact a1_fit.2)).mono ?_
          rintro e wb ⟨v, he, O, bb⟩
          rw [a_w2] at he O
          obtain ⟨pa, ka, pc, kc, ev, hS', hC'⟩ := O.read
          subst ev
          subst he
          have hbb : Below W2.heap.size W2 wb := bt hba bb
          refine hK _ _ hbb ?_
          clear hK K bb O
          try simp only [Act.put, List.setIfInBounds_toArray, List.set_cons_zero, List.set_cons_succ]
          repeat (refine walkF_read (by rfl) (by (intro gx; go_simp; try (with_reducible rfl))) ?_; try simp only [Act.put, List.setIfInBounds_toArray, List.set_cons_zero, List.set_cons_succ])
          refine walkF_end rfl (fun K hK => ?_)
          go_simp
          refine hK _ _ (bt hbb (below_alloc _ _)) ?_
          clear hK K
          try simp only [Act.put, List.setIfInBounds_toArray, List.set_cons_zero, List.set_cons_succ]
          refine walkH_do rfl (fun K hK => ?_)
          go_simp
          refine hK _ _ (bt hbb (below_alloc _ _)) ?_
          clear hK K
          try simp only [Act.put, List.setIfInBounds_toArray, List.set_cons_zero, List.set_cons_succ]
          repeat (refine walkH_read (by rfl) (by (intro gx; go_simp; try (with_reducible rfl))) ?_; try simp only [Act.put, List.setIfInBounds_toArray, List.set_cons_zero, List.set_cons_succ])
          refine walkH_nil ?_
          refine NoPanic.normal ?_
          have V2 : Hid (DVar (wb.alloc (.cells #[.bool aD2.lost, .slice pa aD2.secs.length ka, .slice pc aD2.cache.length kc] 25)) w.heap.size wb.heap.size aD2) := hide ⟨⟨pa, ka, pc, kc, heap_alloc_new wb _, hS'.below (below_alloc _ _), hC'.below (below_alloc _ _)⟩, Nat.le_trans hsW2 hbb.size, by simp⟩
          have H22 : Hid (Below W2.heap.size W2 (wb.alloc (.cells #[.bool aD2.lost, .slice pa aD2.secs.length ka, .slice pc aD2.cache.length kc] 25))) := hide (bt hbb (below_alloc _ _))
          clear hbb hba hS' hC'
          generalize (wb.alloc (.cells #[.bool aD2.lost, .slice pa aD2.secs.length ka, .slice pc aD2.cache.length kc] 25)) = W3 at *
          generalize wb.heap.size = g2 at *
          revert H22; revert V2; revert W3; revert g2; revert kc; revert pc; revert ka; revert pa
          exact HL2.get
        · go_simp
          have rz : (wa.alloc (.cells #[.bool false, .slice none 0 0, .slice none 0 0] 25)).heap[wa.heap.size]? = some (.cells #[.bool false, .slice none 0 0, .slice none 0 0] 25 (0, 0)) := heap_alloc_new wa _
          have hbf : Below W2.heap.size W2 (wa.alloc (.cells #[.bool false, .slice none 0 0, .slice none 0 0] 25)) := bt hba (below_alloc _ _)
          have hgW : W2.heap.size ≤ wa.heap.size := hba.size
          have hgz : wa.heap.size < (wa.alloc (.cells #[.bool false, .slice none 0 0, .slice none 0 0] 25)).heap.size := by simp
          refine hK _ _ hbf ?_
          clear hK K hba
          try simp only [Act.put, List.setIfInBounds_toArray, List.set_cons_zero, List.set_cons_succ]
          generalize (wa.alloc (.cells #[.bool false, .slice none 0 0, .slice none 0 0] 25)) = wz at *
          generalize wa.heap.size = gz at *
          refine walkH_do rfl (fun K hK => ?_)
          go_simp
          rw [unhide EBL]
          refine (diskWrite_any aD1 _ _ _ _ _ _ 1 (fullB 98) _ ((unhide HS).below hbf) ((unhide HC).below hbf) (by rw [unhide ELS]; exact a1_fit.1) (by rw [unhide ELC]; exact a1_fit.2)).mono ?_
          rintro e wb ⟨v, he, O, bb⟩
          rw [a_w2] at he O
          obtain ⟨pa, ka, pc, kc, ev, -, -⟩ := O.read
          subst ev
          subst he
          have hbb : Below W2.heap.size W2 wb := bt hbf bb
          refine hK _ _ hbb ?_
          clear hK K
          try simp only [Act.put, List.setIfInBounds_toArray, List.set_cons_zero, List.set_cons_succ]
          have r9 : wb.heap[gz]? = some (.cells #[.bool false, .slice none 0 0, .slice none 0 0] 25 (0, 0)) := (bb.block gz hgz).trans rz
          obtain ⟨d0, d1, d2⟩ := box_dsk r9
          have f0 := dsk_free r9 0
          have f1 := dsk_free r9 1
          have f2 := dsk_free r9 2
          have hO9 := O.put hgz (.bool aD2.lost) (.slice pa aD2.secs.length ka) (.slice pc aD2.cache.length kc)
          have hB9 := below_put hbb hgW (.bool aD2.lost) (.slice pa aD2.secs.length ka) (.slice pc aD2.cache.length kc)
          have hR9 := dsk_put (x' := .bool aD2.lost) (y' := .slice pa aD2.secs.length ka) (z' := .slice pc aD2.cache.length kc) r9
          have hgb : gz < wb.heap.size := Nat.lt_of_lt_of_le hgz bb.size
          clear bb O
          repeat (refine walkH_read (by rfl) (by (intro gx; go_simp; try (with_reducible rfl))) ?_; try simp only [Act.put, List.setIfInBounds_toArray, List.set_cons_zero, List.set_cons_succ])
          refine walkH_do rfl (fun K hK => ?_)
          go_simp
          refine hK _ _ hB9 ?_
          clear hK K
          try simp only [Act.put, List.setIfInBounds_toArray, List.set_cons_zero, List.set_cons_succ]
          repeat (refine walkH_read (by rfl) (by (intro gx; go_simp; try (with_reducible rfl))) ?_; try simp only [Act.put, List.setIfInBounds_toArray, List.set_cons_zero, List.set_cons_succ])
          refine walkH_nil ?_
          refine NoPanic.normal ?_
          have V2 : Hid (DVar (((wb.setCell ⟨gz, 0, none⟩ (.bool aD2.lost)).setCell ⟨gz, 1, none⟩ (.slice pa aD2.secs.length ka)).setCell ⟨gz, 2, none⟩ (.slice pc aD2.cache.length kc)) w.heap.size gz aD2) := hide ⟨⟨pa, ka, pc, kc, hR9, hO9.readAs.1, hO9.readAs.2⟩, Nat.le_trans hsW2 hgW, by simpa using hgb⟩
          have H22 := hide hB9
          clear hbb hB9 hO9 hR9 hgb d0 d1 d2 f0 f1 f2 r9 rz hgz hgW hbf
          generalize (((wb.setCell ⟨gz, 0, none⟩ (.bool aD2.lost)).setCell ⟨gz, 1, none⟩ (.slice pa aD2.secs.length ka)).setCell ⟨gz, 2, none⟩ (.slice pc aD2.cache.length kc)) = W3 at *
          revert H22; revert V2; revert W3; revert gz; revert kc; revert pc; revert ka; revert pa
          exact HL2.get
      · go_simp
        have rz0 : (W2.alloc (.cells #[.bool false, .slice none 0 0, .slice none 0 0] 25)).drew.heap[W2.heap.size]? = some (.cells #[.bool false, .slice none 0 0, .slice none 0 0] 25 (0, 0)) := heap_alloc_new W2 _
        have hbz : Below W2.heap.size W2 (W2.alloc (.cells #[.bool false, .slice none 0 0, .slice none 0 0] 25)).drew := by go_grown
        have hgz0 : W2.heap.size < (W2.alloc (.cells #[.bool false, .slice none 0 0, .slice none 0 0] 25)).drew.heap.size := by simp
        refine hK _ _ hbz ?_
        clear hK K
        try simp only [Act.put, List.setIfInBounds_toArray, List.set_cons_zero, List.set_cons_succ]
        generalize (W2.alloc (.cells #[.bool false, .slice none 0 0, .slice none 0 0] 25)).drew = wz0 at *
        refine walkH_do rfl (fun K hK => ?_)
        go_simp
        refine (full_any 98 (by decide) _).mono ?_
        rintro e wz ⟨rfl, bz⟩
        have hbf : Below W2.heap.size W2 wz := bt hbz bz
        have rz : wz.heap[W2.heap.size]? = some (.cells #[.bool false, .slice none 0 0, .slice none 0 0] 25 (0, 0)) := (bz.block _ hgz0).trans rz0
        have hgz : W2.heap.size < wz.heap.size := Nat.lt_of_lt_of_le hgz0 bz.size
        refine hK _ _ hbf ?_
        clear hK K bz hbz rz0 hgz0
        try simp only [Act.put, List.setIfInBounds_toArray, List.set_cons_zero, List.set_cons_succ]
        have hgW : W2.heap.size ≤ W2.heap.size := Nat.le_refl _
        repeat (refine walkH_read (by rfl) (by (intro gx; go_simp; try (with_reducible rfl))) ?_; try simp only [Act.put, List.setIfInBounds_toArray, List.set_cons_zero, List.set_cons_succ])
        refine walkH_do rfl (fun K hK => ?_)
        go_simp
        rw [unhide EBL]
        refine (diskWrite_any aD1 _ _ _ _ _ _ 1 (fullB 98) _ ((unhide HS).below hbf) ((unhide HC).below hbf) (by rw [unhide ELS]; exact a1_fit.1) (by rw [unhide ELC]; exact a1_fit.2)).mono ?_
        rintro e wb ⟨v, he, O, bb⟩
        rw [a_w2] at he O
        obtain ⟨pa, ka, pc, kc, ev, -, -⟩ := O.read
        subst ev
        subst he
        have hbb : Below W2.heap.size W2 wb := bt hbf bb
        refine hK _ _ hbb ?_
        clear hK K
        try simp only [Act.put, List.setIfInBounds_toArray, List.set_cons_zero, List.set_cons_succ]
        have r9 : wb.heap[W2.heap.size]? = some (.cells #[.bool false, .slice none 0 0, .slice none 0 0] 25 (0, 0)) := (bb.block W2.heap.size hgz).trans rz
        obtain ⟨d0, d1, d2⟩ := box_dsk r9
        have f0 := dsk_free r9 0
        have f1 := dsk_free r9 1
        have f2 := dsk_free r9 2
        have hO9 := O.put hgz (.bool aD2.lost) (.slice pa aD2.secs.length ka) (.slice pc aD2.cache.length kc)
        have hB9 := below_put hbb hgW (.bool aD2.lost) (.slice pa aD2.secs.length ka) (.slice pc aD2.cache.length kc)
        have hR9 := dsk_put (x' := .bool aD2.lost) (y' := .slice pa aD2.secs.length ka) (z' := .slice pc aD2.cache.length kc) r9
        have hgb : W2.heap.size < wb.heap.size := Nat.lt_of_lt_of_le hgz bb.size
        clear bb O
        repeat (refine walkH_read (by rfl) (by (intro gx; go_simp; try (with_reducible rfl))) ?_; try simp only [Act.put, List.setIfInBounds_toArray, List.set_cons_zero, List.set_cons_succ])
        refine walkH_do rfl (fun K hK => ?_)
        go_simp
        refine hK _ _ hB9 ?_
        clear hK K
        try simp only [Act.put, List.setIfInBounds_toArray, List.set_cons_zero, List.set_cons_succ]
        repeat (refine walkH_read (by rfl) (by (intro gx; go_simp; try (with_reducible rfl))) ?_; try simp only [Act.put, List.setIfInBounds_toArray, List.set_cons_zero, List.set_cons_succ])
        refine walkH_nil ?_
        refine NoPanic.normal ?_
        have V2 : Hid (DVar (((wb.setCell ⟨W2.heap.size, 0, none⟩ (.bool aD2.lost)).setCell ⟨W2.heap.size, 1, none⟩ (.slice pa aD2.secs.length ka)).setCell ⟨W2.heap.size, 2, none⟩ (.slice pc aD2.cache.length kc)) w.heap.size W2.heap.size aD2) := hide ⟨⟨pa, ka, pc, kc, hR9, hO9.readAs.1, hO9.readAs.2⟩, Nat.le_trans hsW2 hgW, by simpa using hgb⟩
        have H22 := hide hB9
        clear hbb hB9 hO9 hR9 hgb d0 d1 d2 f0 f1 f2 r9 rz hgz hgW hbf
        generalize (((wb.setCell ⟨W2.heap.size, 0, none⟩ (.bool aD2.lost)).setCell ⟨W2.heap.size, 1, none⟩ (.slice pa aD2.secs.length ka)).setCell ⟨W2.heap.size, 2, none⟩ (.slice pc aD2.cache.length kc)) = W3 at *
        obtain ⟨gz, egz⟩ : ∃ gz, gz = W2.heap.size := ⟨_, rfl⟩
        rw [← egz] at V2 ⊢
        clear egz
        revert H22; revert V2; revert W3; revert gz; revert kc; revert pc; revert ka; revert pa
        exact HL2.get
    case prf =>
      intro pa ka pc kc g3 W3 V2 H22
      clear k0 k1 k2
      replace HB := hide (bt (unhide HB2) (unhide H22))
      clear HS HC EBL ELS ELC V1 HB2 H11 H22 hsW hsW2
      obtain ⟨⟨sa, sc, ca, cc, hbx, hS, hC⟩, hlt⟩ := unhide V2
      obtain ⟨x0, x1, x2⟩ := box_dsk hbx
      go_wp2_with fail
      refine (diskRead_any aD2 _ _ _ _ _ _ 1 _ hS hC (by have := a2_fit.1; omega) (by have := a2_fit.2; omega)).mono ?_
      rintro e wr1 ⟨he, b1⟩
      rw [a_r2] at he
      subst he
      replace V2 := hide ((unhide V2).below b1)
      replace HB := hide (bt (unhide HB) b1)
      clear b1 hbx hS hC hlt x0 x1 x2
      obtain ⟨⟨sa, sc, ca, cc, hbx, hS, hC⟩, hlt⟩ := unhide V2
      obtain ⟨x0, x1, x2⟩ := box_dsk hbx
      go_wp2_with fail
      refine (diskCrash_any aD2 _ _ _ _ _ _ 1 _ hS hC a2_fit.1 a2_fit.2).mono ?_
      rintro e wr2 ⟨v, he, O, b2⟩
      rw [a_c] at he O
      obtain ⟨pa2, ka2, pc2, kc2, ev, hS2, hC2⟩ := O.read
      subst ev
      subst he
      replace V2 := hide ((unhide V2).below b2)
      replace HB := hide (bt (unhide HB) b2)
      clear b2 hbx hS hC hlt x0 x1 x2 O
      go_upto_region 6 with fail
      have VC : Hid (DVar (wr2.alloc (.cells #[.bool aDC.lost, .slice pa2 aDC.secs.length ka2, .slice pc2 aDC.cache.length kc2] 25)) w.heap.size wr2.heap.size aDC) := hide ⟨⟨pa2, ka2, pc2, kc2, heap_alloc_new wr2 _, hS2.below (below_alloc _ _), hC2.below (below_alloc _ _)⟩, (unhide HB).size, by simp⟩
      have bb2 := below_alloc wr2 (.cells #[.bool aDC.lost, .slice pa2 aDC.secs.length ka2, .slice pc2 aDC.cache.length kc2] 25)
      replace V2 := hide ((unhide V2).below bb2)
      replace HB := hide (bt (unhide HB) bb2)
      clear bb2 hS2 hC2
      generalize (wr2.alloc (.cells #[.bool aDC.lost, .slice pa2 aDC.secs.length ka2, .slice pc2 aDC.cache.length kc2] 25)) = WD2 at *
      obtain ⟨⟨sa, sc, ca, cc, hbx, hS, hC⟩, hlt⟩ := unhide VC
      obtain ⟨x0, x1, x2⟩ := box_dsk hbx
      go_wp2_with fail
      refine (diskRead_any aDC _ _ _ _ _ _ 1 _ hS hC (by have := aC_fit.1; omega) (by have := aC_fit.2; omega)).mono ?_
      rintro e wr3 ⟨he, b3⟩
      rw [a_rc] at he
      subst he
      replace V2 := hide ((unhide V2).below b3)
      replace VC := hide ((unhide VC).below b3)
      replace HB := hide (bt (unhide HB) b3)
      clear b3 hbx hS hC hlt x0 x1 x2
      obtain ⟨⟨sa, sc, ca, cc, hbx, hS, hC⟩, hlt⟩ := unhide V2
      obtain ⟨x0, x1, x2⟩ := box_dsk hbx
      go_wp2_with fail
      refine (diskFlush_any aD2 _ _ _ _ _ _ _ hS hC a2_fit.1 a2_fit.2).mono ?_
      rintro e wr4 ⟨v, he, O, b4⟩
      rw [a_f] at he O
      obtain ⟨pa4, ka4, pc4, kc4, ev, hS4, hC4⟩ := O.read
      subst ev
      subst he
      replace V2 := hide ((unhide V2).below b4)
      replace HB := hide (bt (unhide HB) b4)
      clear b4 hbx hS hC hlt x0 x1 x2 O
      go_upto_region 8 with fail
      have VF : Hid (DVar (wr4.alloc (.cells #[.bool aDF.lost, .slice pa4 aDF.secs.length ka4, .slice pc4 aDF.cache.length kc4] 25)) w.heap.size wr4.heap.size aDF) := hide ⟨⟨pa4, ka4, pc4, kc4, heap_alloc_new wr4 _, hS4.below (below_alloc _ _), hC4.below (below_alloc _ _)⟩, (unhide HB).size, by simp⟩
      have bb4 := below_alloc wr4 (.cells #[.bool aDF.lost, .slice pa4 aDF.secs.length ka4, .slice pc4 aDF.cache.length kc4] 25)
      replace V2 := hide ((unhide V2).below bb4)
      replace HB := hide (bt (unhide HB) bb4)
      clear bb4 hS4 hC4
      generalize (wr4.alloc (.cells #[.bool aDF.lost, .slice pa4 aDF.secs.length ka4, .slice pc4 aDF.cache.length kc4] 25)) = WD4 at *
      obtain ⟨⟨sa, sc, ca, cc, hbx, hS, hC⟩, hlt⟩ := unhide VF
      obtain ⟨x0, x1, x2⟩ := box_dsk hbx
      go_wp2_with fail
      refine (diskRead_any aDF _ _ _ _ _ _ 1 _ hS hC (by have := aF_fit.1; omega) (by have := aF_fit.2; omega)).mono ?_
      rintro e wr5 ⟨he, b5⟩
      rw [a_rf] at he
      subst he
      replace V2 := hide ((unhide V2).below b5)
      replace VF := hide ((unhide VF).below b5)
      replace HB := hide (bt (unhide HB) b5)
      clear b5 hbx hS hC hlt x0 x1 x2
      obtain ⟨⟨sa, sc, ca, cc, hbx, hS, hC⟩, hlt⟩ := unhide VF
      obtain ⟨x0, x1, x2⟩ := box_dsk hbx
      go_wp2_with fail
      refine (diskRot_any aDF _ _ _ _ _ _ 1 0 1 _ hS hC aF_fit.1 aF_fit.2).mono ?_
      rintro e wr6 ⟨v, he, O, b6⟩
      rw [a_rot] at he O
      obtain ⟨pa6, ka6, pc6, kc6, ev, hS6, hC6⟩ := O.read
      subst ev
      subst he
      replace V2 := hide ((unhide V2).below b6)
      replace VF := hide ((unhide VF).below b6)
      replace HB := hide (bt (unhide HB) b6)
      clear b6 hbx hS hC hlt x0 x1 x2 O
      go_upto_region 10 with fail
      have VR : Hid (DVar (wr6.alloc (.cells #[.bool aDR.lost, .slice pa6 aDR.secs.length ka6, .slice pc6 aDR.cache.length kc6] 25)) w.heap.size wr6.heap.size aDR) := hide ⟨⟨pa6, ka6, pc6, kc6, heap_alloc_new wr6 _, hS6.below (below_alloc _ _), hC6.below (below_alloc _ _)⟩, (unhide HB).size, by simp⟩
      have bb6 := below_alloc wr6 (.cells #[.bool aDR.lost, .slice pa6 aDR.secs.length ka6, .slice pc6 aDR.cache.length kc6] 25)
      replace V2 := hide ((unhide V2).below bb6)
      replace VF := hide ((unhide VF).below bb6)
      replace HB := hide (bt (unhide HB) bb6)
      clear bb6 hS6 hC6
      generalize (wr6.alloc (.cells #[.bool aDR.lost, .slice pa6 aDR.secs.length ka6, .slice pc6 aDR.cache.length kc6] 25)) = WD6 at *
      obtain ⟨⟨sa, sc, ca, cc, hbx, hS, hC⟩, hlt⟩ := unhide VR
      obtain ⟨x0, x1, x2⟩ := box_dsk hbx
      go_wp2_with fail
      refine (diskRead_any aDR _ _ _ _ _ _ 1 _ hS hC (by have := aR_fit.1; omega) (by have := aR_fit.2; omega)).mono ?_
      rintro e wr7 ⟨he, b7⟩
      rw [a_rr] at he
      subst he
      replace V2 := hide ((unhide V2).below b7)
      replace VR := hide ((unhide VR).below b7)
      replace HB := hide (bt (unhide HB) b7)
      clear b7 hbx hS hC hlt x0 x1 x2
      obtain ⟨⟨sa, sc, ca, cc, hbx, hS, hC⟩, hlt⟩ := unhide V2
      obtain ⟨x0, x1, x2⟩ := box_dsk hbx
      go_wp2_with fail
      refine (diskLose_any aD2 _ _ _ _ _ _ _ hS hC a2_fit.1 a2_fit.2).mono ?_
      rintro e wr8 ⟨v, he, O, b8⟩
      rw [a_l] at he O
      obtain ⟨pa8, ka8, pc8, kc8, ev, hS8, hC8⟩ := O.read
      subst ev
      subst he
      replace V2 := hide ((unhide V2).below b8)
      replace HB := hide (bt (unhide HB) b8)
      clear b8 hbx hS hC hlt x0 x1 x2 O
      go_upto_region 12 with fail
      have VL : Hid (DVar (wr8.alloc (.cells #[.bool aDL.lost, .slice pa8 aDL.secs.length ka8, .slice pc8 aDL.cache.length kc8] 25)) w.heap.size wr8.heap.size aDL) := hide ⟨⟨pa8, ka8, pc8, kc8, heap_alloc_new wr8 _, hS8.below (below_alloc _ _), hC8.below (below_alloc _ _)⟩, (unhide HB).size, by simp⟩
      have bb8 := below_alloc wr8 (.cells #[.bool aDL.lost, .slice pa8 aDL.secs.length ka8, .slice pc8 aDL.cache.length kc8] 25)
      replace V2 := hide ((unhide V2).below bb8)
      replace HB := hide (bt (unhide HB) bb8)
      clear bb8 hS8 hC8
      generalize (wr8.alloc (.cells #[.bool aDL.lost, .slice pa8 aDL.secs.length ka8, .slice pc8 aDL.cache.length kc8] 25)) = WD8 at *
      obtain ⟨⟨sa, sc, ca, cc, hbx, hS, hC⟩, hlt⟩ := unhide VL
      obtain ⟨x0, x1, x2⟩ := box_dsk hbx
      go_wp2_with fail
      refine (diskRead_any aDL _ _ _ _ _ _ 1 _ hS hC (by have := aL_fit.1; omega) (by have := aL_fit.2; omega)).mono ?_
      rintro e wr9 ⟨he, b9⟩
      rw [a_rl] at he
      subst he
      replace V2 := hide ((unhide V2).below b9)
      replace VL := hide ((unhide VL).below b9)
      replace HB := hide (bt (unhide HB) b9)
      clear b9 hbx hS hC hlt x0 x1 x2
      go_wp2_with fail
      refine (diskNew_any 0 _).mono ?_
      rintro e wn ⟨v, he, O, bn⟩
      rw [a_n0] at he O
      obtain ⟨pan, kan, pcn, kcn, ev, -, -⟩ := O.read
      subst ev
      subst he
      replace V2 := hide ((unhide V2).below bn)
      replace VL := hide ((unhide VL).below bn)
      replace HB := hide (bt (unhide HB) bn)
      clear bn O
      go_upto_region 14 with fail
      have bbn := below_alloc wn (.cells #[.bool dsk0.lost, .slice pan dsk0.secs.length kan, .slice pcn dsk0.cache.length kcn] 25)
      replace V2 := hide ((unhide V2).below bbn)
      replace VL := hide ((unhide VL).below bbn)
      replace HB := hide (bt (unhide HB) bbn)
      clear bbn
      generalize (wn.alloc (.cells #[.bool dsk0.lost, .slice pan dsk0.secs.length kan, .slice pcn dsk0.cache.length kcn] 25)) = WN at *
      clear VC VF VR
      have e7 : (aF7.toList == aF7.toList) = true := by simp
      have e8 : (aF8.toList == aF8.toList) = true := by simp
      have e64 : (aR8.size : Int) = 64 := by rw [aR8_size]; rfl
      go_wp2_with (go_at_call 12; refine (num_any _ _).mono ?_; rintro e w' ⟨rfl, hw'⟩; rw [hw']; clear hw' w')
      refine (full_any 98 (by decide) _).mono ?_
      rintro e wf1 ⟨rfl, bf1⟩
      rw [show fullB 98 = aF8 from rfl]
      replace V2 := hide ((unhide V2).below bf1)
      replace VL := hide ((unhide VL).below bf1)
      replace HB := hide (bt (unhide HB) bf1)
      clear bf1
      go_wp2_with (go_at_call 12; refine (num_any _ _).mono ?_; rintro e w' ⟨rfl, hw'⟩; rw [hw']; clear hw' w')
      refine (full_any 97 (by decide) _).mono ?_
      rintro e wf2 ⟨rfl, bf2⟩
      rw [show fullB 97 = aF7 from rfl]
      replace V2 := hide ((unhide V2).below bf2)
      replace VL := hide ((unhide VL).below bf2)
      replace HB := hide (bt (unhide HB) bf2)
      clear bf2
      go_wp2_with (go_at_call 12; refine (num_any _ _).mono ?_; rintro e w' ⟨rfl, hw'⟩; rw [hw']; clear hw' w')
      refine (full_any 98 (by decide) _).mono ?_
      rintro e wf3 ⟨rfl, bf3⟩
      rw [show fullB 98 = aF8 from rfl]
      replace V2 := hide ((unhide V2).below bf3)
      replace VL := hide ((unhide VL).below bf3)
      replace HB := hide (bt (unhide HB) bf3)
      clear bf3
      have hidx := aR8_idx (by rw [aR8_size]; decide)
      obtain ⟨⟨sl, sc, cl, cc, hbl, _, _⟩, _⟩ := unhide VL
      obtain ⟨l0, l1, l2⟩ := box_dsk hbl
      rw [show aDL.lost = true from rfl] at l0
      obtain ⟨⟨sa, sd, ca, cd, hbx, hS, hC⟩, hlt⟩ := unhide V2
      obtain ⟨x0, x1, x2⟩ := box_dsk hbx
      have HS := hide hS
      have HC := hide hC
      clear hbl hbx hS hC hlt l1 l2
      go_wp2_with (go_at_call 12; refine (num_any _ _).mono ?_; rintro e w' ⟨rfl, hw'⟩; rw [hw']; clear hw' w')
      refine (diskMay_any aD2 _ _ _ _ _ _ _ (unhide HS) (unhide HC) (by have := a2_fit.1; omega) (by have := a2_fit.2; omega)).mono ?_
      rintro e wm ⟨rfl, bm⟩
      rw [decide_eq_true aD2_st.1]
      replace HB := hide (bt (unhide HB) bm)
      clear bm x0 x1 x2 l0
      go_wp2_with fail
      refine (diskMay_any dsk0 none 0 0 none 0 0 _ ⟨rfl, .inl ⟨rfl, rfl, rfl⟩⟩ (WrV.nil _) (by decide) (by decide)).mono ?_
      rintro e wm2 ⟨rfl, bm2⟩
      rw [decide_eq_false a_m0]
      replace HB := hide (bt (unhide HB) bm2)
      clear bm2
      go_wp2
      go_ret
      exact ⟨rfl, unhide HB⟩
end Go.Proofs.Ytpmbmhjhclekeaa
