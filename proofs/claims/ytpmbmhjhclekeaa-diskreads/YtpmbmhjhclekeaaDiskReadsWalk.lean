/- The Go text of the statement DiskReads returns true, whatever the numbers. -/
import Derived.Test.YtpmbmhjhclekeaaDskLoop
import Derived.Test.YtpmbmhjhclekeaaReadsMath
import Derived.Test.YtpmbmhjhclekeaaBVar
import Derived.Deep.CutBlock
import Derived.Deep.CutRange
namespace Go.Proofs.Ytpmbmhjhclekeaa
open Go.RowKit
set_option linter.unusedVariables false
set_option linter.unusedSimpArgs false
attribute [local go_sem ↓] Go.wp_at_zero Go.wp_at_succ
theorem modD5 (a : Int) : ∃ i : Nat, i < 5 ∧ wrap64 ((IntKind.u64.wrap a).tmod 5) = (i : Int) := by
  have h0 : IntKind.u64.wrap a = a % 18446744073709551616 := IntKind.wrap_u64 a
  have : 0 ≤ a % 18446744073709551616 := Int.emod_nonneg _ (by decide)
  rw [h0, Int.tmod_eq_emod_of_nonneg (by omega)]
  exact ⟨(a % 18446744073709551616 % 5).toNat, by omega, by unfold wrap64; omega⟩
theorem u8_o (k : Nat) (h : k < 40) : IntKind.u8.wrap (1 + (k : Int)) = ((1 + k : Nat) : Int) := by rw [IntKind.wrap_u8]; omega
set_option maxRecDepth 100000 in
set_option maxHeartbeats 8000000 in
theorem DiskReads_walk {w : World} (a : Option Addr) (n cap : Nat) (xs : List Int) (hx : Ints w a n cap xs) (hn : n * 8 ≤ 140737488351232) (hq : ∀ x ∈ xs, (Lit.int .i64 x).wf = true)
    (a' : Option Addr) (n' cap' : Nat) (ys : List Int) (hy : Ints w a' n' cap' ys) (hn' : n' * 8 ≤ 140737488351232) (hq' : ∀ x ∈ ys, (Lit.int .i64 x).wf = true) : Calls Try.prog 4 #[.slice a n cap, .slice a' n' cap'] w fun e w' => e = .returned (.bool true) ∧ Below w.heap.size w w' := by
  clear hq hq'
  have HX := hide hx
  have HY := hide hy
  clear hx hy
  go_enter Try.func4, Try.ntmps4
  go_wp2_with fail
  refine (awake13_any _).mono ?_
  rintro e w0 ⟨rfl, b0⟩
  have HB := hide b0
  clear b0
  go_wp2_with fail
  refine (diskNew_any 5 _).mono ?_
  rintro e wr1 ⟨v, he, O, b1⟩
  have hnw : newD 5 = (rdN 5, 0) := rd_new 5 (by decide) (by decide)
  rw [hnw] at he O
  clear hnw
  obtain ⟨pa1, ka1, pc1, kc1, ev, hS1, hC1⟩ := O.read
  subst ev
  subst he
  replace HB := hide (bt (unhide HB) b1)
  clear b1  O
  go_upto_region 4 with fail
  have VA : Hid (DVar (wr1.alloc (.cells #[.bool (rdN 5).lost, .slice pa1 (rdN 5).secs.length ka1, .slice pc1 (rdN 5).cache.length kc1] 25)) w.heap.size wr1.heap.size (rdN 5)) := hide ⟨⟨pa1, ka1, pc1, kc1, heap_alloc_new wr1 _, hS1.below (below_alloc _ _), hC1.below (below_alloc _ _)⟩, (unhide HB).size, by simp⟩
  have bb1 := below_alloc wr1 (.cells #[.bool (rdN 5).lost, .slice pa1 (rdN 5).secs.length ka1, .slice pc1 (rdN 5).cache.length kc1] 25)
  replace HB := hide (bt (unhide HB) bb1)
  clear bb1 hS1 hC1
  generalize (wr1.alloc (.cells #[.bool (rdN 5).lost, .slice pa1 (rdN 5).secs.length ka1, .slice pc1 (rdN 5).cache.length kc1] 25)) = WD1 at *
  generalize wr1.heap.size = ga at *
  go_upto_region 7 with (go_at_call 12; refine (num_any _ _).mono ?_; rintro e w' ⟨rfl, hw'⟩; rw [hw']; clear hw' w')
  have hVW : BVar (WD1.alloc (.cells #[.int .u8 0, .int .u8 0, .int .u8 0, .int .u8 0, .int .u8 0] 5)) WD1.heap.size (List.replicate 5 0) := heap_alloc_new WD1 _
  have HN := hide (Nat.ne_of_gt (unhide VA).lt.2)
  have HG := hide ((unhide HB).size)
  have bb := below_alloc WD1 (.cells #[.int .u8 0, .int .u8 0, .int .u8 0, .int .u8 0, .int .u8 0] 5)
  replace VA := hide ((unhide VA).below bb)
  replace HB := hide (bt (unhide HB) bb)
  have VW := hide hVW
  clear bb hVW
  generalize (WD1.alloc (.cells #[.int .u8 0, .int .u8 0, .int .u8 0, .int .u8 0, .int .u8 0] 5)) = WA at *
  generalize WD1.heap.size = gw at *
  go_wp2
  go_loopw [8] (fun iv W => ∃ (k : Nat) (d : Dsk) (ws : List Nat), k ≤ n ∧ k ≤ 40 ∧ iv = .int .i64 k ∧ Hid (d.cache.length ≤ k ∧ RD 5 d ws) ∧ Hid (DVar W w.heap.size ga d) ∧ Hid (BVar W gw ws) ∧ Hid (Below w.heap.size w W)) (fun iv _ => n - (intOf iv).toNat)
  case atStart => exact ⟨0, _, _, Nat.zero_le _, by decide, rfl, hide ⟨Nat.le_refl _, rd_start 5⟩, VA, VW, HB⟩
  case round =>
    clear VA HB VW
    obtain ⟨k, d, ws, hk, hk40, rfl, HR, VA, VW, HB⟩ := hrel
    by_cases hend : k < n ∧ k < 40
    · obtain ⟨hkn, h40⟩ := hend
      have hkn' : (k : Int) < n := by omega
      have h40' : (k : Int) < 40 := by omega
      rcases (unhide HX).2.two with h0 | ⟨b, off, rfl, hc⟩
      · exfalso; omega
      have hcell := ((unhide HB).cell (cell_lt (hc k hkn))).trans (hc k hkn)
      obtain ⟨x, ex⟩ : ∃ x, x = xs.getD k 0 := ⟨_, rfl⟩
      obtain ⟨i, hi5, e5⟩ := modD5 x
      simp only [← ex] at hcell
      clear ex hc
      have hu := u8_o k h40
      have hcl : d.cache.length < 256 := by have := (unhide HR).1; omega
      have HCL := hide hcl
      have HI := hide hi5
      clear hcl
      go_upto_region 12 with fail
      simp only [e5]
      clear e5 hcell
      have HK := hide h40
      have HKN := hide hkn
      have hby : 1 + k < 256 := by omega
      have HBY := hide hby
      have hsW1 := (unhide HB).size
      obtain ⟨⟨sa, sc, ca, cc, hbx, hS, hC⟩, hlt⟩ := unhide VA
      obtain ⟨x0, x1, x2⟩ := box_dsk hbx
      have k0 := kept_cell (B := wr.heap.size) x0 (cell_lt x0)
      have k1 := kept_cell (B := wr.heap.size) x1 (cell_lt x1)
      have k2 := kept_cell (B := wr.heap.size) x2 (cell_lt x2)
      have HS := hide hS
      have HC := hide hC
      obtain ⟨bl, ebl⟩ : ∃ bl, bl = d.lost := ⟨_, rfl⟩
      rw [← ebl] at k0
      obtain ⟨ls, els⟩ : ∃ ls, ls = d.secs.length := ⟨_, rfl⟩
      obtain ⟨lc, elc⟩ : ∃ lc, lc = d.cache.length := ⟨_, rfl⟩
      rw [← els] at k1 HS
      rw [← elc] at k2 HC
      have EBL := hide ebl
      have ELS := hide els
      have ELC := hide elc
      clear hbx hS hC hlt x0 x1 x2 ebl els elc
      go_upto_region 12 with fail
      refine' (fun (HL1 : Later _) => ?main) (Later.mk ?prf)
      case main =>
        refine wp_region_float (S := Below wr.heap.size wr) 8 [(true, 0), (true, 1), (true, 2), (false, 3), (false, 4), (true, 5), (true, 6), (true, 7)] [(false, 9), (true, 10)] (by kernel_rfl) (by kernel_rfl) (by kernel_rfl) (by kernel_rfl) ((Below.refl _ _).drew) ?_
        simp only [withOps, List.map_cons, List.map_nil, List.getElem?_cons_succ, List.getElem?_cons_zero]
        repeat (refine walkF_read (by rfl) (by (intro gx; go_simp; try (with_reducible rfl))) ?_; try simp only [Act.put, List.setIfInBounds_toArray, List.set_cons_zero, List.set_cons_succ])
        refine walkF_do rfl rfl (fun K hK => ?_) (fun K hK => ?_)
        · go_simp
          refine (full_any (1 + k) (unhide HBY) _).mono ?_
          rintro e wa ⟨rfl, ba⟩
          have hba : Below wr.heap.size wr wa := ((Below.refl _ _).drew).trans ba
          refine hK _ _ hba ?_
          clear hK K ba
          try simp only [Act.put, List.setIfInBounds_toArray, List.set_cons_zero, List.set_cons_succ]
          repeat (refine walkF_read (by rfl) (by (intro gx; go_simp; try (with_reducible rfl))) ?_; try simp only [Act.put, List.setIfInBounds_toArray, List.set_cons_zero, List.set_cons_succ])
          refine walkF_do rfl rfl (fun K hK => ?_) (fun K hK => ?_)
          · go_simp
            rw [unhide EBL]
            refine (diskWrite_any d _ _ _ _ _ _ (i : Int) (fullB (1 + k)) _ ((unhide HS).below hba) ((unhide HC).below hba) (by rw [unhide ELS]; exact ((unhide HR).2.fit (by decide) (Nat.le_of_lt (unhide HCL))).1) (by rw [unhide ELC]; exact ((unhide HR).2.fit (by decide) (Nat.le_of_lt (unhide HCL))).2)).mono ?_
            rintro e wb ⟨v, he, O, bb⟩
            rw [((unhide HR).2.writes (by decide) (by decide) (unhide HCL) (unhide HI))] at he O
            obtain ⟨pa, ka, pc, kc, ev, hS', hC'⟩ := O.read
            subst ev
            subst he
            have hbb : Below wr.heap.size wr wb := bt hba bb
            refine hK _ _ hbb ?_
            clear hK K bb O
            try simp only [Act.put, List.setIfInBounds_toArray, List.set_cons_zero, List.set_cons_succ]
            repeat (refine walkF_read (by rfl) (by (intro gx; go_simp; try (with_reducible rfl))) ?_; try simp only [Act.put, List.setIfInBounds_toArray, List.set_cons_zero, List.set_cons_succ])
            refine walkF_end rfl (fun K hK => ?_)
            go_simp
            refine hK _ _ (bt hbb (below_alloc _ _)) ?_
            clear hK K
            try simp only [Act.put, List.setIfInBounds_toArray, List.set_cons_zero, List.set_cons_succ]
            refine walkH_do rfl (fun K hK => ?_)
            go_simp
            refine hK _ _ (bt hbb (below_alloc _ _)) ?_
            clear hK K
            try simp only [Act.put, List.setIfInBounds_toArray, List.set_cons_zero, List.set_cons_succ]
            repeat (refine walkH_read (by rfl) (by (intro gx; go_simp; try (with_reducible rfl))) ?_; try simp only [Act.put, List.setIfInBounds_toArray, List.set_cons_zero, List.set_cons_succ])
            refine walkH_nil ?_
            refine NoPanic.normal ?_
            have VX : Hid (DVar (wb.alloc (.cells #[.bool (wrD d (i : Int) (fullB (1 + k))).lost, .slice pa (wrD d (i : Int) (fullB (1 + k))).secs.length ka, .slice pc (wrD d (i : Int) (fullB (1 + k))).cache.length kc] 25)) w.heap.size wb.heap.size (wrD d (i : Int) (fullB (1 + k)))) := hide ⟨⟨pa, ka, pc, kc, heap_alloc_new wb _, hS'.below (below_alloc _ _), hC'.below (below_alloc _ _)⟩, Nat.le_trans hsW1 hbb.size, by simp⟩
            have HH1 : Hid (Below wr.heap.size wr (wb.alloc (.cells #[.bool (wrD d (i : Int) (fullB (1 + k))).lost, .slice pa (wrD d (i : Int) (fullB (1 + k))).secs.length ka, .slice pc (wrD d (i : Int) (fullB (1 + k))).cache.length kc] 25))) := hide (bt hbb (below_alloc _ _))
            clear hbb hba hS' hC'
            generalize (wb.alloc (.cells #[.bool (wrD d (i : Int) (fullB (1 + k))).lost, .slice pa (wrD d (i : Int) (fullB (1 + k))).secs.length ka, .slice pc (wrD d (i : Int) (fullB (1 + k))).cache.length kc] 25)) = WW1 at *
            generalize wb.heap.size = g2 at *
            revert HH1; revert VX; revert WW1; revert g2; revert kc; revert pc; revert ka; revert pa
            exact HL1.get
          · go_simp
            have rz : (wa.alloc (.cells #[.bool false, .slice none 0 0, .slice none 0 0] 25)).heap[wa.heap.size]? = some (.cells #[.bool false, .slice none 0 0, .slice none 0 0] 25 (0, 0)) := heap_alloc_new wa _
            have hbf : Below wr.heap.size wr (wa.alloc (.cells #[.bool false, .slice none 0 0, .slice none 0 0] 25)) := bt hba (below_alloc _ _)
            have hgW : wr.heap.size ≤ wa.heap.size := hba.size
            have hgz : wa.heap.size < (wa.alloc (.cells #[.bool false, .slice none 0 0, .slice none 0 0] 25)).heap.size := by simp
            refine hK _ _ hbf ?_
            clear hK K hba
            try simp only [Act.put, List.setIfInBounds_toArray, List.set_cons_zero, List.set_cons_succ]
            generalize (wa.alloc (.cells #[.bool false, .slice none 0 0, .slice none 0 0] 25)) = wz at *
            generalize wa.heap.size = gz at *
            refine walkH_do rfl (fun K hK => ?_)
            go_simp
            rw [unhide EBL]
            refine (diskWrite_any d _ _ _ _ _ _ (i : Int) (fullB (1 + k)) _ ((unhide HS).below hbf) ((unhide HC).below hbf) (by rw [unhide ELS]; exact ((unhide HR).2.fit (by decide) (Nat.le_of_lt (unhide HCL))).1) (by rw [unhide ELC]; exact ((unhide HR).2.fit (by decide) (Nat.le_of_lt (unhide HCL))).2)).mono ?_
            rintro e wb ⟨v, he, O, bb⟩
            rw [((unhide HR).2.writes (by decide) (by decide) (unhide HCL) (unhide HI))] at he O
            obtain ⟨pa, ka, pc, kc, ev, -, -⟩ := O.read
            subst ev
            subst he
            have hbb : Below wr.heap.size wr wb := bt hbf bb
            refine hK _ _ hbb ?_
            clear hK K
            try simp only [Act.put, List.setIfInBounds_toArray, List.set_cons_zero, List.set_cons_succ]
            have r9 : wb.heap[gz]? = some (.cells #[.bool false, .slice none 0 0, .slice none 0 0] 25 (0, 0)) := (bb.block gz hgz).trans rz
            obtain ⟨d0, d1, d2⟩ := box_dsk r9
            have f0 := dsk_free r9 0
            have f1 := dsk_free r9 1
            have f2 := dsk_free r9 2
            have hO9 := O.put hgz (.bool (wrD d (i : Int) (fullB (1 + k))).lost) (.slice pa (wrD d (i : Int) (fullB (1 + k))).secs.length ka) (.slice pc (wrD d (i : Int) (fullB (1 + k))).cache.length kc)
            have hB9 := below_put hbb hgW (.bool (wrD d (i : Int) (fullB (1 + k))).lost) (.slice pa (wrD d (i : Int) (fullB (1 + k))).secs.length ka) (.slice pc (wrD d (i : Int) (fullB (1 + k))).cache.length kc)
            have hR9 := dsk_put (x' := .bool (wrD d (i : Int) (fullB (1 + k))).lost) (y' := .slice pa (wrD d (i : Int) (fullB (1 + k))).secs.length ka) (z' := .slice pc (wrD d (i : Int) (fullB (1 + k))).cache.length kc) r9
            have hgb : gz < wb.heap.size := Nat.lt_of_lt_of_le hgz bb.size
            clear bb O
            repeat (refine walkH_read (by rfl) (by (intro gx; go_simp; try (with_reducible rfl))) ?_; try simp only [Act.put, List.setIfInBounds_toArray, List.set_cons_zero, List.set_cons_succ])
            refine walkH_do rfl (fun K hK => ?_)
            go_simp
            refine hK _ _ hB9 ?_
            clear hK K
            try simp only [Act.put, List.setIfInBounds_toArray, List.set_cons_zero, List.set_cons_succ]
            repeat (refine walkH_read (by rfl) (by (intro gx; go_simp; try (with_reducible rfl))) ?_; try simp only [Act.put, List.setIfInBounds_toArray, List.set_cons_zero, List.set_cons_succ])
            refine walkH_nil ?_
            refine NoPanic.normal ?_
            have VX : Hid (DVar (((wb.setCell ⟨gz, 0, none⟩ (.bool (wrD d (i : Int) (fullB (1 + k))).lost)).setCell ⟨gz, 1, none⟩ (.slice pa (wrD d (i : Int) (fullB (1 + k))).secs.length ka)).setCell ⟨gz, 2, none⟩ (.slice pc (wrD d (i : Int) (fullB (1 + k))).cache.length kc)) w.heap.size gz (wrD d (i : Int) (fullB (1 + k)))) := hide ⟨⟨pa, ka, pc, kc, hR9, hO9.readAs.1, hO9.readAs.2⟩, Nat.le_trans hsW1 hgW, by simpa using hgb⟩
            have HH1 := hide hB9
            clear hbb hB9 hO9 hR9 hgb d0 d1 d2 f0 f1 f2 r9 rz hgz hgW hbf
            generalize (((wb.setCell ⟨gz, 0, none⟩ (.bool (wrD d (i : Int) (fullB (1 + k))).lost)).setCell ⟨gz, 1, none⟩ (.slice pa (wrD d (i : Int) (fullB (1 + k))).secs.length ka)).setCell ⟨gz, 2, none⟩ (.slice pc (wrD d (i : Int) (fullB (1 + k))).cache.length kc)) = WW1 at *
            revert HH1; revert VX; revert WW1; revert gz; revert kc; revert pc; revert ka; revert pa
            exact HL1.get
        · go_simp
          have rz0 : (wr.alloc (.cells #[.bool false, .slice none 0 0, .slice none 0 0] 25)).drew.heap[wr.heap.size]? = some (.cells #[.bool false, .slice none 0 0, .slice none 0 0] 25 (0, 0)) := heap_alloc_new wr _
          have hbz : Below wr.heap.size wr (wr.alloc (.cells #[.bool false, .slice none 0 0, .slice none 0 0] 25)).drew := by go_grown
          have hgz0 : wr.heap.size < (wr.alloc (.cells #[.bool false, .slice none 0 0, .slice none 0 0] 25)).drew.heap.size := by simp
          refine hK _ _ hbz ?_
          clear hK K
          try simp only [Act.put, List.setIfInBounds_toArray, List.set_cons_zero, List.set_cons_succ]
          generalize (wr.alloc (.cells #[.bool false, .slice none 0 0, .slice none 0 0] 25)).drew = wz0 at *
          refine walkH_do rfl (fun K hK => ?_)
          go_simp
          refine (full_any (1 + k) (unhide HBY) _).mono ?_
          rintro e wz ⟨rfl, bz⟩
          have hbf : Below wr.heap.size wr wz := bt hbz bz
          have rz : wz.heap[wr.heap.size]? = some (.cells #[.bool false, .slice none 0 0, .slice none 0 0] 25 (0, 0)) := (bz.block _ hgz0).trans rz0
          have hgz : wr.heap.size < wz.heap.size := Nat.lt_of_lt_of_le hgz0 bz.size
          refine hK _ _ hbf ?_
          clear hK K bz hbz rz0 hgz0
          try simp only [Act.put, List.setIfInBounds_toArray, List.set_cons_zero, List.set_cons_succ]
          have hgW : wr.heap.size ≤ wr.heap.size := Nat.le_refl _
          repeat (refine walkH_read (by rfl) (by (intro gx; go_simp; try (with_reducible rfl))) ?_; try simp only [Act.put, List.setIfInBounds_toArray, List.set_cons_zero, List.set_cons_succ])
          refine walkH_do rfl (fun K hK => ?_)
          go_simp
          rw [unhide EBL]
          refine (diskWrite_any d _ _ _ _ _ _ (i : Int) (fullB (1 + k)) _ ((unhide HS).below hbf) ((unhide HC).below hbf) (by rw [unhide ELS]; exact ((unhide HR).2.fit (by decide) (Nat.le_of_lt (unhide HCL))).1) (by rw [unhide ELC]; exact ((unhide HR).2.fit (by decide) (Nat.le_of_lt (unhide HCL))).2)).mono ?_
          rintro e wb ⟨v, he, O, bb⟩
          rw [((unhide HR).2.writes (by decide) (by decide) (unhide HCL) (unhide HI))] at he O
          obtain ⟨pa, ka, pc, kc, ev, -, -⟩ := O.read
          subst ev
          subst he
          have hbb : Below wr.heap.size wr wb := bt hbf bb
          refine hK _ _ hbb ?_
          clear hK K
          try simp only [Act.put, List.setIfInBounds_toArray, List.set_cons_zero, List.set_cons_succ]
          have r9 : wb.heap[wr.heap.size]? = some (.cells #[.bool false, .slice none 0 0, .slice none 0 0] 25 (0, 0)) := (bb.block wr.heap.size hgz).trans rz
          obtain ⟨d0, d1, d2⟩ := box_dsk r9
          have f0 := dsk_free r9 0
          have f1 := dsk_free r9 1
          have f2 := dsk_free r9 2
          have hO9 := O.put hgz (.bool (wrD d (i : Int) (fullB (1 + k))).lost) (.slice pa (wrD d (i : Int) (fullB (1 + k))).secs.length ka) (.slice pc (wrD d (i : Int) (fullB (1 + k))).cache.length kc)
          have hB9 := below_put hbb hgW (.bool (wrD d (i : Int) (fullB (1 + k))).lost) (.slice pa (wrD d (i : Int) (fullB (1 + k))).secs.length ka) (.slice pc (wrD d (i : Int) (fullB (1 + k))).cache.length kc)
          have hR9 := dsk_put (x' := .bool (wrD d (i : Int) (fullB (1 + k))).lost) (y' := .slice pa (wrD d (i : Int) (fullB (1 + k))).secs.length ka) (z' := .slice pc (wrD d (i : Int) (fullB (1 + k))).cache.length kc) r9
          have hgb : wr.heap.size < wb.heap.size := Nat.lt_of_lt_of_le hgz bb.size
          clear bb O
          repeat (refine walkH_read (by rfl) (by (intro gx; go_simp; try (with_reducible rfl))) ?_; try simp only [Act.put, List.setIfInBounds_toArray, List.set_cons_zero, List.set_cons_succ])
          refine walkH_do rfl (fun K hK => ?_)
          go_simp
          refine hK _ _ hB9 ?_
          clear hK K
          try simp only [Act.put, List.setIfInBounds_toArray, List.set_cons_zero, List.set_cons_succ]
          repeat (refine walkH_read (by rfl) (by (intro gx; go_simp; try (with_reducible rfl))) ?_; try simp only [Act.put, List.setIfInBounds_toArray, List.set_cons_zero, List.set_cons_succ])
          refine walkH_nil ?_
          refine NoPanic.normal ?_
          have VX : Hid (DVar (((wb.setCell ⟨wr.heap.size, 0, none⟩ (.bool (wrD d (i : Int) (fullB (1 + k))).lost)).setCell ⟨wr.heap.size, 1, none⟩ (.slice pa (wrD d (i : Int) (fullB (1 + k))).secs.length ka)).setCell ⟨wr.heap.size, 2, none⟩ (.slice pc (wrD d (i : Int) (fullB (1 + k))).cache.length kc)) w.heap.size wr.heap.size (wrD d (i : Int) (fullB (1 + k)))) := hide ⟨⟨pa, ka, pc, kc, hR9, hO9.readAs.1, hO9.readAs.2⟩, Nat.le_trans hsW1 hgW, by simpa using hgb⟩
          have HH1 := hide hB9
          clear hbb hB9 hO9 hR9 hgb d0 d1 d2 f0 f1 f2 r9 rz hgz hgW hbf
          generalize (((wb.setCell ⟨wr.heap.size, 0, none⟩ (.bool (wrD d (i : Int) (fullB (1 + k))).lost)).setCell ⟨wr.heap.size, 1, none⟩ (.slice pa (wrD d (i : Int) (fullB (1 + k))).secs.length ka)).setCell ⟨wr.heap.size, 2, none⟩ (.slice pc (wrD d (i : Int) (fullB (1 + k))).cache.length kc)) = WW1 at *
          obtain ⟨gz, egz⟩ : ∃ gz, gz = wr.heap.size := ⟨_, rfl⟩
          rw [← egz] at VX ⊢
          clear egz
          revert HH1; revert VX; revert WW1; revert gz; revert kc; revert pc; revert ka; revert pa
          exact HL1.get
      case prf =>
        intro pa ka pc kc gw1 WW1 VX HH1
        clear k0 k1 k2
        replace VA := hide ((unhide VA).below (unhide HH1))
        replace VW := hide ((unhide VW).below (unhide HH1))
        replace HB := hide (bt (unhide HB) (unhide HH1))
        clear HS HC EBL ELS ELC HH1 hsW1
        have HR2 : Hid ((wrD d (i : Int) (fullB (1 + k))).cache.length ≤ k + 1 ∧ RD 5 (wrD d (i : Int) (fullB (1 + k))) (ws.set i (1 + k))) := hide ⟨by rw [wrD_len]; have := (unhide HR).1; omega, (unhide HR).2.write (unhide HI) (unhide HBY)⟩
        generalize (wrD d (i : Int) (fullB (1 + k))) = q at *
        have hwl := (unhide HR).2.2.2.2.2.1
        go_upto_region 15 with (go_at_call 12; refine (num_any _ _).mono ?_; rintro e w' ⟨rfl, hw'⟩; rw [hw']; clear hw' w')
        obtain ⟨⟨sa, sc, ca, cc, hbx, hS, hC⟩, hlt⟩ := unhide VX
        obtain ⟨x0, x1, x2⟩ := box_dsk hbx
        obtain ⟨⟨sb, sd, cb, cd, hbt, hT, hD⟩, hlu⟩ := unhide VA
        obtain ⟨y0, y1, y2⟩ := box_dsk hbt
        have q0 := dsk_free hbt 0
        have q1 := dsk_free hbt 1
        have q2 := dsk_free hbt 2
        clear hbx hlt hbt hT hD hlu
        go_upto_region 16 with fail
        have hVT := (unhide VA).put hS hC
        replace VW := hide ((unhide VW).putOther (unhide VA) (unhide HN) (.bool q.lost) (.slice sa q.secs.length sc) (.slice ca q.cache.length cc))
        replace HB := hide (below_put (unhide HB) (unhide VA).lt.1 (.bool q.lost) (.slice sa q.secs.length sc) (.slice ca q.cache.length cc))
        replace VA := hide hVT
        clear hVT x0 x1 x2 y0 y1 y2 q0 q1 q2 hS hC
        generalize ((((WW1).setCell ⟨ga, 0, none⟩ (.bool q.lost)).setCell ⟨ga, 1, none⟩ (.slice sa q.secs.length sc)).setCell ⟨ga, 2, none⟩ (.slice ca q.cache.length cc)) = WS1 at *
        clear VX
        have c1 := (unhide VW).cell i (by rw [hwl]; exact (unhide HI))
        have f1 := dsk_free (unhide VW) i
        have hi5' : (i : Int) < 5 := by have := unhide HI; omega
        have hi6 : i < 5 := unhide HI
        obtain ⟨z0, ez0⟩ : ∃ z0, z0 = ws.getD i 0 := ⟨_, rfl⟩
        rw [← ez0] at c1
        clear ez0
        go_upto_region 17 with fail
        have hVW := (unhide VW).set i (1 + k)
        have hVA := (unhide VA).setOther (unhide VW) i (.int .u8 (((1 + k : Nat) : Int)))
        rw [show ((1 + k : Nat) : Int) = 1 + (k : Int) by omega] at hVW hVA
        replace HB := hide ((unhide HB).setCell (p := ⟨gw, i, none⟩) (unhide HG) (.int .u8 (1 + (k : Int))))
        replace VW := hide hVW
        replace VA := hide hVA
        clear hVW hVA c1 f1 hwl HR
        generalize (WS1.setCell ⟨gw, i, none⟩ (.int .u8 (1 + (k : Int)))) = WS2 at *
        generalize ws.set i (1 + k) = vs at *
        go_cut [75] from 64 to 75 (fun tv wr => (∃ c : Bool, tv = .bool c) ∧ Hid (DVar wr w.heap.size ga q) ∧ Hid (BVar wr gw vs) ∧ Hid (Below w.heap.size w wr))
        case first =>
          by_cases hkm : k < n'
          · have hkm' : (k : Int) < n' := by omega
            rcases (unhide HY).2.two with h0 | ⟨b9, off9, rfl, hc⟩
            · exfalso; omega
            have hcell := ((unhide HB).cell (cell_lt (hc k hkm))).trans (hc k hkm)
            obtain ⟨x9, ex⟩ : ∃ x, x = ys.getD k 0 := ⟨_, rfl⟩
            simp only [← ex] at hcell
            clear ex hc
            go_wp2
            go_meet
            case rel => exact ⟨⟨_, rfl⟩, VA, VW, HB⟩
          · have hkm' : ¬ (k : Int) < n' := by omega
            go_wp2
            go_meet
            case rel => exact ⟨⟨_, rfl⟩, VA, VW, HB⟩
        case rest =>
          clear VA VW HB
          obtain ⟨⟨c, rfl⟩, VA, VW, HB⟩ := hcut
          go_upto_if 75 with fail
          generalize wc = WC at *
          go_cut [] from 76 to 90 (fun wr => ∃ q2 : Dsk, Hid (q2.cache.length ≤ k + 1 ∧ RD 5 q2 vs) ∧ Hid (DVar wr w.heap.size ga q2) ∧ Hid (BVar wr gw vs) ∧ Hid (Below w.heap.size w wr))
          case first =>
            cases c
            · go_wp2
              go_meet
              case rel => exact ⟨q, HR2, VA, VW, HB⟩
            · have hqc : q.cache.length ≤ 256 := by have := (unhide HR2).1; have := unhide HK; omega
              have HQC := hide hqc
              clear hqc
              obtain ⟨⟨sa, sc, ca, cc, hbx, hS, hC⟩, hlt⟩ := unhide VA
              obtain ⟨x0, x1, x2⟩ := box_dsk hbx
              go_wp2_with fail
              refine (diskFlush_any q _ _ _ _ _ _ _ hS hC ((unhide HR2).2.fit (by decide) (unhide HQC)).1 ((unhide HR2).2.fit (by decide) (unhide HQC)).2).mono ?_
              rintro e wr7 ⟨v, he, O, b7⟩
              rw [((unhide HR2).2.flushes (by decide) (by decide) (unhide HQC))] at he O
              obtain ⟨pa7, ka7, pc7, kc7, ev, hS7, hC7⟩ := O.read
              subst ev
              subst he
              replace VA := hide ((unhide VA).below b7)
              replace VW := hide ((unhide VW).below b7)
              replace HB := hide (bt (unhide HB) b7)
              clear b7 hbx hS hC hlt x0 x1 x2 O
              have NE := hide (Nat.ne_of_gt (unhide VA).lt.2)
              go_upto_region 19 with fail
              have VY : Hid (DVar (wr7.alloc (.cells #[.bool (flD q).lost, .slice pa7 (flD q).secs.length ka7, .slice pc7 (flD q).cache.length kc7] 25)) w.heap.size wr7.heap.size (flD q)) := hide ⟨⟨pa7, ka7, pc7, kc7, heap_alloc_new wr7 _, hS7.below (below_alloc _ _), hC7.below (below_alloc _ _)⟩, (unhide HB).size, by simp⟩
              have bb7 := below_alloc wr7 (.cells #[.bool (flD q).lost, .slice pa7 (flD q).secs.length ka7, .slice pc7 (flD q).cache.length kc7] 25)
              replace VA := hide ((unhide VA).below bb7)
              replace VW := hide ((unhide VW).below bb7)
              replace HB := hide (bt (unhide HB) bb7)
              clear bb7 hS7 hC7
              generalize (wr7.alloc (.cells #[.bool (flD q).lost, .slice pa7 (flD q).secs.length ka7, .slice pc7 (flD q).cache.length kc7] 25)) = WD7 at *
              have hfc : (flD q).cache.length = 0 := rfl
              obtain ⟨⟨sa, sc, ca, cc, hbx, hS, hC⟩, hlt⟩ := unhide VY
              obtain ⟨x0, x1, x2⟩ := box_dsk hbx
              clear hbx hS hC hlt
              go_upto_region 21 with (go_at_call 12; refine (num_any _ _).mono ?_; rintro e w' ⟨rfl, hw'⟩; rw [hw']; clear hw' w')
              clear x0 x1 x2 hfc
              obtain ⟨⟨sa, sc, ca, cc, hbx, hS, hC⟩, hlt⟩ := unhide VY
              obtain ⟨x0, x1, x2⟩ := box_dsk hbx
              obtain ⟨⟨sb, sd, cb, cd, hbt, hT, hD⟩, hlu⟩ := unhide VA
              obtain ⟨y0, y1, y2⟩ := box_dsk hbt
              have q0 := dsk_free hbt 0
              have q1 := dsk_free hbt 1
              have q2 := dsk_free hbt 2
              clear hbx hlt hbt hT hD hlu
              go_wp2_with fail
              have hVT := (unhide VA).put hS hC
              replace VW := hide ((unhide VW).putOther (unhide VA) (unhide HN) (.bool (flD q).lost) (.slice sa (flD q).secs.length sc) (.slice ca (flD q).cache.length cc))
              replace HB := hide (below_put (unhide HB) (unhide VA).lt.1 (.bool (flD q).lost) (.slice sa (flD q).secs.length sc) (.slice ca (flD q).cache.length cc))
              replace VA := hide hVT
              clear hVT x0 x1 x2 y0 y1 y2 q0 q1 q2 hS hC
              generalize ((((WD7).setCell ⟨ga, 0, none⟩ (.bool (flD q).lost)).setCell ⟨ga, 1, none⟩ (.slice sa (flD q).secs.length sc)).setCell ⟨ga, 2, none⟩ (.slice ca (flD q).cache.length cc)) = WS3 at *
              go_meet
              case rel => exact ⟨flD q, hide ⟨Nat.zero_le _, (unhide HR2).2.flush⟩, VA, VW, HB⟩
          case rest =>
            clear VA VW HB HR2
            obtain ⟨q2, HR2, VA, VW, HB⟩ := hcut
            have HQC := hide (show q2.cache.length ≤ 256 by have := (unhide HR2).1; have := unhide HK; omega)
            generalize wc = WC2 at *
            go_wp2
            go_loopw [15] (fun jv wr => ∃ j : Nat, j ≤ 5 ∧ jv = .int .i64 j ∧ Hid (DVar wr w.heap.size ga q2) ∧ Hid (BVar wr gw vs) ∧ Hid (Below w.heap.size w wr)) (fun jv _ => 5 - (intOf jv).toNat)
            case atStart => exact ⟨0, by decide, rfl, VA, VW, HB⟩
            case round =>
              clear VA VW HB
              obtain ⟨j, hj, rfl, VA, VW, HB⟩ := hrel
              by_cases hj5 : j < 5
              · have hj5' : (j : Int) < 5 := by omega
                have HJ5 := hide hj5
                obtain ⟨⟨sa, sc, ca, cc, hbx, hS, hC⟩, hlt⟩ := unhide VA
                obtain ⟨x0, x1, x2⟩ := box_dsk hbx
                go_wp2_with fail
                refine (diskRead_any q2 _ _ _ _ _ _ (j : Int) _ hS hC (by have := ((unhide HR2).2.fit (by decide) (unhide HQC)).1; omega) (by have := ((unhide HR2).2.fit (by decide) (unhide HQC)).2; omega)).mono ?_
                rintro e wr8 ⟨he, b8⟩
                rw [((unhide HR2).2.reads (by decide) (by decide) (unhide HQC) (unhide HJ5))] at he
                subst he
                replace VA := hide ((unhide VA).below b8)
                replace VW := hide ((unhide VW).below b8)
                replace HB := hide (bt (unhide HB) b8)
                clear b8 hbx hS hC hlt x0 x1 x2
                have c1 := (unhide VW).cell j (by rw [(unhide HR2).2.2.2.2.2.1]; exact hj5)
                obtain ⟨z, ez, hz⟩ : ∃ z : Nat, z = vs.getD j 0 ∧ z < 256 := ⟨_, rfl, (unhide HR2).2.byte j⟩
                simp only [← ez] at c1 ⊢
                clear ez
                go_wp2_with (go_at_call 12; refine (num_any _ _).mono ?_; rintro e w' ⟨rfl, hw'⟩; rw [hw']; clear hw' w')
                refine (full_any z hz _).mono ?_
                rintro e wf ⟨rfl, bf⟩
                replace VA := hide ((unhide VA).below bf)
                replace VW := hide ((unhide VW).below bf)
                replace HB := hide (bt (unhide HB) bf)
                clear bf c1 hz
                go_wp2
                go_roundw
                case rel => exact ⟨j + 1, by omega, by go_num, VA, VW, HB⟩
                case measure => simp [intOf]; omega
              · obtain rfl : j = 5 := by omega
                clear hj5 hj
                go_wp2
                go_roundw
                case rel => exact ⟨k + 1, q2, vs, by have := unhide HKN; omega, by have := unhide HK; omega, by go_num, HR2, VA, VW, HB⟩
                case measure => simp [intOf]; omega
    · by_cases hkn : k < n
      · have hk6 : k = 40 := by omega
        subst hk6
        go_wp2
        go_ret
        exact ⟨rfl, unhide HB⟩
      · go_wp2
        go_ret
        exact ⟨rfl, unhide HB⟩
end Go.Proofs.Ytpmbmhjhclekeaa
