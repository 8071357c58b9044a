/- The Go text of the statement DiskFlushes returns true, whatever the numbers. -/
import Derived.Test.YtpmbmhjhclekeabDskLoop
import Derived.Test.YtpmbmhjhclekeabFlushMath
import Derived.Deep.CutBlock
import Derived.Deep.CutRange
namespace Go.Proofs.Ytpmbmhjhclekeab
open Go.RowKit
set_option linter.unusedVariables false
set_option linter.unusedSimpArgs false
attribute [local go_sem ↓] Go.wp_at_zero Go.wp_at_succ
theorem modD4 (a : Int) : ∃ i : Nat, i < 4 ∧ wrap64 ((IntKind.u64.wrap a).tmod 4) = (i : Int) := by
  have h0 : IntKind.u64.wrap a = a % 18446744073709551616 := IntKind.wrap_u64 a
  have : 0 ≤ a % 18446744073709551616 := Int.emod_nonneg _ (by decide)
  rw [h0, Int.tmod_eq_emod_of_nonneg (by omega)]
  exact ⟨(a % 18446744073709551616 % 4).toNat, by omega, by unfold wrap64; omega⟩
theorem ats4 (xs : List Int) : ∃ at_ : Nat → Nat, (∀ i, at_ i < 4) ∧ ∀ i, wrap64 ((IntKind.u64.wrap (xs.getD i 0)).tmod 4) = (at_ i : Int) :=
  ⟨fun i => (modD4 (xs.getD i 0)).choose, fun i => (modD4 (xs.getD i 0)).choose_spec.1, fun i => (modD4 (xs.getD i 0)).choose_spec.2⟩
theorem u8_one (k : Nat) (h : k < 16) : IntKind.u8.wrap (IntKind.i64.wrap (1 + (k : Int))) = ((1 + k : Nat) : Int) := by
  have e : IntKind.i64.wrap (1 + (k : Int)) = 1 + (k : Int) := by simp [IntKind.wrap, IntKind.bits, IntKind.signed]; omega
  rw [e, IntKind.wrap_u8]; omega
set_option maxRecDepth 100000 in
set_option maxHeartbeats 8000000 in
theorem DiskFlushes_walk {w : World} (a : Option Addr) (n cap : Nat) (xs : List Int) (hx : Ints w a n cap xs) (hn : n * 8 ≤ 140737488351232) (hq : ∀ x ∈ xs, (Lit.int .i64 x).wf = true) : Calls Try.prog 3 #[.slice a n cap] w fun e w' => e = .returned (.bool true) ∧ Below w.heap.size w w' := by
  clear hq
  obtain ⟨at_, hat, hea⟩ := ats4 xs
  have HX := hide hx
  have HA := hide hat
  have HE := hide hea
  clear hx hat hea
  go_enter Try.func3, Try.ntmps3
  go_wp2_with fail
  refine (awake13_any _).mono ?_
  rintro e w0 ⟨rfl, b0⟩
  have HB := hide b0
  clear b0
  go_wp2_with fail
  refine (diskNew_any 4 _).mono ?_
  rintro e wr1 ⟨v, he, O, b1⟩
  rw [(f_newA at_)] at he O
  obtain ⟨pa1, ka1, pc1, kc1, ev, hS1, hC1⟩ := O.read
  subst ev
  subst he
  replace HB := hide (bt (unhide HB) b1)
  clear b1  O
  go_upto_region 4 with fail
  have VA : Hid (DVar (wr1.alloc (.cells #[.bool (fA at_ 0).lost, .slice pa1 (fA at_ 0).secs.length ka1, .slice pc1 (fA at_ 0).cache.length kc1] 27)) w.heap.size wr1.heap.size (fA at_ 0)) := hide ⟨⟨pa1, ka1, pc1, kc1, heap_alloc_new wr1 _, hS1.below (below_alloc _ _), hC1.below (below_alloc _ _)⟩, (unhide HB).size, by simp⟩
  have bb1 := below_alloc wr1 (.cells #[.bool (fA at_ 0).lost, .slice pa1 (fA at_ 0).secs.length ka1, .slice pc1 (fA at_ 0).cache.length kc1] 27)
  replace HB := hide (bt (unhide HB) bb1)
  clear bb1 hS1 hC1
  generalize (wr1.alloc (.cells #[.bool (fA at_ 0).lost, .slice pa1 (fA at_ 0).secs.length ka1, .slice pc1 (fA at_ 0).cache.length kc1] 27)) = WD1 at *
  go_wp2_with fail
  refine (diskNew_any 4 _).mono ?_
  rintro e wr2 ⟨v, he, O, b2⟩
  rw [(f_newB at_)] at he O
  obtain ⟨pa2, ka2, pc2, kc2, ev, hS2, hC2⟩ := O.read
  subst ev
  subst he
  replace VA := hide ((unhide VA).below b2)
  replace HB := hide (bt (unhide HB) b2)
  clear b2  O
  have HN := hide (Nat.ne_of_lt (unhide VA).lt.2)
  go_upto_region 5 with fail
  have VB : Hid (DVar (wr2.alloc (.cells #[.bool (fB at_ 0).lost, .slice pa2 (fB at_ 0).secs.length ka2, .slice pc2 (fB at_ 0).cache.length kc2] 27)) w.heap.size wr2.heap.size (fB at_ 0)) := hide ⟨⟨pa2, ka2, pc2, kc2, heap_alloc_new wr2 _, hS2.below (below_alloc _ _), hC2.below (below_alloc _ _)⟩, (unhide HB).size, by simp⟩
  have bb2 := below_alloc wr2 (.cells #[.bool (fB at_ 0).lost, .slice pa2 (fB at_ 0).secs.length ka2, .slice pc2 (fB at_ 0).cache.length kc2] 27)
  replace VA := hide ((unhide VA).below bb2)
  replace HB := hide (bt (unhide HB) bb2)
  clear bb2 hS2 hC2
  generalize (wr2.alloc (.cells #[.bool (fB at_ 0).lost, .slice pa2 (fB at_ 0).secs.length ka2, .slice pc2 (fB at_ 0).cache.length kc2] 27)) = WD2 at *
  generalize wr1.heap.size = ga at *
  generalize wr2.heap.size = gb at *
  go_upto_block 0 with (go_at_call 6; refine (num_any _ _).mono ?_; rintro e w' ⟨rfl, hw'⟩; rw [hw']; clear hw' w')
  go_cut [7] from 8 to 95 (fun iv W => ∃ k : Nat, k ≤ 16 ∧ Hid (DVar W w.heap.size ga (fA at_ k)) ∧ Hid (DVar W w.heap.size gb (fB at_ k)) ∧ Hid (Below w.heap.size w W))
  case first =>
    go_wp2
    go_loopw [7] (fun iv W => ∃ k : Nat, k ≤ n ∧ k ≤ 16 ∧ iv = .int .i64 k ∧ Hid (DVar W w.heap.size ga (fA at_ k)) ∧ Hid (DVar W w.heap.size gb (fB at_ k)) ∧ Hid (Below w.heap.size w W)) (fun iv _ => n - (intOf iv).toNat)
    case atStart => exact ⟨0, Nat.zero_le _, by decide, rfl, VA, VB, HB⟩
    case round =>
      clear VA VB HB
      obtain ⟨k, hk, hk16, rfl, VA, VB, HB⟩ := hrel
      by_cases hend : k < n ∧ k < 16
      · obtain ⟨hkn, h16⟩ := hend
        have hkn' : (k : Int) < n := by omega
        have h16' : (k : Int) < 16 := by omega
        rcases (unhide HX).2.two with h0 | ⟨b, off, rfl, hc⟩
        · exfalso; omega
        have hcell := ((unhide HB).cell (cell_lt (hc k hkn))).trans (hc k hkn)
        obtain ⟨x, ex⟩ : ∃ x, x = xs.getD k 0 := ⟨_, rfl⟩
        have e4 := (unhide HE) k
        simp only [← ex] at hcell e4
        clear ex hc
        go_upto_region 11 with fail
        simp only [e4]
        clear e4 hcell
        have hu := u8_one k h16
        have HK := hide h16
        have hby : 1 + k < 256 := by omega
        have hsW1 := (unhide HB).size
        obtain ⟨⟨sa, sc, ca, cc, hbx, hS, hC⟩, hlt⟩ := unhide VA
        obtain ⟨x0, x1, x2⟩ := box_dsk hbx
        have k0 := kept_cell (B := wr.heap.size) x0 (cell_lt x0)
        have k1 := kept_cell (B := wr.heap.size) x1 (cell_lt x1)
        have k2 := kept_cell (B := wr.heap.size) x2 (cell_lt x2)
        have HS := hide hS
        have HC := hide hC
        obtain ⟨bl, ebl⟩ : ∃ bl, bl = (fA at_ k).lost := ⟨_, rfl⟩
        rw [← ebl] at k0
        obtain ⟨ls, els⟩ : ∃ ls, ls = (fA at_ k).secs.length := ⟨_, rfl⟩
        obtain ⟨lc, elc⟩ : ∃ lc, lc = (fA at_ k).cache.length := ⟨_, rfl⟩
        rw [← els] at k1 HS
        rw [← elc] at k2 HC
        have EBL := hide ebl
        have ELS := hide els
        have ELC := hide elc
        clear hbx hS hC hlt x0 x1 x2 ebl els elc
        go_upto_region 11 with fail
        refine' (fun (HL1 : Later _) => ?main) (Later.mk ?prf)
        case main =>
          refine wp_region_float (S := Below wr.heap.size wr) 10 [(true, 0), (true, 1), (true, 2), (true, 3), (true, 4), (false, 5), (false, 6), (true, 7), (true, 8), (true, 9)] [(false, 11), (true, 12)] (by kernel_rfl) (by kernel_rfl) (by kernel_rfl) (by kernel_rfl) ((Below.refl _ _).drew) ?_
          simp only [withOps, List.map_cons, List.map_nil, List.getElem?_cons_succ, List.getElem?_cons_zero]
          repeat (refine walkF_read (by rfl) (by (intro gx; go_simp; try (with_reducible rfl))) ?_; try simp only [Act.put, List.setIfInBounds_toArray, List.set_cons_zero, List.set_cons_succ])
          refine walkF_do rfl rfl (fun K hK => ?_) (fun K hK => ?_)
          · go_simp
            refine (full_any (1 + k) hby _).mono ?_
            rintro e wa ⟨rfl, ba⟩
            have hba : Below wr.heap.size wr wa := ((Below.refl _ _).drew).trans ba
            refine hK _ _ hba ?_
            clear hK K ba
            try simp only [Act.put, List.setIfInBounds_toArray, List.set_cons_zero, List.set_cons_succ]
            repeat (refine walkF_read (by rfl) (by (intro gx; go_simp; try (with_reducible rfl))) ?_; try simp only [Act.put, List.setIfInBounds_toArray, List.set_cons_zero, List.set_cons_succ])
            refine walkF_do rfl rfl (fun K hK => ?_) (fun K hK => ?_)
            · go_simp
              rw [unhide EBL]
              refine (diskWrite_any (fA at_ k) _ _ _ _ _ _ (at_ k : Int) (fullB (1 + k)) _ ((unhide HS).below hba) ((unhide HC).below hba) (by rw [unhide ELS]; exact (fA_fit at_ k (Nat.le_of_lt (unhide HK))).1) (by rw [unhide ELC]; exact (fA_fit at_ k (Nat.le_of_lt (unhide HK))).2)).mono ?_
              rintro e wb ⟨v, he, O, bb⟩
              rw [(f_wA at_ (unhide HA) k (unhide HK))] at he O
              obtain ⟨pa, ka, pc, kc, ev, hS', hC'⟩ := O.read
              subst ev
              subst he
              have hbb : Below wr.heap.size wr wb := bt hba bb
              refine hK _ _ hbb ?_
              clear hK K bb O
              try simp only [Act.put, List.setIfInBounds_toArray, List.set_cons_zero, List.set_cons_succ]
              repeat (refine walkF_read (by rfl) (by (intro gx; go_simp; try (with_reducible rfl))) ?_; try simp only [Act.put, List.setIfInBounds_toArray, List.set_cons_zero, List.set_cons_succ])
              refine walkF_end rfl (fun K hK => ?_)
              go_simp
              refine hK _ _ (bt hbb (below_alloc _ _)) ?_
              clear hK K
              try simp only [Act.put, List.setIfInBounds_toArray, List.set_cons_zero, List.set_cons_succ]
              refine walkH_do rfl (fun K hK => ?_)
              go_simp
              refine hK _ _ (bt hbb (below_alloc _ _)) ?_
              clear hK K
              try simp only [Act.put, List.setIfInBounds_toArray, List.set_cons_zero, List.set_cons_succ]
              repeat (refine walkH_read (by rfl) (by (intro gx; go_simp; try (with_reducible rfl))) ?_; try simp only [Act.put, List.setIfInBounds_toArray, List.set_cons_zero, List.set_cons_succ])
              refine walkH_nil ?_
              refine NoPanic.normal ?_
              have V9 : Hid (DVar (wb.alloc (.cells #[.bool (fA at_ (k + 1)).lost, .slice pa (fA at_ (k + 1)).secs.length ka, .slice pc (fA at_ (k + 1)).cache.length kc] 27)) w.heap.size wb.heap.size (fA at_ (k + 1))) := hide ⟨⟨pa, ka, pc, kc, heap_alloc_new wb _, hS'.below (below_alloc _ _), hC'.below (below_alloc _ _)⟩, Nat.le_trans hsW1 hbb.size, by simp⟩
              have HH1 : Hid (Below wr.heap.size wr (wb.alloc (.cells #[.bool (fA at_ (k + 1)).lost, .slice pa (fA at_ (k + 1)).secs.length ka, .slice pc (fA at_ (k + 1)).cache.length kc] 27))) := hide (bt hbb (below_alloc _ _))
              clear hbb hba hS' hC'
              generalize (wb.alloc (.cells #[.bool (fA at_ (k + 1)).lost, .slice pa (fA at_ (k + 1)).secs.length ka, .slice pc (fA at_ (k + 1)).cache.length kc] 27)) = WW1 at *
              generalize wb.heap.size = g2 at *
              revert HH1; revert V9; revert WW1; revert g2; revert kc; revert pc; revert ka; revert pa
              exact HL1.get
            · go_simp
              have rz : (wa.alloc (.cells #[.bool false, .slice none 0 0, .slice none 0 0] 27)).heap[wa.heap.size]? = some (.cells #[.bool false, .slice none 0 0, .slice none 0 0] 27 (0, 0)) := heap_alloc_new wa _
              have hbf : Below wr.heap.size wr (wa.alloc (.cells #[.bool false, .slice none 0 0, .slice none 0 0] 27)) := bt hba (below_alloc _ _)
              have hgW : wr.heap.size ≤ wa.heap.size := hba.size
              have hgz : wa.heap.size < (wa.alloc (.cells #[.bool false, .slice none 0 0, .slice none 0 0] 27)).heap.size := by simp
              refine hK _ _ hbf ?_
              clear hK K hba
              try simp only [Act.put, List.setIfInBounds_toArray, List.set_cons_zero, List.set_cons_succ]
              generalize (wa.alloc (.cells #[.bool false, .slice none 0 0, .slice none 0 0] 27)) = wz at *
              generalize wa.heap.size = gz at *
              refine walkH_do rfl (fun K hK => ?_)
              go_simp
              rw [unhide EBL]
              refine (diskWrite_any (fA at_ k) _ _ _ _ _ _ (at_ k : Int) (fullB (1 + k)) _ ((unhide HS).below hbf) ((unhide HC).below hbf) (by rw [unhide ELS]; exact (fA_fit at_ k (Nat.le_of_lt (unhide HK))).1) (by rw [unhide ELC]; exact (fA_fit at_ k (Nat.le_of_lt (unhide HK))).2)).mono ?_
              rintro e wb ⟨v, he, O, bb⟩
              rw [(f_wA at_ (unhide HA) k (unhide HK))] at he O
              obtain ⟨pa, ka, pc, kc, ev, -, -⟩ := O.read
              subst ev
              subst he
              have hbb : Below wr.heap.size wr wb := bt hbf bb
              refine hK _ _ hbb ?_
              clear hK K
              try simp only [Act.put, List.setIfInBounds_toArray, List.set_cons_zero, List.set_cons_succ]
              have r9 : wb.heap[gz]? = some (.cells #[.bool false, .slice none 0 0, .slice none 0 0] 27 (0, 0)) := (bb.block gz hgz).trans rz
              obtain ⟨d0, d1, d2⟩ := box_dsk r9
              have f0 := dsk_free r9 0
              have f1 := dsk_free r9 1
              have f2 := dsk_free r9 2
              have hO9 := O.put hgz (.bool (fA at_ (k + 1)).lost) (.slice pa (fA at_ (k + 1)).secs.length ka) (.slice pc (fA at_ (k + 1)).cache.length kc)
              have hB9 := below_put hbb hgW (.bool (fA at_ (k + 1)).lost) (.slice pa (fA at_ (k + 1)).secs.length ka) (.slice pc (fA at_ (k + 1)).cache.length kc)
              have hR9 := dsk_put (x' := .bool (fA at_ (k + 1)).lost) (y' := .slice pa (fA at_ (k + 1)).secs.length ka) (z' := .slice pc (fA at_ (k + 1)).cache.length kc) r9
              have hgb : gz < wb.heap.size := Nat.lt_of_lt_of_le hgz bb.size
              clear bb O
              repeat (refine walkH_read (by rfl) (by (intro gx; go_simp; try (with_reducible rfl))) ?_; try simp only [Act.put, List.setIfInBounds_toArray, List.set_cons_zero, List.set_cons_succ])
              refine walkH_do rfl (fun K hK => ?_)
              go_simp
              refine hK _ _ hB9 ?_
              clear hK K
              try simp only [Act.put, List.setIfInBounds_toArray, List.set_cons_zero, List.set_cons_succ]
              repeat (refine walkH_read (by rfl) (by (intro gx; go_simp; try (with_reducible rfl))) ?_; try simp only [Act.put, List.setIfInBounds_toArray, List.set_cons_zero, List.set_cons_succ])
              refine walkH_nil ?_
              refine NoPanic.normal ?_
              have V9 : Hid (DVar (((wb.setCell ⟨gz, 0, none⟩ (.bool (fA at_ (k + 1)).lost)).setCell ⟨gz, 1, none⟩ (.slice pa (fA at_ (k + 1)).secs.length ka)).setCell ⟨gz, 2, none⟩ (.slice pc (fA at_ (k + 1)).cache.length kc)) w.heap.size gz (fA at_ (k + 1))) := hide ⟨⟨pa, ka, pc, kc, hR9, hO9.readAs.1, hO9.readAs.2⟩, Nat.le_trans hsW1 hgW, by simpa using hgb⟩
              have HH1 := hide hB9
              clear hbb hB9 hO9 hR9 hgb d0 d1 d2 f0 f1 f2 r9 rz hgz hgW hbf
              generalize (((wb.setCell ⟨gz, 0, none⟩ (.bool (fA at_ (k + 1)).lost)).setCell ⟨gz, 1, none⟩ (.slice pa (fA at_ (k + 1)).secs.length ka)).setCell ⟨gz, 2, none⟩ (.slice pc (fA at_ (k + 1)).cache.length kc)) = WW1 at *
              revert HH1; revert V9; revert WW1; revert gz; revert kc; revert pc; revert ka; revert pa
              exact HL1.get
          · go_simp
            have rz0 : (wr.alloc (.cells #[.bool false, .slice none 0 0, .slice none 0 0] 27)).drew.heap[wr.heap.size]? = some (.cells #[.bool false, .slice none 0 0, .slice none 0 0] 27 (0, 0)) := heap_alloc_new wr _
            have hbz : Below wr.heap.size wr (wr.alloc (.cells #[.bool false, .slice none 0 0, .slice none 0 0] 27)).drew := by go_grown
            have hgz0 : wr.heap.size < (wr.alloc (.cells #[.bool false, .slice none 0 0, .slice none 0 0] 27)).drew.heap.size := by simp
            refine hK _ _ hbz ?_
            clear hK K
            try simp only [Act.put, List.setIfInBounds_toArray, List.set_cons_zero, List.set_cons_succ]
            generalize (wr.alloc (.cells #[.bool false, .slice none 0 0, .slice none 0 0] 27)).drew = wz0 at *
            refine walkH_do rfl (fun K hK => ?_)
            go_simp
            refine (full_any (1 + k) hby _).mono ?_
            rintro e wz ⟨rfl, bz⟩
            have hbf : Below wr.heap.size wr wz := bt hbz bz
            have rz : wz.heap[wr.heap.size]? = some (.cells #[.bool false, .slice none 0 0, .slice none 0 0] 27 (0, 0)) := (bz.block _ hgz0).trans rz0
            have hgz : wr.heap.size < wz.heap.size := Nat.lt_of_lt_of_le hgz0 bz.size
            refine hK _ _ hbf ?_
            clear hK K bz hbz rz0 hgz0
            try simp only [Act.put, List.setIfInBounds_toArray, List.set_cons_zero, List.set_cons_succ]
            have hgW : wr.heap.size ≤ wr.heap.size := Nat.le_refl _
            repeat (refine walkH_read (by rfl) (by (intro gx; go_simp; try (with_reducible rfl))) ?_; try simp only [Act.put, List.setIfInBounds_toArray, List.set_cons_zero, List.set_cons_succ])
            refine walkH_do rfl (fun K hK => ?_)
            go_simp
            rw [unhide EBL]
            refine (diskWrite_any (fA at_ k) _ _ _ _ _ _ (at_ k : Int) (fullB (1 + k)) _ ((unhide HS).below hbf) ((unhide HC).below hbf) (by rw [unhide ELS]; exact (fA_fit at_ k (Nat.le_of_lt (unhide HK))).1) (by rw [unhide ELC]; exact (fA_fit at_ k (Nat.le_of_lt (unhide HK))).2)).mono ?_
            rintro e wb ⟨v, he, O, bb⟩
            rw [(f_wA at_ (unhide HA) k (unhide HK))] at he O
            obtain ⟨pa, ka, pc, kc, ev, -, -⟩ := O.read
            subst ev
            subst he
            have hbb : Below wr.heap.size wr wb := bt hbf bb
            refine hK _ _ hbb ?_
            clear hK K
            try simp only [Act.put, List.setIfInBounds_toArray, List.set_cons_zero, List.set_cons_succ]
            have r9 : wb.heap[wr.heap.size]? = some (.cells #[.bool false, .slice none 0 0, .slice none 0 0] 27 (0, 0)) := (bb.block wr.heap.size hgz).trans rz
            obtain ⟨d0, d1, d2⟩ := box_dsk r9
            have f0 := dsk_free r9 0
            have f1 := dsk_free r9 1
            have f2 := dsk_free r9 2
            have hO9 := O.put hgz (.bool (fA at_ (k + 1)).lost) (.slice pa (fA at_ (k + 1)).secs.length ka) (.slice pc (fA at_ (k + 1)).cache.length kc)
            have hB9 := below_put hbb hgW (.bool (fA at_ (k + 1)).lost) (.slice pa (fA at_ (k + 1)).secs.length ka) (.slice pc (fA at_ (k + 1)).cache.length kc)
            have hR9 := dsk_put (x' := .bool (fA at_ (k + 1)).lost) (y' := .slice pa (fA at_ (k + 1)).secs.length ka) (z' := .slice pc (fA at_ (k + 1)).cache.length kc) r9
            have hgb : wr.heap.size < wb.heap.size := Nat.lt_of_lt_of_le hgz bb.size
            clear bb O
            repeat (refine walkH_read (by rfl) (by (intro gx; go_simp; try (with_reducible rfl))) ?_; try simp only [Act.put, List.setIfInBounds_toArray, List.set_cons_zero, List.set_cons_succ])
            refine walkH_do rfl (fun K hK => ?_)
            go_simp
            refine hK _ _ hB9 ?_
            clear hK K
            try simp only [Act.put, List.setIfInBounds_toArray, List.set_cons_zero, List.set_cons_succ]
            repeat (refine walkH_read (by rfl) (by (intro gx; go_simp; try (with_reducible rfl))) ?_; try simp only [Act.put, List.setIfInBounds_toArray, List.set_cons_zero, List.set_cons_succ])
            refine walkH_nil ?_
            refine NoPanic.normal ?_
            have V9 : Hid (DVar (((wb.setCell ⟨wr.heap.size, 0, none⟩ (.bool (fA at_ (k + 1)).lost)).setCell ⟨wr.heap.size, 1, none⟩ (.slice pa (fA at_ (k + 1)).secs.length ka)).setCell ⟨wr.heap.size, 2, none⟩ (.slice pc (fA at_ (k + 1)).cache.length kc)) w.heap.size wr.heap.size (fA at_ (k + 1))) := hide ⟨⟨pa, ka, pc, kc, hR9, hO9.readAs.1, hO9.readAs.2⟩, Nat.le_trans hsW1 hgW, by simpa using hgb⟩
            have HH1 := hide hB9
            clear hbb hB9 hO9 hR9 hgb d0 d1 d2 f0 f1 f2 r9 rz hgz hgW hbf
            generalize (((wb.setCell ⟨wr.heap.size, 0, none⟩ (.bool (fA at_ (k + 1)).lost)).setCell ⟨wr.heap.size, 1, none⟩ (.slice pa (fA at_ (k + 1)).secs.length ka)).setCell ⟨wr.heap.size, 2, none⟩ (.slice pc (fA at_ (k + 1)).cache.length kc)) = WW1 at *
            obtain ⟨gz, egz⟩ : ∃ gz, gz = wr.heap.size := ⟨_, rfl⟩
            rw [← egz] at V9 ⊢
            clear egz
            revert HH1; revert V9; revert WW1; revert gz; revert kc; revert pc; revert ka; revert pa
            exact HL1.get
        case prf =>
          intro pa ka pc kc gw1 WW1 V9 HH1
          clear k0 k1 k2
          replace VA := hide ((unhide VA).below (unhide HH1))
          replace VB := hide ((unhide VB).below (unhide HH1))
          replace HB := hide (bt (unhide HB) (unhide HH1))
          clear HS HC EBL ELS ELC HH1 hsW1
          have hsW2 := (unhide HB).size
          obtain ⟨⟨sa, sc, ca, cc, hbx, hS, hC⟩, hlt⟩ := unhide VB
          obtain ⟨x0, x1, x2⟩ := box_dsk hbx
          have k0 := kept_cell (B := WW1.heap.size) x0 (cell_lt x0)
          have k1 := kept_cell (B := WW1.heap.size) x1 (cell_lt x1)
          have k2 := kept_cell (B := WW1.heap.size) x2 (cell_lt x2)
          have HS := hide hS
          have HC := hide hC
          obtain ⟨bl, ebl⟩ : ∃ bl, bl = (fB at_ k).lost := ⟨_, rfl⟩
          rw [← ebl] at k0
          obtain ⟨ls, els⟩ : ∃ ls, ls = (fB at_ k).secs.length := ⟨_, rfl⟩
          obtain ⟨lc, elc⟩ : ∃ lc, lc = (fB at_ k).cache.length := ⟨_, rfl⟩
          rw [← els] at k1 HS
          rw [← elc] at k2 HC
          have EBL := hide ebl
          have ELS := hide els
          have ELC := hide elc
          clear hbx hS hC hlt x0 x1 x2 ebl els elc
          go_upto_region 12 with fail
          refine' (fun (HL2 : Later _) => ?main) (Later.mk ?prf)
          case main =>
            refine wp_region_float (S := Below WW1.heap.size WW1) 10 [(true, 0), (true, 1), (true, 2), (true, 3), (true, 4), (false, 5), (false, 6), (true, 7), (true, 8), (true, 9)] [(false, 11), (true, 12)] (by kernel_rfl) (by kernel_rfl) (by kernel_rfl) (by kernel_rfl) ((Below.refl _ _).drew) ?_
            simp only [withOps, List.map_cons, List.map_nil, List.getElem?_cons_succ, List.getElem?_cons_zero]
            repeat (refine walkF_read (by rfl) (by (intro gx; go_simp; try (with_reducible rfl))) ?_; try simp only [Act.put, List.setIfInBounds_toArray, List.set_cons_zero, List.set_cons_succ])
            refine walkF_do rfl rfl (fun K hK => ?_) (fun K hK => ?_)
            · go_simp
              refine (full_any (1 + k) hby _).mono ?_
              rintro e wa ⟨rfl, ba⟩
              have hba : Below WW1.heap.size WW1 wa := ((Below.refl _ _).drew).trans ba
              refine hK _ _ hba ?_
              clear hK K ba
              try simp only [Act.put, List.setIfInBounds_toArray, List.set_cons_zero, List.set_cons_succ]
              repeat (refine walkF_read (by rfl) (by (intro gx; go_simp; try (with_reducible rfl))) ?_; try simp only [Act.put, List.setIfInBounds_toArray, List.set_cons_zero, List.set_cons_succ])
              refine walkF_do rfl rfl (fun K hK => ?_) (fun K hK => ?_)
              · go_simp
                rw [unhide EBL]
                refine (diskWrite_any (fB at_ k) _ _ _ _ _ _ (at_ k : Int) (fullB (1 + k)) _ ((unhide HS).below hba) ((unhide HC).below hba) (by rw [unhide ELS]; exact (fB_fit at_ k).1) (by rw [unhide ELC]; exact (fB_fit at_ k).2)).mono ?_
                rintro e wb ⟨v, he, O, bb⟩
                rw [(f_wB at_ (unhide HA) k)] at he O
                obtain ⟨pa, ka, pc, kc, ev, hS', hC'⟩ := O.read
                subst ev
                subst he
                have hbb : Below WW1.heap.size WW1 wb := bt hba bb
                refine hK _ _ hbb ?_
                clear hK K bb O
                try simp only [Act.put, List.setIfInBounds_toArray, List.set_cons_zero, List.set_cons_succ]
                repeat (refine walkF_read (by rfl) (by (intro gx; go_simp; try (with_reducible rfl))) ?_; try simp only [Act.put, List.setIfInBounds_toArray, List.set_cons_zero, List.set_cons_succ])
                refine walkF_end rfl (fun K hK => ?_)
                go_simp
                refine hK _ _ (bt hbb (below_alloc _ _)) ?_
                clear hK K
                try simp only [Act.put, List.setIfInBounds_toArray, List.set_cons_zero, List.set_cons_succ]
                refine walkH_do rfl (fun K hK => ?_)
                go_simp
                refine hK _ _ (bt hbb (below_alloc _ _)) ?_
                clear hK K
                try simp only [Act.put, List.setIfInBounds_toArray, List.set_cons_zero, List.set_cons_succ]
                repeat (refine walkH_read (by rfl) (by (intro gx; go_simp; try (with_reducible rfl))) ?_; try simp only [Act.put, List.setIfInBounds_toArray, List.set_cons_zero, List.set_cons_succ])
                refine walkH_nil ?_
                refine NoPanic.normal ?_
                have V11 : Hid (DVar (wb.alloc (.cells #[.bool (fC at_ k).lost, .slice pa (fC at_ k).secs.length ka, .slice pc (fC at_ k).cache.length kc] 27)) w.heap.size wb.heap.size (fC at_ k)) := hide ⟨⟨pa, ka, pc, kc, heap_alloc_new wb _, hS'.below (below_alloc _ _), hC'.below (below_alloc _ _)⟩, Nat.le_trans hsW2 hbb.size, by simp⟩
                have HH2 : Hid (Below WW1.heap.size WW1 (wb.alloc (.cells #[.bool (fC at_ k).lost, .slice pa (fC at_ k).secs.length ka, .slice pc (fC at_ k).cache.length kc] 27))) := hide (bt hbb (below_alloc _ _))
                clear hbb hba hS' hC'
                generalize (wb.alloc (.cells #[.bool (fC at_ k).lost, .slice pa (fC at_ k).secs.length ka, .slice pc (fC at_ k).cache.length kc] 27)) = WW2 at *
                generalize wb.heap.size = g2 at *
                revert HH2; revert V11; revert WW2; revert g2; revert kc; revert pc; revert ka; revert pa
                exact HL2.get
              · go_simp
                have rz : (wa.alloc (.cells #[.bool false, .slice none 0 0, .slice none 0 0] 27)).heap[wa.heap.size]? = some (.cells #[.bool false, .slice none 0 0, .slice none 0 0] 27 (0, 0)) := heap_alloc_new wa _
                have hbf : Below WW1.heap.size WW1 (wa.alloc (.cells #[.bool false, .slice none 0 0, .slice none 0 0] 27)) := bt hba (below_alloc _ _)
                have hgW : WW1.heap.size ≤ wa.heap.size := hba.size
                have hgz : wa.heap.size < (wa.alloc (.cells #[.bool false, .slice none 0 0, .slice none 0 0] 27)).heap.size := by simp
                refine hK _ _ hbf ?_
                clear hK K hba
                try simp only [Act.put, List.setIfInBounds_toArray, List.set_cons_zero, List.set_cons_succ]
                generalize (wa.alloc (.cells #[.bool false, .slice none 0 0, .slice none 0 0] 27)) = wz at *
                generalize wa.heap.size = gz at *
                refine walkH_do rfl (fun K hK => ?_)
                go_simp
                rw [unhide EBL]
                refine (diskWrite_any (fB at_ k) _ _ _ _ _ _ (at_ k : Int) (fullB (1 + k)) _ ((unhide HS).below hbf) ((unhide HC).below hbf) (by rw [unhide ELS]; exact (fB_fit at_ k).1) (by rw [unhide ELC]; exact (fB_fit at_ k).2)).mono ?_
                rintro e wb ⟨v, he, O, bb⟩
                rw [(f_wB at_ (unhide HA) k)] at he O
                obtain ⟨pa, ka, pc, kc, ev, -, -⟩ := O.read
                subst ev
                subst he
                have hbb : Below WW1.heap.size WW1 wb := bt hbf bb
                refine hK _ _ hbb ?_
                clear hK K
                try simp only [Act.put, List.setIfInBounds_toArray, List.set_cons_zero, List.set_cons_succ]
                have r9 : wb.heap[gz]? = some (.cells #[.bool false, .slice none 0 0, .slice none 0 0] 27 (0, 0)) := (bb.block gz hgz).trans rz
                obtain ⟨d0, d1, d2⟩ := box_dsk r9
                have f0 := dsk_free r9 0
                have f1 := dsk_free r9 1
                have f2 := dsk_free r9 2
                have hO9 := O.put hgz (.bool (fC at_ k).lost) (.slice pa (fC at_ k).secs.length ka) (.slice pc (fC at_ k).cache.length kc)
                have hB9 := below_put hbb hgW (.bool (fC at_ k).lost) (.slice pa (fC at_ k).secs.length ka) (.slice pc (fC at_ k).cache.length kc)
                have hR9 := dsk_put (x' := .bool (fC at_ k).lost) (y' := .slice pa (fC at_ k).secs.length ka) (z' := .slice pc (fC at_ k).cache.length kc) r9
                have hgb : gz < wb.heap.size := Nat.lt_of_lt_of_le hgz bb.size
                clear bb O
                repeat (refine walkH_read (by rfl) (by (intro gx; go_simp; try (with_reducible rfl))) ?_; try simp only [Act.put, List.setIfInBounds_toArray, List.set_cons_zero, List.set_cons_succ])
                refine walkH_do rfl (fun K hK => ?_)
                go_simp
                refine hK _ _ hB9 ?_
                clear hK K
                try simp only [Act.put, List.setIfInBounds_toArray, List.set_cons_zero, List.set_cons_succ]
                repeat (refine walkH_read (by rfl) (by (intro gx; go_simp; try (with_reducible rfl))) ?_; try simp only [Act.put, List.setIfInBounds_toArray, List.set_cons_zero, List.set_cons_succ])
                refine walkH_nil ?_
                refine NoPanic.normal ?_
                have V11 : Hid (DVar (((wb.setCell ⟨gz, 0, none⟩ (.bool (fC at_ k).lost)).setCell ⟨gz, 1, none⟩ (.slice pa (fC at_ k).secs.length ka)).setCell ⟨gz, 2, none⟩ (.slice pc (fC at_ k).cache.length kc)) w.heap.size gz (fC at_ k)) := hide ⟨⟨pa, ka, pc, kc, hR9, hO9.readAs.1, hO9.readAs.2⟩, Nat.le_trans hsW2 hgW, by simpa using hgb⟩
                have HH2 := hide hB9
                clear hbb hB9 hO9 hR9 hgb d0 d1 d2 f0 f1 f2 r9 rz hgz hgW hbf
                generalize (((wb.setCell ⟨gz, 0, none⟩ (.bool (fC at_ k).lost)).setCell ⟨gz, 1, none⟩ (.slice pa (fC at_ k).secs.length ka)).setCell ⟨gz, 2, none⟩ (.slice pc (fC at_ k).cache.length kc)) = WW2 at *
                revert HH2; revert V11; revert WW2; revert gz; revert kc; revert pc; revert ka; revert pa
                exact HL2.get
            · go_simp
              have rz0 : (WW1.alloc (.cells #[.bool false, .slice none 0 0, .slice none 0 0] 27)).drew.heap[WW1.heap.size]? = some (.cells #[.bool false, .slice none 0 0, .slice none 0 0] 27 (0, 0)) := heap_alloc_new WW1 _
              have hbz : Below WW1.heap.size WW1 (WW1.alloc (.cells #[.bool false, .slice none 0 0, .slice none 0 0] 27)).drew := by go_grown
              have hgz0 : WW1.heap.size < (WW1.alloc (.cells #[.bool false, .slice none 0 0, .slice none 0 0] 27)).drew.heap.size := by simp
              refine hK _ _ hbz ?_
              clear hK K
              try simp only [Act.put, List.setIfInBounds_toArray, List.set_cons_zero, List.set_cons_succ]
              generalize (WW1.alloc (.cells #[.bool false, .slice none 0 0, .slice none 0 0] 27)).drew = wz0 at *
              refine walkH_do rfl (fun K hK => ?_)
              go_simp
              refine (full_any (1 + k) hby _).mono ?_
              rintro e wz ⟨rfl, bz⟩
              have hbf : Below WW1.heap.size WW1 wz := bt hbz bz
              have rz : wz.heap[WW1.heap.size]? = some (.cells #[.bool false, .slice none 0 0, .slice none 0 0] 27 (0, 0)) := (bz.block _ hgz0).trans rz0
              have hgz : WW1.heap.size < wz.heap.size := Nat.lt_of_lt_of_le hgz0 bz.size
              refine hK _ _ hbf ?_
              clear hK K bz hbz rz0 hgz0
              try simp only [Act.put, List.setIfInBounds_toArray, List.set_cons_zero, List.set_cons_succ]
              have hgW : WW1.heap.size ≤ WW1.heap.size := Nat.le_refl _
              repeat (refine walkH_read (by rfl) (by (intro gx; go_simp; try (with_reducible rfl))) ?_; try simp only [Act.put, List.setIfInBounds_toArray, List.set_cons_zero, List.set_cons_succ])
              refine walkH_do rfl (fun K hK => ?_)
              go_simp
              rw [unhide EBL]
              refine (diskWrite_any (fB at_ k) _ _ _ _ _ _ (at_ k : Int) (fullB (1 + k)) _ ((unhide HS).below hbf) ((unhide HC).below hbf) (by rw [unhide ELS]; exact (fB_fit at_ k).1) (by rw [unhide ELC]; exact (fB_fit at_ k).2)).mono ?_
              rintro e wb ⟨v, he, O, bb⟩
              rw [(f_wB at_ (unhide HA) k)] at he O
              obtain ⟨pa, ka, pc, kc, ev, -, -⟩ := O.read
              subst ev
              subst he
              have hbb : Below WW1.heap.size WW1 wb := bt hbf bb
              refine hK _ _ hbb ?_
              clear hK K
              try simp only [Act.put, List.setIfInBounds_toArray, List.set_cons_zero, List.set_cons_succ]
              have r9 : wb.heap[WW1.heap.size]? = some (.cells #[.bool false, .slice none 0 0, .slice none 0 0] 27 (0, 0)) := (bb.block WW1.heap.size hgz).trans rz
              obtain ⟨d0, d1, d2⟩ := box_dsk r9
              have f0 := dsk_free r9 0
              have f1 := dsk_free r9 1
              have f2 := dsk_free r9 2
              have hO9 := O.put hgz (.bool (fC at_ k).lost) (.slice pa (fC at_ k).secs.length ka) (.slice pc (fC at_ k).cache.length kc)
              have hB9 := below_put hbb hgW (.bool (fC at_ k).lost) (.slice pa (fC at_ k).secs.length ka) (.slice pc (fC at_ k).cache.length kc)
              have hR9 := dsk_put (x' := .bool (fC at_ k).lost) (y' := .slice pa (fC at_ k).secs.length ka) (z' := .slice pc (fC at_ k).cache.length kc) r9
              have hgb : WW1.heap.size < wb.heap.size := Nat.lt_of_lt_of_le hgz bb.size
              clear bb O
              repeat (refine walkH_read (by rfl) (by (intro gx; go_simp; try (with_reducible rfl))) ?_; try simp only [Act.put, List.setIfInBounds_toArray, List.set_cons_zero, List.set_cons_succ])
              refine walkH_do rfl (fun K hK => ?_)
              go_simp
              refine hK _ _ hB9 ?_
              clear hK K
              try simp only [Act.put, List.setIfInBounds_toArray, List.set_cons_zero, List.set_cons_succ]
              repeat (refine walkH_read (by rfl) (by (intro gx; go_simp; try (with_reducible rfl))) ?_; try simp only [Act.put, List.setIfInBounds_toArray, List.set_cons_zero, List.set_cons_succ])
              refine walkH_nil ?_
              refine NoPanic.normal ?_
              have V11 : Hid (DVar (((wb.setCell ⟨WW1.heap.size, 0, none⟩ (.bool (fC at_ k).lost)).setCell ⟨WW1.heap.size, 1, none⟩ (.slice pa (fC at_ k).secs.length ka)).setCell ⟨WW1.heap.size, 2, none⟩ (.slice pc (fC at_ k).cache.length kc)) w.heap.size WW1.heap.size (fC at_ k)) := hide ⟨⟨pa, ka, pc, kc, hR9, hO9.readAs.1, hO9.readAs.2⟩, Nat.le_trans hsW2 hgW, by simpa using hgb⟩
              have HH2 := hide hB9
              clear hbb hB9 hO9 hR9 hgb d0 d1 d2 f0 f1 f2 r9 rz hgz hgW hbf
              generalize (((wb.setCell ⟨WW1.heap.size, 0, none⟩ (.bool (fC at_ k).lost)).setCell ⟨WW1.heap.size, 1, none⟩ (.slice pa (fC at_ k).secs.length ka)).setCell ⟨WW1.heap.size, 2, none⟩ (.slice pc (fC at_ k).cache.length kc)) = WW2 at *
              obtain ⟨gz, egz⟩ : ∃ gz, gz = WW1.heap.size := ⟨_, rfl⟩
              rw [← egz] at V11 ⊢
              clear egz
              revert HH2; revert V11; revert WW2; revert gz; revert kc; revert pc; revert ka; revert pa
              exact HL2.get
          case prf =>
            intro pa ka pc kc gw2 WW2 V11 HH2
            clear k0 k1 k2
            replace VA := hide ((unhide VA).below (unhide HH2))
            replace VB := hide ((unhide VB).below (unhide HH2))
            replace V9 := hide ((unhide V9).below (unhide HH2))
            replace HB := hide (bt (unhide HB) (unhide HH2))
            clear HS HC EBL ELS ELC HH2 hsW2
            obtain ⟨⟨sa, sc, ca, cc, hbx, hS, hC⟩, hlt⟩ := unhide V11
            obtain ⟨x0, x1, x2⟩ := box_dsk hbx
            go_wp2_with fail
            refine (diskFlush_any (fC at_ k) _ _ _ _ _ _ _ hS hC (fC_fit at_ k).1 (fC_fit at_ k).2).mono ?_
            rintro e wr5 ⟨v, he, O, b5⟩
            rw [(f_fC at_ (unhide HA) k)] at he O
            obtain ⟨pa5, ka5, pc5, kc5, ev, hS5, hC5⟩ := O.read
            subst ev
            subst he
            replace VA := hide ((unhide VA).below b5)
            replace VB := hide ((unhide VB).below b5)
            replace V9 := hide ((unhide V9).below b5)
            replace HB := hide (bt (unhide HB) b5)
            clear b5 hbx hS hC hlt x0 x1 x2 O
            have NE := hide (Nat.ne_of_gt (unhide VA).lt.2)
            go_upto_region 14 with fail
            have V13 : Hid (DVar (wr5.alloc (.cells #[.bool (fB at_ (k + 1)).lost, .slice pa5 (fB at_ (k + 1)).secs.length ka5, .slice pc5 (fB at_ (k + 1)).cache.length kc5] 27)) w.heap.size wr5.heap.size (fB at_ (k + 1))) := hide ⟨⟨pa5, ka5, pc5, kc5, heap_alloc_new wr5 _, hS5.below (below_alloc _ _), hC5.below (below_alloc _ _)⟩, (unhide HB).size, by simp⟩
            have bb5 := below_alloc wr5 (.cells #[.bool (fB at_ (k + 1)).lost, .slice pa5 (fB at_ (k + 1)).secs.length ka5, .slice pc5 (fB at_ (k + 1)).cache.length kc5] 27)
            replace VA := hide ((unhide VA).below bb5)
            replace VB := hide ((unhide VB).below bb5)
            replace V9 := hide ((unhide V9).below bb5)
            replace HB := hide (bt (unhide HB) bb5)
            clear bb5 hS5 hC5
            generalize (wr5.alloc (.cells #[.bool (fB at_ (k + 1)).lost, .slice pa5 (fB at_ (k + 1)).secs.length ka5, .slice pc5 (fB at_ (k + 1)).cache.length kc5] 27)) = WD5 at *
            clear V11
            go_upto_region 16 with (go_at_call 6; refine (num_any _ _).mono ?_; rintro e w' ⟨rfl, hw'⟩; rw [hw']; clear hw' w')
            obtain ⟨⟨sa, sc, ca, cc, hbx, hS, hC⟩, hlt⟩ := unhide V9
            obtain ⟨x0, x1, x2⟩ := box_dsk hbx
            obtain ⟨⟨sb, sd, cb, cd, hbt, hT, hD⟩, hlu⟩ := unhide VA
            obtain ⟨y0, y1, y2⟩ := box_dsk hbt
            have q0 := dsk_free hbt 0
            have q1 := dsk_free hbt 1
            have q2 := dsk_free hbt 2
            clear hbx hlt hbt hT hD hlu
            go_upto_region 17 with fail
            have hVT := (unhide VA).put hS hC
            replace VB := hide ((unhide VB).putOther (unhide VA) (unhide HN).symm (.bool (fA at_ (k + 1)).lost) (.slice sa (fA at_ (k + 1)).secs.length sc) (.slice ca (fA at_ (k + 1)).cache.length cc))
            replace V13 := hide ((unhide V13).putOther (unhide VA) (unhide NE) (.bool (fA at_ (k + 1)).lost) (.slice sa (fA at_ (k + 1)).secs.length sc) (.slice ca (fA at_ (k + 1)).cache.length cc))
            replace HB := hide (below_put (unhide HB) (unhide VA).lt.1 (.bool (fA at_ (k + 1)).lost) (.slice sa (fA at_ (k + 1)).secs.length sc) (.slice ca (fA at_ (k + 1)).cache.length cc))
            replace VA := hide hVT
            clear hVT x0 x1 x2 y0 y1 y2 q0 q1 q2 hS hC
            generalize ((((WD5).setCell ⟨ga, 0, none⟩ (.bool (fA at_ (k + 1)).lost)).setCell ⟨ga, 1, none⟩ (.slice sa (fA at_ (k + 1)).secs.length sc)).setCell ⟨ga, 2, none⟩ (.slice ca (fA at_ (k + 1)).cache.length cc)) = WS1 at *
            obtain ⟨⟨sa, sc, ca, cc, hbx, hS, hC⟩, hlt⟩ := unhide V13
            obtain ⟨x0, x1, x2⟩ := box_dsk hbx
            obtain ⟨⟨sb, sd, cb, cd, hbt, hT, hD⟩, hlu⟩ := unhide VB
            obtain ⟨y0, y1, y2⟩ := box_dsk hbt
            have q0 := dsk_free hbt 0
            have q1 := dsk_free hbt 1
            have q2 := dsk_free hbt 2
            clear hbx hlt hbt hT hD hlu
            go_wp2_with fail
            have hVT := (unhide VB).put hS hC
            replace VA := hide ((unhide VA).putOther (unhide VB) (unhide HN) (.bool (fB at_ (k + 1)).lost) (.slice sa (fB at_ (k + 1)).secs.length sc) (.slice ca (fB at_ (k + 1)).cache.length cc))
            replace HB := hide (below_put (unhide HB) (unhide VB).lt.1 (.bool (fB at_ (k + 1)).lost) (.slice sa (fB at_ (k + 1)).secs.length sc) (.slice ca (fB at_ (k + 1)).cache.length cc))
            replace VB := hide hVT
            clear hVT x0 x1 x2 y0 y1 y2 q0 q1 q2 hS hC
            generalize ((((WS1).setCell ⟨gb, 0, none⟩ (.bool (fB at_ (k + 1)).lost)).setCell ⟨gb, 1, none⟩ (.slice sa (fB at_ (k + 1)).secs.length sc)).setCell ⟨gb, 2, none⟩ (.slice ca (fB at_ (k + 1)).cache.length cc)) = WS2 at *
            go_roundw
            case rel => exact ⟨k + 1, by omega, by have := unhide HK; omega, by go_num, VA, VB, HB⟩
            case measure => simp [intOf]; omega
      · by_cases hkn : k < n
        · have hk6 : k = 16 := by omega
          subst hk6
          go_wp2
          go_meet
          case rel => exact ⟨16, by decide, VA, VB, HB⟩
        · go_wp2
          go_meet
          case rel => exact ⟨k, hk16, VA, VB, HB⟩
  case rest =>
    clear VA VB HB
    obtain ⟨k, hk16, VA, VB, HB⟩ := hcut
    have HK := hide hk16
    have SL := hide (show (fB at_ k).secs.length ≤ maxLen by rw [show (fB at_ k).secs.length = 4 from fS_len at_ k]; decide)
    obtain ⟨⟨sa, sc, ca, cc, hbx, hS, hC⟩, hlt⟩ := unhide VA
    obtain ⟨x0, x1, x2⟩ := box_dsk hbx
    go_wp2_with fail
    refine (diskFlush_any (fA at_ k) _ _ _ _ _ _ _ hS hC (fA_fit at_ k (unhide HK)).1 (fA_fit at_ k (unhide HK)).2).mono ?_
    rintro e wr6 ⟨v, he, O, b6⟩
    rw [(f_fA at_ (unhide HA) k (unhide HK))] at he O
    obtain ⟨pa6, ka6, pc6, kc6, ev, hS6, hC6⟩ := O.read
    subst ev
    subst he
    replace VA := hide ((unhide VA).below b6)
    replace VB := hide ((unhide VB).below b6)
    replace HB := hide (bt (unhide HB) b6)
    clear b6 hbx hS hC hlt x0 x1 x2 O
    go_upto_region 19 with fail
    have VC : Hid (DVar (wr6.alloc (.cells #[.bool (fB at_ k).lost, .slice pa6 (fB at_ k).secs.length ka6, .slice pc6 (fB at_ k).cache.length kc6] 27)) w.heap.size wr6.heap.size (fB at_ k)) := hide ⟨⟨pa6, ka6, pc6, kc6, heap_alloc_new wr6 _, hS6.below (below_alloc _ _), hC6.below (below_alloc _ _)⟩, (unhide HB).size, by simp⟩
    have bb6 := below_alloc wr6 (.cells #[.bool (fB at_ k).lost, .slice pa6 (fB at_ k).secs.length ka6, .slice pc6 (fB at_ k).cache.length kc6] 27)
    replace VA := hide ((unhide VA).below bb6)
    replace VB := hide ((unhide VB).below bb6)
    replace HB := hide (bt (unhide HB) bb6)
    clear bb6 hS6 hC6
    generalize (wr6.alloc (.cells #[.bool (fB at_ k).lost, .slice pa6 (fB at_ k).secs.length ka6, .slice pc6 (fB at_ k).cache.length kc6] 27)) = WD6 at *
    obtain ⟨⟨sa, sc, ca, cc, hbx, hS, hC⟩, hlt⟩ := unhide VA
    obtain ⟨x0, x1, x2⟩ := box_dsk hbx
    go_wp2_with fail
    refine (diskCrash_any (fA at_ k) _ _ _ _ _ _ 65535 _ hS hC (fA_fit at_ k (unhide HK)).1 (fA_fit at_ k (unhide HK)).2).mono ?_
    rintro e wr7 ⟨v, he, O, b7⟩
    rw [(f_cA at_ (unhide HA) k (unhide HK))] at he O
    obtain ⟨pa7, ka7, pc7, kc7, ev, hS7, hC7⟩ := O.read
    subst ev
    subst he
    replace VA := hide ((unhide VA).below b7)
    replace VB := hide ((unhide VB).below b7)
    replace VC := hide ((unhide VC).below b7)
    replace HB := hide (bt (unhide HB) b7)
    clear b7 hbx hS hC hlt x0 x1 x2 O
    go_upto_region 20 with fail
    have VD : Hid (DVar (wr7.alloc (.cells #[.bool (fB at_ k).lost, .slice pa7 (fB at_ k).secs.length ka7, .slice pc7 (fB at_ k).cache.length kc7] 27)) w.heap.size wr7.heap.size (fB at_ k)) := hide ⟨⟨pa7, ka7, pc7, kc7, heap_alloc_new wr7 _, hS7.below (below_alloc _ _), hC7.below (below_alloc _ _)⟩, (unhide HB).size, by simp⟩
    have bb7 := below_alloc wr7 (.cells #[.bool (fB at_ k).lost, .slice pa7 (fB at_ k).secs.length ka7, .slice pc7 (fB at_ k).cache.length kc7] 27)
    replace VA := hide ((unhide VA).below bb7)
    replace VB := hide ((unhide VB).below bb7)
    replace VC := hide ((unhide VC).below bb7)
    replace HB := hide (bt (unhide HB) bb7)
    clear bb7 hS7 hC7
    generalize (wr7.alloc (.cells #[.bool (fB at_ k).lost, .slice pa7 (fB at_ k).secs.length ka7, .slice pc7 (fB at_ k).cache.length kc7] 27)) = WD7 at *
    obtain ⟨⟨sa, sc, ca, cc, hbx, hS, hC⟩, hlt⟩ := unhide VC
    obtain ⟨x0, x1, x2⟩ := box_dsk hbx
    go_wp2_with fail
    refine (diskFlush_any (fB at_ k) _ _ _ _ _ _ _ hS hC (fB_fit at_ k).1 (fB_fit at_ k).2).mono ?_
    rintro e wr8 ⟨v, he, O, b8⟩
    rw [(f_fB at_ k)] at he O
    obtain ⟨pa8, ka8, pc8, kc8, ev, hS8, hC8⟩ := O.read
    subst ev
    subst he
    replace VB := hide ((unhide VB).below b8)
    replace VC := hide ((unhide VC).below b8)
    replace VD := hide ((unhide VD).below b8)
    replace HB := hide (bt (unhide HB) b8)
    clear b8 hbx hS hC hlt x0 x1 x2 O
    go_upto_region 21 with fail
    have VE : Hid (DVar (wr8.alloc (.cells #[.bool (fB at_ k).lost, .slice pa8 (fB at_ k).secs.length ka8, .slice pc8 (fB at_ k).cache.length kc8] 27)) w.heap.size wr8.heap.size (fB at_ k)) := hide ⟨⟨pa8, ka8, pc8, kc8, heap_alloc_new wr8 _, hS8.below (below_alloc _ _), hC8.below (below_alloc _ _)⟩, (unhide HB).size, by simp⟩
    have bb8 := below_alloc wr8 (.cells #[.bool (fB at_ k).lost, .slice pa8 (fB at_ k).secs.length ka8, .slice pc8 (fB at_ k).cache.length kc8] 27)
    replace VB := hide ((unhide VB).below bb8)
    replace VC := hide ((unhide VC).below bb8)
    replace VD := hide ((unhide VD).below bb8)
    replace HB := hide (bt (unhide HB) bb8)
    clear bb8 hS8 hC8
    generalize (wr8.alloc (.cells #[.bool (fB at_ k).lost, .slice pa8 (fB at_ k).secs.length ka8, .slice pc8 (fB at_ k).cache.length kc8] 27)) = WD8 at *
    clear VA
    obtain ⟨⟨sa, sc, ca, cc, hbx, hS, hC⟩, hlt⟩ := unhide VC
    obtain ⟨x0, x1, x2⟩ := box_dsk hbx
    obtain ⟨⟨sb, sd, cb, cd, hby, hT, hD⟩, hlu⟩ := unhide VB
    obtain ⟨y0, y1, y2⟩ := box_dsk hby
    clear hbx hby hlt hlu
    go_wp2_with (go_at_call 6; refine (num_any _ _).mono ?_; rintro e w' ⟨rfl, hw'⟩; rw [hw']; clear hw' w')
    refine (sameDisk_any (fB at_ k) (fB at_ k) _ _ _ _ _ _ _ _ _ _ _ _ _ hS hC hT hD (unhide SL) (Nat.zero_le _)).mono ?_
    rintro e wf1 ⟨rfl, bf1⟩
    rw [decide_eq_true (sameD_refl (fB at_ k))]
    clear x0 x1 x2 y0 y1 y2 hS hC hT hD
    replace VB := hide ((unhide VB).below bf1)
    replace VC := hide ((unhide VC).below bf1)
    replace VD := hide ((unhide VD).below bf1)
    replace VE := hide ((unhide VE).below bf1)
    replace HB := hide (bt (unhide HB) bf1)
    clear bf1
    obtain ⟨⟨sa, sc, ca, cc, hbx, hS, hC⟩, hlt⟩ := unhide VD
    obtain ⟨x0, x1, x2⟩ := box_dsk hbx
    obtain ⟨⟨sb, sd, cb, cd, hby, hT, hD⟩, hlu⟩ := unhide VB
    obtain ⟨y0, y1, y2⟩ := box_dsk hby
    clear hbx hby hlt hlu
    go_wp2_with (go_at_call 6; refine (num_any _ _).mono ?_; rintro e w' ⟨rfl, hw'⟩; rw [hw']; clear hw' w')
    refine (sameDisk_any (fB at_ k) (fB at_ k) _ _ _ _ _ _ _ _ _ _ _ _ _ hS hC hT hD (unhide SL) (Nat.zero_le _)).mono ?_
    rintro e wf2 ⟨rfl, bf2⟩
    rw [decide_eq_true (sameD_refl (fB at_ k))]
    clear x0 x1 x2 y0 y1 y2 hS hC hT hD
    replace VB := hide ((unhide VB).below bf2)
    replace VC := hide ((unhide VC).below bf2)
    replace VD := hide ((unhide VD).below bf2)
    replace VE := hide ((unhide VE).below bf2)
    replace HB := hide (bt (unhide HB) bf2)
    clear bf2
    obtain ⟨⟨sa, sc, ca, cc, hbx, hS, hC⟩, hlt⟩ := unhide VE
    obtain ⟨x0, x1, x2⟩ := box_dsk hbx
    obtain ⟨⟨sb, sd, cb, cd, hby, hT, hD⟩, hlu⟩ := unhide VC
    obtain ⟨y0, y1, y2⟩ := box_dsk hby
    clear hbx hby hlt hlu
    go_wp2_with (go_at_call 6; refine (num_any _ _).mono ?_; rintro e w' ⟨rfl, hw'⟩; rw [hw']; clear hw' w')
    refine (sameDisk_any (fB at_ k) (fB at_ k) _ _ _ _ _ _ _ _ _ _ _ _ _ hS hC hT hD (unhide SL) (Nat.zero_le _)).mono ?_
    rintro e wf3 ⟨rfl, bf3⟩
    rw [decide_eq_true (sameD_refl (fB at_ k))]
    clear x0 x1 x2 y0 y1 y2 hS hC hT hD
    replace VC := hide ((unhide VC).below bf3)
    replace HB := hide (bt (unhide HB) bf3)
    clear bf3
    obtain ⟨⟨sa, sc, ca, cc, hbx, hS, hC⟩, hlt⟩ := unhide VC
    obtain ⟨x0, x1, x2⟩ := box_dsk hbx
    clear hbx hlt
    go_wp2_with fail
    refine (sameDisk_any (fB at_ k) dsk0 _ _ _ _ _ _ none 0 0 none 0 0 _ hS hC ⟨rfl, .inl ⟨rfl, rfl, rfl⟩⟩ (WrV.nil _) (unhide SL) (Nat.zero_le _)).mono ?_
    rintro e wf4 ⟨rfl, bf4⟩
    rw [decide_eq_false (f_not at_ k)]
    replace HB := hide (bt (unhide HB) bf4)
    clear bf4 x0 x1 x2 hS hC
    go_wp2
    go_ret
    exact ⟨rfl, unhide HB⟩
end Go.Proofs.Ytpmbmhjhclekeab
