/- The Go text of the statement DiskCrashes returns true, whatever the numbers. -/
import Derived.Test.YtpmbmhjhclekeaaMayArr
import Derived.Test.YtpmbmhjhclekeaaBVar
import Derived.Deep.CutBlock
import Derived.Deep.CutRange
namespace Go.Proofs.Ytpmbmhjhclekeaa
open Go.RowKit
set_option linter.unusedVariables false
set_option linter.unusedSimpArgs false
attribute [local go_sem ↓] Go.wp_at_zero Go.wp_at_succ
theorem modC3 (a : Int) : ∃ i : Nat, i < 3 ∧ wrap64 ((IntKind.u64.wrap a).tmod 3) = (i : Int) := by
  have h0 : IntKind.u64.wrap a = a % 18446744073709551616 := IntKind.wrap_u64 a
  have : 0 ≤ a % 18446744073709551616 := Int.emod_nonneg _ (by decide)
  rw [h0, Int.tmod_eq_emod_of_nonneg (by omega)]
  exact ⟨(a % 18446744073709551616 % 3).toNat, by omega, by unfold wrap64; omega⟩
theorem u8_c (k : Nat) (h : k < 16) : IntKind.u8.wrap (IntKind.i64.wrap (1 + (k : Int))) = ((1 + k : Nat) : Int) := by
  have e : IntKind.i64.wrap (1 + (k : Int)) = 1 + (k : Int) := by simp [IntKind.wrap, IntKind.bits, IntKind.signed]; omega
  rw [e, IntKind.wrap_u8]; omega
/-- what was, put anew up to j -/
def mixL (ws old : List Nat) (j : Nat) : List Nat := (List.range 3).map fun i => if i < j then ws.getD i 0 else old.getD i 0
theorem mixL_zero (ws old : List Nat) (h : old.length = 3) : mixL ws old 0 = old := by
  match old, h with
  | [a, b, c], _ => rfl
theorem mixL_all (ws old : List Nat) (h : ws.length = 3) : mixL ws old 3 = ws := by
  match ws, h with
  | [a, b, c], _ => rfl
theorem mixL_len (ws old : List Nat) (j : Nat) : (mixL ws old j).length = 3 := by simp [mixL]
theorem mixL_succ (ws old : List Nat) (j : Nat) (h : j < 3) : (mixL ws old j).set j (ws.getD j 0) = mixL ws old (j + 1) := by
  have : j = 0 ∨ j = 1 ∨ j = 2 := by omega
  rcases this with rfl | rfl | rfl <;> rfl
theorem full_g {W : World} (x : GrownW W) (b : Nat) (hb : b < 256) : Calls Try.prog 30 #[.int .u8 (b : Int)] x.val fun e w' => e = .returned (.string (fullB b)) ∧ Below x.val.heap.size x.val w' := full_any b hb x.val
theorem num_g {W : World} (x : GrownW W) (n : Int) : Calls Try.prog 12 #[.int .i64 n] x.val fun e w' => e = .returned (.int .i64 n) ∧ Below x.val.heap.size x.val w' := by
  refine (num_any n x.val).mono ?_
  rintro e w' ⟨he, rfl⟩
  exact ⟨he, Below.refl _ _⟩
theorem full_b {W : World} (x : GrownW W) (S : ByteArray) (h : 0 < S.size) (b : Nat) (hb : b < 256) (e : (((S[0]'h).toNat : Nat) : Int) = (b : Int)) : Calls Try.prog 30 #[.int .u8 (((S[0]'h).toNat : Nat) : Int)] x.val fun e w' => e = .returned (.string (fullB b)) ∧ Below x.val.heap.size x.val w' := by
  rw [e]
  exact full_any b hb x.val
set_option maxRecDepth 100000 in
set_option maxHeartbeats 8000000 in
theorem DiskCrashes_walk {w : World} (a : Option Addr) (n cap : Nat) (xs : List Int) (hx : Ints w a n cap xs) (hn : n * 8 ≤ 140737488351232) (hq : ∀ x ∈ xs, (Lit.int .i64 x).wf = true)
    (fv : Int) (wf1 : (Lit.int .i64 fv).wf = true) (kp : Int) (wf2 : (Lit.int .i64 kp).wf = true) : Calls Try.prog 5 #[.slice a n cap, .int .i64 fv, .int .i64 kp] w fun e w' => e = .returned (.bool true) ∧ Below w.heap.size w w' := by
  clear hq wf1 wf2
  have HX := hide hx
  have hzm := fun w => zero_may w
  have hbm := fun w => build_may w
  clear hx
  go_enter Try.func5, Try.ntmps5
  go_wp2_with fail
  refine (awake13_any _).mono ?_
  rintro e w0 ⟨rfl, b0⟩
  have HB := hide b0
  clear b0
  go_wp2_with fail
  refine (diskNew_any 3 _).mono ?_
  rintro e wr1 ⟨v, he, O, b1⟩
  have hnw : newD 3 = (rdN 3, 0) := rd_new 3 (by decide) (by decide)
  rw [hnw] at he O
  clear hnw
  obtain ⟨pa1, ka1, pc1, kc1, ev, hS1, hC1⟩ := O.read
  subst ev
  subst he
  replace HB := hide (bt (unhide HB) b1)
  clear b1  O
  go_upto_region 4 with fail
  have VA : Hid (DVar (wr1.alloc (.cells #[.bool (rdN 3).lost, .slice pa1 (rdN 3).secs.length ka1, .slice pc1 (rdN 3).cache.length kc1] 25)) w.heap.size wr1.heap.size (rdN 3)) := hide ⟨⟨pa1, ka1, pc1, kc1, heap_alloc_new wr1 _, hS1.below (below_alloc _ _), hC1.below (below_alloc _ _)⟩, (unhide HB).size, by simp⟩
  have bb1 := below_alloc wr1 (.cells #[.bool (rdN 3).lost, .slice pa1 (rdN 3).secs.length ka1, .slice pc1 (rdN 3).cache.length kc1] 25)
  replace HB := hide (bt (unhide HB) bb1)
  clear bb1 hS1 hC1
  generalize (wr1.alloc (.cells #[.bool (rdN 3).lost, .slice pa1 (rdN 3).secs.length ka1, .slice pc1 (rdN 3).cache.length kc1] 25)) = WD1 at *
  generalize wr1.heap.size = ga at *
  go_upto_region 7 with (go_at_call 12; refine (num_any _ _).mono ?_; rintro e w' ⟨rfl, hw'⟩; rw [hw']; clear hw' w')
  have hVW : BVar (WD1.alloc (.cells #[.int .u8 0, .int .u8 0, .int .u8 0] 5)) WD1.heap.size (List.replicate 3 0) := heap_alloc_new WD1 _
  have HN := hide (Nat.ne_of_gt (unhide VA).lt.2)
  have HG := hide ((unhide HB).size)
  have bb := below_alloc WD1 (.cells #[.int .u8 0, .int .u8 0, .int .u8 0] 5)
  replace VA := hide ((unhide VA).below bb)
  replace HB := hide (bt (unhide HB) bb)
  have VW := hide hVW
  clear bb hVW
  generalize (WD1.alloc (.cells #[.int .u8 0, .int .u8 0, .int .u8 0] 5)) = WA at *
  generalize WD1.heap.size = gw at *
  have hVM : MayAt (WA.alloc (.cells (mayC (fun _ => false)).toArray 59)) WA.heap.size (fun _ => false) := heap_alloc_new WA _
  have HNM := hide (show WA.heap.size ≠ ga ∧ WA.heap.size ≠ gw from ⟨Nat.ne_of_gt (unhide VA).lt.2, Nat.ne_of_gt (lt_of_block (unhide VW))⟩)
  have HGM := hide ((unhide HB).size)
  have bb := below_alloc WA (.cells (mayC (fun _ => false)).toArray 59)
  replace VA := hide ((unhide VA).below bb)
  replace VW := hide ((unhide VW).below bb)
  replace HB := hide (bt (unhide HB) bb)
  have VM := hide hVM
  clear bb hVM
  go_upto_region 8 with (refine step_store_may rfl (.tmp 10) (.tmp 43) rfl WA.heap.size rfl (fun _ => false) (fun _ => false) rfl ?_ ?_; exact unhide VM)
  simp only [Act.put]
  have hVM2 := (unhide VM).setAll (q := fun _ => false)
  replace VA := hide ((unhide VA).chg (unhide HNM).1.symm (fun o s => (unhide VM).noStr o s) (fun j hj => setCells_other _ (mayC (fun _ => false)) 0 _ j hj) (by rw [(setCells_rest _ _ _ _).1]; exact Nat.le_refl _))
  replace VW := hide ((setCells_other _ (mayC (fun _ => false)) 0 _ gw (unhide HNM).2.symm).trans (unhide VW))
  replace VW : Hid (BVar _ gw (List.replicate 3 0)) := VW
  replace HB := hide (below_setCells (unhide HGM) (mayC (fun _ => false)) 0 _ _ (unhide HB))
  replace VM := hide hVM2
  clear hVM2
  generalize ((WA.alloc (.cells (mayC (fun _ => false)).toArray 59)).setCells WA.heap.size 0 (mayC (fun _ => false))) = WB at *
  generalize WA.heap.size = gm at *
  go_upto_block 0 with fail
  go_cut [11] from 12 to 111 (fun iv W => ∃ (d : Dsk) (old : List Nat) (f : Nat → Bool), Hid (d.cache.length ≤ 16 ∧ CR d old f) ∧ Hid (DVar W w.heap.size ga d) ∧ Hid (BVar W gw old) ∧ Hid (MayAt W gm f) ∧ Hid (Below w.heap.size w W))
  case first =>
    go_wp2
    go_loopw [11] (fun iv W => ∃ (k : Nat) (d : Dsk) (old : List Nat) (f : Nat → Bool), k ≤ n ∧ k ≤ 16 ∧ iv = .int .i64 k ∧ Hid (d.cache.length ≤ k ∧ CR d old f) ∧ Hid (DVar W w.heap.size ga d) ∧ Hid (BVar W gw old) ∧ Hid (MayAt W gm f) ∧ Hid (Below w.heap.size w W)) (fun iv _ => n - (intOf iv).toNat)
    case atStart => exact ⟨0, _, _, _, Nat.zero_le _, by decide, rfl, hide ⟨Nat.le_refl _, CR.start⟩, VA, VW, VM, HB⟩
    case round =>
      clear VA HB VW VM
      obtain ⟨k, d, old, f, hk, hk16, rfl, HR, VA, VW, VM, HB⟩ := hrel
      by_cases hend : k < n ∧ k < 16
      · obtain ⟨hkn, h16⟩ := hend
        have hkn' : (k : Int) < n := by omega
        have h16' : (k : Int) < 16 := by omega
        rcases (unhide HX).2.two with h0 | ⟨b, off, rfl, hc⟩
        · exfalso; omega
        have hcell := ((unhide HB).cell (cell_lt (hc k hkn))).trans (hc k hkn)
        obtain ⟨x, ex⟩ : ∃ x, x = xs.getD k 0 := ⟨_, rfl⟩
        obtain ⟨i, hi5, e5⟩ := modC3 x
        simp only [← ex] at hcell
        clear ex hc
        have hu := u8_c k h16
        have hcl : d.cache.length < 256 := by have := (unhide HR).1; omega
        have HCL := hide hcl
        have HI := hide hi5
        clear hcl
        go_upto_region 12 with fail
        simp only [e5]
        clear e5 hcell
        have HK := hide h16
        have HKN := hide hkn
        have hby : 1 + k < 256 := by omega
        have HBY := hide hby
        obtain ⟨ws, hws⟩ := (unhide HR).2.1
        have HWS := hide hws
        clear hws
        have hsW1 := (unhide HB).size
        obtain ⟨⟨sa, sc, ca, cc, hbx, hS, hC⟩, hlt⟩ := unhide VA
        obtain ⟨x0, x1, x2⟩ := box_dsk hbx
        have k0 := kept_cell (B := wr.heap.size) x0 (cell_lt x0)
        have k1 := kept_cell (B := wr.heap.size) x1 (cell_lt x1)
        have k2 := kept_cell (B := wr.heap.size) x2 (cell_lt x2)
        have HS := hide hS
        have HC := hide hC
        obtain ⟨bl, ebl⟩ : ∃ bl, bl = d.lost := ⟨_, rfl⟩
        rw [← ebl] at k0
        obtain ⟨ls, els⟩ : ∃ ls, ls = d.secs.length := ⟨_, rfl⟩
        obtain ⟨lc, elc⟩ : ∃ lc, lc = d.cache.length := ⟨_, rfl⟩
        rw [← els] at k1 HS
        rw [← elc] at k2 HC
        have EBL := hide ebl
        have ELS := hide els
        have ELC := hide elc
        clear hbx hS hC hlt x0 x1 x2 ebl els elc
        go_upto_region 12 with fail
        refine' (fun (HL1 : Later _) => ?main) (Later.mk ?prf)
        case main =>
          refine wp_region_float (S := Below wr.heap.size wr) 10 [(true, 0), (true, 1), (true, 2), (true, 3), (true, 4), (false, 5), (false, 6), (true, 7), (true, 8), (true, 9)] [(false, 11), (true, 12)] (by kernel_rfl) (by kernel_rfl) (by kernel_rfl) (by kernel_rfl) ((Below.refl _ _).drew) ?_
          simp only [withOps, List.map_cons, List.map_nil, List.getElem?_cons_succ, List.getElem?_cons_zero]
          repeat (refine walkF_read (by rfl) (by (intro gx; go_simp; try (with_reducible rfl))) ?_; try simp only [Act.put, List.setIfInBounds_toArray, List.set_cons_zero, List.set_cons_succ])
          refine walkF_do rfl rfl (fun K hK => ?_) (fun K hK => ?_)
          · go_simp
            refine (full_any (1 + k) (unhide HBY) _).mono ?_
            rintro e wa ⟨rfl, ba⟩
            have hba : Below wr.heap.size wr wa := ((Below.refl _ _).drew).trans ba
            refine hK _ _ hba ?_
            clear hK K ba
            try simp only [Act.put, List.setIfInBounds_toArray, List.set_cons_zero, List.set_cons_succ]
            repeat (refine walkF_read (by rfl) (by (intro gx; go_simp; try (with_reducible rfl))) ?_; try simp only [Act.put, List.setIfInBounds_toArray, List.set_cons_zero, List.set_cons_succ])
            refine walkF_do rfl rfl (fun K hK => ?_) (fun K hK => ?_)
            · go_simp
              rw [unhide EBL]
              refine (diskWrite_any d _ _ _ _ _ _ (i : Int) (fullB (1 + k)) _ ((unhide HS).below hba) ((unhide HC).below hba) (by rw [unhide ELS]; exact ((unhide HWS).fit (by decide) (Nat.le_of_lt (unhide HCL))).1) (by rw [unhide ELC]; exact ((unhide HWS).fit (by decide) (Nat.le_of_lt (unhide HCL))).2)).mono ?_
              rintro e wb ⟨v, he, O, bb⟩
              rw [((unhide HWS).writes (by decide) (by decide) (unhide HCL) (unhide HI))] at he O
              obtain ⟨pa, ka, pc, kc, ev, hS', hC'⟩ := O.read
              subst ev
              subst he
              have hbb : Below wr.heap.size wr wb := bt hba bb
              refine hK _ _ hbb ?_
              clear hK K bb O
              try simp only [Act.put, List.setIfInBounds_toArray, List.set_cons_zero, List.set_cons_succ]
              repeat (refine walkF_read (by rfl) (by (intro gx; go_simp; try (with_reducible rfl))) ?_; try simp only [Act.put, List.setIfInBounds_toArray, List.set_cons_zero, List.set_cons_succ])
              refine walkF_end rfl (fun K hK => ?_)
              go_simp
              refine hK _ _ (bt hbb (below_alloc _ _)) ?_
              clear hK K
              try simp only [Act.put, List.setIfInBounds_toArray, List.set_cons_zero, List.set_cons_succ]
              refine walkH_do rfl (fun K hK => ?_)
              go_simp
              refine hK _ _ (bt hbb (below_alloc _ _)) ?_
              clear hK K
              try simp only [Act.put, List.setIfInBounds_toArray, List.set_cons_zero, List.set_cons_succ]
              repeat (refine walkH_read (by rfl) (by (intro gx; go_simp; try (with_reducible rfl))) ?_; try simp only [Act.put, List.setIfInBounds_toArray, List.set_cons_zero, List.set_cons_succ])
              refine walkH_nil ?_
              refine NoPanic.normal ?_
              have VX : Hid (DVar (wb.alloc (.cells #[.bool (wrD d (i : Int) (fullB (1 + k))).lost, .slice pa (wrD d (i : Int) (fullB (1 + k))).secs.length ka, .slice pc (wrD d (i : Int) (fullB (1 + k))).cache.length kc] 25)) w.heap.size wb.heap.size (wrD d (i : Int) (fullB (1 + k)))) := hide ⟨⟨pa, ka, pc, kc, heap_alloc_new wb _, hS'.below (below_alloc _ _), hC'.below (below_alloc _ _)⟩, Nat.le_trans hsW1 hbb.size, by simp⟩
              have HH1 : Hid (Below wr.heap.size wr (wb.alloc (.cells #[.bool (wrD d (i : Int) (fullB (1 + k))).lost, .slice pa (wrD d (i : Int) (fullB (1 + k))).secs.length ka, .slice pc (wrD d (i : Int) (fullB (1 + k))).cache.length kc] 25))) := hide (bt hbb (below_alloc _ _))
              clear hbb hba hS' hC'
              generalize (wb.alloc (.cells #[.bool (wrD d (i : Int) (fullB (1 + k))).lost, .slice pa (wrD d (i : Int) (fullB (1 + k))).secs.length ka, .slice pc (wrD d (i : Int) (fullB (1 + k))).cache.length kc] 25)) = WW1 at *
              generalize wb.heap.size = g2 at *
              revert HH1; revert VX; revert WW1; revert g2; revert kc; revert pc; revert ka; revert pa
              exact HL1.get
            · go_simp
              have rz : (wa.alloc (.cells #[.bool false, .slice none 0 0, .slice none 0 0] 25)).heap[wa.heap.size]? = some (.cells #[.bool false, .slice none 0 0, .slice none 0 0] 25 (0, 0)) := heap_alloc_new wa _
              have hbf : Below wr.heap.size wr (wa.alloc (.cells #[.bool false, .slice none 0 0, .slice none 0 0] 25)) := bt hba (below_alloc _ _)
              have hgW : wr.heap.size ≤ wa.heap.size := hba.size
              have hgz : wa.heap.size < (wa.alloc (.cells #[.bool false, .slice none 0 0, .slice none 0 0] 25)).heap.size := by simp
              refine hK _ _ hbf ?_
              clear hK K hba
              try simp only [Act.put, List.setIfInBounds_toArray, List.set_cons_zero, List.set_cons_succ]
              generalize (wa.alloc (.cells #[.bool false, .slice none 0 0, .slice none 0 0] 25)) = wz at *
              generalize wa.heap.size = gz at *
              refine walkH_do rfl (fun K hK => ?_)
              go_simp
              rw [unhide EBL]
              refine (diskWrite_any d _ _ _ _ _ _ (i : Int) (fullB (1 + k)) _ ((unhide HS).below hbf) ((unhide HC).below hbf) (by rw [unhide ELS]; exact ((unhide HWS).fit (by decide) (Nat.le_of_lt (unhide HCL))).1) (by rw [unhide ELC]; exact ((unhide HWS).fit (by decide) (Nat.le_of_lt (unhide HCL))).2)).mono ?_
              rintro e wb ⟨v, he, O, bb⟩
              rw [((unhide HWS).writes (by decide) (by decide) (unhide HCL) (unhide HI))] at he O
              obtain ⟨pa, ka, pc, kc, ev, -, -⟩ := O.read
              subst ev
              subst he
              have hbb : Below wr.heap.size wr wb := bt hbf bb
              refine hK _ _ hbb ?_
              clear hK K
              try simp only [Act.put, List.setIfInBounds_toArray, List.set_cons_zero, List.set_cons_succ]
              have r9 : wb.heap[gz]? = some (.cells #[.bool false, .slice none 0 0, .slice none 0 0] 25 (0, 0)) := (bb.block gz hgz).trans rz
              obtain ⟨d0, d1, d2⟩ := box_dsk r9
              have f0 := dsk_free r9 0
              have f1 := dsk_free r9 1
              have f2 := dsk_free r9 2
              have hO9 := O.put hgz (.bool (wrD d (i : Int) (fullB (1 + k))).lost) (.slice pa (wrD d (i : Int) (fullB (1 + k))).secs.length ka) (.slice pc (wrD d (i : Int) (fullB (1 + k))).cache.length kc)
              have hB9 := below_put hbb hgW (.bool (wrD d (i : Int) (fullB (1 + k))).lost) (.slice pa (wrD d (i : Int) (fullB (1 + k))).secs.length ka) (.slice pc (wrD d (i : Int) (fullB (1 + k))).cache.length kc)
              have hR9 := dsk_put (x' := .bool (wrD d (i : Int) (fullB (1 + k))).lost) (y' := .slice pa (wrD d (i : Int) (fullB (1 + k))).secs.length ka) (z' := .slice pc (wrD d (i : Int) (fullB (1 + k))).cache.length kc) r9
              have hgb : gz < wb.heap.size := Nat.lt_of_lt_of_le hgz bb.size
              clear bb O
              repeat (refine walkH_read (by rfl) (by (intro gx; go_simp; try (with_reducible rfl))) ?_; try simp only [Act.put, List.setIfInBounds_toArray, List.set_cons_zero, List.set_cons_succ])
              refine walkH_do rfl (fun K hK => ?_)
              go_simp
              refine hK _ _ hB9 ?_
              clear hK K
              try simp only [Act.put, List.setIfInBounds_toArray, List.set_cons_zero, List.set_cons_succ]
              repeat (refine walkH_read (by rfl) (by (intro gx; go_simp; try (with_reducible rfl))) ?_; try simp only [Act.put, List.setIfInBounds_toArray, List.set_cons_zero, List.set_cons_succ])
              refine walkH_nil ?_
              refine NoPanic.normal ?_
              have VX : Hid (DVar (((wb.setCell ⟨gz, 0, none⟩ (.bool (wrD d (i : Int) (fullB (1 + k))).lost)).setCell ⟨gz, 1, none⟩ (.slice pa (wrD d (i : Int) (fullB (1 + k))).secs.length ka)).setCell ⟨gz, 2, none⟩ (.slice pc (wrD d (i : Int) (fullB (1 + k))).cache.length kc)) w.heap.size gz (wrD d (i : Int) (fullB (1 + k)))) := hide ⟨⟨pa, ka, pc, kc, hR9, hO9.readAs.1, hO9.readAs.2⟩, Nat.le_trans hsW1 hgW, by simpa using hgb⟩
              have HH1 := hide hB9
              clear hbb hB9 hO9 hR9 hgb d0 d1 d2 f0 f1 f2 r9 rz hgz hgW hbf
              generalize (((wb.setCell ⟨gz, 0, none⟩ (.bool (wrD d (i : Int) (fullB (1 + k))).lost)).setCell ⟨gz, 1, none⟩ (.slice pa (wrD d (i : Int) (fullB (1 + k))).secs.length ka)).setCell ⟨gz, 2, none⟩ (.slice pc (wrD d (i : Int) (fullB (1 + k))).cache.length kc)) = WW1 at *
              revert HH1; revert VX; revert WW1; revert gz; revert kc; revert pc; revert ka; revert pa
              exact HL1.get
          · go_simp
            have rz0 : (wr.alloc (.cells #[.bool false, .slice none 0 0, .slice none 0 0] 25)).drew.heap[wr.heap.size]? = some (.cells #[.bool false, .slice none 0 0, .slice none 0 0] 25 (0, 0)) := heap_alloc_new wr _
            have hbz : Below wr.heap.size wr (wr.alloc (.cells #[.bool false, .slice none 0 0, .slice none 0 0] 25)).drew := by go_grown
            have hgz0 : wr.heap.size < (wr.alloc (.cells #[.bool false, .slice none 0 0, .slice none 0 0] 25)).drew.heap.size := by simp
            refine hK _ _ hbz ?_
            clear hK K
            try simp only [Act.put, List.setIfInBounds_toArray, List.set_cons_zero, List.set_cons_succ]
            generalize (wr.alloc (.cells #[.bool false, .slice none 0 0, .slice none 0 0] 25)).drew = wz0 at *
            refine walkH_do rfl (fun K hK => ?_)
            go_simp
            refine (full_any (1 + k) (unhide HBY) _).mono ?_
            rintro e wz ⟨rfl, bz⟩
            have hbf : Below wr.heap.size wr wz := bt hbz bz
            have rz : wz.heap[wr.heap.size]? = some (.cells #[.bool false, .slice none 0 0, .slice none 0 0] 25 (0, 0)) := (bz.block _ hgz0).trans rz0
            have hgz : wr.heap.size < wz.heap.size := Nat.lt_of_lt_of_le hgz0 bz.size
            refine hK _ _ hbf ?_
            clear hK K bz hbz rz0 hgz0
            try simp only [Act.put, List.setIfInBounds_toArray, List.set_cons_zero, List.set_cons_succ]
            have hgW : wr.heap.size ≤ wr.heap.size := Nat.le_refl _
            repeat (refine walkH_read (by rfl) (by (intro gx; go_simp; try (with_reducible rfl))) ?_; try simp only [Act.put, List.setIfInBounds_toArray, List.set_cons_zero, List.set_cons_succ])
            refine walkH_do rfl (fun K hK => ?_)
            go_simp
            rw [unhide EBL]
            refine (diskWrite_any d _ _ _ _ _ _ (i : Int) (fullB (1 + k)) _ ((unhide HS).below hbf) ((unhide HC).below hbf) (by rw [unhide ELS]; exact ((unhide HWS).fit (by decide) (Nat.le_of_lt (unhide HCL))).1) (by rw [unhide ELC]; exact ((unhide HWS).fit (by decide) (Nat.le_of_lt (unhide HCL))).2)).mono ?_
            rintro e wb ⟨v, he, O, bb⟩
            rw [((unhide HWS).writes (by decide) (by decide) (unhide HCL) (unhide HI))] at he O
            obtain ⟨pa, ka, pc, kc, ev, -, -⟩ := O.read
            subst ev
            subst he
            have hbb : Below wr.heap.size wr wb := bt hbf bb
            refine hK _ _ hbb ?_
            clear hK K
            try simp only [Act.put, List.setIfInBounds_toArray, List.set_cons_zero, List.set_cons_succ]
            have r9 : wb.heap[wr.heap.size]? = some (.cells #[.bool false, .slice none 0 0, .slice none 0 0] 25 (0, 0)) := (bb.block wr.heap.size hgz).trans rz
            obtain ⟨d0, d1, d2⟩ := box_dsk r9
            have f0 := dsk_free r9 0
            have f1 := dsk_free r9 1
            have f2 := dsk_free r9 2
            have hO9 := O.put hgz (.bool (wrD d (i : Int) (fullB (1 + k))).lost) (.slice pa (wrD d (i : Int) (fullB (1 + k))).secs.length ka) (.slice pc (wrD d (i : Int) (fullB (1 + k))).cache.length kc)
            have hB9 := below_put hbb hgW (.bool (wrD d (i : Int) (fullB (1 + k))).lost) (.slice pa (wrD d (i : Int) (fullB (1 + k))).secs.length ka) (.slice pc (wrD d (i : Int) (fullB (1 + k))).cache.length kc)
            have hR9 := dsk_put (x' := .bool (wrD d (i : Int) (fullB (1 + k))).lost) (y' := .slice pa (wrD d (i : Int) (fullB (1 + k))).secs.length ka) (z' := .slice pc (wrD d (i : Int) (fullB (1 + k))).cache.length kc) r9
            have hgb : wr.heap.size < wb.heap.size := Nat.lt_of_lt_of_le hgz bb.size
            clear bb O
            repeat (refine walkH_read (by rfl) (by (intro gx; go_simp; try (with_reducible rfl))) ?_; try simp only [Act.put, List.setIfInBounds_toArray, List.set_cons_zero, List.set_cons_succ])
            refine walkH_do rfl (fun K hK => ?_)
            go_simp
            refine hK _ _ hB9 ?_
            clear hK K
            try simp only [Act.put, List.setIfInBounds_toArray, List.set_cons_zero, List.set_cons_succ]
            repeat (refine walkH_read (by rfl) (by (intro gx; go_simp; try (with_reducible rfl))) ?_; try simp only [Act.put, List.setIfInBounds_toArray, List.set_cons_zero, List.set_cons_succ])
            refine walkH_nil ?_
            refine NoPanic.normal ?_
            have VX : Hid (DVar (((wb.setCell ⟨wr.heap.size, 0, none⟩ (.bool (wrD d (i : Int) (fullB (1 + k))).lost)).setCell ⟨wr.heap.size, 1, none⟩ (.slice pa (wrD d (i : Int) (fullB (1 + k))).secs.length ka)).setCell ⟨wr.heap.size, 2, none⟩ (.slice pc (wrD d (i : Int) (fullB (1 + k))).cache.length kc)) w.heap.size wr.heap.size (wrD d (i : Int) (fullB (1 + k)))) := hide ⟨⟨pa, ka, pc, kc, hR9, hO9.readAs.1, hO9.readAs.2⟩, Nat.le_trans hsW1 hgW, by simpa using hgb⟩
            have HH1 := hide hB9
            clear hbb hB9 hO9 hR9 hgb d0 d1 d2 f0 f1 f2 r9 rz hgz hgW hbf
            generalize (((wb.setCell ⟨wr.heap.size, 0, none⟩ (.bool (wrD d (i : Int) (fullB (1 + k))).lost)).setCell ⟨wr.heap.size, 1, none⟩ (.slice pa (wrD d (i : Int) (fullB (1 + k))).secs.length ka)).setCell ⟨wr.heap.size, 2, none⟩ (.slice pc (wrD d (i : Int) (fullB (1 + k))).cache.length kc)) = WW1 at *
            obtain ⟨gz, egz⟩ : ∃ gz, gz = wr.heap.size := ⟨_, rfl⟩
            rw [← egz] at VX ⊢
            clear egz
            revert HH1; revert VX; revert WW1; revert gz; revert kc; revert pc; revert ka; revert pa
            exact HL1.get
        case prf =>
          intro pa ka pc kc gw1 WW1 VX HH1
          clear k0 k1 k2
          replace VA := hide ((unhide VA).below (unhide HH1))
          replace VW := hide ((unhide VW).below (unhide HH1))
          replace VM := hide ((unhide VM).below (unhide HH1))
          replace HB := hide (bt (unhide HB) (unhide HH1))
          clear HS HC EBL ELS ELC HH1 hsW1
          have HR2 : Hid ((wrD d (i : Int) (fullB (1 + k))).cache.length ≤ k + 1 ∧ CR (wrD d (i : Int) (fullB (1 + k))) old (fSet (i * 256 + (1 + k)) f)) := hide ⟨by rw [wrD_len]; have := (unhide HR).1; omega, (unhide HR).2.write (unhide HI) (unhide HBY)⟩
          generalize (wrD d (i : Int) (fullB (1 + k))) = q at *
          go_upto_region 15 with (go_at_call 12; refine (num_any _ _).mono ?_; rintro e w' ⟨rfl, hw'⟩; rw [hw']; clear hw' w')
          obtain ⟨⟨sa, sc, ca, cc, hbx, hS, hC⟩, hlt⟩ := unhide VX
          obtain ⟨x0, x1, x2⟩ := box_dsk hbx
          obtain ⟨⟨sb, sd, cb, cd, hbt, hT, hD⟩, hlu⟩ := unhide VA
          obtain ⟨y0, y1, y2⟩ := box_dsk hbt
          have q0 := dsk_free hbt 0
          have q1 := dsk_free hbt 1
          have q2 := dsk_free hbt 2
          clear hbx hlt hbt hT hD hlu
          go_upto_region 16 with fail
          have hVT := (unhide VA).put hS hC
          replace VW := hide ((unhide VW).putOther (unhide VA) (unhide HN) (.bool q.lost) (.slice sa q.secs.length sc) (.slice ca q.cache.length cc))
          replace VM := hide ((unhide VM).putOther (unhide VA) (unhide HNM).1 (.bool q.lost) (.slice sa q.secs.length sc) (.slice ca q.cache.length cc))
          replace HB := hide (below_put (unhide HB) (unhide VA).lt.1 (.bool q.lost) (.slice sa q.secs.length sc) (.slice ca q.cache.length cc))
          replace VA := hide hVT
          clear hVT x0 x1 x2 y0 y1 y2 q0 q1 q2 hS hC
          generalize ((((WW1).setCell ⟨ga, 0, none⟩ (.bool q.lost)).setCell ⟨ga, 1, none⟩ (.slice sa q.secs.length sc)).setCell ⟨ga, 2, none⟩ (.slice ca q.cache.length cc)) = WS1 at *
          clear VX HWS
          have hpq : i * 256 + (1 + k) < 768 := by have := unhide HI; have := unhide HK; omega
          have c1 := (unhide VM).cell hpq
          have f1 := dsk_free (unhide VM) (i * 256 + (1 + k))
          have hi3 : (i : Int) < 3 := by have := unhide HI; omega
          obtain ⟨z0, ez0⟩ : ∃ z0, z0 = f (i * 256 + (1 + k)) := ⟨_, rfl⟩
          rw [← ez0] at c1
          clear ez0
          have HPQ := hide hpq
          clear hpq
          go_upto_region 17 with fail
          have hVM := (unhide VM).set _ (unhide HPQ)
          replace VA := hide ((unhide VA).chg (w' := WS1.setCell ⟨gm, i * 256 + (1 + k), none⟩ (.bool true)) (unhide HNM).1.symm (fun o s => (unhide VM).noStr o s) (fun j hj => Below.heap_setCell WS1 ⟨gm, i * 256 + (1 + k), none⟩ (.bool true) j hj) (by simp))
          replace VW : Hid (BVar (WS1.setCell ⟨gm, i * 256 + (1 + k), none⟩ (.bool true)) gw old) := hide ((Below.heap_setCell WS1 ⟨gm, i * 256 + (1 + k), none⟩ (.bool true) gw (unhide HNM).2.symm).trans (unhide VW))
          replace HB := hide ((unhide HB).setCell (p := ⟨gm, i * 256 + (1 + k), none⟩) (unhide HGM) (.bool true))
          replace VM := hide hVM
          clear hVM c1 f1 hi3 HPQ HR
          generalize (WS1.setCell ⟨gm, i * 256 + (1 + k), none⟩ (.bool true)) = WS2 at *
          generalize fSet (i * 256 + (1 + k)) f = f2 at *
          go_cut [83] from 80 to 83 (fun tv wr => (∃ c : Bool, tv = .bool c) ∧ Hid (DVar wr w.heap.size ga q) ∧ Hid (BVar wr gw old) ∧ Hid (MayAt wr gm f2) ∧ Hid (Below w.heap.size w wr))
          case first =>
            go_wp2
            go_meet
            case rel => exact ⟨⟨_, rfl⟩, VA, VW, VM, HB⟩
          case rest =>
            clear VA VW VM HB
            obtain ⟨⟨c, rfl⟩, VA, VW, VM, HB⟩ := hcut
            go_upto_if 83 with fail
            generalize wc = WC at *
            by_cases hcc : True
            · cases c
              · go_wp2
                go_roundw
                case rel => exact ⟨k + 1, q, old, f2, by have := unhide HKN; omega, by have := unhide HK; omega, by go_num, HR2, VA, VW, VM, HB⟩
                case measure => simp [intOf]; omega
              · obtain ⟨ws, hws⟩ := (unhide HR2).2.1
                have HWS := hide hws
                have hqc : q.cache.length ≤ 256 := by have := (unhide HR2).1; have := unhide HK; omega
                have HQC := hide hqc
                clear hqc hws
                obtain ⟨⟨sa, sc, ca, cc, hbx, hS, hC⟩, hlt⟩ := unhide VA
                obtain ⟨x0, x1, x2⟩ := box_dsk hbx
                go_wp2_with fail
                refine (diskFlush_any q _ _ _ _ _ _ _ hS hC ((unhide HWS).fit (by decide) (unhide HQC)).1 ((unhide HWS).fit (by decide) (unhide HQC)).2).mono ?_
                rintro e wr7 ⟨v, he, O, b7⟩
                rw [((unhide HWS).flushes (by decide) (by decide) (unhide HQC))] at he O
                obtain ⟨pa7, ka7, pc7, kc7, ev, hS7, hC7⟩ := O.read
                subst ev
                subst he
                replace VA := hide ((unhide VA).below b7)
                replace VW := hide ((unhide VW).below b7)
                replace VM := hide ((unhide VM).below b7)
                replace HB := hide (bt (unhide HB) b7)
                clear b7 hbx hS hC hlt x0 x1 x2 O
                have NE := hide (Nat.ne_of_gt (unhide VA).lt.2)
                go_upto_region 19 with fail
                have VY : Hid (DVar (wr7.alloc (.cells #[.bool (flD q).lost, .slice pa7 (flD q).secs.length ka7, .slice pc7 (flD q).cache.length kc7] 25)) w.heap.size wr7.heap.size (flD q)) := hide ⟨⟨pa7, ka7, pc7, kc7, heap_alloc_new wr7 _, hS7.below (below_alloc _ _), hC7.below (below_alloc _ _)⟩, (unhide HB).size, by simp⟩
                have bb7 := below_alloc wr7 (.cells #[.bool (flD q).lost, .slice pa7 (flD q).secs.length ka7, .slice pc7 (flD q).cache.length kc7] 25)
                replace VA := hide ((unhide VA).below bb7)
                replace VW := hide ((unhide VW).below bb7)
                replace VM := hide ((unhide VM).below bb7)
                replace HB := hide (bt (unhide HB) bb7)
                clear bb7 hS7 hC7
                generalize (wr7.alloc (.cells #[.bool (flD q).lost, .slice pa7 (flD q).secs.length ka7, .slice pc7 (flD q).cache.length kc7] 25)) = WD7 at *
                go_upto_region 21 with (go_at_call 12; refine (num_any _ _).mono ?_; rintro e w' ⟨rfl, hw'⟩; rw [hw']; clear hw' w')
                obtain ⟨⟨sa, sc, ca, cc, hbx, hS, hC⟩, hlt⟩ := unhide VY
                obtain ⟨x0, x1, x2⟩ := box_dsk hbx
                obtain ⟨⟨sb, sd, cb, cd, hbt, hT, hD⟩, hlu⟩ := unhide VA
                obtain ⟨y0, y1, y2⟩ := box_dsk hbt
                have q0 := dsk_free hbt 0
                have q1 := dsk_free hbt 1
                have q2 := dsk_free hbt 2
                clear hbx hlt hbt hT hD hlu
                go_upto_region 22 with fail
                have hVT := (unhide VA).put hS hC
                replace VW := hide ((unhide VW).putOther (unhide VA) (unhide HN) (.bool (flD q).lost) (.slice sa (flD q).secs.length sc) (.slice ca (flD q).cache.length cc))
                replace VM := hide ((unhide VM).putOther (unhide VA) (unhide HNM).1 (.bool (flD q).lost) (.slice sa (flD q).secs.length sc) (.slice ca (flD q).cache.length cc))
                replace HB := hide (below_put (unhide HB) (unhide VA).lt.1 (.bool (flD q).lost) (.slice sa (flD q).secs.length sc) (.slice ca (flD q).cache.length cc))
                replace VA := hide hVT
                clear hVT x0 x1 x2 y0 y1 y2 q0 q1 q2 hS hC
                generalize ((((WD7).setCell ⟨ga, 0, none⟩ (.bool (flD q).lost)).setCell ⟨ga, 1, none⟩ (.slice sa (flD q).secs.length sc)).setCell ⟨ga, 2, none⟩ (.slice ca (flD q).cache.length cc)) = WS3 at *
                clear VY HWS NE
                go_upto_region 23 with (refine step_store_may rfl (.tmp 10) (.tmp 93) rfl gm rfl (fun _ => false) f2 rfl ?_ ?_; exact unhide VM)
                simp only [Act.put]
                have hVM2 := (unhide VM).setAll (q := fun _ => false)
                replace VA := hide ((unhide VA).chg (w' := WS3.setCells gm 0 (mayC (fun _ => false))) (unhide HNM).1.symm (fun o s => (unhide VM).noStr o s) (fun j hj => setCells_other _ (mayC (fun _ => false)) 0 _ j hj) (by rw [(setCells_rest _ _ _ _).1]; exact Nat.le_refl _))
                replace VW : Hid (BVar (WS3.setCells gm 0 (mayC (fun _ => false))) gw old) := hide ((setCells_other _ (mayC (fun _ => false)) 0 _ gw (unhide HNM).2.symm).trans (unhide VW))
                replace HB := hide (below_setCells (unhide HGM) (mayC (fun _ => false)) 0 _ _ (unhide HB))
                replace VM := hide hVM2
                clear hVM2
                generalize (WS3.setCells gm 0 (mayC (fun _ => false))) = WS4 at *
                obtain ⟨vs, hv1, hv2⟩ := (unhide HR2).2.flush
                have HV1 := hide hv1
                have HV2 := hide hv2
                have HFC := hide (show (flD q).cache.length ≤ 256 from Nat.zero_le _)
                have hol : old.length = 3 := (unhide HR2).2.2.1
                rw [← mixL_zero vs old hol] at VW
                clear hv1 hv2 hol
                go_wp2
                go_loopw [17] (fun jv wr => ∃ j : Nat, j ≤ 3 ∧ jv = .int .i64 j ∧ Hid (DVar wr w.heap.size ga (flD q)) ∧ Hid (BVar wr gw (mixL vs old j)) ∧ Hid (MayAt wr gm (fun _ => false)) ∧ Hid (Below w.heap.size w wr)) (fun jv _ => 3 - (intOf jv).toNat)
                case atStart => exact ⟨0, by decide, rfl, VA, VW, VM, HB⟩
                case round =>
                  clear VA VW VM HB
                  obtain ⟨j, hj, rfl, VA, VW, VM, HB⟩ := hrel
                  by_cases hj3 : j < 3
                  · have hj3' : (j : Int) < 3 := by omega
                    have HJ3 := hide hj3
                    obtain ⟨⟨sa, sc, ca, cc, hbx, hS, hC⟩, hlt⟩ := unhide VA
                    obtain ⟨x0, x1, x2⟩ := box_dsk hbx
                    go_wp2_with fail
                    refine (diskRead_any (flD q) _ _ _ _ _ _ (j : Int) _ hS hC (by have := ((unhide HV1).fit (by decide) (unhide HFC)).1; omega) (by have := ((unhide HV1).fit (by decide) (unhide HFC)).2; omega)).mono ?_
                    rintro e wr8 ⟨he, b8⟩
                    rw [((unhide HV1).reads (by decide) (by decide) (unhide HFC) (unhide HJ3))] at he
                    subst he
                    replace VA := hide ((unhide VA).below b8)
                    replace VW := hide ((unhide VW).below b8)
                    replace VM := hide ((unhide VM).below b8)
                    replace HB := hide (bt (unhide HB) b8)
                    clear b8 hbx hS hC hlt x0 x1 x2
                    obtain ⟨z, ez, hz⟩ : ∃ z : Nat, z = vs.getD j 0 ∧ z < 256 := ⟨_, rfl, (unhide HV1).byte j⟩
                    simp only [← ez]
                    have EZ := hide ez
                    clear ez
                    have hsz := fullB_size z
                    have hp0 : 0 < (fullB z).size := by rw [hsz]; decide
                    have hfb := full_first z hz hp0
                    have c1 := (unhide VW).cell j (by rw [mixL_len]; exact hj3)
                    have f1 := dsk_free (unhide VW) j
                    obtain ⟨z0, ez0⟩ : ∃ z0, z0 = (mixL vs old j).getD j 0 := ⟨_, rfl⟩
                    rw [← ez0] at c1
                    clear ez0
                    have HZ := hide hz
                    clear hz
                    go_wp2
                    go_roundw
                    case rel =>
                      have hv := (unhide VW).set j z
                      rw [show (mixL vs old j).set j z = mixL vs old (j + 1) by rw [unhide EZ]; exact mixL_succ vs old j (unhide HJ3)] at hv
                      exact ⟨j + 1, by omega, by go_num, hide ((unhide VA).setOther (unhide VW) j _), hide hv, hide ((Below.heap_setCell _ ⟨gw, j, none⟩ _ gm (unhide HNM).2).trans (unhide VM)), hide ((unhide HB).setCell (p := ⟨gw, j, none⟩) (unhide HG) _)⟩
                    case measure => simp [intOf]; omega
                  · obtain rfl : j = 3 := by omega
                    clear hj3 hj
                    rw [mixL_all vs old (unhide HV1).2.2.2.2.1] at VW
                    go_wp2
                    go_roundw
                    case rel => exact ⟨k + 1, flD q, vs, _, by have := unhide HKN; omega, by have := unhide HK; omega, by go_num, hide ⟨Nat.zero_le _, CR.again (unhide HV1) (unhide HV2) _⟩, VA, VW, VM, HB⟩
                    case measure => simp [intOf]; omega
            · exact absurd trivial hcc
      · by_cases hkn : k < n
        · have hk6 : k = 16 := by omega
          subst hk6
          go_wp2
          go_meet
          case rel => exact ⟨d, old, f, HR, VA, VW, VM, HB⟩
        · go_wp2
          go_meet
          case rel => exact ⟨d, old, f, hide ⟨by have := (unhide HR).1; omega, (unhide HR).2⟩, VA, VW, VM, HB⟩
  case rest =>
    clear VA VW VM HB
    obtain ⟨d, old, f, HR, VA, VW, VM, HB⟩ := hcut
    generalize wc = WC at *
    obtain ⟨ws, hws⟩ := (unhide HR).2.1
    have HWS := hide hws
    have HQC := hide (show d.cache.length ≤ 256 by have := (unhide HR).1; omega)
    clear hws
    obtain ⟨⟨sa, sc, ca, cc, hbx, hS, hC⟩, hlt⟩ := unhide VA
    obtain ⟨x0, x1, x2⟩ := box_dsk hbx
    go_wp2_with fail
    refine (diskCrash_any d _ _ _ _ _ _ 0 _ hS hC ((unhide HWS).fit (by decide) (unhide HQC)).1 ((unhide HWS).fit (by decide) (unhide HQC)).2).mono ?_
    rintro e wr20 ⟨v, he, O, b20⟩
    rw [((unhide HR).2.crash (unhide HQC) 0)] at he O
    obtain ⟨pa20, ka20, pc20, kc20, ev, hS20, hC20⟩ := O.read
    subst ev
    subst he
    replace VA := hide ((unhide VA).below b20)
    replace VW := hide ((unhide VW).below b20)
    replace VM := hide ((unhide VM).below b20)
    replace HB := hide (bt (unhide HB) b20)
    clear b20 hbx hS hC hlt x0 x1 x2 O
    go_upto_region 31 with fail
    have V20 : Hid (DVar (wr20.alloc (.cells #[.bool (crD d 0).lost, .slice pa20 (crD d 0).secs.length ka20, .slice pc20 (crD d 0).cache.length kc20] 25)) w.heap.size wr20.heap.size (crD d 0)) := hide ⟨⟨pa20, ka20, pc20, kc20, heap_alloc_new wr20 _, hS20.below (below_alloc _ _), hC20.below (below_alloc _ _)⟩, (unhide HB).size, by simp⟩
    have bb20 := below_alloc wr20 (.cells #[.bool (crD d 0).lost, .slice pa20 (crD d 0).secs.length ka20, .slice pc20 (crD d 0).cache.length kc20] 25)
    replace VA := hide ((unhide VA).below bb20)
    replace VW := hide ((unhide VW).below bb20)
    replace VM := hide ((unhide VM).below bb20)
    replace HB := hide (bt (unhide HB) bb20)
    clear bb20 hS20 hC20
    generalize (wr20.alloc (.cells #[.bool (crD d 0).lost, .slice pa20 (crD d 0).secs.length ka20, .slice pc20 (crD d 0).cache.length kc20] 25)) = WD20 at *
    obtain ⟨⟨sa, sc, ca, cc, hbx, hS, hC⟩, hlt⟩ := unhide VA
    obtain ⟨x0, x1, x2⟩ := box_dsk hbx
    go_wp2_with fail
    refine (diskCrash_any d _ _ _ _ _ _ 65535 _ hS hC ((unhide HWS).fit (by decide) (unhide HQC)).1 ((unhide HWS).fit (by decide) (unhide HQC)).2).mono ?_
    rintro e wr22 ⟨v, he, O, b22⟩
    rw [((unhide HR).2.crash (unhide HQC) 65535)] at he O
    obtain ⟨pa22, ka22, pc22, kc22, ev, hS22, hC22⟩ := O.read
    subst ev
    subst he
    replace VA := hide ((unhide VA).below b22)
    replace VW := hide ((unhide VW).below b22)
    replace VM := hide ((unhide VM).below b22)
    replace V20 := hide ((unhide V20).below b22)
    replace HB := hide (bt (unhide HB) b22)
    clear b22 hbx hS hC hlt x0 x1 x2 O
    go_upto_region 32 with fail
    have V22 : Hid (DVar (wr22.alloc (.cells #[.bool (crD d 65535).lost, .slice pa22 (crD d 65535).secs.length ka22, .slice pc22 (crD d 65535).cache.length kc22] 25)) w.heap.size wr22.heap.size (crD d 65535)) := hide ⟨⟨pa22, ka22, pc22, kc22, heap_alloc_new wr22 _, hS22.below (below_alloc _ _), hC22.below (below_alloc _ _)⟩, (unhide HB).size, by simp⟩
    have bb22 := below_alloc wr22 (.cells #[.bool (crD d 65535).lost, .slice pa22 (crD d 65535).secs.length ka22, .slice pc22 (crD d 65535).cache.length kc22] 25)
    replace VA := hide ((unhide VA).below bb22)
    replace VW := hide ((unhide VW).below bb22)
    replace VM := hide ((unhide VM).below bb22)
    replace V20 := hide ((unhide V20).below bb22)
    replace HB := hide (bt (unhide HB) bb22)
    clear bb22 hS22 hC22
    generalize (wr22.alloc (.cells #[.bool (crD d 65535).lost, .slice pa22 (crD d 65535).secs.length ka22, .slice pc22 (crD d 65535).cache.length kc22] 25)) = WD22 at *
    obtain ⟨⟨sa, sc, ca, cc, hbx, hS, hC⟩, hlt⟩ := unhide VA
    obtain ⟨x0, x1, x2⟩ := box_dsk hbx
    go_wp2_with fail
    refine (diskFlush_any d _ _ _ _ _ _ _ hS hC ((unhide HWS).fit (by decide) (unhide HQC)).1 ((unhide HWS).fit (by decide) (unhide HQC)).2).mono ?_
    rintro e wr24 ⟨v, he, O, b24⟩
    rw [((unhide HWS).flushes (by decide) (by decide) (unhide HQC))] at he O
    obtain ⟨pa24, ka24, pc24, kc24, ev, hS24, hC24⟩ := O.read
    subst ev
    subst he
    replace VA := hide ((unhide VA).below b24)
    replace VW := hide ((unhide VW).below b24)
    replace VM := hide ((unhide VM).below b24)
    replace V20 := hide ((unhide V20).below b24)
    replace V22 := hide ((unhide V22).below b24)
    replace HB := hide (bt (unhide HB) b24)
    clear b24 hbx hS hC hlt x0 x1 x2 O
    go_upto_region 33 with fail
    have V24 : Hid (DVar (wr24.alloc (.cells #[.bool (flD d).lost, .slice pa24 (flD d).secs.length ka24, .slice pc24 (flD d).cache.length kc24] 25)) w.heap.size wr24.heap.size (flD d)) := hide ⟨⟨pa24, ka24, pc24, kc24, heap_alloc_new wr24 _, hS24.below (below_alloc _ _), hC24.below (below_alloc _ _)⟩, (unhide HB).size, by simp⟩
    have bb24 := below_alloc wr24 (.cells #[.bool (flD d).lost, .slice pa24 (flD d).secs.length ka24, .slice pc24 (flD d).cache.length kc24] 25)
    replace VA := hide ((unhide VA).below bb24)
    replace VW := hide ((unhide VW).below bb24)
    replace VM := hide ((unhide VM).below bb24)
    replace V20 := hide ((unhide V20).below bb24)
    replace V22 := hide ((unhide V22).below bb24)
    replace HB := hide (bt (unhide HB) bb24)
    clear bb24 hS24 hC24
    generalize (wr24.alloc (.cells #[.bool (flD d).lost, .slice pa24 (flD d).secs.length ka24, .slice pc24 (flD d).cache.length kc24] 25)) = WD24 at *
    obtain ⟨⟨sa, sc, ca, cc, hbx, hS, hC⟩, hlt⟩ := unhide VA
    obtain ⟨x0, x1, x2⟩ := box_dsk hbx
    go_wp2_with fail
    refine (diskCrash_any d _ _ _ _ _ _ kp _ hS hC ((unhide HWS).fit (by decide) (unhide HQC)).1 ((unhide HWS).fit (by decide) (unhide HQC)).2).mono ?_
    rintro e wr26 ⟨v, he, O, b26⟩
    rw [((unhide HR).2.crash (unhide HQC) kp)] at he O
    obtain ⟨pa26, ka26, pc26, kc26, ev, hS26, hC26⟩ := O.read
    subst ev
    subst he
    replace VA := hide ((unhide VA).below b26)
    replace VW := hide ((unhide VW).below b26)
    replace VM := hide ((unhide VM).below b26)
    replace V20 := hide ((unhide V20).below b26)
    replace V22 := hide ((unhide V22).below b26)
    replace V24 := hide ((unhide V24).below b26)
    replace HB := hide (bt (unhide HB) b26)
    clear b26 hbx hS hC hlt x0 x1 x2 O
    go_upto_region 34 with fail
    have V26 : Hid (DVar (wr26.alloc (.cells #[.bool (crD d kp).lost, .slice pa26 (crD d kp).secs.length ka26, .slice pc26 (crD d kp).cache.length kc26] 25)) w.heap.size wr26.heap.size (crD d kp)) := hide ⟨⟨pa26, ka26, pc26, kc26, heap_alloc_new wr26 _, hS26.below (below_alloc _ _), hC26.below (below_alloc _ _)⟩, (unhide HB).size, by simp⟩
    have bb26 := below_alloc wr26 (.cells #[.bool (crD d kp).lost, .slice pa26 (crD d kp).secs.length ka26, .slice pc26 (crD d kp).cache.length kc26] 25)
    replace VA := hide ((unhide VA).below bb26)
    replace VW := hide ((unhide VW).below bb26)
    replace VM := hide ((unhide VM).below bb26)
    replace V20 := hide ((unhide V20).below bb26)
    replace V22 := hide ((unhide V22).below bb26)
    replace V24 := hide ((unhide V24).below bb26)
    replace HB := hide (bt (unhide HB) bb26)
    clear bb26 hS26 hC26
    generalize (wr26.alloc (.cells #[.bool (crD d kp).lost, .slice pa26 (crD d kp).secs.length ka26, .slice pc26 (crD d kp).cache.length kc26] 25)) = WD26 at *
    clear VA
    generalize wr20.heap.size = g20 at *
    generalize wr22.heap.size = g22 at *
    generalize wr24.heap.size = g24 at *
    generalize wr26.heap.size = g26 at *
    have HS3 := hide (((unhide HR).2.crash_st 65535).2)
    obtain ⟨⟨sa, sc, ca, cc, hbx, hS, hC⟩, hlt⟩ := unhide V22
    obtain ⟨x0, x1, x2⟩ := box_dsk hbx
    obtain ⟨⟨sb, sd, cb, cd, hby, hT, hD⟩, hlu⟩ := unhide V24
    obtain ⟨y0, y1, y2⟩ := box_dsk hby
    clear hbx hby hlt hlu
    go_wp2_with (go_at_call 12; refine (num_any _ _).mono ?_; rintro e w' ⟨rfl, hw'⟩; rw [hw']; clear hw' w')
    refine (sameDisk_any (crD d 65535) (flD d) _ _ _ _ _ _ _ _ _ _ _ _ _ hS hC hT hD (by rw [unhide HS3]; decide) (Nat.zero_le _)).mono ?_
    rintro e wf1 ⟨rfl, bf1⟩
    rw [decide_eq_true (show SameD (crD d 65535) (flD d) by rw [all_same]; exact sameD_refl _)]
    clear x0 x1 x2 y0 y1 y2 hS hC hT hD
    replace V20 := hide ((unhide V20).below bf1)
    replace V26 := hide ((unhide V26).below bf1)
    replace VW := hide ((unhide VW).below bf1)
    replace VM := hide ((unhide VM).below bf1)
    replace HB := hide (bt (unhide HB) bf1)
    clear bf1
    clear V22 V24 HS3
    go_wp2
    go_loopw [28] (fun jv wr => ∃ j : Nat, j ≤ 3 ∧ jv = .int .i64 j ∧ Hid (DVar wr w.heap.size g20 (crD d 0)) ∧ Hid (DVar wr w.heap.size g26 (crD d kp)) ∧ Hid (BVar wr gw old) ∧ Hid (MayAt wr gm f) ∧ Hid (Below w.heap.size w wr)) (fun jv _ => 3 - (intOf jv).toNat)
    case atStart => exact ⟨0, by decide, rfl, V20, V26, VW, VM, HB⟩
    case round =>
      clear V20 V26 VW VM HB
      obtain ⟨j, hj, rfl, V20, V26, VW, VM, HB⟩ := hrel
      by_cases hj3 : j < 3
      · have hj3' : (j : Int) < 3 := by omega
        have HJ3 := hide hj3
        obtain ⟨y, hy, hrd, hor⟩ := (unhide HR).2.crash_read kp j hj3
        have HRD := hide hrd
        have HOR := hide hor
        clear hrd hor
        obtain ⟨o, eo, ho⟩ : ∃ o : Nat, o = old.getD j 0 ∧ o < 256 := ⟨_, rfl, (unhide HR).2.old_lt j⟩
        have hnr := (unhide HR).2.none_read j hj3
        rw [← eo] at hnr
        have HNR := hide hnr
        have EO := hide eo
        clear hnr eo
        obtain ⟨⟨sa, sc, ca, cc, hbx, hS, hC⟩, hlt⟩ := unhide V20
        obtain ⟨x0, x1, x2⟩ := box_dsk hbx
        go_wp2_with fail
        refine (diskRead_any (crD d 0) _ _ _ _ _ _ (j : Int) _ hS hC (by have := ((unhide HR).2.crash_fit 0).1; omega) (by have := ((unhide HR).2.crash_fit 0).2; omega)).mono ?_
        rintro e wr1 ⟨he, b1⟩
        rw [(unhide HNR)] at he
        subst he
        replace V20 := hide ((unhide V20).below b1)
        replace V26 := hide ((unhide V26).below b1)
        replace VW := hide ((unhide VW).below b1)
        replace VM := hide ((unhide VM).below b1)
        replace HB := hide (bt (unhide HB) b1)
        clear b1 hbx hS hC hlt x0 x1 x2
        obtain ⟨⟨sa, sc, ca, cc, hbx, hS, hC⟩, hlt⟩ := unhide V26
        obtain ⟨x0, x1, x2⟩ := box_dsk hbx
        go_wp2_with fail
        refine (diskRead_any (crD d kp) _ _ _ _ _ _ (j : Int) _ hS hC (by have := ((unhide HR).2.crash_fit kp).1; omega) (by have := ((unhide HR).2.crash_fit kp).2; omega)).mono ?_
        rintro e wr2 ⟨he, b2⟩
        rw [(unhide HRD)] at he
        subst he
        replace V20 := hide ((unhide V20).below b2)
        replace V26 := hide ((unhide V26).below b2)
        replace VW := hide ((unhide VW).below b2)
        replace VM := hide ((unhide VM).below b2)
        replace HB := hide (bt (unhide HB) b2)
        clear b2 hbx hS hC hlt x0 x1 x2
        have HO := hide ho
        have HY := hide hy
        have hc1 := (unhide VW).cell j (by rw [(unhide HR).2.2.1]; exact hj3)
        rw [← unhide EO] at hc1
        have hpq : j * 256 + y < 768 := by have := unhide HJ3; have := unhide HY; omega
        have hc2 := (unhide VM).cell hpq
        have hsz := fullB_size y
        have hp0 : 0 < (fullB y).size := by rw [hsz]; decide
        have hfb := full_first y hy hp0
        have hy' : (y : Int) < 256 := by omega
        have t1 : ((fullB o).toList != (fullB o).toList) = false := by simp
        have t2 : ((fullB y).toList != (fullB y).toList) = false := by simp
        have gc1 := grown_cell hc1
        clear hc1 ho hy hpq
        go_upto_region 41 with fail
        by_cases hyo : y = o
        · subst hyo
          have t3 : ((y : Int) != (y : Int)) = false := by simp
          clear hc2
          refine wp_region_grows (by kernel_rfl) (by kernel_rfl) ?_
          repeat (first | go_big_quiet_step ((first | (go_at_call 30; exact Calls.grows (full_g _ y (unhide HY))) | (go_at_call 12; exact Calls.grows (num_g _ _)))) | quiet_step ((first | (go_at_call 30; exact Calls.grows (full_g _ y (unhide HY))) | (go_at_call 12; exact Calls.grows (num_g _ _)))))
          refine wpQuiet_nil ?_
          intro gw hw'
          have gb := grown_below hw'
          clear hw'
          replace V20 := hide ((unhide V20).below gb)
          replace V26 := hide ((unhide V26).below gb)
          replace VW := hide ((unhide VW).below gb)
          replace VM := hide ((unhide VM).below gb)
          replace HB := hide (bt (unhide HB) gb)
          clear gb gc1 hfb
          go_wp2
          go_roundw
          case rel => exact ⟨j + 1, by have := unhide HJ3; omega, by go_num, V20, V26, VW, VM, HB⟩
          case measure => simp [intOf]; omega
        · have t3 : ((y : Int) != (o : Int)) = true := by simp; omega
          have hft : f (j * 256 + y) = true := by
            rcases unhide HOR with h | h
            · exact absurd (h.trans (unhide EO).symm) hyo
            · exact h
          rw [hft] at hc2
          have gc2 := grown_cell hc2
          have HYO := hide hyo
          have HFT := hide hft
          clear hc2 hft hyo
          refine wp_region_grows (by kernel_rfl) (by kernel_rfl) ?_
          repeat (first | go_big_quiet_step ((first | (go_at_call 30; exact Calls.grows (full_g _ _ (by first | exact (unhide HY) | exact (unhide HO)))) | (go_at_call 12; exact Calls.grows (num_g _ _)))) | quiet_step ((first | (go_at_call 30; exact Calls.grows (full_g _ _ (by first | exact (unhide HY) | exact (unhide HO)))) | (go_at_call 12; exact Calls.grows (num_g _ _)))))
          refine wpQuiet_nil ?_
          intro gw hw'
          have gb := grown_below hw'
          clear hw'
          replace V20 := hide ((unhide V20).below gb)
          replace V26 := hide ((unhide V26).below gb)
          replace VW := hide ((unhide VW).below gb)
          replace VM := hide ((unhide VM).below gb)
          replace HB := hide (bt (unhide HB) gb)
          clear gb gc1 gc2 hfb
          go_wp2
          go_roundw
          case rel => exact ⟨j + 1, by have := unhide HJ3; omega, by go_num, V20, V26, VW, VM, HB⟩
          case measure => simp [intOf]; omega
      · obtain rfl : j = 3 := by omega
        clear hj3 hj
        go_wp2
        go_ret
        exact ⟨rfl, unhide HB⟩
end Go.Proofs.Ytpmbmhjhclekeaa
