/- Package invert's pairs: besideIdentity. -/
import Derived.Test.YtfeepmjkamdldaaDoorInvW4
import Derived.Test.YtfeepmjkamdldaaDoorInvRef4
namespace Go.Proofs.YtfeepmjkamdldaaDoor
open Go.RowKit
set_option linter.unusedVariables false
set_option linter.unusedSimpArgs false
attribute [local go_sem ↓] Go.wp_at_zero Go.wp_at_succ
/-- a matrix beside the identity, of the first i rows -/
def begF (k : Nat) (E : Nat → Nat → Nat) (i : Nat) : Nat → Nat → Nat := fun r c => if r < i then (if c < k then E r c else if c = k + r then 1 else 0) else 0
theorem begF_zero (k : Nat) (E : Nat → Nat → Nat) : begF k E 0 = fun _ _ => 0 := by
  funext r c
  simp [begF]
theorem begF_step (k : Nat) (E : Nat → Nat → Nat) (i : Nat) : putAt i (k + i) 1 (fun r c => if r = i ∧ c < k then E i c else begF k E i r c) = begF k E (i + 1) := by
  funext r c
  unfold putAt begF
  by_cases h : r = i
  · subst h
    by_cases h2 : c < k
    · simp [h2, show c ≠ k + r by omega]
    · by_cases h3 : c = k + r
      · subst h3
        simp
        intro h; omega
      · simp [h2, h3]
  · by_cases h2 : r < i
    · simp [h, h2, show r < i + 1 by omega]
    · simp [h, h2, show ¬ r < i + 1 by omega]
theorem zero_pair (w : World) : (zeroValue 74).run Tryd.prog w = .ok (.agg (pairC 0 (fun _ _ => 0)).toArray) w :=
  (zero_of_info (P := Tryd.prog) (t := 74) (v := .agg (pairC 0 (fun _ _ => 0)).toArray) (n := 289) (by kernel_rfl)).1 w
theorem build_pair (k : Nat) (w : World) : (Instr.build 74 #[(0, .int .i64 k)]).run Tryd.prog w = .ok (.agg (pairC k (fun _ _ => 0)).toArray) w := by kernel_rfl
/-- a pair as the result of a call -/
theorem res_pair {fn : Func} {t : Tmp} {g k : Nat} {f : Nat → Nat → Nat} {w : World} (hr : fn.results = #[.cell t 74]) (tmps : Array Value) (ht : tmps.getD t undef = .pointer (some ⟨g, 0, none⟩)) (hc : PairAt w g k f) :
    (results fn tmps).run Tryd.prog w = .ok (.agg (pairC k f).toArray) w := by
  obtain ⟨d, hu, hd⟩ := desc_pair
  rw [Array.getD_eq_getD_getElem?] at ht
  simp [results, hr, ht, asAddr, Result.andThen, run_loadVar_mid w g 0 _ _ d hc.range hu hd (by rw [info_pair, pairC_len])]
theorem PairAt.setPart {w : World} {g k r n : Nat} {f : Nat → Nat → Nat} (h : PairAt w g k f) (hr : r < 12) (hn : n ≤ 24) (q : Nat → Nat) : PairAt (w.setCells g (1 + r * 24) ((List.range n).map (fun c => .int .i64 (q c)))) g k (fun i c => if i = r ∧ c < n then q c else f i c) := by
  have hl : ((List.range n).map (fun c => Value.int .i64 (q c))).length = n := by simp
  obtain ⟨C', e1, e2, e3, e4, e5⟩ := setCells_block g ((List.range n).map (fun c => .int .i64 (q c))) (1 + r * 24) w (pairC k f) _ _ h (by rw [hl, pairC_len]; omega)
  rw [pairC_len] at e2
  have : C' = pairC k (fun i c => if i = r ∧ c < n then q c else f i c) := pair_ext e2 (by rw [e3 0 (by omega), pairC_zero]) (fun i c hi hc => by
    by_cases e : i = r ∧ c < n
    · obtain ⟨rfl, hcn⟩ := e
      rw [e5 c (by rw [hl]; exact hcn)]; simp [hcn]
    · have hp : (if i = r ∧ c < n then q c else f i c) = f i c := by rw [if_neg e]
      rw [hp]
      by_cases hlt : 1 + i * 24 + c < 1 + r * 24
      · rw [e3 _ hlt, pairC_at hi hc]
      · rw [e4 _ (by rw [hl]; omega), pairC_at hi hc])
  rw [PairAt, e1, this]
set_option maxRecDepth 100000 in
set_option maxHeartbeats 2000000 in
theorem beside_any (pm : Option Addr) (nm cm : Nat) (M : List (List Int)) (w : World) (hm : MatV w (.agg #[.slice pm nm cm]) M) (hs : SqMay M) :
    Calls Tryd.prog 37 #[.agg #[.slice pm nm cm]] w fun e w' => e = .returned (.agg (pairC nm (begF nm (entry M) nm)).toArray) ∧ Below w.heap.size w w' := by
  obtain ⟨hl, n1, n2, k, b, o, ek, kk1, kk2, rfl, hc⟩ := mat_at hm hs.1
  obtain rfl : nm = k := by rw [← hl, hs.2, ek]
  have HM := hide hm
  have HC := hide hc
  clear hm hc hs hl ek kk1 kk2
  have hz := fun w => zero_pair w
  go_enter Tryd.func37, Tryd.ntmps37
  go_upto_region 1 with fail
  have hbd := fun w => build_pair nm w
  obtain ⟨b0, b1, b2, b3⟩ := three_blocks w (.cells #[.slice (some ⟨b, o, none⟩) nm cm] 26) (.cells (pairC 0 (fun _ _ => 0)).toArray 74) (.cells (pairC 0 (fun _ _ => 0)).toArray 74)
  have P2 : Hid (PairAt (((w.alloc (.cells #[.slice (some ⟨b, o, none⟩) nm cm] 26)).alloc (.cells (pairC 0 (fun _ _ => 0)).toArray 74)).alloc (.cells (pairC 0 (fun _ _ => 0)).toArray 74)) (w.heap.size + 1 + 1) 0 (fun _ _ => 0)) := hide b2
  have P1 : Hid (PairAt (((w.alloc (.cells #[.slice (some ⟨b, o, none⟩) nm cm] 26)).alloc (.cells (pairC 0 (fun _ _ => 0)).toArray 74)).alloc (.cells (pairC 0 (fun _ _ => 0)).toArray 74)) (w.heap.size + 1) 0 (fun _ _ => 0)) := hide b1
  have P0 := hide b0
  have PB := hide b3
  clear b0 b1 b2 b3
  go_upto_region 2 with (refine step_store_pair rfl (.tmp 3) (.tmp 9) rfl (w.heap.size + 1 + 1) nm 0 rfl (fun _ _ => 0) (fun _ _ => 0) rfl ?_ ?_; exact unhide P2)
  have P3 := hide ((unhide P2).setAll (k' := nm) (q := fun _ _ => 0))
  have P4 := hide ((setCells_other (w.heap.size + 1 + 1) (pairC nm (fun _ _ => 0)) 0 _ (w.heap.size + 1) (by omega)).trans (unhide P1))
  have P5 := hide ((setCells_other (w.heap.size + 1 + 1) (pairC nm (fun _ _ => 0)) 0 _ w.heap.size (by omega)).trans (unhide P0))
  have PC := hide (below_setCells (Nat.le_add_right w.heap.size 2) (pairC nm (fun _ _ => 0)) 0 _ _ (unhide PB))
  generalize ((((w.alloc (.cells #[.slice (some ⟨b, o, none⟩) nm cm] 26)).alloc (.cells (pairC 0 (fun _ _ => 0)).toArray 74)).alloc (.cells (pairC 0 (fun _ _ => 0)).toArray 74)).setCells (w.heap.size + 1 + 1) 0 (pairC nm (fun _ _ => 0))) = W at P3 P4 P5 PC ⊢
  clear P0 P1 P2 PB
  simp only [Act.put]
  have c0 := cell_of_one (unhide P5)
  go_wp2
  clear c0
  go_loopw [13] (fun iv wr => ∃ i : Nat, i ≤ nm ∧ iv = .int .i64 i ∧ Hid (PairAt wr (w.heap.size + 1 + 1) nm (begF nm (entry M) i)) ∧ Hid (PairAt wr (w.heap.size + 1) 0 (fun _ _ => 0)) ∧ Hid (Below w.heap.size w wr)) (fun iv _ => nm - (intOf iv).toNat)
  case atStart => exact ⟨0, by omega, rfl, hide (by rw [begF_zero]; exact unhide P3), P4, PC⟩
  case round =>
    obtain ⟨i, hi, rfl, HP, HR, HB⟩ := hrel
    clear P3 P4 P5 PC
    by_cases hlt : i < nm
    · have hlt' : (i : Int) < nm := by omega
      have hi12 : i < 12 := by omega
      have hi12' : (i : Int) < 12 := by omega
      obtain ⟨gm, om, qm, hrow, hcm⟩ := unhide HC i hlt
      have crow := ((unhide HB).cell (cell_lt hrow)).trans hrow
      have hcopy : (Builtin.copy_ #[38, 38] 3 #[.slice (some ⟨w.heap.size + 1 + 1, 1 + i * 24, none⟩) 24 24, .slice (some ⟨gm, om, none⟩) nm qm]).run Tryd.prog wr = .ok (goInt nm) (wr.setCells (w.heap.size + 1 + 1) (1 + i * 24) ((List.range nm).map (fun c => .int .i64 (entry M i c)))) := by
        have hln : ((List.range nm).map (fun c => Value.int .i64 (entry M i c))).length = nm := by simp
        have := run_copy_cells (P := Tryd.prog) wr 38 38 3 3 (w.heap.size + 1 + 1) (1 + i * 24) 24 24 ⟨gm, om, none⟩ nm qm ((List.range nm).map (fun c => .int .i64 (entry M i c))) Tryd.underlying38 (by kernel_rfl) (by rw [hln]; exact (Nat.min_eq_left (by omega)).symm) (fun j v hv => by
            have hj : j < nm := by have := (List.getElem?_eq_some_iff.1 hv).1; rwa [hln] at this
            simp [hj] at hv
            rw [addr_add, ← hv]
            exact ((unhide HB).cell (cell_lt (hcm j hj).1)).trans (hcm j hj).1)
          (fun j hj => ((unhide HP).there hi12 j (by rw [hln] at hj; omega)).1) (fun j hj => ((unhide HP).there hi12 j (by rw [hln] at hj; omega)).2) (by
            intro v hv
            simp only [List.mem_map] at hv
            obtain ⟨c, _, rfl⟩ := hv
            rfl)
        rw [hln] at this
        exact this
      have P6 := hide ((unhide HP).setPart hi12 (n := nm) (by omega) (entry M i))
      have R6 := hide ((setCells_other (w.heap.size + 1 + 1) ((List.range nm).map (fun c => .int .i64 (entry M i c))) (1 + i * 24) wr (w.heap.size + 1) (by omega)).trans (unhide HR))
      have B6 := hide (below_setCells (Nat.le_add_right w.heap.size 2) ((List.range nm).map (fun c => .int .i64 (entry M i c))) (1 + i * 24) _ _ (unhide HB))
      clear hcm hrow
      go_upto_region 6 with fail
      generalize wr.setCells (w.heap.size + 1 + 1) (1 + i * 24) ((List.range nm).map (fun c => .int .i64 (entry M i c))) = w6 at P6 R6 B6 ⊢
      have cz := (unhide P6).size
      have qz := kept_cell (B := w6.heap.size) cz (cell_lt cz)
      clear cz hcopy crow
      obtain ⟨R, eR⟩ : ∃ R, R = nm + i := ⟨_, rfl⟩
      have hR : R < 24 := by omega
      have hR' : (R : Int) < 24 := by omega
      have hwr : IntKind.i64.wrap ((nm : Int) + i) = (R : Int) := by rw [IntKind.wrap_i64]; omega
      have cR := (unhide P6).cell (r := i) (c := R) hi12 hR
      have fR : w6.frozen? ⟨w.heap.size + 1 + 1, 1 + i * 24 + R, none⟩ = false := free_of_list (unhide P6)
      obtain ⟨y, ey⟩ : ∃ y, y = (if i = i ∧ R < nm then entry M i R else begF nm (entry M) i i R) := ⟨_, rfl⟩
      rw [← ey] at cR
      have P7 := hide (((unhide P6).below (w' := w6.drew) ((Below.refl _ _).drew)).setCell (r := i) (c := R) (x := 1) hi12 hR)
      rw [eR, begF_step, ← eR] at P7
      have R7 := hide ((Below.heap_setCell w6.drew ⟨w.heap.size + 1 + 1, 1 + i * 24 + R, none⟩ (.int .i64 1) (w.heap.size + 1) (by show w.heap.size + 1 ≠ w.heap.size + 1 + 1; omega)).trans (unhide R6))
      have B7 := hide (((unhide B6).drew).setCell (p := ⟨w.heap.size + 1 + 1, 1 + i * 24 + R, none⟩) (by show _ ≤ w.heap.size + 1 + 1; omega) (.int .i64 1))
      have ER := hide eR
      clear eR ey
      refine wp_region_ord_thenT (S := Below w6.heap.size w6) [(true, 0), (true, 1), (true, 2), (true, 3), (true, 4), (true, 5), (true, 6), (true, 7)] (List.cons_ne_nil _ _) (by kernel_rfl) (by kernel_rfl) (by kernel_rfl) (by kernel_rfl) (by kernel_rfl) ((Below.refl _ _).drew) ?_
      simp only [List.dropLast_cons_cons, List.dropLast_singleton, List.getLast_cons_cons, List.getLast_singleton, withOps, List.map_cons, List.map_nil, List.getElem?_cons_succ, List.getElem?_cons_zero]
      repeat (refine walkH_read (by rfl) (by (intro gx; go_simp; try (with_reducible rfl))) ?_; try simp only [Act.put, List.setIfInBounds_toArray, List.set_cons_zero, List.set_cons_succ])
      refine lastPost_of_list ?_
      simp only [List.cons_append, List.nil_append]
      go_wp2
      refine NoPanic.normal ?_
      go_wp2
      go_roundw
      case rel => exact ⟨i + 1, by omega, by go_num, P7, R7, B7⟩
      case measure => simp [intOf]; omega
    · have hlt' : ¬ (i : Int) < nm := by omega
      obtain rfl : i = nm := by omega
      generalize hq : begF i (entry M) i = q at HP
      have HE : Hid (Ending.returned (.agg (pairC i q).toArray) = .returned (.agg (pairC i (begF i (entry M) i)).toArray)) := hide (by rw [hq])
      clear hq
      have HS := hide ((unhide HR).setAll (k' := i) (q := q))
      have HBS := hide (below_setCells (Nat.le_add_right w.heap.size 1) (pairC i q) 0 _ _ (unhide HB))
      go_upto_region 8 with fail
      refine wp_region_lit ?_
      refine step_load_pair rfl (.tmp 3) rfl (w.heap.size + 1 + 1) i rfl q (unhide HP) ?_
      refine step_store_pair rfl (.tmp 2) (.tmp 33) rfl (w.heap.size + 1) i 0 rfl q _ rfl (unhide HR) ?_
      refine wpList_nil ?_
      go_wp2_with (exact bodyPost_ret (res_pair Tryd.results37 _ rfl (unhide HS)) rfl ⟨unhide HE, unhide HBS⟩)
end Go.Proofs.YtfeepmjkamdldaaDoor
