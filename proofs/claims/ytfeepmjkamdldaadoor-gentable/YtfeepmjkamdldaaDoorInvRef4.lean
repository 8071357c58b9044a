/- The document's own Invert (ossuaryref1): Gauss and Jordan. -/
import Derived.Test.YtfeepmjkamdldaaDoorInvRef3
import Derived.Test.YtfeepmjkamdldaaDoorRegion2
namespace Go.Proofs.YtfeepmjkamdldaaDoor
open Go.RowKit
set_option linter.unusedVariables false
set_option linter.unusedSimpArgs false
attribute [local go_sem ↓] Go.wp_at_zero Go.wp_at_succ
theorem zeroM_matF (k : Nat) : zeroM k k = matF k k (fun _ _ => 0) := (matF_zero k k).symm
theorem stuck_at {M : List (List Int)} {a o : Nat → Nat → Nat} {n c : Nat} (hM : SqMay M) (hL : M.length = n) (h : Two n (entry M) a o ∧ UnitTo n a c ∧ BytK n a ∧ BytK n o) (hc : c < n) (h0 : ∀ r, c ≤ r → r < n → a r c = 0) : invR M ([], 401) := by
  subst hL
  exact .inr (.inr ⟨hM, inv_of_stuck hM h.1 h.2.1 hc h0 h.2.2.1, rfl⟩)
theorem done_at {M : List (List Int)} {a o : Nat → Nat → Nat} {n : Nat} (hM : SqMay M) (hL : M.length = n) (h : Two n (entry M) a o ∧ UnitTo n a n ∧ BytK n a ∧ BytK n o) : invR M (matF n n o, 0) := by
  subst hL
  exact .inr (.inl ⟨hM, _, inv_of_done hM h.1 h.2.1 h.2.2.2, rfl⟩)
theorem res_mat {fn : Func} {t u : Tmp} {g : Nat} {z : Int} {p : Option Addr} {n c : Nat} {w : World} (hr : fn.results = #[.cell t 26, .tmp u]) (tmps : Array Value) (ht : tmps.getD t undef = .pointer (some ⟨g, 0, none⟩)) (hu : tmps.getD u undef = .int .i64 z) (hc : w.cell? ⟨g, 0, none⟩ = some (.slice p n c)) :
    (results fn tmps).run Tryd.prog w = .ok (.tuple #[.agg #[.slice p n c], .int .i64 z]) w := by
  rw [Array.getD_eq_getD_getElem?] at ht hu
  simp [results, hr, ht, hu, go_sem, hc]
theorem sc_row (c x : Nat) (f : Nat → Nat → Nat) : (fun r s => if r = c then Gf.mul (f c s) x else f r s) = sc c x f := by
  funext r s
  unfold sc
  by_cases h : r = c
  · subst h; simp
  · simp [h]
theorem ad_row (i c x : Nat) (f : Nat → Nat → Nat) : (fun r s => if r = i then f i s ^^^ Gf.mul (f c s) x else f r s) = ad i c x f := by
  funext r s
  unfold ad
  by_cases h : r = i
  · subst h; simp
  · simp [h]
/-- what Invert leaves -/
def invPost (M : List (List Int)) (w : World) (e : Ending) (w' : World) : Prop := ∃ u r, invR M r ∧ e = .returned (.tuple #[.agg #[u], .int .i64 r.2]) ∧ OwnM w' w.heap.size 38 3 u r.1 ∧ Below w.heap.size w w'
/-- the boxes of the call, and its two matrices -/
structure GS (w wr : World) (b o nm cm Bo Ha k ga ca go co g5 g7 : Nat) (usa uso : List Value) (fa fo : Nat → Nat → Nat) : Prop where
  x0 : wr.heap[w.heap.size]? = some (.cells #[.slice (some ⟨b, o, none⟩) nm cm] 26 (0, 0))
  x2 : wr.heap[w.heap.size + 1]? = some (.cells #[.slice none 0 0] 26 (0, 0))
  x5 : wr.heap[g5]? = some (.cells #[.slice (some ⟨go, 0, none⟩) k co] 26 (0, 0))
  x7 : wr.heap[g7]? = some (.cells #[.slice (some ⟨ga, 0, none⟩) k ca] 26 (0, 0))
  gj : GJ wr Bo Ha k ga ca go co usa uso fa fo
  bl : Below w.heap.size w wr
  bo : w.heap.size + 2 ≤ Bo
  ba : Bo ≤ Ha
/-- a step that writes only a row, or the slice of rows -/
theorem GS.keep {w wr w' : World} {b o nm cm Bo Ha k ga ca go co g5 g7 : Nat} {usa uso usa' uso' : List Value} {fa fo fa' fo' : Nat → Nat → Nat} (h : GS w wr b o nm cm Bo Ha k ga ca go co g5 g7 usa uso fa fo) {g B : Nat} {T : TypeId} {C : Array Value} {m : Nat × Nat} (hg : wr.heap[g]? = some (.cells C T m)) (hT : T ≠ 26) (hf : ∀ j, j ≠ g → j < wr.heap.size → w'.heap[j]? = wr.heap[j]?) (hb : Below B wr w') (hB : Bo ≤ B) (hgj : GJ w' Bo Ha k ga ca go co usa' uso' fa' fo') :
    GS w w' b o nm cm Bo Ha k ga ca go co g5 g7 usa' uso' fa' fo' := by
  have hne : ∀ {j : Nat} {v : Value}, wr.heap[j]? = some (.cells #[v] 26 (0, 0)) → j ≠ g := fun hj e => by
    subst e
    rw [hg] at hj
    simp at hj
    exact hT hj.2.1
  have hbo := h.bo
  exact ⟨(hf _ (hne h.x0) (lt_of_block h.x0)).trans h.x0, (hf _ (hne h.x2) (lt_of_block h.x2)).trans h.x2, (hf _ (hne h.x5) (lt_of_block h.x5)).trans h.x5, (hf _ (hne h.x7) (lt_of_block h.x7)).trans h.x7, hgj, h.bl.trans (hb.mono (by omega)), h.bo, h.ba⟩
theorem GJ.drew {wr : World} {Bo Ha k ga ca go co : Nat} {usa uso : List Value} {fa fo : Nat → Nat → Nat} (h : GJ wr Bo Ha k ga ca go co usa uso fa fo) {w' : World} (hb : Below wr.heap.size wr w') : GJ w' Bo Ha k ga ca go co usa uso fa fo :=
  ⟨h.a.below hb, h.o.below hb, h.ol, h.or, Nat.le_trans h.hs hb.size⟩
theorem GS.below {w wr w' : World} {b o nm cm Bo Ha k ga ca go co g5 g7 : Nat} {usa uso : List Value} {fa fo : Nat → Nat → Nat} (h : GS w wr b o nm cm Bo Ha k ga ca go co g5 g7 usa uso fa fo) (hb : Below wr.heap.size wr w') : GS w w' b o nm cm Bo Ha k ga ca go co g5 g7 usa uso fa fo :=
  ⟨(hb.block _ (lt_of_block h.x0)).trans h.x0, (hb.block _ (lt_of_block h.x2)).trans h.x2, (hb.block _ (lt_of_block h.x5)).trans h.x5, (hb.block _ (lt_of_block h.x7)).trans h.x7, h.gj.drew hb, bt h.bl hb, h.bo, h.ba⟩
theorem own_block {w : World} {B E g n cap : Nat} {xs : List Value} (h : OwnL w B E (.slice (some ⟨g, 0, none⟩) n cap) xs) : B ≤ g ∧ ∃ cur, w.heap[g]? = some (.cells cur E (0, 0)) := by
  rcases h.2 with ⟨e, _⟩ | ⟨g', cap1, cur, e, hb, hh, _⟩
  · simp at e
  · simp only [Value.slice.injEq, Option.some.injEq, Addr.mk.injEq, and_true, true_and] at e
    obtain ⟨rfl, _, _⟩ := e
    exact ⟨hb, cur, hh⟩
set_option maxRecDepth 100000 in
set_option maxHeartbeats 8000000 in
theorem refInvert_sq (pm : Option Addr) (nm cm : Nat) (M : List (List Int)) (w : World) (hm : MatV w (.agg #[.slice pm nm cm]) M) (hs : SqMay M) :
    Calls Tryd.prog 29 #[.agg #[.slice pm nm cm]] w (invPost M w) := by
  obtain ⟨hl, n1, n2, k, b, o, ek, kk1, kk2, rfl, hc⟩ := mat_at hm hs.1
  obtain rfl : nm = k := by rw [← hl, hs.2, ek]
  have HM := hide hm
  have HC := hide hc
  have HL := hide hl
  have HSQ := hide hs
  have HMY := hide hs.1
  obtain ⟨g, og, q, hrow, _⟩ := hc 0 n1
  simp only [Nat.add_zero] at hrow
  have t1 : ((nm : Int) != (nm : Int)) = false := by simp
  have p1 : (0 : Int) < nm := by omega
  clear hm hc hs hl ek kk1 kk2
  go_enter Tryd.func29, Tryd.ntmps29
  go_wp2_with fail
  have k0 := hide (two_old w (.cells #[.slice (some ⟨b, o, none⟩) nm cm] 26) (.cells #[.slice none 0 0] 26))
  have k2 := hide (two_new w (.cells #[.slice (some ⟨b, o, none⟩) nm cm] 26) (.cells #[.slice none 0 0] 26))
  have k3 : Hid (Below w.heap.size w ((w.alloc (.cells #[.slice (some ⟨b, o, none⟩) nm cm] 26)).alloc (.cells #[.slice none 0 0] 26))) := hide (by go_grown)
  have k4 : ((w.alloc (.cells #[.slice (some ⟨b, o, none⟩) nm cm] 26)).alloc (.cells #[.slice none 0 0] 26)).heap.size = w.heap.size + 2 := by simp
  generalize ((w.alloc (.cells #[.slice (some ⟨b, o, none⟩) nm cm] 26)).alloc (.cells #[.slice none 0 0] 26)) = W at k0 k2 k3 k4 ⊢
  have g0 := grown_cell (cell_of_one (unhide k0))
  have g3 := grown_cell (((unhide k3).cell (cell_lt hrow)).trans hrow)
  clear hrow
  refine wp_region_grows (by kernel_rfl) (by kernel_rfl) ?_
  repeat (first | go_big_quiet_step ((go_at_call 50; exact Calls.grows (refMay_yes _ M _ (((unhide HM).below (unhide k3)).below (GrownW.prop _)) (unhide HMY)))) | quiet_step ((go_at_call 50; exact Calls.grows (refMay_yes _ M _ (((unhide HM).below (unhide k3)).below (GrownW.prop _)) (unhide HMY)))))
  refine wpQuiet_nil ?_
  intro gw hw'
  have gb := grown_below hw'
  clear hw'
  clear g0 g3
  replace k0 := hide ((gb.block _ (lt_of_block (unhide k0))).trans (unhide k0))
  replace k2 := hide ((gb.block _ (lt_of_block (unhide k2))).trans (unhide k2))
  have hB1 := bt (unhide k3) gb
  have hs1 := gb.size
  have HB := hide hB1
  clear gb hB1 k3
  have ck0 := cell_of_one (unhide k0)
  have dk0 := fun o => ((below_alloc gw o).cell (cell_lt ck0)).trans ck0
  have ck2 := cell_of_one (unhide k2)
  have dk2 := fun o => ((below_alloc gw o).cell (cell_lt ck2)).trans ck2
  go_wp2_with fail
  refine (refIdentity_yes nm gw n1 n2).mono ?_
  rintro e w1 ⟨u1, rfl, O1, b1⟩
  obtain ⟨uso, RO⟩ := O1
  obtain ⟨go, co, eo, hgo, _⟩ := RO.form (by rw [idM_len]; omega)
  rw [idM_len] at eo
  subst eo
  have lo : go < w1.heap.size := (RO.outer.lt rfl).2
  have LR : Hid (∀ (j : Nat) v g, uso[j]? = some v → v.ownBlock = some g → g < w1.heap.size) := hide (fun j v g hv hg => ((RO.row j v hv).lt hg).2)
  replace k0 := hide ((b1.block _ (lt_of_block (unhide k0))).trans (unhide k0))
  replace k2 := hide ((b1.block _ (lt_of_block (unhide k2))).trans (unhide k2))
  replace HB := hide (bt (unhide HB) b1)
  have hs2 := b1.size
  have HRO := hide RO
  clear b1 RO ck0 ck2 dk0 dk2
  have ck0 := cell_of_one (unhide k0)
  have dk0 := fun o => ((below_alloc w1 o).cell (cell_lt ck0)).trans ck0
  have ck2 := cell_of_one (unhide k2)
  have dk2 := fun o => ((below_alloc w1 o).cell (cell_lt ck2)).trans ck2
  go_wp2_with fail
  have hx := below_alloc w1 (.cells #[.slice (some ⟨go, 0, none⟩) nm co] 26)
  have k5 := hide (heap_alloc_new w1 (.cells #[.slice (some ⟨go, 0, none⟩) nm co] 26))
  refine (blank_any nm nm _ n2 n2).mono ?_
  rintro e w2 ⟨u2, rfl, O2, b2⟩
  obtain ⟨usa, RA⟩ := O2
  have hzl : (zeroM nm nm).length = nm := by simp [zeroM]
  obtain ⟨ga, ca, ea, hga, _⟩ := RA.form (by rw [hzl]; omega)
  rw [hzl] at ea
  subst ea
  replace k5 := hide ((b2.block _ (lt_of_block (unhide k5))).trans (unhide k5))
  replace b2 := bt hx b2
  replace k0 := hide ((b2.block _ (lt_of_block (unhide k0))).trans (unhide k0))
  replace k2 := hide ((b2.block _ (lt_of_block (unhide k2))).trans (unhide k2))
  replace HRO := hide ((unhide HRO).below b2)
  replace HB := hide (bt (unhide HB) b2)
  have hs3 := b2.size
  have HRA := hide RA
  clear b2 RA hx ck0 ck2 dk0 dk2 hzl
  have ck0 := cell_of_one (unhide k0)
  have dk0 := fun o => ((below_alloc w2 o).cell (cell_lt ck0)).trans ck0
  have ck2 := cell_of_one (unhide k2)
  have dk2 := fun o => ((below_alloc w2 o).cell (cell_lt ck2)).trans ck2
  have ck5 := cell_of_one (unhide k5)
  have dk5 := fun o => ((below_alloc w2 o).cell (cell_lt ck5)).trans ck5
  go_wp2
  have GS0 : GS w (w2.alloc (.cells #[.slice (some ⟨ga, 0, none⟩) nm ca] 26)) b o nm cm (gw.heap.size + 1) ((w1.alloc (.cells #[.slice (some ⟨go, 0, none⟩) nm co] 26)).heap.size + 2) nm ga ca go co w1.heap.size w2.heap.size usa uso (fun _ _ => 0) idx := by
    have hb := below_alloc w2 (.cells #[.slice (some ⟨ga, 0, none⟩) nm ca] 26)
    have h1 := (unhide HRA).below hb
    have h2 := (unhide HRO).below hb
    rw [zeroM_matF] at h1
    rw [idM_idx] at h2
    have hga' := (h1.outer.lt (g := ga) rfl)
    have hsz : (w1.alloc (.cells #[.slice (some ⟨go, 0, none⟩) nm co] 26)).heap.size = w1.heap.size + 1 := by simp
    refine ⟨(hb.block _ (lt_of_block (unhide k0))).trans (unhide k0), (hb.block _ (lt_of_block (unhide k2))).trans (unhide k2), (hb.block _ (lt_of_block (unhide k5))).trans (unhide k5), heap_alloc_new _ _, ⟨h1, h2, by omega, fun j v g hv hg => by have := unhide LR j v g hv hg; omega, by omega⟩, bt (unhide HB) hb, by omega, by omega⟩
  generalize (w2.alloc (.cells #[.slice (some ⟨ga, 0, none⟩) nm ca] 26)) = W3 at GS0 ⊢
  generalize ((w1.alloc (.cells #[.slice (some ⟨go, 0, none⟩) nm co] 26)).heap.size + 2) = Ha at GS0
  generalize w1.heap.size = g5 at GS0 ⊢
  generalize w2.heap.size = g7 at GS0 ⊢
  generalize gw.heap.size + 1 = Bo at GS0
  have HG0 := hide GS0
  clear GS0 ck0 ck2 ck5 dk0 dk2 dk5 k0 k2 k5 HRO HRA HB LR lo hgo hga hs1 hs2 hs3
  go_loopw [8] (fun iv wr => ∃ i : Nat, i ≤ nm ∧ iv = .int .i64 i ∧ Hid (GS w wr b o nm cm Bo Ha nm ga ca go co g5 g7 usa uso (fun r c => if r < i then entry M r c else 0) idx)) (fun iv _ => nm - (intOf iv).toNat)
  case atStart => exact ⟨0, by omega, rfl, hide (by simpa using unhide HG0)⟩
  case round =>
    obtain ⟨i, hi, rfl, HG⟩ := hrel
    by_cases hlt : i < nm
    · have hlt' : (i : Int) < nm := by omega
      obtain ⟨gi, ci, hui, hgi, hcell, hown, _⟩ := rowAt (unhide HG).gj.a hlt
      obtain ⟨gm, om, qm, hrow, hcm⟩ := unhide HC i hlt
      have hbl := (unhide HG).bl
      have lx0 := lt_of_block (unhide HG).x0
      have lx7 := lt_of_block (unhide HG).x7
      have c0 := cell_of_one (unhide HG).x0
      have c7 := cell_of_one (unhide HG).x7
      have crow := (hbl.cell (cell_lt hrow)).trans hrow
      have q0 := kept_cell (B := wr.heap.size) c0 lx0
      have q7 := kept_cell (B := wr.heap.size) c7 lx7
      have qa := kept_cell (B := wr.heap.size) hcell (cell_lt hcell)
      have qm' := kept_cell (B := wr.heap.size) crow (cell_lt crow)
      have HOW := hide hown
      have HUI := hide hui
      have HCM := hide (fun j hj => (hbl.cell (cell_lt (hcm j hj).1)).trans (hcm j hj).1)
      have HBL := hide hbl
      clear hown hui hcm hbl c0 c7 crow hrow hcell
      go_wp2
      refine wp_region_ord_thenT (S := Below wr.heap.size wr) [(true, 0), (true, 1), (true, 2), (true, 3), (true, 4), (true, 5), (true, 6), (true, 7), (true, 8), (true, 9)] (List.cons_ne_nil _ _) (by kernel_rfl) (by kernel_rfl) (by kernel_rfl) (by kernel_rfl) (by kernel_rfl) ((Below.refl _ _).drew) ?_
      simp only [List.dropLast_cons_cons, List.dropLast_singleton, List.getLast_cons_cons, List.getLast_singleton, withOps, List.map_cons, List.map_nil, List.getElem?_cons_succ, List.getElem?_cons_zero]
      repeat (refine walkH_read (by rfl) (by (intro gx; go_simp; try (with_reducible rfl))) ?_; try simp only [Act.put, List.setIfInBounds_toArray, List.set_cons_zero, List.set_cons_succ])
      refine lastPost_do (fun K hK => ?_)
      refine step_copy_own (by rfl) (.tmp 49) (.tmp 54) 38 38 (by rfl) 3 Tryd.underlying38 (by kernel_rfl) Ha 3 gi nm ci qm gm om _ ((rowF nm (entry M i)).map (Value.int .i64)) (by simp [Act.eval]) (by simp [Act.eval]) ((unhide HOW).below (Below.refl _ _).drew) (by simp [rowF_len]) ?_ ?_ ?_
      · intro j v hv
        have hj : j < nm := by
          have := (List.getElem?_eq_some_iff.1 hv).1
          simpa [rowF_len] using this
        have := unhide HCM j hj
        simp [rowF, hj] at hv
        rw [← hv]
        exact this
      · exact ints_oneCell _ _
      · intro w' hO hF hB
        refine hK _ _ ?_
        clear hK K
        refine NoPanic.normal ?_
        have HO := hide hO
        have HF := hide hF
        have HB := hide hB
        clear hO hF hB
        try simp only [Act.put, List.setIfInBounds_toArray, List.set_cons_zero, List.set_cons_succ]
        go_wp2
        go_roundw
        case rel =>
          refine ⟨i + 1, by omega, by go_num, hide ?_⟩
          have hgj := (unhide HG).gj.setA hlt (unhide HUI) (unhide HO) (unhide HF) (unhide HB).size
          obtain ⟨_, cur, hcur⟩ := own_block (unhide HOW)
          have := (unhide HG).keep hcur (by decide) (unhide HF) (B := Ha) ((Below.refl Ha wr).drew.trans (unhide HB)) (unhide HG).ba hgj
          have e : (fun r c => if r = i then entry M i c else if r < i then entry M r c else 0) = (fun r c => if r < i + 1 then entry M r c else 0) := by
            funext r c
            by_cases h1 : r = i
            · subst h1; simp
            · by_cases h2 : r < i
              · simp [h1, h2, show r < i + 1 by omega]
              · simp [h1, h2, show ¬ r < i + 1 by omega]
          rw [e] at this
          exact this
        case measure => simp [intOf]; omega
    · have hlt' : ¬ (i : Int) < nm := by omega
      obtain rfl : i = nm := by omega
      have hT0 : Two i (entry M) (fun r c => if r < i then entry M r c else 0) idx := by
        have hby := (unhide HSQ).byt
        rw [unhide HL] at hby
        exact (Two.start hby).eq (fun r c hr hc => by simp [hr]) (EqK.refl _)
      have hby0 : BytK i (fun r c => if r < i then entry M r c else 0) := fun r c hr hc => by
        have hby := (unhide HSQ).byt
        rw [unhide HL] at hby
        simp only [hr, if_true]
        exact hby r c hr hc
      have HT0 := hide (show _ ∧ _ ∧ _ ∧ _ from ⟨hT0, (fun r j _ hj => absurd hj (Nat.not_lt_zero _) : UnitTo i (fun r c => if r < i then entry M r c else 0) 0), hby0, idx_byt i⟩)
      clear hT0 hby0
      go_wp2
      go_loopw [9] (fun cv wr => ∃ c : Nat, c ≤ i ∧ cv = .int .i64 c ∧ ∃ usa uso fa fo, Hid (GS w wr b o i cm Bo Ha i ga ca go co g5 g7 usa uso fa fo) ∧ Hid (Two i (entry M) fa fo ∧ UnitTo i fa c ∧ BytK i fa ∧ BytK i fo)) (fun cv _ => i - (intOf cv).toNat)
      case atStart => exact ⟨0, by omega, rfl, usa, uso, _, _, HG, HT0⟩
      case round =>
        clear HG HT0
        obtain ⟨c, hc, rfl, usa, uso, fa, fo, HG, HT⟩ := hrel
        by_cases hltc : c < i
        · have hltc' : (c : Int) < i := by omega
          go_wp2
          go_loop [10] (fun av => ∃ t : Nat, c ≤ t ∧ t ≤ i ∧ av = .int .i64 t ∧ Hid (∀ r, c ≤ r → r < t → fa r c = 0)) (fun av => i - (intOf av).toNat)
          case atStart => exact ⟨c, Nat.le_refl _, by omega, rfl, hide (fun r h1 h2 => by omega)⟩
          case round =>
            obtain ⟨t, ht1, ht2, rfl, HZ⟩ := hrel
            have c7 := cell_of_one (unhide HG).x7
            by_cases hltt : t < i
            · have hltt' : (t : Int) < i := by omega
              obtain ⟨gt, ct, hut, hgt, hct, howt, hcc⟩ := rowAt (unhide HG).gj.a hltt
              have hv := hcc c hltc
              clear hcc howt hut hgt
              by_cases hz : fa t c = 0
              · rw [hz] at hv
                go_wp2
                go_round
                case rel =>
                  refine ⟨t + 1, by omega, by omega, by go_num, hide (fun r h1 h2 => ?_)⟩
                  by_cases q : r = t
                  · rw [q]; exact hz
                  · exact unhide HZ r h1 (by omega)
                case measure => simp [intOf]; omega
              · obtain ⟨y, ey⟩ : ∃ y, y = fa t c := ⟨_, rfl⟩
                rw [← ey] at hv
                have hy0 : ¬ (y : Int) = 0 := by omega
                have hy0' : ¬ y = 0 := by omega
                have hti : ¬ (t : Int) = i := by omega
                have hti' : ¬ t = i := by omega
                have EY := hide ey
                clear ey HZ
                go_wp2_with fail
                have hga := own_block (unhide HG).gj.a.outer
                have hgo := own_block (unhide HG).gj.o.outer
                refine (swap_own Ha ga i ca c t usa (matF i i fa) wr (unhide HG).gj.a (matF_len _ _ _) hltc hltt n2 hga.1 (unhide HG).gj.hs).mono ?_
                rintro e w1 ⟨rfl, hr1, hf1, hb1⟩
                have HG1 := hide ((unhide HG).keep hga.2.choose_spec (by decide) hf1 hb1 (unhide HG).ba ((unhide HG).gj.swapA hltc hltt hr1 hf1 hb1.size))
                clear hr1 hf1 hb1 hga c7 hct hv
                have c5 := cell_of_one (unhide HG1).x5
                go_wp2_with fail
                have hgo1 := own_block (unhide HG1).gj.o.outer
                refine (swap_own Bo go i co c t uso (matF i i fo) w1 (unhide HG1).gj.o (matF_len _ _ _) hltc hltt n2 hgo1.1 (Nat.le_trans (unhide HG1).ba (unhide HG1).gj.hs)).mono ?_
                rintro e w2 ⟨rfl, hr2, hf2, hb2⟩
                have HG2 := hide ((unhide HG1).keep hgo1.2.choose_spec (by decide) hf2 hb2 (Nat.le_refl _) ((unhide HG1).gj.swapO hltc hltt hr2 hf2 hb2.size))
                clear hr2 hf2 hb2 hgo hgo1 c5 HG1 HG
                have HT2 : Hid (Two i (entry M) (fun r s => fa (sw c t r) s) (fun r s => fo (sw c t r) s) ∧ UnitTo i (fun r s => fa (sw c t r) s) c ∧ BytK i (fun r s => fa (sw c t r) s) ∧ BytK i (fun r s => fo (sw c t r) s)) := hide ⟨(unhide HT).1.swap hltc hltt (unhide HT).2.2.1 (unhide HT).2.2.2, (unhide HT).2.1.swap hltc ht1 hltt, sw_byt (unhide HT).2.2.1 hltc hltt, sw_byt (unhide HT).2.2.2 hltc hltt⟩
                have EP : Hid (y = (fun r s => fa (sw c t r) s) c c) := hide (by rw [unhide EY]; simp [sw])
                have hy256 : y < 256 := by rw [unhide EY]; exact (unhide HT).2.2.1 t c hltt hltc
                generalize (fun r s => fa (sw c t r) s) = fa2 at HG2 HT2 EP
                generalize (fun r s => fo (sw c t r) s) = fo2 at HG2 HT2
                generalize swapL usa c t undef = usa2 at HG2
                generalize swapL uso c t undef = uso2 at HG2
                obtain ⟨gc, cc, huc, hgc, hcc, hoc, hvc⟩ := rowAt (unhide HG2).gj.a hltc
                have hvv := hvc c hltc
                rw [← unhide EP] at hvv
                have c7 := cell_of_one (unhide HG2).x7
                have HUC := hide huc
                have HOC := hide hoc
                clear huc hoc hvc HT EY
                go_wp2_with fail
                refine (refinv_any y w2 hy256 hy0').mono ?_
                rintro e w2' ⟨rfl, rfl⟩
                have hxlt := Gf.inv_lt y
                have hx0 := Gf.inv_ne hy256 hy0'
                have EX : Hid (Gf.inv y = Gf.inv (fa2 c c)) := hide (by rw [unhide EP])
                generalize hxx : Gf.inv y = x at hxlt hx0 EX ⊢
                clear hxx
                go_wp2_with fail
                refine (times_own Ha 3 gc i cc x (fa2 c) w2' (unhide HOC) n2 hgc (fun s hs => (unhide HT2).2.2.1 c s hltc hs)).mono ?_
                rintro e w3 ⟨rfl, ho3, hf3, hb3⟩
                have HG3 := hide ((unhide HG2).keep (own_block (unhide HOC)).2.choose_spec (by decide) hf3 hb3 (unhide HG2).ba ((unhide HG2).gj.setA hltc (unhide HUC) ho3 hf3 hb3.size))
                clear ho3 hf3 hb3 c7 hcc hvv
                obtain ⟨gd, cd, hud, hgd, hcd, hod, _⟩ := rowAt (unhide HG3).gj.o hltc
                have c5 := cell_of_one (unhide HG3).x5
                have HUD := hide hud
                have HOD := hide hod
                clear hud hod
                go_wp2_with fail
                refine (times_own Bo 3 gd i cd x (fo2 c) w3 (unhide HOD) n2 hgd (fun s hs => (unhide HT2).2.2.2 c s hltc hs)).mono ?_
                rintro e w4 ⟨rfl, ho4, hf4, hb4⟩
                have HG4 := hide ((unhide HG3).keep (own_block (unhide HOD)).2.choose_spec (by decide) hf4 hb4 (Nat.le_refl _) ((unhide HG3).gj.setO hltc (unhide HUD) ho4 hf4 hb4.size))
                clear ho4 hf4 hb4 c5 hcd HUC HOC HUD HOD HG2 HG3
                rw [show (fun r s => if r = c then Gf.mul (fa2 c s) x else fa2 r s) = sc c x fa2 from sc_row c x fa2, show (fun r s => if r = c then Gf.mul (fo2 c s) x else fo2 r s) = sc c x fo2 from sc_row c x fo2] at HG4
                have HT4 : Hid ((Two i (entry M) (sc c x fa2) (sc c x fo2) ∧ UnitTo i (sc c x fa2) c ∧ BytK i (sc c x fa2) ∧ BytK i (sc c x fo2)) ∧ ColTo i (sc c x fa2) c 0) := hide ⟨⟨(unhide HT2).1.scale hxlt hx0 (unhide HT2).2.2.1 (unhide HT2).2.2.2, (unhide HT2).2.1.scale hltc, sc_byt (unhide HT2).2.2.1, sc_byt (unhide HT2).2.2.2⟩, by rw [unhide EX]; exact ColTo.scaled (unhide HT2).2.2.1 hltc (by rw [← unhide EP]; exact hy0')⟩
                generalize sc c x fa2 = fa4 at HG4 HT4
                generalize sc c x fo2 = fo4 at HG4 HT4
                clear HT2 EP EX
                go_wp2
                go_loopw [12] (fun iv wr => ∃ j : Nat, j ≤ i ∧ iv = .int .i64 j ∧ ∃ fa fo, Hid (GS w wr b o i cm Bo Ha i ga ca go co g5 g7 usa2 uso2 fa fo) ∧ Hid ((Two i (entry M) fa fo ∧ UnitTo i fa c ∧ BytK i fa ∧ BytK i fo) ∧ ColTo i fa c j)) (fun iv _ => i - (intOf iv).toNat)
                case atStart => exact ⟨0, by omega, rfl, fa4, fo4, HG4, HT4⟩
                case round =>
                  clear HG4 HT4
                  obtain ⟨j, hj, rfl, fa5, fo5, HG, HT⟩ := hrel
                  by_cases hltj : j < i
                  · have hltj' : (j : Int) < i := by omega
                    by_cases hjc : j = c
                    · subst hjc
                      have tjc : ((j : Int) != (j : Int)) = false := by simp
                      go_wp2
                      go_roundw
                      case rel => exact ⟨j + 1, by omega, by go_num, fa5, fo5, HG, hide ⟨(unhide HT).1, (unhide HT).2.same rfl⟩⟩
                      case measure => simp [intOf]; omega
                    · have tjc : ((j : Int) != (c : Int)) = true := by simp; omega
                      obtain ⟨gj', cj', huj, hgj', hcj, hoj, hvj⟩ := rowAt (unhide HG).gj.a hltj
                      obtain ⟨gc', cc', huc, hgc', hcc', hoc', _⟩ := rowAt (unhide HG).gj.a hltc
                      have hv := hvj c hltc
                      obtain ⟨z, ez⟩ : ∃ z, z = fa5 j c := ⟨_, rfl⟩
                      rw [← ez] at hv
                      have EZ := hide ez
                      have c7 := cell_of_one (unhide HG).x7
                      have hne : gc' ≠ gj' := fun e => (unhide HG).gj.a.apart c j _ _ huc huj (Ne.symm hjc) gc' rfl (by rw [e]; rfl)
                      have HUJ := hide huj
                      have HOJ := hide hoj
                      have HOC := hide hoc'
                      clear huj hoj huc hoc' hvj ez
                      go_wp2_with fail
                      have q7 := kept_cell (B := wr.heap.size) c7 (cell_lt c7)
                      have qj := kept_cell (B := wr.heap.size) hcj (cell_lt hcj)
                      have qc := kept_cell (B := wr.heap.size) hcc' (cell_lt hcc')
                      clear c7 hcj hcc' hv
                      refine wp_region_ord_thenT (S := Below wr.heap.size wr) [(true, 0), (true, 1), (true, 2), (true, 3), (true, 4), (true, 5), (true, 6), (true, 7), (true, 8), (true, 9), (true, 10)] (List.cons_ne_nil _ _) (by kernel_rfl) (by kernel_rfl) (by kernel_rfl) (by kernel_rfl) (by kernel_rfl) ((Below.refl _ _).drew) ?_
                      simp only [List.dropLast_cons_cons, List.dropLast_singleton, List.getLast_cons_cons, List.getLast_singleton, withOps, List.map_cons, List.map_nil, List.getElem?_cons_succ, List.getElem?_cons_zero]
                      repeat (refine walkH_read (by rfl) (by (intro gx; go_simp; try (with_reducible rfl))) ?_; try simp only [Act.put, List.setIfInBounds_toArray, List.set_cons_zero, List.set_cons_succ])
                      refine lastPost_of_list ?_
                      simp only [List.cons_append, List.nil_append]
                      clear q7 qj qc
                      go_wp2_with fail
                      have hd1 : Below wr.heap.size wr wr.drew := (Below.refl _ _).drew
                      refine (less_own Ha 3 gj' i cj' gc' cc' z (fa5 j) (fa5 c) wr.drew ((unhide HOJ).below hd1) ((unhide HOC).below hd1) hne n2 hgj' (fun s hs => (unhide HT).1.2.2.1 j s hltj hs) (fun s hs => (unhide HT).1.2.2.1 c s hltc hs)).mono ?_
                      rintro e w6 ⟨rfl, ho6, hf6, hb6⟩
                      have HG6 := hide (((unhide HG).below hd1).keep (own_block ((unhide HOJ).below hd1)).2.choose_spec (by decide) hf6 hb6 (unhide HG).ba (((unhide HG).below hd1).gj.setA hltj (unhide HUJ) ho6 hf6 hb6.size))
                      rw [ad_row j c z fa5] at HG6
                      clear ho6 hf6 hb6 hd1 HUJ HOJ HOC
                      go_wp2
                      refine NoPanic.normal ?_
                      go_wp2
                      obtain ⟨hj6, dj6, huj, hhj6, hcj, hoj, _⟩ := rowAt (unhide HG6).gj.o hltj
                      obtain ⟨hc6, dc6, huc, hhc6, hcc6, hoc, _⟩ := rowAt (unhide HG6).gj.o hltc
                      have c5 := cell_of_one (unhide HG6).x5
                      have hne6 : hc6 ≠ hj6 := fun e => (unhide HG6).gj.o.apart c j _ _ huc huj (Ne.symm hjc) hc6 rfl (by rw [e]; rfl)
                      have q5 := kept_cell (B := w6.heap.size) c5 (cell_lt c5)
                      have qj := kept_cell (B := w6.heap.size) hcj (cell_lt hcj)
                      have qc := kept_cell (B := w6.heap.size) hcc6 (cell_lt hcc6)
                      have HUJ := hide huj
                      have HOJ := hide hoj
                      have HOC := hide hoc
                      clear huj hoj huc hoc c5 hcj hcc6
                      refine wp_region_ord_thenT (S := Below w6.heap.size w6) [(true, 0), (true, 1), (true, 2), (true, 3), (true, 4), (true, 5), (true, 6), (true, 7), (true, 8), (true, 9), (true, 10)] (List.cons_ne_nil _ _) (by kernel_rfl) (by kernel_rfl) (by kernel_rfl) (by kernel_rfl) (by kernel_rfl) ((Below.refl _ _).drew) ?_
                      simp only [List.dropLast_cons_cons, List.dropLast_singleton, List.getLast_cons_cons, List.getLast_singleton, withOps, List.map_cons, List.map_nil, List.getElem?_cons_succ, List.getElem?_cons_zero]
                      repeat (refine walkH_read (by rfl) (by (intro gx; go_simp; try (with_reducible rfl))) ?_; try simp only [Act.put, List.setIfInBounds_toArray, List.set_cons_zero, List.set_cons_succ])
                      refine lastPost_of_list ?_
                      simp only [List.cons_append, List.nil_append]
                      clear q5 qj qc
                      go_wp2_with fail
                      have hd1 : Below w6.heap.size w6 w6.drew := (Below.refl _ _).drew
                      refine (less_own Bo 3 hj6 i dj6 hc6 dc6 z (fo5 j) (fo5 c) w6.drew ((unhide HOJ).below hd1) ((unhide HOC).below hd1) hne6 n2 hhj6 (fun s hs => (unhide HT).1.2.2.2 j s hltj hs) (fun s hs => (unhide HT).1.2.2.2 c s hltc hs)).mono ?_
                      rintro e w7 ⟨rfl, ho7, hf7, hb7⟩
                      have HG7 := hide (((unhide HG6).below hd1).keep (own_block ((unhide HOJ).below hd1)).2.choose_spec (by decide) hf7 hb7 (Nat.le_refl _) (((unhide HG6).below hd1).gj.setO hltj (unhide HUJ) ho7 hf7 hb7.size))
                      rw [ad_row j c z fo5] at HG7
                      clear ho7 hf7 hb7 hd1 HUJ HOJ HOC
                      go_wp2
                      refine NoPanic.normal ?_
                      go_wp2
                      go_roundw
                      case rel =>
                        have hz : z < 256 := by rw [unhide EZ]; exact (unhide HT).1.2.2.1 j c hltj hltc
                        refine ⟨j + 1, by omega, by go_num, _, _, HG7, hide ⟨⟨(unhide HT).1.1.add hjc hltc hz (unhide HT).1.2.2.1 (unhide HT).1.2.2.2, (unhide HT).1.2.1.add hltc, ad_byt (unhide HT).1.2.2.1, ad_byt (unhide HT).1.2.2.2⟩, ?_⟩⟩
                        rw [unhide EZ]
                        exact (unhide HT).2.added (unhide HT).1.2.2.1 hltj hjc hltc
                      case measure => simp [intOf]; omega
                  · have hltj' : ¬ (j : Int) < i := by omega
                    obtain rfl : j = i := by omega
                    go_wp2
                    go_roundw
                    case rel => exact ⟨c + 1, by omega, by go_num, usa2, uso2, fa5, fo5, HG, hide ⟨(unhide HT).1.1, (unhide HT).1.2.1.next (unhide HT).2, (unhide HT).1.2.2.1, (unhide HT).1.2.2.2⟩⟩
                    case measure => simp [intOf]; omega
            · have hltt' : ¬ (t : Int) < i := by omega
              obtain rfl : t = i := by omega
              have x2 := (unhide HG).x2
              have c2 := cell_of_one x2
              have f2 := free_of_one x2
              have HNO := hide (stuck_at (unhide HSQ) (unhide HL) (unhide HT) hltc (unhide HZ))
              clear HZ
              go_wp2
              have cr := cell_of_one (one_setCell (u := .slice none 0 0) x2)
              have hpost : invPost M w (.returned (.tuple #[.agg #[.slice none 0 0], .int .i64 401])) (wr.setCell ⟨w.heap.size + 1, 0, none⟩ (.slice none 0 0)) := ⟨_, ([], 401), unhide HNO, rfl, OwnM.nil _ _ _ _, (unhide HG).bl.setCell (by show _ ≤ w.heap.size + 1; omega) _⟩
              exact bodyPost_ret (res_mat Tryd.results29 _ rfl rfl cr) rfl hpost
        · have hltc' : ¬ (c : Int) < i := by omega
          obtain rfl : c = i := by omega
          have x2 := (unhide HG).x2
          have c2 := cell_of_one x2
          have f2 := free_of_one x2
          have c5 := cell_of_one (unhide HG).x5
          have HND := hide (done_at (unhide HSQ) (unhide HL) (unhide HT))
          go_wp2
          have cr := cell_of_one (one_setCell (u := .slice (some ⟨go, 0, none⟩) c co) x2)
          have hpost : invPost M w (.returned (.tuple #[.agg #[.slice (some ⟨go, 0, none⟩) c co], .int .i64 0])) (wr.setCell ⟨w.heap.size + 1, 0, none⟩ (.slice (some ⟨go, 0, none⟩) c co)) := by
            have hbo := (unhide HG).bo
            exact ⟨_, (matF c c fo, 0), unhide HND, rfl, OwnM.mono (B := Bo) ⟨uso, (unhide HG).gj.o.setBelow (by show w.heap.size + 1 < _; omega) _⟩ (by omega), (unhide HG).bl.setCell (by show _ ≤ w.heap.size + 1; omega) _⟩
          exact bodyPost_ret (res_mat Tryd.results29 _ rfl rfl cr) rfl hpost
theorem refInvert_any (v : Value) (M : List (List Int)) (w : World) (hm : MatV w v M) : Calls Tryd.prog 29 #[v] w (invPost M w) := by
  have hm' := hm
  obtain ⟨pm, nm, cm, rfl, _⟩ := hm'
  by_cases h1 : MMay M
  · by_cases h2 : M.length = (M.getD 0 []).length
    · exact refInvert_sq pm nm cm M w hm ⟨h1, h2⟩
    · refine (refInvert_noSq pm nm cm M w hm h1 h2).mono ?_
      rintro e w' ⟨rfl, hb⟩
      exact ⟨_, ([], 400), .inl ⟨fun h => h2 h.2, rfl⟩, rfl, OwnM.nil _ _ _ _, hb⟩
  · refine (refInvert_noMay pm nm cm M w hm h1).mono ?_
    rintro e w' ⟨rfl, hb⟩
    exact ⟨_, ([], 400), .inl ⟨fun h => h1 h.1, rfl⟩, rfl, OwnM.nil _ _ _ _, hb⟩
end Go.Proofs.YtfeepmjkamdldaaDoor
