/- Package invert's Invert: what it returns, whatever the matrix. -/
import Derived.Test.YtfeepmjkamdldaaDoorInvW5
import Derived.Test.YtfeepmjkamdldaaDoorMatWalk
namespace Go.Proofs.YtfeepmjkamdldaaDoor
open Go.RowKit
set_option linter.unusedVariables false
set_option linter.unusedSimpArgs false
attribute [local go_sem ↓] Go.wp_at_zero Go.wp_at_succ
set_option maxRecDepth 100000 in
set_option maxHeartbeats 2000000 in
theorem invInvert_noMay (pm : Option Addr) (nm cm : Nat) (M : List (List Int)) (w : World) (hm : MatV w (.agg #[.slice pm nm cm]) M) (hno : ¬ MMay M) :
    Calls Tryd.prog 18 #[.agg #[.slice pm nm cm]] w fun e w' => e = .returned (.tuple #[.agg #[.slice none 0 0], .int .i64 400]) ∧ Below w.heap.size w w' := by
  have HM := hide hm
  clear hm
  go_enter Tryd.func18, Tryd.ntmps18
  go_wp2_with fail
  have k0 := hide (two_old w (.cells #[.slice pm nm cm] 26) (.cells #[.slice none 0 0] 26))
  have k2 := hide (two_new w (.cells #[.slice pm nm cm] 26) (.cells #[.slice none 0 0] 26))
  have k3 : Hid (Below w.heap.size w ((w.alloc (.cells #[.slice pm nm cm] 26)).alloc (.cells #[.slice none 0 0] 26))) := hide (by go_grown)
  have k4 : ((w.alloc (.cells #[.slice pm nm cm] 26)).alloc (.cells #[.slice none 0 0] 26)).heap.size = w.heap.size + 2 := by simp
  generalize ((w.alloc (.cells #[.slice pm nm cm] 26)).alloc (.cells #[.slice none 0 0] 26)) = W at k0 k2 k3 k4 ⊢
  have g0 := grown_cell (cell_of_one (unhide k0))
  refine wp_region_grows (by kernel_rfl) (by kernel_rfl) ?_
  repeat (first | go_big_quiet_step ((go_at_call 33; exact Calls.grows (matMay_no _ M _ (((unhide HM).below (unhide k3)).below (GrownW.prop _)) hno))) | quiet_step ((go_at_call 33; exact Calls.grows (matMay_no _ M _ (((unhide HM).below (unhide k3)).below (GrownW.prop _)) hno))))
  refine wpQuiet_nil ?_
  intro gw hw'
  have gb := grown_below hw'
  clear hw'
  clear g0
  have r2 := (gb.block _ (by omega)).trans (unhide k2)
  have c2 := cell_of_one r2
  have f2 := free_of_one r2
  have HB1 := hide (bt (unhide k3) gb)
  clear gb
  go_wp2
  have cr := cell_of_one (one_setCell (u := .slice none 0 0) r2)
  exact bodyPost_ret (v := .tuple #[.agg #[.slice none 0 0], .int .i64 400]) (by simp [results, Tryd.results18, go_sem, cr]) rfl ⟨rfl, (unhide HB1).setCell (by show _ ≤ w.heap.size + 1; omega) _⟩
set_option maxRecDepth 100000 in
set_option maxHeartbeats 2000000 in
theorem invInvert_noSq (pm : Option Addr) (nm cm : Nat) (M : List (List Int)) (w : World) (hm : MatV w (.agg #[.slice pm nm cm]) M) (hmay : MMay M) (hno : M.length ≠ (M.getD 0 []).length) :
    Calls Tryd.prog 18 #[.agg #[.slice pm nm cm]] w fun e w' => e = .returned (.tuple #[.agg #[.slice none 0 0], .int .i64 400]) ∧ Below w.heap.size w w' := by
  obtain ⟨hl, n1, n2, k, b, o, ek, kk1, kk2, rfl, hc⟩ := mat_at hm hmay
  have HM := hide hm
  obtain ⟨g, og, q, hrow, _⟩ := hc 0 n1
  simp only [Nat.add_zero] at hrow
  have t1 : ((nm : Int) != (k : Int)) = true := by simp; omega
  have p1 : (0 : Int) < nm := by omega
  clear hm hc
  go_enter Tryd.func18, Tryd.ntmps18
  go_wp2_with fail
  have k0 := hide (two_old w (.cells #[.slice (some ⟨b, o, none⟩) nm cm] 26) (.cells #[.slice none 0 0] 26))
  have k2 := hide (two_new w (.cells #[.slice (some ⟨b, o, none⟩) nm cm] 26) (.cells #[.slice none 0 0] 26))
  have k3 : Hid (Below w.heap.size w ((w.alloc (.cells #[.slice (some ⟨b, o, none⟩) nm cm] 26)).alloc (.cells #[.slice none 0 0] 26))) := hide (by go_grown)
  have k4 : ((w.alloc (.cells #[.slice (some ⟨b, o, none⟩) nm cm] 26)).alloc (.cells #[.slice none 0 0] 26)).heap.size = w.heap.size + 2 := by simp
  generalize ((w.alloc (.cells #[.slice (some ⟨b, o, none⟩) nm cm] 26)).alloc (.cells #[.slice none 0 0] 26)) = W at k0 k2 k3 k4 ⊢
  have g0 := grown_cell (cell_of_one (unhide k0))
  have g3 := grown_cell (((unhide k3).cell (cell_lt hrow)).trans hrow)
  clear hrow
  refine wp_region_grows (by kernel_rfl) (by kernel_rfl) ?_
  repeat (first | go_big_quiet_step ((go_at_call 33; exact Calls.grows (matMay_yes _ M _ (((unhide HM).below (unhide k3)).below (GrownW.prop _)) hmay))) | quiet_step ((go_at_call 33; exact Calls.grows (matMay_yes _ M _ (((unhide HM).below (unhide k3)).below (GrownW.prop _)) hmay))))
  refine wpQuiet_nil ?_
  intro gw hw'
  have gb := grown_below hw'
  clear hw'
  clear g0 g3
  have r2 := (gb.block _ (by omega)).trans (unhide k2)
  have c2 := cell_of_one r2
  have f2 := free_of_one r2
  have HB1 := hide (bt (unhide k3) gb)
  clear gb
  go_wp2
  have cr := cell_of_one (one_setCell (u := .slice none 0 0) r2)
  exact bodyPost_ret (v := .tuple #[.agg #[.slice none 0 0], .int .i64 400]) (by simp [results, Tryd.results18, go_sem, cr]) rfl ⟨rfl, (unhide HB1).setCell (by show _ ≤ w.heap.size + 1; omega) _⟩
theorem begF_st {k : Nat} {E : Nat → Nat → Nat} (hk : k ≤ 12) (hE : BytK k E) : St k E 0 (begF k E k) := by
  refine ⟨(Two.start hE).eq (fun r s hr hs => by simp [begF, hr, hs]) (fun r s hr hs => ?_), fun r j _ hj => by omega, fun r s _ _ => ?_⟩
  · show idx r s = begF k E k r (k + s)
    unfold begF idx
    by_cases h : r = s
    · subst h; simp [hr]; intro h; omega
    · simp [hr, h, show ¬ s = r from fun e => h e.symm]; intro h; omega
  · unfold begF
    by_cases h : r < k
    · by_cases h2 : s < k
      · simp [h, h2]; exact hE r s h h2
      · simp only [h, h2, if_true, if_false]
        split <;> decide
    · simp [h]
set_option maxRecDepth 100000 in
set_option maxHeartbeats 4000000 in
theorem invInvert_sq (pm : Option Addr) (nm cm : Nat) (M : List (List Int)) (w : World) (hm : MatV w (.agg #[.slice pm nm cm]) M) (hs : SqMay M) :
    Calls Tryd.prog 18 #[.agg #[.slice pm nm cm]] w (invPost M w) := by
  obtain ⟨hl, n1, n2, k, b, o, ek, kk1, kk2, rfl, hc⟩ := mat_at hm hs.1
  obtain rfl : nm = k := by rw [← hl, hs.2, ek]
  have HM := hide hm
  have HL := hide hl
  have HSQ := hide hs
  have HMY := hide hs.1
  have HST : Hid (St nm (entry M) 0 (begF nm (entry M) nm)) := hide (begF_st n2 (by have := hs.byt; rwa [hl] at this))
  obtain ⟨g, og, q, hrow, _⟩ := hc 0 n1
  simp only [Nat.add_zero] at hrow
  have t1 : ((nm : Int) != (nm : Int)) = false := by simp
  have p1 : (0 : Int) < nm := by omega
  have hz := fun w => zero_pair w
  clear hm hc hs hl ek kk1 kk2
  go_enter Tryd.func18, Tryd.ntmps18
  go_wp2_with fail
  have k0 := hide (two_old w (.cells #[.slice (some ⟨b, o, none⟩) nm cm] 26) (.cells #[.slice none 0 0] 26))
  have k2 := hide (two_new w (.cells #[.slice (some ⟨b, o, none⟩) nm cm] 26) (.cells #[.slice none 0 0] 26))
  have k3 : Hid (Below w.heap.size w ((w.alloc (.cells #[.slice (some ⟨b, o, none⟩) nm cm] 26)).alloc (.cells #[.slice none 0 0] 26))) := hide (by go_grown)
  have k4 : ((w.alloc (.cells #[.slice (some ⟨b, o, none⟩) nm cm] 26)).alloc (.cells #[.slice none 0 0] 26)).heap.size = w.heap.size + 2 := by simp
  generalize ((w.alloc (.cells #[.slice (some ⟨b, o, none⟩) nm cm] 26)).alloc (.cells #[.slice none 0 0] 26)) = W at k0 k2 k3 k4 ⊢
  have g0 := grown_cell (cell_of_one (unhide k0))
  have g3 := grown_cell (((unhide k3).cell (cell_lt hrow)).trans hrow)
  clear hrow
  refine wp_region_grows (by kernel_rfl) (by kernel_rfl) ?_
  repeat (first | go_big_quiet_step ((go_at_call 33; exact Calls.grows (matMay_yes _ M _ (((unhide HM).below (unhide k3)).below (GrownW.prop _)) (unhide HMY)))) | quiet_step ((go_at_call 33; exact Calls.grows (matMay_yes _ M _ (((unhide HM).below (unhide k3)).below (GrownW.prop _)) (unhide HMY)))))
  refine wpQuiet_nil ?_
  intro gw hw'
  have gb := grown_below hw'
  clear hw'
  clear g0 g3
  replace k0 := hide ((gb.block _ (lt_of_block (unhide k0))).trans (unhide k0))
  replace k2 := hide ((gb.block _ (lt_of_block (unhide k2))).trans (unhide k2))
  have hB1 := bt (unhide k3) gb
  have hs1 := gb.size
  have HB := hide hB1
  clear gb hB1 k3
  have ck0 := cell_of_one (unhide k0)
  have dk0 := fun o => ((below_alloc gw o).cell (cell_lt ck0)).trans ck0
  have ck2 := cell_of_one (unhide k2)
  have dk2 := fun o => ((below_alloc gw o).cell (cell_lt ck2)).trans ck2
  go_wp2_with fail
  refine (beside_any _ nm cm M gw ((unhide HM).below (unhide HB)) (unhide HSQ)).mono ?_
  rintro e w1 ⟨rfl, b1⟩
  replace k0 := hide ((b1.block _ (lt_of_block (unhide k0))).trans (unhide k0))
  replace k2 := hide ((b1.block _ (lt_of_block (unhide k2))).trans (unhide k2))
  replace HB := hide (bt (unhide HB) b1)
  have hs2 := b1.size
  clear b1 ck0 ck2 dk0 dk2
  generalize begF nm (entry M) nm = F0 at HST ⊢
  have PN : Hid (PairAt (w1.alloc (.cells (pairC 0 (fun _ _ => 0)).toArray 74)) w1.heap.size 0 (fun _ _ => 0)) := hide (heap_alloc_new w1 _)
  have P3 := hide ((unhide PN).setAll (k' := nm) (q := F0))
  have hx := below_alloc w1 (.cells (pairC 0 (fun _ _ => 0)).toArray 74)
  have hx2 := hide (below_setCells (Nat.le_refl w1.heap.size) (pairC nm F0) 0 _ _ hx)
  go_upto_region 4 with (refine step_store_pair rfl (.tmp 4) (.tmp 22) rfl w1.heap.size nm 0 rfl F0 (fun _ _ => 0) rfl ?_ ?_; exact unhide PN)
  replace k0 := hide (((unhide hx2).block _ (lt_of_block (unhide k0))).trans (unhide k0))
  replace k2 := hide (((unhide hx2).block _ (lt_of_block (unhide k2))).trans (unhide k2))
  replace HB := hide ((unhide HB).trans ((unhide hx2).mono (unhide HB).size))
  generalize ((w1.alloc (.cells (pairC 0 (fun _ _ => 0)).toArray 74)).setCells w1.heap.size 0 (pairC nm F0)) = W4 at P3 k0 k2 HB ⊢
  clear PN hx hx2
  generalize w1.heap.size = gp at P3 hs2 ⊢
  have hgp : w.heap.size + 2 ≤ gp := by omega
  clear hs1 hs2 k4
  simp only [Act.put]
  have cz := (unhide P3).size
  go_wp2
  clear cz
  go_loopw [25] (fun cv wr => ∃ c : Nat, c ≤ nm ∧ cv = .int .i64 c ∧ ∃ F, Hid (PairAt wr gp nm F) ∧ Hid (St nm (entry M) c F) ∧ wr.heap[w.heap.size + 1]? = some (.cells #[.slice none 0 0] 26 (0, 0)) ∧ Hid (Below w.heap.size w wr)) (fun cv _ => nm - (intOf cv).toNat)
  case atStart => exact ⟨0, by omega, rfl, F0, P3, HST, unhide k2, HB⟩
  case round =>
    obtain ⟨c, hc, rfl, F, HP, HS, x2, HBR⟩ := hrel
    clear P3 HST k0 k2 HB
    by_cases hlt : c < nm
    · have hlt' : (c : Int) < nm := by omega
      have HX2 := hide x2
      clear x2
      go_wp2_with fail
      refine (settle_any gp nm c (entry M) F wr (unhide HP) n2 hlt (unhide HS)).mono ?_
      rintro e w5 (⟨rfl, rfl, h0⟩ | ⟨rfl, hb5, F', hP', hS'⟩)
      · have HNO := hide (stuck_at (unhide HSQ) (unhide HL) ⟨(unhide HS).1, (unhide HS).2.1, (unhide HS).byt n2, (unhide HS).byt2 n2⟩ hlt h0)
        clear h0
        have c2 := cell_of_one (unhide HX2)
        have f2 := free_of_one (unhide HX2)
        go_wp2
        have cr := cell_of_one (one_setCell (u := .slice none 0 0) (unhide HX2))
        have hpost : invPost M w (.returned (.tuple #[.agg #[.slice none 0 0], .int .i64 401])) (w5.setCell ⟨w.heap.size + 1, 0, none⟩ (.slice none 0 0)) := ⟨_, ([], 401), unhide HNO, rfl, OwnM.nil _ _ _ _, (unhide HBR).setCell (by show _ ≤ w.heap.size + 1; omega) _⟩
        exact bodyPost_ret (res_mat Tryd.results18 _ rfl rfl cr) rfl hpost
      · have x5 := hide ((hb5.block _ (by omega)).trans (unhide HX2))
        have HB5 := hide ((unhide HBR).trans (hb5.mono (by omega)))
        have HP5 := hide hP'
        have HS5 := hide hS'
        clear hb5 hP' hS'
        go_wp2
        go_roundw
        case rel => exact ⟨c + 1, by omega, by go_num, F', HP5, HS5, unhide x5, HB5⟩
        case measure => simp [intOf]; omega
    · have hlt' : ¬ (c : Int) < nm := by omega
      obtain rfl : c = nm := by omega
      have HX2 := hide x2
      clear x2
      go_wp2_with fail
      refine (inverse_any gp c F wr (unhide HP) n1 n2).mono ?_
      rintro e w5 ⟨u, rfl, hO, hb5⟩
      obtain ⟨us, hR⟩ := hO
      obtain ⟨go, co, eu, hgo, _⟩ := hR.form (by rw [matF_len]; omega)
      rw [matF_len] at eu
      subst eu
      have HND := hide (done_at (unhide HSQ) (unhide HL) ⟨(unhide HS).1, (unhide HS).2.1, (unhide HS).byt n2, (unhide HS).byt2 n2⟩)
      have x5 := hide ((hb5.block _ (lt_of_block (unhide HX2))).trans (unhide HX2))
      have HB5 := hide (bt (unhide HBR) hb5)
      have HR := hide hR
      have c2 := cell_of_one (unhide x5)
      have f2 := free_of_one (unhide x5)
      have hwr := lt_of_block (unhide HX2)
      have hsz := (unhide HBR).size
      clear hb5 hR
      go_wp2
      have cr := cell_of_one (one_setCell (u := .slice (some ⟨go, 0, none⟩) c co) (unhide x5))
      have hpost : invPost M w (.returned (.tuple #[.agg #[.slice (some ⟨go, 0, none⟩) c co], .int .i64 0])) (w5.setCell ⟨w.heap.size + 1, 0, none⟩ (.slice (some ⟨go, 0, none⟩) c co)) :=
        ⟨_, (matF c c (fun r s => F r (c + s)), 0), unhide HND, rfl, OwnM.mono (B := wr.heap.size) ⟨us, (unhide HR).setBelow (by show w.heap.size + 1 < _; exact hwr) _⟩ (by omega), (unhide HB5).setCell (by show _ ≤ w.heap.size + 1; omega) _⟩
      exact bodyPost_ret (res_mat Tryd.results18 _ rfl rfl cr) rfl hpost
theorem invInvert_any (v : Value) (M : List (List Int)) (w : World) (hm : MatV w v M) : Calls Tryd.prog 18 #[v] w (invPost M w) := by
  have hm' := hm
  obtain ⟨pm, nm, cm, rfl, _⟩ := hm'
  by_cases h1 : MMay M
  · by_cases h2 : M.length = (M.getD 0 []).length
    · exact invInvert_sq pm nm cm M w hm ⟨h1, h2⟩
    · refine (invInvert_noSq pm nm cm M w hm h1 h2).mono ?_
      rintro e w' ⟨rfl, hb⟩
      exact ⟨_, ([], 400), .inl ⟨fun h => h2 h.2, rfl⟩, rfl, OwnM.nil _ _ _ _, hb⟩
  · refine (invInvert_noMay pm nm cm M w hm h1).mono ?_
    rintro e w' ⟨rfl, hb⟩
    exact ⟨_, ([], 400), .inl ⟨fun h => h1 h.1, rfl⟩, rfl, OwnM.nil _ _ _ _, hb⟩
end Go.Proofs.YtfeepmjkamdldaaDoor
