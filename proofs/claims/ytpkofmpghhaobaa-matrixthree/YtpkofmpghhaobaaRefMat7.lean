/- The document's own Pick (ossuaryref1): the rows that it picks. -/
import Derived.Test.YtpkofmpghhaobaaRefMat6
import Derived.Test.YtpkofmpghhaobaaHoist
namespace Go.Proofs.Ytpkofmpghhaobaa
open Go.RowKit
set_option linter.unusedVariables false
set_option linter.unusedSimpArgs false
set_option maxRecDepth 100000 in
set_option maxHeartbeats 4000000 in
theorem refPick_some (pa : Option Addr) (b off na ca n cap : Nat) (M : List (List Int)) (rs : List Int) (w : World) (ha : MatV w (.agg #[.slice pa na ca]) M) (hm : MMay M) (h1 : 1 ≤ n) (h2 : n ≤ 12) (hl : rs.length = n)
    (hc : ∀ i, i < n → w.cell? ⟨b, off + i, none⟩ = some (.int .i64 (rs.getD i 0))) :
    Calls Try.prog 11 #[.agg #[.slice pa na ca], .slice (some ⟨b, off, none⟩) n cap] w fun e w' => ((PickMay M rs ∧ ∃ u, e = .returned (.tuple #[.agg #[u], .int .i64 0]) ∧ OwnM w' w.heap.size 25 3 u (pickM M rs)) ∨ (¬ PickMay M rs ∧ e = .returned (.tuple #[.agg #[.slice none 0 0], .int .i64 300]))) ∧ Below w.heap.size w w' := by
  obtain ⟨hlM, na1, na2, ba, oa, rfl, hcM⟩ := mat_rows ha hm
  have HA := hide ha
  have HC := hide hc
  have HCM := hide hcM
  have HL := hide hl
  have HLM := hide hlM
  clear ha hc hcM hl hlM
  have h1' : ¬ (n : Int) < 1 := by omega
  have h2' : ¬ (12 : Int) < n := by omega
  go_enter Try.func11, Try.ntmps11
  go_wp2_with fail
  have k0 := hide (two_old w (.cells #[.slice (some ⟨ba, oa, none⟩) na ca] 24) (.cells #[.slice none 0 0] 24))
  have k2 := hide (two_new w (.cells #[.slice (some ⟨ba, oa, none⟩) na ca] 24) (.cells #[.slice none 0 0] 24))
  have k3 : Hid (Below w.heap.size w ((w.alloc (.cells #[.slice (some ⟨ba, oa, none⟩) na ca] 24)).alloc (.cells #[.slice none 0 0] 24))) := hide (by go_grown)
  have k4 : ((w.alloc (.cells #[.slice (some ⟨ba, oa, none⟩) na ca] 24)).alloc (.cells #[.slice none 0 0] 24)).heap.size = w.heap.size + 2 := by simp
  generalize ((w.alloc (.cells #[.slice (some ⟨ba, oa, none⟩) na ca] 24)).alloc (.cells #[.slice none 0 0] 24)) = W at k0 k2 k3 k4 ⊢
  refine (refMay_yes _ M _ ((unhide HA).below (unhide k3)) hm).mono ?_
  rintro e g1 ⟨rfl, gb⟩
  have GB := hide gb
  clear gb
  go_wp2
  go_loopw [7] (fun iv wr => ∃ k : Nat, k ≤ n ∧ iv = .int .i64 k ∧ ∃ u, wr.heap[g1.heap.size]? = some (.cells #[u] 24 (0, 0)) ∧ Hid (∀ i, i < k → 0 ≤ rs.getD i 0 ∧ rs.getD i 0 < na) ∧ Hid (OwnM wr (g1.heap.size + 1) 25 3 u (pickM M (rs.take k))) ∧ Hid (Below g1.heap.size g1 wr) ∧ g1.heap.size + 1 ≤ wr.heap.size) (fun iv _ => n - (intOf iv).toNat)
  case atStart => exact ⟨0, by omega, rfl, _, heap_alloc_new _ _, hide (fun i hi => by omega), OwnM.nil _ _ _ _, hide (by go_grown), by simp⟩
  case round =>
    obtain ⟨k, hk, rfl, u, hb1, HG, HM, HB, hsz⟩ := hrel
    have c1 := cell_of_one hb1
    have f1 := free_of_one hb1
    have hBW : Below W.heap.size W wr := bt (unhide GB) (unhide HB)
    have r2 := (hBW.block _ (by omega)).trans (unhide k2)
    have r0 := (hBW.block _ (by omega)).trans (unhide k0)
    have c0 := cell_of_one r0
    have c2 := cell_of_one r2
    have f2 := free_of_one r2
    have HBW := hide hBW
    clear hBW
    by_cases hlt : k < n
    · have hlt' : (k : Int) < n := by omega
      have c3 := ((bt (unhide k3) (unhide HBW)).cell (cell_lt (unhide HC k hlt))).trans (unhide HC k hlt)
      obtain ⟨x, ex⟩ : ∃ x, x = rs.getD k 0 := ⟨_, rfl⟩
      rw [← ex] at c3
      have EX := hide ex
      clear ex
      have g3 := grown_cell c3
      have g0 := grown_cell c0
      have R2 := hide r2
      clear c2 f2 r2 r0
      by_cases hx0 : x < 0
      · go_wp2
        refine wp_region_grows (by kernel_rfl) (by kernel_rfl) ?_
        repeat (first | go_big_quiet_step ((fail)) | quiet_step ((fail)))
        refine wpQuiet_nil ?_
        intro gw hw'
        have gb := grown_below hw'
        clear hw'
        have r2 := (gb.block _ (lt_of_block (unhide R2))).trans (unhide R2)
        have c2 := cell_of_one r2
        have f2 := free_of_one r2
        have HF := hide (bt (bt (unhide k3) (unhide HBW)) gb)
        clear g0 g3 gb c0 c1 c3 f1
        go_wp2
        have cr := cell_of_one (one_setCell (u := .slice none 0 0) r2)
        refine bodyPost_ret (v := .tuple #[.agg #[.slice none 0 0], .int .i64 300]) (by simp [results, Try.results11, go_sem, cr]) rfl ⟨.inr ⟨fun h => ?_, rfl⟩, (unhide HF).setCell (by show _ ≤ w.heap.size + 1; omega) _⟩
        have := (h.2.2.2 k (by rw [unhide HL]; exact hlt)).1
        rw [← unhide EX] at this
        omega
      · by_cases hx1 : (na : Int) ≤ x
        · go_wp2
          refine wp_region_grows (by kernel_rfl) (by kernel_rfl) ?_
          repeat (first | go_big_quiet_step ((fail)) | quiet_step ((fail)))
          refine wpQuiet_nil ?_
          intro gw hw'
          have gb := grown_below hw'
          clear hw'
          have r2 := (gb.block _ (lt_of_block (unhide R2))).trans (unhide R2)
          have c2 := cell_of_one r2
          have f2 := free_of_one r2
          have HF := hide (bt (bt (unhide k3) (unhide HBW)) gb)
          clear g0 g3 gb c0 c1 c3 f1
          go_wp2
          have cr := cell_of_one (one_setCell (u := .slice none 0 0) r2)
          refine bodyPost_ret (v := .tuple #[.agg #[.slice none 0 0], .int .i64 300]) (by simp [results, Try.results11, go_sem, cr]) rfl ⟨.inr ⟨fun h => ?_, rfl⟩, (unhide HF).setCell (by show _ ≤ w.heap.size + 1; omega) _⟩
          have := (h.2.2.2 k (by rw [unhide HL]; exact hlt)).2
          rw [← unhide EX, unhide HLM] at this
          omega
        · go_wp2
          refine wp_region_grows (by kernel_rfl) (by kernel_rfl) ?_
          repeat (first | go_big_quiet_step ((fail)) | quiet_step ((fail)))
          refine wpQuiet_nil ?_
          intro gw hw'
          have gb := grown_below hw'
          clear hw'
          obtain ⟨y, hy, rfl⟩ : ∃ y : Nat, y < na ∧ x = y := ⟨x.toNat, by omega, by omega⟩
          have hy' : (y : Int) < na := by omega
          have hy0 : (0 : Int) ≤ y := by omega
          obtain ⟨v, hv, x, nx, cx, rfl, hnx, hx⟩ := unhide HCM y hy
          have hFB := bt (bt (unhide k3) (unhide HBW)) gb
          have c2 := (hFB.cell (cell_lt hv)).trans hv
          have c3 := (gb.cell (cell_lt c3)).trans c3
          have c0 := (gb.cell (cell_lt c0)).trans c0
          have hb1 := (gb.block _ (lt_of_block hb1)).trans hb1
          have c1 := cell_of_one hb1
          have f1 := free_of_one hb1
          have hnx12 : nx ≤ 12 := by rw [← hx.1]; exact mrow_le hm y
          obtain ⟨row, er⟩ : ∃ r, r = M.getD y [] := ⟨_, rfl⟩
          rw [← er] at hx
          have ER := hide er
          have HLR := hide hx.1
          have HX := hide (hx.below hFB)
          have HGB := hide gb
          have hsz' : g1.heap.size + 1 ≤ gw.heap.size := Nat.le_trans hsz gb.size
          obtain ⟨us, hR⟩ := unhide HM
          have hR := hR.below gb
          have hlu : us.length = k := by rw [hR.len]; simp [pickM, unhide HL]; omega
          have HO := hide hR.outer
          have HR := hide hR
          have lba : ba < w.heap.size := cell_lt hv
          have lb : b < w.heap.size := cell_lt (unhide HC k hlt)
          have lg := (unhide GB).size
          clear hR hv hx hnx er hFB gb hx0 hx1 g0 g3
          have g0 := kept_cell (B := g1.heap.size + 1) c0 (by show w.heap.size < _; omega)
          have g1' := kept_cell (B := g1.heap.size + 1) c1 (by show g1.heap.size < _; omega)
          have g2 := kept_cell (B := g1.heap.size + 1) c2 (by show ba < _; omega)
          have g3 := kept_cell (B := g1.heap.size + 1) c3 (by show b < _; omega)
          clear c0 c1 c2 c3
          go_wp2
          refine wp_region_ord_then (S := Below (g1.heap.size + 1) gw) [(true, 0), (true, 1), (true, 3), (true, 4), (true, 5), (true, 6), (true, 7), (true, 8), (true, 9), (true, 10), (false, 2), (false, 11), (false, 12), (false, 13), (true, 14)] (List.cons_ne_nil _ _) (by kernel_rfl) (by kernel_rfl) (by kernel_rfl) (by kernel_rfl) (by kernel_rfl) ((Below.refl _ _).drew) ?_
          simp only [List.dropLast_cons_cons, List.dropLast_singleton, List.getLast_cons_cons, List.getLast_singleton, withOps, List.map_cons, List.map_nil, List.getElem?_cons_succ, List.getElem?_cons_zero]
          repeat (refine walkH_read (by rfl) (by (intro gx; go_simp; try (with_reducible rfl))) ?_; try simp only [Act.put, List.setIfInBounds_toArray, List.set_cons_zero, List.set_cons_succ])
          refine walkH_do rfl (fun K hK => ?_)
          go_simp
          refine hK _ _ (Below.mono (by go_grown) hsz') ?_
          clear hK K
          try simp only [Act.put, List.setIfInBounds_toArray, List.set_cons_zero, List.set_cons_succ]
          have hb2 : Below gw.heap.size gw (gw.alloc (.cells #[] 3)).drew := by go_grown
          have HE0 := hide ((own_empty' gw 3 (g1.heap.size + 1) hsz').below (w' := (gw.alloc (.cells #[] 3)).drew) (by go_grown))
          have HE1 := hide ((own_empty' gw 3 gw.heap.size (Nat.le_refl _)).below (w' := (gw.alloc (.cells #[] 3)).drew) (by go_grown))
          have RA := hide ((unhide HR).below hb2)
          have HXA := hide ((unhide HX).below hb2)
          have AU : Hid (Apt (.slice (some ⟨gw.heap.size, 0, none⟩) 0 0) u) := hide (apt_new (unhide HO) rfl (Nat.le_refl _))
          have AR : Hid (∀ (j : Nat) x, us[j]? = some x → Apt (.slice (some ⟨gw.heap.size, 0, none⟩) 0 0) x) := hide (fun j x hx => apt_new ((unhide HR).row j x hx) rfl (Nat.le_refl _))
          have hsA : gw.heap.size + 1 ≤ (gw.alloc (.cells #[] 3)).drew.heap.size := by simp
          have HbA := hide hb2
          clear hb2
          generalize (gw.alloc (.cells #[] 3)).drew = wA at *
          refine walkH_do rfl (fun K hK => ?_)
          refine step_append_row _ (by rfl) (.tmp 46) (.tmp 54) 25 (by rfl) (g1.heap.size + 1) 3 (.int .i64 0) 8 Try.underlying25 Try.infoInt rfl (.slice (some ⟨gw.heap.size, 0, none⟩) 0 0) [] (by simp [Act.eval]) (unhide HE0) x nx cx _ (row.map (Value.int .i64)) (by simp [Act.eval]) (unhide HXA).2 (by simpa using (unhide HX).1) (int_at (unhide HX).1) (ints_oneCell _ _) (by simp; omega) (by omega) (by omega) ?_
          intro v1 w1 O1 P1
          have hB1 : Below gw.heap.size gw w1 := P1.below (unhide HE1) (unhide HbA) (Nat.le_refl _) (by omega)
          refine hK _ _ (hB1.mono hsz') ?_
          clear hK K
          have HR1 := hide ((unhide RA).other P1 (unhide AU) (unhide AR))
          have HAn := hide (fun (j : Nat) (y : Value) (hy : us[j]? = some y) => P1.apt ((unhide RA).row j y hy) (unhide AR j y hy))
          simp only [List.nil_append] at O1
          obtain ⟨a1, q1, e1⟩ := O1.form
          rw [List.length_map, unhide HLR] at e1
          subst e1
          have hs1 : g1.heap.size + 1 ≤ w1.heap.size := Nat.le_trans hsz' hB1.size
          have HO1 := hide O1
          have HB1 := hide hB1
          clear O1 P1 hB1
          try simp only [Act.put, List.setIfInBounds_toArray, List.set_cons_zero, List.set_cons_succ]
          refine walkH_do rfl (fun K hK => ?_)
          go_simp
          have hb3 : Below w1.heap.size w1 (w1.alloc (.cells #[.slice a1 nx q1] 25)) := by go_grown
          refine hK _ _ ((bt (unhide HB1) hb3).mono hsz') ?_
          clear hK K
          try simp only [Act.put, List.setIfInBounds_toArray, List.set_cons_zero, List.set_cons_succ]
          refine walkH_do rfl (fun K hK => ?_)
          refine step_push _ (by rfl) (.tmp 45) (.tmp 56) 22 (by rfl) (g1.heap.size + 1) 25 (.slice none 0 0) 24 Try.underlying22 Try.infoRow rfl u us (by simp [Act.eval]) (((unhide HR1).outer).below hb3) (.slice a1 nx q1) (by rfl) w1.heap.size 0 (by simp [Act.eval]) (by simp [go_sem]) (by omega) (by omega) (by simp; omega) ?_
          intro v2 w2 O2 P2
          have hB2 : Below (g1.heap.size + 1) w1 w2 := P2.below (((unhide HR1).outer).below hb3) (hb3.mono hs1) (Nat.le_refl _) (by simp; omega)
          have hB02 : Below (g1.heap.size + 1) gw w2 := ((unhide HB1).mono hsz').trans hB2
          refine hK _ _ hB02 ?_
          clear hK K
          obtain ⟨gv, cv, ev, _⟩ := own_form O2 (by simp)
          subst ev
          have hb12 := (hB02.block _ (by omega)).trans hb1
          have c12 := cell_of_one hb12
          have f12 := free_of_one hb12
          have HP2 := hide P2
          have HO2 := hide O2
          have HB12 := hide hb12
          have HBB := hide hB02
          clear P2 O2 hb12 hB02 hB2
          try simp only [Act.put, List.setIfInBounds_toArray, List.set_cons_zero, List.set_cons_succ]
          repeat (refine walkH_read (by rfl) (by (intro gx; go_simp; try (with_reducible rfl))) ?_; try simp only [Act.put, List.setIfInBounds_toArray, List.set_cons_zero, List.set_cons_succ])
          refine lastPost_of_list ?_
          simp only [List.cons_append, List.nil_append]
          go_wp2
          refine NoPanic.normal ?_
          go_wp2
          go_roundw
          case rel =>
            have hM : OwnM w2 (g1.heap.size + 1) 25 3 _ (pickM M (rs.take k) ++ [row]) := ⟨_, RowsO.push ((unhide HR1).below hb3) ((unhide HO1).below hb3) (unhide HAn) (by decide) (unhide HO2) (unhide HP2)⟩
            refine ⟨k + 1, by omega, by go_num, _, one_setCell (unhide HB12), hide (fun i hi => ?_), hide ?_, hide ((((unhide HB).trans ((unhide HGB).mono (by omega))).trans ((unhide HBB).mono (by omega))).setCell (Nat.le_refl _) _), ?_⟩
            · by_cases q : i = k
              · rw [q, ← unhide EX]; omega
              · exact unhide HG i (by omega)
            · rw [pick_snoc M rs k (by rw [unhide HL]; omega), ← unhide EX, Int.toNat_natCast, ← unhide ER]
              have := hM.setBelow (a := ⟨g1.heap.size, 0, none⟩) (by show g1.heap.size < _; omega) (.slice (some ⟨gv, 0, none⟩) (us.length + 1) cv)
              simpa [hlu] using this
            · have := (unhide HBB).size
              simp
              omega
          case measure => simp [intOf]; omega
    · have hlt' : ¬ (k : Int) < n := by omega
      obtain rfl : k = n := by omega
      obtain ⟨us, hR⟩ := unhide HM
      obtain ⟨au, cu, eu⟩ := hR.outer.form
      have hlu : us.length = k := by rw [hR.len]; simp [pickM, unhide HL]
      rw [hlu] at eu
      subst eu
      have HR := hide hR
      have HF := hide (bt (unhide k3) (unhide HBW))
      clear hR
      go_wp2
      have cr := cell_of_one (one_setCell (u := .slice au k cu) r2)
      refine bodyPost_ret (v := .tuple #[.agg #[.slice au k cu], .int .i64 0]) (by simp [results, Try.results11, go_sem, cr]) rfl ⟨.inl ⟨⟨hm, by rw [unhide HL]; omega, by rw [unhide HL]; omega, fun i hi => ?_⟩, _, rfl, ⟨us, ?_⟩⟩, (unhide HF).setCell (by show _ ≤ w.heap.size + 1; omega) _⟩
      · rw [unhide HLM]
        exact unhide HG i (by rw [← unhide HL]; exact hi)
      · have hh := ((unhide HR).setBelow (a := ⟨w.heap.size + 1, 0, none⟩) (by show w.heap.size + 1 < _; have := (unhide GB).size; omega) (.slice au k cu)).mono (B' := w.heap.size) (by have := (unhide GB).size; omega)
        rw [List.take_of_length_le (by rw [unhide HL]; omega)] at hh
        exact hh
theorem pick_len {M : List (List Int)} {rs : List Int} (h : rs.length < 1 ∨ 12 < rs.length) : ¬ PickMay M rs := fun hm => by obtain ⟨_, h1, h2, _⟩ := hm; omega
/-- what Pick answers: the rows, the error's number -/
def pickR (M : List (List Int)) (rs : List Int) (r : List (List Int) × Int) : Prop := (PickMay M rs ∧ r = (pickM M rs, 0)) ∨ (¬ PickMay M rs ∧ r = ([], 300))
theorem refPick_any (v : Value) (a : Option Addr) (n cap : Nat) (M : List (List Int)) (rs : List Int) (w : World) (hv : MatV w v M) (hr : Ints w a n cap rs) (hn : n ≤ maxLen) :
    Calls Try.prog 11 #[v, .slice a n cap] w fun e w' => ∃ u r, pickR M rs r ∧ e = .returned (.tuple #[.agg #[u], .int .i64 r.2]) ∧ OwnM w' w.heap.size 25 3 u r.1 ∧ Below w.heap.size w w' := by
  have hv' := hv
  obtain ⟨pa, na, ca, rfl, _⟩ := hv'
  obtain ⟨hl, hrow⟩ := hr
  by_cases hm : MMay M
  · by_cases h : n < 1 ∨ 12 < n
    · refine (refPick_len pa a na ca n cap M w hv hm h).mono ?_
      rintro e w' ⟨rfl, hb⟩
      exact ⟨_, ([], 300), .inr ⟨pick_len (by rw [hl]; exact h), rfl⟩, rfl, OwnM.nil _ _ _ _, hb⟩
    · rcases hrow with ⟨_, h0, _⟩ | ⟨h0, _⟩ | ⟨_, _, b, off, rfl, hc⟩
      · omega
      · omega
      · refine (refPick_some pa b off na ca n cap M rs w hv hm (by omega) (by omega) hl hc).mono ?_
        rintro e w' ⟨⟨hp, u, rfl, ho⟩ | ⟨hp, rfl⟩, hb⟩
        · exact ⟨u, (pickM M rs, 0), .inl ⟨hp, rfl⟩, rfl, ho, hb⟩
        · exact ⟨_, ([], 300), .inr ⟨hp, rfl⟩, rfl, OwnM.nil _ _ _ _, hb⟩
  · refine (refPick_noM pa a na ca n cap M w hv hm).mono ?_
    rintro e w' ⟨rfl, hb⟩
    exact ⟨_, ([], 300), .inr ⟨fun h => hm h.1, rfl⟩, rfl, OwnM.nil _ _ _ _, hb⟩
end Go.Proofs.Ytpkofmpghhaobaa
