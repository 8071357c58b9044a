/- Package matrix: what its calls answer, as functions. -/
import Derived.Test.YtfeepmjkamdldaaDoorMatWalk5
namespace Go.Proofs.YtfeepmjkamdldaaDoor
open Go.RowKit
set_option linter.unusedVariables false
set_option linter.unusedSimpArgs false
theorem row_colsF {M : List (List Int)} (hm : MMay M) {x : Nat} (hx : x < M.length) : M.getD x [] = colsF (M.getD 0 []).length (fun c => entry M x c) := by
  have hl : (M.getD x []).length = (M.getD 0 []).length := (hm.2.2.2.2 x hx).1
  apply List.ext_getElem
  · rw [colsF_len, hl]
  · intro c h1 h2
    have hc : c < (M.getD 0 []).length := by rw [← hl]; exact h1
    have := (mmay_at hm hx hc).1
    have e2 : ∀ (f : Nat → Nat) (h2 : c < (colsF (M.getD 0 []).length f).length), (colsF (M.getD 0 []).length f)[c] = ((f c : Nat) : Int) := fun f h2 => by simp [colsF]
    rw [e2, ← this]
    generalize M.getD x [] = l at h1 ⊢
    simp [List.getD, List.getElem?_eq_getElem h1]
theorem pickM_matF {M : List (List Int)} {rs : List Int} (hm : MMay M) (hn : namesTo rs M.length rs.length) : matF rs.length (M.getD 0 []).length (pickAt M rs) = pickM M rs := by
  apply List.ext_getElem
  · rw [matF_len, pickM_len]
  · intro r h1 h2
    rw [matF_len] at h1
    have hx := hn r h1
    have e1 : (matF rs.length (M.getD 0 []).length (pickAt M rs)).getD r [] = (pickM M rs).getD r [] := by
      rw [matF_row _ _ _ _ h1, pickM_row h1]
      exact (row_colsF hm (by omega)).symm
    simpa [List.getD, List.getElem?_eq_getElem, h1, h2, matF_len] using e1
set_option maxRecDepth 100000 in
set_option maxHeartbeats 2000000 in
theorem matPick_noM (pa a : Option Addr) (na ca n cap : Nat) (M : List (List Int)) (w : World) (hv : MatV w (.agg #[.slice pa na ca]) M) (hm : ¬ MMay M) :
    Calls Tryd.prog 17 #[.agg #[.slice pa na ca], .slice a n cap] w fun e w' => e = .returned (.tuple #[.agg #[.slice none 0 0], .int .i64 300]) ∧ Below w.heap.size w w' := by
  have HA := hide hv
  have HM := hide hm
  clear hv hm
  go_enter Tryd.func17, Tryd.ntmps17
  go_wp2_with fail
  have k2 := hide (three_new w (.cells #[.slice pa na ca] 26) (.cells #[.slice a n cap] 38) (.cells #[.slice none 0 0] 26))
  have k3 : Hid (Below w.heap.size w (((w.alloc (.cells #[.slice pa na ca] 26)).alloc (.cells #[.slice a n cap] 38)).alloc (.cells #[.slice none 0 0] 26))) := hide (by go_grown)
  have k4 : (((w.alloc (.cells #[.slice pa na ca] 26)).alloc (.cells #[.slice a n cap] 38)).alloc (.cells #[.slice none 0 0] 26)).heap.size = w.heap.size + 3 := by simp
  generalize (((w.alloc (.cells #[.slice pa na ca] 26)).alloc (.cells #[.slice a n cap] 38)).alloc (.cells #[.slice none 0 0] 26)) = W at k2 k3 k4 ⊢
  refine (matMay_no _ M W ((unhide HA).below (unhide k3)) (unhide HM)).mono ?_
  rintro e gw ⟨rfl, gb⟩
  have r2 := (gb.block _ (by omega)).trans (unhide k2)
  have c2 := cell_of_one r2
  have f2 := free_of_one r2
  have HB1 := hide (bt (unhide k3) gb)
  clear gb
  go_wp2
  have cr := cell_of_one (one_setCell (u := .slice none 0 0) r2)
  exact bodyPost_ret (v := .tuple #[.agg #[.slice none 0 0], .int .i64 300]) (by simp [results, Tryd.results17, go_sem, cr]) rfl ⟨rfl, (unhide HB1).setCell (by show _ ≤ w.heap.size + 1 + 1; omega) _⟩
set_option maxRecDepth 100000 in
set_option maxHeartbeats 2000000 in
theorem matPick_noRows (pa a : Option Addr) (na ca n cap : Nat) (M : List (List Int)) (w : World) (hv : MatV w (.agg #[.slice pa na ca]) M) (hm : MMay M)
    (hr : ∀ W, Below w.heap.size w W → Calls Tryd.prog 34 #[.agg #[.slice pa na ca], .slice a n cap] W fun e w' => e = .returned (.bool false) ∧ Below W.heap.size W w') :
    Calls Tryd.prog 17 #[.agg #[.slice pa na ca], .slice a n cap] w fun e w' => e = .returned (.tuple #[.agg #[.slice none 0 0], .int .i64 300]) ∧ Below w.heap.size w w' := by
  have HA := hide hv
  have HM := hide hm
  have HR := hide hr
  clear hv hm hr
  go_enter Tryd.func17, Tryd.ntmps17
  go_wp2_with fail
  have k0 := hide (three_old w (.cells #[.slice pa na ca] 26) (.cells #[.slice a n cap] 38) (.cells #[.slice none 0 0] 26))
  have k1 := hide (three_mid w (.cells #[.slice pa na ca] 26) (.cells #[.slice a n cap] 38) (.cells #[.slice none 0 0] 26))
  have k2 := hide (three_new w (.cells #[.slice pa na ca] 26) (.cells #[.slice a n cap] 38) (.cells #[.slice none 0 0] 26))
  have k3 : Hid (Below w.heap.size w (((w.alloc (.cells #[.slice pa na ca] 26)).alloc (.cells #[.slice a n cap] 38)).alloc (.cells #[.slice none 0 0] 26))) := hide (by go_grown)
  have k4 : (((w.alloc (.cells #[.slice pa na ca] 26)).alloc (.cells #[.slice a n cap] 38)).alloc (.cells #[.slice none 0 0] 26)).heap.size = w.heap.size + 3 := by simp
  generalize (((w.alloc (.cells #[.slice pa na ca] 26)).alloc (.cells #[.slice a n cap] 38)).alloc (.cells #[.slice none 0 0] 26)) = W at k0 k1 k2 k3 k4 ⊢
  refine (matMay_yes _ M W ((unhide HA).below (unhide k3)) (unhide HM)).mono ?_
  rintro e gw ⟨rfl, gb⟩
  have r0 := (gb.block _ (by omega)).trans (unhide k0)
  have r1 := (gb.block _ (by omega)).trans (unhide k1)
  have r2 := (gb.block _ (by omega)).trans (unhide k2)
  have c0 := cell_of_one r0
  have c1 := cell_of_one r1
  have hsg := gb.size
  have HB1 := hide (bt (unhide k3) gb)
  have R2 := hide r2
  clear gb r0 r1 r2
  go_wp2_with fail
  refine (unhide HR gw (unhide HB1)).mono ?_
  rintro e gx ⟨rfl, gb⟩
  have r2 := (gb.block _ (by omega)).trans (unhide R2)
  have c2 := cell_of_one r2
  have f2 := free_of_one r2
  have HB2 := hide (bt (unhide HB1) gb)
  clear gb c0 c1
  go_wp2
  have cr := cell_of_one (one_setCell (u := .slice none 0 0) r2)
  exact bodyPost_ret (v := .tuple #[.agg #[.slice none 0 0], .int .i64 300]) (by simp [results, Tryd.results17, go_sem, cr]) rfl ⟨rfl, (unhide HB2).setCell (by show _ ≤ w.heap.size + 1 + 1; omega) _⟩
set_option maxRecDepth 100000 in
set_option maxHeartbeats 4000000 in
theorem matPick_yes (pa a : Option Addr) (na ca n cap : Nat) (M : List (List Int)) (rs : List Int) (w : World) (hv : MatV w (.agg #[.slice pa na ca]) M) (hx : Ints w a n cap rs) (hm : MMay M) (h1 : 1 ≤ n) (h2 : n ≤ 12) (hn : namesTo rs na n) :
    Calls Tryd.prog 17 #[.agg #[.slice pa na ca], .slice a n cap] w fun e w' => ∃ u, e = .returned (.tuple #[.agg #[u], .int .i64 0]) ∧ OwnM w' w.heap.size 38 3 u (pickM M rs) ∧ Below w.heap.size w w' := by
  obtain ⟨hlA, nA1, nA2, kA, b1, o1, ekA, kA1, kA2, rfl, hrA⟩ := mat_at hv hm
  obtain ⟨gA, ogA, capA, dA, _⟩ := hrA 0 nA1
  have HA := hide hv
  have HM := hide hm
  have HX := hide hx
  have HN := hide hn
  have HLA := hide hlA
  have HEA := hide ekA
  clear hv hm hx hn hrA hlA ekA
  rw [Nat.add_zero] at dA
  have lA := cell_lt dA
  go_enter Tryd.func17, Tryd.ntmps17
  go_wp2_with fail
  have k0 := hide (three_old w (.cells #[.slice (some ⟨b1, o1, none⟩) na ca] 26) (.cells #[.slice a n cap] 38) (.cells #[.slice none 0 0] 26))
  have k1 := hide (three_mid w (.cells #[.slice (some ⟨b1, o1, none⟩) na ca] 26) (.cells #[.slice a n cap] 38) (.cells #[.slice none 0 0] 26))
  have k2 := hide (three_new w (.cells #[.slice (some ⟨b1, o1, none⟩) na ca] 26) (.cells #[.slice a n cap] 38) (.cells #[.slice none 0 0] 26))
  have k3 : Hid (Below w.heap.size w (((w.alloc (.cells #[.slice (some ⟨b1, o1, none⟩) na ca] 26)).alloc (.cells #[.slice a n cap] 38)).alloc (.cells #[.slice none 0 0] 26))) := hide (by go_grown)
  have k4 : (((w.alloc (.cells #[.slice (some ⟨b1, o1, none⟩) na ca] 26)).alloc (.cells #[.slice a n cap] 38)).alloc (.cells #[.slice none 0 0] 26)).heap.size = w.heap.size + 3 := by simp
  generalize (((w.alloc (.cells #[.slice (some ⟨b1, o1, none⟩) na ca] 26)).alloc (.cells #[.slice a n cap] 38)).alloc (.cells #[.slice none 0 0] 26)) = W at k0 k1 k2 k3 k4 ⊢
  have HD := hide dA
  clear dA
  refine (matMay_yes _ M W ((unhide HA).below (unhide k3)) (unhide HM)).mono ?_
  rintro e gw ⟨rfl, gb⟩
  have R0 := hide ((gb.block _ (by omega)).trans (unhide k0))
  have R1 := hide ((gb.block _ (by omega)).trans (unhide k1))
  have R2 := hide ((gb.block _ (by omega)).trans (unhide k2))
  have c0 := cell_of_one (unhide R0)
  have c1 := cell_of_one (unhide R1)
  have hsg := gb.size
  have HB1 := hide (bt (unhide k3) gb)
  clear gb k0 k1 k2
  go_wp2_with fail
  refine (areRowsOf_any _ _ _ _ _ _ rs gw ((unhide HX).below (unhide HB1)) h1 h2).mono ?_
  rintro e gx ⟨⟨_, rfl⟩ | ⟨hno, _⟩, gb⟩
  rotate_left
  · exact absurd (unhide HN) hno
  replace R0 := hide ((gb.block _ (by omega)).trans (unhide R0))
  replace R1 := hide ((gb.block _ (by omega)).trans (unhide R1))
  replace R2 := hide ((gb.block _ (by omega)).trans (unhide R2))
  have hsx := gb.size
  replace HB1 := hide (bt (unhide HB1) gb)
  clear c0 c1 gb
  have g0 := kept_cell (B := w.heap.size + 2) (cell_of_one (unhide R0)) (by show w.heap.size < _; omega)
  have g1 := kept_cell (B := w.heap.size + 2) (cell_of_one (unhide R1)) (by show w.heap.size + 1 < _; omega)
  have g3 := kept_cell (B := w.heap.size + 2) (((unhide HB1).cell lA).trans (unhide HD)) (by show b1 < _; have : b1 < w.heap.size := lA; omega)
  have p2 : (0 : Int) < na := by omega
  have p2n : 0 < na := by omega
  have p2z : ¬ na = 0 := by omega
  go_wp2
  refine wp_region_ord_then (S := Below (w.heap.size + 2) gx) [(true, 0), (true, 1), (true, 2), (true, 3), (true, 4), (true, 5), (true, 6), (false, 7), (false, 8), (false, 9)] (List.cons_ne_nil _ _) (by kernel_rfl) (by kernel_rfl) (by kernel_rfl) (by kernel_rfl) (by kernel_rfl) ((Below.refl _ _).drew) ?_
  simp only [List.dropLast_cons_cons, List.dropLast_singleton, List.getLast_cons_cons, List.getLast_singleton, withOps, List.map_cons, List.map_nil, List.getElem?_cons_succ, List.getElem?_cons_zero]
  repeat (refine walkH_read (by rfl) (by (intro gx; go_simp; try (with_reducible rfl))) ?_; try simp only [Act.put, List.setIfInBounds_toArray, List.set_cons_zero, List.set_cons_succ])
  refine walkH_do rfl (fun K hK => ?_)
  go_simp
  refine hK _ _ ((Below.refl _ _).drew) ?_
  clear hK K
  try simp only [Act.put, List.setIfInBounds_toArray, List.set_cons_zero, List.set_cons_succ]
  refine walkH_do rfl (fun K hK => ?_)
  go_simp
  refine (fill_any n kA 36 _ (pickAt M rs) gx.drew h1 h2 kA1 kA2 (enters_it Tryd.func36 (by kernel_rfl) rfl) (fun r c V hr hc hV => by
    have hV' : Below gx.heap.size gx V := ((Below.refl _ _).drew).trans hV
    have e0 := (hV'.block _ (by omega)).trans (unhide R0)
    have e1 := (hV'.block _ (by omega)).trans (unhide R1)
    have hbV := bt (unhide HB1) hV'
    simpa using pickAt_any r c w.heap.size (w.heap.size + 1) _ _ na ca n cap M rs V (cell_of_one e0) (cell_of_one e1) ((unhide HA).below hbV) (unhide HM) ((unhide HX).below hbV) (unhide HN) hr (by rw [unhide HEA]; exact hc) h2)).mono ?_
  rintro e w4 ⟨u, rfl, hO, hb4⟩
  have hb4' : Below gx.heap.size gx w4 := ((Below.refl _ _).drew).trans hb4
  refine hK _ _ (hb4'.mono (by omega)) ?_
  clear hK K
  try simp only [Act.put, List.setIfInBounds_toArray, List.set_cons_zero, List.set_cons_succ]
  obtain ⟨p, m, c, rfl, hn⟩ := hO.form
  have eM : matF n kA (pickAt M rs) = pickM M rs := by
    have hl := (unhide HX).1
    rw [← pickM_matF (unhide HM) (by rw [unhide HLA, hl]; exact unhide HN), hl, unhide HEA]
  rw [eM] at hO
  have r2 := (hb4'.block _ (by omega)).trans (unhide R2)
  have hs0 : gx.drew.heap.size = gx.heap.size := rfl
  rw [hs0] at hO
  have HO := hide hO
  have H4 := hide hb4'
  have c2 := cell_of_one r2
  have f2 := free_of_one r2
  have R4 := hide r2
  clear hO hb4 hb4' hn eM r2
  refine walkH_do rfl (fun K hK => ?_)
  go_simp
  refine hK _ _ (((unhide H4).mono (by omega)).setCell (by show _ ≤ w.heap.size + 1 + 1; omega) _) ?_
  clear hK K
  try simp only [Act.put, List.setIfInBounds_toArray, List.set_cons_zero, List.set_cons_succ]
  refine lastPost_of_list ?_
  simp only [List.cons_append, List.nil_append]
  go_wp2
  refine NoPanic.normal ?_
  go_wp2
  have cr := cell_of_one (one_setCell (u := .slice p m c) (unhide R4))
  exact bodyPost_ret (v := .tuple #[.agg #[.slice p m c], .int .i64 0]) (by simp [results, Tryd.results17, go_sem, cr]) rfl ⟨_, rfl, ((unhide HO).setBelow (by show w.heap.size + 1 + 1 < _; omega) _).mono (by omega), ((bt (unhide HB1) (unhide H4))).setCell (by show _ ≤ w.heap.size + 1 + 1; omega) _⟩
theorem matMay_fun (v : Value) (M : List (List Int)) (w : World) (h : MatV w v M) : Calls Tryd.prog 33 #[v] w fun e w' => e = .returned (.bool (decide (MMay M))) ∧ Below w.heap.size w w' := by
  refine (matMay_any v M w h).mono ?_
  rintro e w' ⟨⟨hm, rfl⟩ | ⟨hm, rfl⟩, hB⟩
  · rw [decide_eq_true hm]; exact ⟨rfl, hB⟩
  · rw [decide_eq_false hm]; exact ⟨rfl, hB⟩
theorem matIdentity_fun (k : Int) (w : World) :
    Calls Tryd.prog 19 #[.int .i64 k] w fun e w' => ∃ u, e = .returned (.tuple #[.agg #[u], .int .i64 (idF k).2]) ∧ OwnM w' w.heap.size 38 3 u (idF k).1 ∧ Below w.heap.size w w' := by
  by_cases h : 1 ≤ k ∧ k ≤ 12
  · obtain ⟨n, rfl⟩ : ∃ n : Nat, k = n := ⟨k.toNat, by omega⟩
    refine (matIdentity_yes n w (by omega) (by omega)).mono ?_
    rintro e w' ⟨u, rfl, ho, hB⟩
    simp only [idF, if_pos h, Int.toNat_natCast]
    exact ⟨u, rfl, ho.mono (by omega), hB⟩
  · refine (matIdentity_no k w (by omega)).mono ?_
    rintro e w' ⟨rfl, hB⟩
    simp only [idF, if_neg h]
    exact ⟨_, rfl, OwnM.nil _ _ _ _, hB⟩
theorem matMul_fun (a b : Value) (A B : List (List Int)) (w : World) (ha : MatV w a A) (hb : MatV w b B) :
    Calls Tryd.prog 46 #[a, b] w fun e w' => ∃ u, e = .returned (.tuple #[.agg #[u], .int .i64 (mulF A B).2]) ∧ OwnM w' w.heap.size 38 3 u (mulF A B).1 ∧ Below w.heap.size w w' := by
  have ha' := ha
  have hb' := hb
  obtain ⟨pa, na, ca, rfl, _⟩ := ha'
  obtain ⟨pb, nb, cb, rfl, _⟩ := hb'
  have no : ¬ MulMay A B → ∀ e w', (e = Ending.returned (.tuple #[.agg #[.slice none 0 0], .int .i64 300]) ∧ Below w.heap.size w w') → ∃ u, e = .returned (.tuple #[.agg #[u], .int .i64 (mulF A B).2]) ∧ OwnM w' w.heap.size 38 3 u (mulF A B).1 ∧ Below w.heap.size w w' := by
    rintro hm e w' ⟨rfl, hB⟩
    simp only [mulF, if_neg hm]
    exact ⟨_, rfl, OwnM.nil _ _ _ _, hB⟩
  by_cases h1 : MMay A
  · by_cases h2 : MMay B
    · by_cases h3 : (A.getD 0 []).length = B.length
      · refine (matMul_yes pa pb na ca nb cb A B w ha hb h1 h2 h3).mono ?_
        rintro e w' ⟨u, rfl, ho, hB⟩
        simp only [mulF, if_pos (show MulMay A B from ⟨h1, h2, h3⟩)]
        exact ⟨u, rfl, ho, hB⟩
      · exact (matMul_noLen pa pb na ca nb cb A B w ha hb h1 h2 h3).mono (no (fun h => h3 h.2.2))
    · exact (matMul_noB pa pb na ca nb cb A B w ha hb h1 h2).mono (no (fun h => h2 h.2.1))
  · exact (matMul_noA pa pb na ca nb cb A B w ha hb h1).mono (no (fun h => h1 h.1))
theorem matPick_fun (v : Value) (a : Option Addr) (n cap : Nat) (M : List (List Int)) (rs : List Int) (w : World) (hv : MatV w v M) (hr : Ints w a n cap rs) (hn : n ≤ maxLen) :
    Calls Tryd.prog 17 #[v, .slice a n cap] w fun e w' => ∃ u, e = .returned (.tuple #[.agg #[u], .int .i64 (pickF M rs).2]) ∧ OwnM w' w.heap.size 38 3 u (pickF M rs).1 ∧ Below w.heap.size w w' := by
  have hv' := hv
  obtain ⟨pa, na, ca, rfl, R⟩ := hv'
  have hlA : M.length = na := by obtain ⟨_, h, _⟩ := R; exact h
  have no : ¬ PickMay M rs → ∀ e w', (e = Ending.returned (.tuple #[.agg #[.slice none 0 0], .int .i64 300]) ∧ Below w.heap.size w w') → ∃ u, e = .returned (.tuple #[.agg #[u], .int .i64 (pickF M rs).2]) ∧ OwnM w' w.heap.size 38 3 u (pickF M rs).1 ∧ Below w.heap.size w w' := by
    rintro hm e w' ⟨rfl, hB⟩
    simp only [pickF, if_neg hm]
    exact ⟨_, rfl, OwnM.nil _ _ _ _, hB⟩
  have hl := hr.1
  by_cases h1 : MMay M
  · by_cases h2 : n < 1 ∨ 12 < n
    · exact (matPick_noRows pa a na ca n cap M w hv h1 (fun W hW => areRowsOf_no pa na ca a n cap W h2)).mono (no (pick_len (by rw [hl]; exact h2)))
    · by_cases h3 : namesTo rs na n
      · refine (matPick_yes pa a na ca n cap M rs w hv hr h1 (by omega) (by omega) h3).mono ?_
        rintro e w' ⟨u, rfl, ho, hB⟩
        simp only [pickF, if_pos (show PickMay M rs from ⟨h1, by omega, by omega, fun i hi => by rw [hlA]; exact h3 i (by omega)⟩)]
        exact ⟨u, rfl, ho, hB⟩
      · refine (matPick_noRows pa a na ca n cap M w hv h1 (fun W hW => ?_)).mono (no (fun h => h3 (fun j hj => by have := h.2.2.2 j (by omega); rw [hlA] at this; exact this)))
        refine (areRowsOf_any pa na ca a n cap rs W (hr.below hW) (by omega) (by omega)).mono ?_
        rintro e w' ⟨⟨h, _⟩ | ⟨_, rfl⟩, hb⟩
        · exact absurd h h3
        · exact ⟨rfl, hb⟩
  · exact (matPick_noM pa a na ca n cap M w hv h1).mono (no (fun h => h1 h.1))
end Go.Proofs.YtfeepmjkamdldaaDoor
