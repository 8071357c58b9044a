/- InvertProduct: the inverse of a product; a matrix with two equal rows. -/
import Derived.Test.YthkafgcpnbolfaaInvertBackWalk
namespace Go.Proofs.Ythkafgcpnbolfaa
open Go.RowKit
set_option linter.unusedVariables false
set_option linter.unusedSimpArgs false
attribute [local go_sem ↓] Go.wp_at_zero Go.wp_at_succ
theorem OwnL.ints' {w : World} {B e : Nat} {p : Option Addr} {n cap : Nat} {ss : List Int} (h : OwnL w B e (.slice p n cap) (ss.map (Value.int .i64))) : Ints w p n cap ss := by
  obtain ⟨a, c, e, hi⟩ := h.ints
  simp only [Value.slice.injEq] at e
  obtain ⟨rfl, rfl, rfl⟩ := e
  exact hi
theorem ret_boolP {a b : Bool} (h : a = b) : Ending.returned (.bool a) = Ending.returned (.bool b) := by rw [h]
theorem pickF_ok {A : List (List Int)} {rs : List Int} (h : PickMay A rs) : pickF A rs = (pickM A rs, 0) := by simp [pickF, h]
theorem twice_row {k : Nat} {i : Nat} (hi : i < k) : ((rowF k id).set 0 ((k : Int) - 1)).getD i 0 = ((if i = 0 then k - 1 else i : Nat) : Int) := by
  have h1 : ((k : Int) - 1) = ((k - 1 : Nat) : Int) := by omega
  rw [h1, rowF_set (by omega), rowF_at hi]
  rfl
theorem pick_twice {k : Nat} {A : List (List Int)} (h : Sq k A) : PickMay A ((rowF k id).set 0 ((k : Int) - 1)) := by
  have hp := h.pos
  refine ⟨h.1.1, by simp [rowF_len]; omega, by simp [rowF_len]; omega, fun i hi => ?_⟩
  have hi' : i < k := by simpa [rowF_len] using hi
  rw [twice_row hi', h.2]
  split <;> omega
theorem twice_at {k : Nat} {A : List (List Int)} {i : Nat} (hi : i < k) : (pickM A ((rowF k id).set 0 ((k : Int) - 1))).getD i [] = A.getD (if i = 0 then k - 1 else i) [] := by
  rw [pickM_row (by simp [rowF_len]; exact hi), twice_row hi, Int.toNat_natCast]
theorem twice_sq {k : Nat} {A : List (List Int)} (h : Sq k A) : Sq k (pickM A ((rowF k id).set 0 ((k : Int) - 1))) := by
  have hp := h.pos
  have hm := pickM_may (pick_twice h)
  have hl : (pickM A ((rowF k id).set 0 ((k : Int) - 1))).length = k := by simp [pickM_len, rowF_len]
  refine ⟨⟨hm, ?_⟩, hl⟩
  rw [hl, twice_at (by omega), if_pos rfl, (h.1.1.2.2.2.2 (k - 1) (by rw [h.2]; omega)).1, h.head]
/-- with two equal rows there is none; of one row it is the matrix itself -/
theorem twice_inv {k : Nat} {A X : List (List Int)} {r : List (List Int) × Int} (h : Sq k A) (hX : InvOf A X) (hr : invR (pickM A ((rowF k id).set 0 ((k : Int) - 1))) r) : r.2 = if 1 < k then 401 else 0 := by
  have hp := h.pos
  by_cases h1 : 1 < k
  · rw [if_pos h1]
    have hno := no_inv_rows (twice_sq h) (i := 0) (j := k - 1) (by omega) (by omega) (by omega) (by rw [twice_at (by omega), twice_at (by omega)]; simp [show k - 1 ≠ 0 by omega])
    rw [invR_one hr (.inr (.inr ⟨(twice_sq h).1, hno, rfl⟩))]
  · rw [if_neg h1]
    obtain rfl : k = 1 := by omega
    have e : pickM A ((rowF 1 id).set 0 ((1 : Nat) - 1 : Int)) = A := by
      have h2 := (twice_sq h).form
      have h3 := h.form
      rw [h2]
      conv => rhs; rw [h3]
      refine matF_congr (fun r c hr hc => ?_)
      obtain rfl : r = 0 := by omega
      unfold entry
      rw [twice_at (by omega)]
      rfl
    rw [e] at hr
    rw [invR_one hr (.inr (.inl ⟨h.1, X, hX, rfl⟩))]
theorem rowF_snoc (k : Nat) (g : Nat → Nat) : rowF (k + 1) g = rowF k g ++ [((g k : Nat) : Int)] := by simp [rowF, List.range_succ]
theorem inv_ok {M : List (List Int)} {r : List (List Int) × Int} (h : invR M r) (h0 : r.2 = 0) : SqMay M ∧ InvOf M r.1 := by
  rcases h with ⟨_, rfl⟩ | ⟨hs, N, hN, rfl⟩ | ⟨_, _, rfl⟩
  · simp at h0
  · exact ⟨hs, hN⟩
  · simp at h0
set_option maxRecDepth 100000 in
set_option maxHeartbeats 4000000 in
theorem InvertProduct_walk {w : World} (v0 : Value) (M0 : List (List Int)) (h0 : MatV w v0 M0) (s0 : (M0.length * 24 ≤ 140737488351232 ∧ ∀ i, (M0.getD i []).length * 8 ≤ 140737488351232)) (v1 : Value) (M1 : List (List Int)) (h1 : MatV w v1 M1) (s1 : (M1.length * 24 ≤ 140737488351232 ∧ ∀ i, (M1.getD i []).length * 8 ≤ 140737488351232)) :
    Calls Try.prog 5 #[v0, v1] w fun e w' => e = .returned (.bool true) ∧ Below w.heap.size w w' := by
  have MA := hide h0
  have MB := hide h1
  obtain ⟨pa, na, ca, rfl, Ra⟩ := h0
  obtain ⟨pb, nb, cb, rfl, Rb⟩ := h1
  have hna : M0.length = na := by obtain ⟨_, h, _⟩ := Ra; exact h
  have hnb : M1.length = nb := by obtain ⟨_, h, _⟩ := Rb; exact h
  have HNA := hide hna
  have HNB := hide hnb
  clear Ra Rb s0 s1 hna hnb
  go_enter Try.func5, Try.ntmps5
  go_wp2_with fail
  have BA := hide (two_old w (.cells #[.slice pa na ca] 24) (.cells #[.slice pb nb cb] 24))
  have BB := hide (two_new w (.cells #[.slice pa na ca] 24) (.cells #[.slice pb nb cb] 24))
  have hb0 : Below w.heap.size w ((w.alloc (.cells #[.slice pa na ca] 24)).alloc (.cells #[.slice pb nb cb] 24)) := by go_grown
  generalize ((w.alloc (.cells #[.slice pa na ca] 24)).alloc (.cells #[.slice pb nb cb] 24)) = W0 at *
  replace MA := hide ((unhide MA).below hb0)
  replace MB := hide ((unhide MB).below hb0)
  have HB := hide hb0
  clear hb0
  refine (awake4_any _).mono ?_
  rintro e w1 ⟨rfl, b1⟩
  replace BA := hide ((b1.block _ (lt_of_block (unhide BA))).trans (unhide BA))
  replace BB := hide ((b1.block _ (lt_of_block (unhide BB))).trans (unhide BB))
  replace MA := hide ((unhide MA).below b1)
  replace MB := hide ((unhide MB).below b1)
  replace HB := hide (bt (unhide HB) b1)
  clear b1
  have cBA := cell_of_one (unhide BA)
  have dBA := fun o => ((below_alloc w1 o).cell (cell_lt cBA)).trans cBA
  have cBB := cell_of_one (unhide BB)
  have dBB := fun o => ((below_alloc w1 o).cell (cell_lt cBB)).trans cBB
  go_wp2_with fail
  refine (invInvert_any _ M0 _ (unhide MA)).mono ?_
  rintro e w2 ⟨u2, r2, hr2, rfl, O2, b2⟩
  obtain ⟨p2, n2, c2, rfl, e2⟩ := O2.form
  replace BA := hide ((b2.block _ (lt_of_block (unhide BA))).trans (unhide BA))
  replace BB := hide ((b2.block _ (lt_of_block (unhide BB))).trans (unhide BB))
  replace MA := hide ((unhide MA).below b2)
  replace MB := hide ((unhide MB).below b2)
  replace HB := hide (bt (unhide HB) b2)
  have M2 := hide (O2.matV (invR_le hr2))
  have HR2 := hide hr2
  clear O2 b2 e2 hr2 cBA dBA cBB dBB
  have cBA := cell_of_one (unhide BA)
  have dBA := fun o => ((below_alloc w2 o).cell (cell_lt cBA)).trans cBA
  have cBB := cell_of_one (unhide BB)
  have dBB := fun o => ((below_alloc w2 o).cell (cell_lt cBB)).trans cBB
  go_wp2_with fail
  have B2 := hide (heap_alloc_new w2 (.cells #[.slice p2 n2 c2] 24))
  have hx := below_alloc w2 (.cells #[.slice p2 n2 c2] 24)
  refine (invInvert_any _ M1 _ ((unhide MB).below hx)).mono ?_
  rintro e w3 ⟨u3, r3, hr3, rfl, O3, b3⟩
  obtain ⟨p3, n3, c3, rfl, e3⟩ := O3.form
  replace B2 := hide ((b3.block _ (lt_of_block (unhide B2))).trans (unhide B2))
  replace b3 := bt hx b3
  replace BA := hide ((b3.block _ (lt_of_block (unhide BA))).trans (unhide BA))
  replace BB := hide ((b3.block _ (lt_of_block (unhide BB))).trans (unhide BB))
  replace MA := hide ((unhide MA).below b3)
  replace MB := hide ((unhide MB).below b3)
  replace M2 := hide ((unhide M2).below b3)
  replace HB := hide (bt (unhide HB) b3)
  have M3 := hide (O3.matV (invR_le hr3))
  have HR3 := hide hr3
  clear O3 b3 e3 hr3 hx cBA dBA cBB dBB
  have cBA := cell_of_one (unhide BA)
  have dBA := fun o => ((below_alloc w3 o).cell (cell_lt cBA)).trans cBA
  have cBB := cell_of_one (unhide BB)
  have dBB := fun o => ((below_alloc w3 o).cell (cell_lt cBB)).trans cBB
  have cB2 := cell_of_one (unhide B2)
  have dB2 := fun o => ((below_alloc w3 o).cell (cell_lt cB2)).trans cB2
  obtain ⟨X, x⟩ := r2
  obtain ⟨Y, y⟩ := r3
  by_cases hx0 : x = 0
  · subst hx0
    by_cases hy0 : y = 0
    · subst hy0
      by_cases hab : na = nb
      · subst hab
        obtain ⟨hs2, hX⟩ := inv_ok (unhide HR2) rfl
        obtain ⟨hs3, hY⟩ := inv_ok (unhide HR3) rfl
        have sA : Sq na M0 := ⟨hs2, unhide HNA⟩
        have sB : Sq na M1 := ⟨hs3, unhide HNB⟩
        have na1 := sA.pos.1
        have na2 := sA.pos.2
        have na1' : ¬ (na : Int) < 1 := by omega
        have tab : ((na : Int) != (na : Int)) = false := by simp
        have HX := hide hX
        have HY := hide hY
        have HSA := hide sA
        have HSB := hide sB
        clear hX hY sA sB hs2 hs3 HR2 HR3
        go_wp2_with (go_at_call 11; refine (num_any _ _).mono ?_; rintro e w' ⟨rfl, rfl⟩)
        have sX := (unhide HX).sq (unhide HSA)
        have sY := (unhide HY).sq (unhide HSB)
        have HSX := hide sX
        have HSY := hide sY
        have HP := hide ((unhide HX).prod (unhide HSA) (unhide HSB) (unhide HY))
        clear sX sY
        have B3 := hide (heap_alloc_new w3 (.cells #[.slice p3 n3 c3] 24))
        have hx := below_alloc w3 (.cells #[.slice p3 n3 c3] 24)
        refine (matMul_fun _ _ M0 M1 _ ((unhide MA).below hx) ((unhide MB).below hx)).mono ?_
        rintro e w4 ⟨u4, he, O4, b4⟩
        rw [mulF_sq (unhide HSA) (unhide HSB)] at he O4
        subst he
        obtain ⟨p4, n4, c4, rfl, e4⟩ := O4.form
        replace B3 := hide ((b4.block _ (lt_of_block (unhide B3))).trans (unhide B3))
        replace b4 := bt hx b4
        replace BA := hide ((b4.block _ (lt_of_block (unhide BA))).trans (unhide BA))
        replace B2 := hide ((b4.block _ (lt_of_block (unhide B2))).trans (unhide B2))
        replace MA := hide ((unhide MA).below b4)
        replace M2 := hide ((unhide M2).below b4)
        replace M3 := hide ((unhide M3).below b4)
        replace HB := hide (bt (unhide HB) b4)
        have M4 := hide (O4.matV (rows_le (sq_mul (unhide HSA) (unhide HSB)).1.1))
        clear O4 b4 hx e4 cBA dBA cB2 dB2 cBB dBB
        have cBA := cell_of_one (unhide BA)
        have dBA := fun o => ((below_alloc w4 o).cell (cell_lt cBA)).trans cBA
        have cB2 := cell_of_one (unhide B2)
        have dB2 := fun o => ((below_alloc w4 o).cell (cell_lt cB2)).trans cB2
        have cB3 := cell_of_one (unhide B3)
        have dB3 := fun o => ((below_alloc w4 o).cell (cell_lt cB3)).trans cB3
        go_wp2_with (go_at_call 11; refine (num_any _ _).mono ?_; rintro e w' ⟨rfl, rfl⟩)
        have B4 := hide (heap_alloc_new w4 (.cells #[.slice p4 n4 c4] 24))
        have hx := below_alloc w4 (.cells #[.slice p4 n4 c4] 24)
        refine (matMul_fun _ _ Y X _ ((unhide M3).below hx) ((unhide M2).below hx)).mono ?_
        rintro e w5 ⟨u5, he, O5, b5⟩
        rw [mulF_sq (unhide HSY) (unhide HSX)] at he O5
        subst he
        obtain ⟨p5, n5, c5, rfl, e5⟩ := O5.form
        replace B4 := hide ((b5.block _ (lt_of_block (unhide B4))).trans (unhide B4))
        replace b5 := bt hx b5
        replace BA := hide ((b5.block _ (lt_of_block (unhide BA))).trans (unhide BA))
        replace MA := hide ((unhide MA).below b5)
        replace M4 := hide ((unhide M4).below b5)
        replace HB := hide (bt (unhide HB) b5)
        have M5 := hide (O5.matV (rows_le (sq_mul (unhide HSY) (unhide HSX)).1.1))
        clear O5 b5 hx e5 cBA dBA cB2 dB2 cB3 dB3 M2 M3 B2 B3
        have cBA := cell_of_one (unhide BA)
        have dBA := fun o => ((below_alloc w5 o).cell (cell_lt cBA)).trans cBA
        have cB4 := cell_of_one (unhide B4)
        have dB4 := fun o => ((below_alloc w5 o).cell (cell_lt cB4)).trans cB4
        go_wp2_with (go_at_call 11; refine (num_any _ _).mono ?_; rintro e w' ⟨rfl, rfl⟩)
        have B5 := hide (heap_alloc_new w5 (.cells #[.slice p5 n5 c5] 24))
        have hx := below_alloc w5 (.cells #[.slice p5 n5 c5] 24)
        refine (invInvert_any _ (mulM M0 M1) _ ((unhide M4).below hx)).mono ?_
        rintro e w6 ⟨u6, r6, hr6, rfl, O6, b6⟩
        obtain rfl : r6 = (mulM Y X, 0) := invR_one hr6 (.inr (.inl ⟨(sq_mul (unhide HSA) (unhide HSB)).1, _, unhide HP, rfl⟩))
        obtain ⟨p6, n6, c6, rfl, e6⟩ := O6.form
        replace B5 := hide ((b6.block _ (lt_of_block (unhide B5))).trans (unhide B5))
        replace b6 := bt hx b6
        replace BA := hide ((b6.block _ (lt_of_block (unhide BA))).trans (unhide BA))
        replace MA := hide ((unhide MA).below b6)
        replace M5 := hide ((unhide M5).below b6)
        replace HB := hide (bt (unhide HB) b6)
        have M6 := hide (O6.matV (rows_le (sq_mul (unhide HSY) (unhide HSX)).1.1))
        clear O6 b6 hx e6 hr6 cBA dBA cB4 dB4 B4
        have cBA := cell_of_one (unhide BA)
        have dBA := fun o => ((below_alloc w6 o).cell (cell_lt cBA)).trans cBA
        go_wp2_with (go_at_call 11; refine (num_any _ _).mono ?_; rintro e w' ⟨rfl, rfl⟩)
        have B6 := hide (heap_alloc_new w6 (.cells #[.slice p6 n6 c6] 24))
        have hx := below_alloc w6 (.cells #[.slice p6 n6 c6] 24)
        generalize (w6.alloc (.cells #[.slice p6 n6 c6] 24)) = W7 at *
        replace BA := hide ((hx.block _ (lt_of_block (unhide BA))).trans (unhide BA))
        replace B5 := hide ((hx.block _ (lt_of_block (unhide B5))).trans (unhide B5))
        replace MA := hide ((unhide MA).below hx)
        replace M5 := hide ((unhide M5).below hx)
        replace M6 := hide ((unhide M6).below hx)
        replace HB := hide (bt (unhide HB) hx)
        clear hx cBA dBA
        go_loopw [15, 16] (fun rv jv wr => ∃ j : Nat, j ≤ na ∧ jv = .int .i64 j ∧ Hid (OwnL wr W7.heap.size 3 rv ((rowF j id).map (Value.int .i64))) ∧ Hid (Below W7.heap.size W7 wr)) (fun _ jv _ => na - (intOf jv).toNat)
        case atStart => exact ⟨0, by omega, rfl, hide (OwnL.nil _ _ _), hide (Below.refl _ _)⟩
        case round =>
          obtain ⟨j, hj, rfl, HO, HW⟩ := hrel
          have cBA := cell_of_one (((unhide HW).block _ (lt_of_block (unhide BA))).trans (unhide BA))
          by_cases hlt : j < na
          · have hlt' : (j : Int) < na := by omega
            obtain ⟨pr, cr, er⟩ := (unhide HO).form
            rw [List.length_map, rowF_len] at er
            subst er
            have hszW := (unhide HW).size
            go_wp2_with (at_builtin; refine wpList_push wr (by rfl) (.tmp 80) (.tmp 82) 38 (by rfl) W7.heap.size 3 (.int .i64 0) 8 Try.underlying38 Try.infoInt rfl _ _ (by rfl) (unhide HO) _ (by rfl) (by rfl) (by simp [rowF_len]; omega) (by omega) hszW ?_; intro v1 wa O1 P1; have HBa := hide (P1.below (unhide HO) (unhide HW) (Nat.le_refl _) hszW); have HO1 := hide O1; clear O1 P1 HO HW)
            go_roundw
            case rel =>
              refine ⟨j + 1, by omega, by go_num, hide ?_, HBa⟩
              have := unhide HO1
              rw [rowF_snoc, List.map_append]
              exact this
            case measure => simp [intOf]; omega
          · have hlt' : ¬ (j : Int) < na := by omega
            obtain rfl : j = na := by omega
            obtain ⟨gr, cr, er, hgr, _, _, _⟩ := own_form (n := ((rowF j id).map (Value.int .i64)).length) (unhide HO) (by simp [rowF_len]; omega)
            rw [List.length_map, rowF_len] at er
            subst er
            have c0 := own_cell (unhide HO) 0 (by rw [rowF_len]; omega)
            have f0 := own_free (unhide HO) 0
            have hput := own_put (unhide HO) 0 (.int .i64 ((j : Int) - 1))
            rw [← List.map_set] at hput
            have hBW : Below W7.heap.size W7 (wr.setCell ⟨gr, 0, none⟩ (.int .i64 ((j : Int) - 1))) := (unhide HW).setCell hgr _
            have HI := hide hput.ints'
            have cBA2 := cell_of_one ((hBW.block _ (lt_of_block (unhide BA))).trans (unhide BA))
            have HBW := hide hBW
            clear hput hBW
            go_wp2_with fail
            generalize (wr.setCell ⟨gr, 0, none⟩ (.int .i64 ((j : Int) - 1))) = W8 at *
            have hbw := unhide HBW
            replace BA := hide ((hbw.block _ (lt_of_block (unhide BA))).trans (unhide BA))
            replace B5 := hide ((hbw.block _ (lt_of_block (unhide B5))).trans (unhide B5))
            replace B6 := hide ((hbw.block _ (lt_of_block (unhide B6))).trans (unhide B6))
            replace MA := hide ((unhide MA).below hbw)
            replace M5 := hide ((unhide M5).below hbw)
            replace M6 := hide ((unhide M6).below hbw)
            replace HB := hide (bt (unhide HB) hbw)
            clear hbw HBW HO HW c0 f0 cBA cBA2
            have hpick := pick_twice (unhide HSA)
            have HPK := hide hpick
            clear hpick
            refine (matPick_fun _ _ _ _ M0 ((rowF j id).set 0 ((j : Int) - 1)) _ (unhide MA) (unhide HI) (by unfold maxLen; omega)).mono ?_
            rintro e w9 ⟨u9, he, O9, b9⟩
            rw [pickF_ok (unhide HPK)] at he O9
            subst he
            obtain ⟨p9, n9, c9, rfl, e9⟩ := O9.form
            replace BA := hide ((b9.block _ (lt_of_block (unhide BA))).trans (unhide BA))
            replace B5 := hide ((b9.block _ (lt_of_block (unhide B5))).trans (unhide B5))
            replace B6 := hide ((b9.block _ (lt_of_block (unhide B6))).trans (unhide B6))
            replace MA := hide ((unhide MA).below b9)
            replace M5 := hide ((unhide M5).below b9)
            replace M6 := hide ((unhide M6).below b9)
            replace HB := hide (bt (unhide HB) b9)
            have M9 := hide (O9.matV (rows_le (pickM_may (unhide HPK))))
            clear O9 b9 e9
            have cBA := cell_of_one (unhide BA)
            have dBA := fun o => ((below_alloc w9 o).cell (cell_lt cBA)).trans cBA
            have cB5 := cell_of_one (unhide B5)
            have dB5 := fun o => ((below_alloc w9 o).cell (cell_lt cB5)).trans cB5
            have cB6 := cell_of_one (unhide B6)
            have dB6 := fun o => ((below_alloc w9 o).cell (cell_lt cB6)).trans cB6
            go_wp2_with fail
            have B9 := hide (heap_alloc_new w9 (.cells #[.slice p9 n9 c9] 24))
            have hx := below_alloc w9 (.cells #[.slice p9 n9 c9] 24)
            refine (invInvert_any _ _ _ ((unhide M9).below hx)).mono ?_
            rintro e wA ⟨uA, rA, hrA, rfl, OA, bA⟩
            have hsing := twice_inv (unhide HSA) (unhide HX) hrA
            obtain ⟨pA, nA, cA, rfl, eA⟩ := OA.form
            replace bA := bt hx bA
            replace B5 := hide ((bA.block _ (lt_of_block (unhide B5))).trans (unhide B5))
            replace B6 := hide ((bA.block _ (lt_of_block (unhide B6))).trans (unhide B6))
            replace M5 := hide ((unhide M5).below bA)
            replace M6 := hide ((unhide M6).below bA)
            replace HB := hide (bt (unhide HB) bA)
            obtain ⟨RA, xA⟩ := rA
            have HS := hide hsing
            clear OA bA eA hx hrA hsing cBA dBA cB5 dB5 cB6 dB6
            have cB5 := cell_of_one (unhide B5)
            have dB5 := fun o => ((below_alloc wA o).cell (cell_lt cB5)).trans cB5
            have cB6 := cell_of_one (unhide B6)
            have dB6 := fun o => ((below_alloc wA o).cell (cell_lt cB6)).trans cB6
            go_wp2_with (go_at_call 11; refine (num_any _ _).mono ?_; rintro e w' ⟨rfl, rfl⟩)
            have hx := below_alloc wA (.cells #[.slice pA nA cA] 24)
            refine (sameMatrix_any _ _ _ _ _ ((unhide M6).below hx) ((unhide M5).below hx)).mono ?_
            rintro e wB ⟨he, bB⟩
            rw [beq_self_eq_true] at he
            subst he
            replace HB := hide (bt (unhide HB) (bt hx bB))
            clear bB hx cB5 dB5 cB6 dB6
            by_cases h1 : 1 < j
            · have h1' : (1 : Int) < j := by omega
              have hxA : xA = 401 := by have := unhide HS; simpa [h1] using this
              subst hxA
              go_wp2_with (go_at_call 11; refine (num_any _ _).mono ?_; rintro e w' ⟨rfl, rfl⟩)
              go_ret
              exact ⟨rfl, unhide HB⟩
            · have h1' : ¬ (1 : Int) < j := by omega
              have hxA : xA = 0 := by have := unhide HS; simpa [h1] using this
              subst hxA
              go_wp2_with (go_at_call 11; refine (num_any _ _).mono ?_; rintro e w' ⟨rfl, rfl⟩)
              go_ret
              exact ⟨ret_boolP (a := !decide ((1 : Int) < (j : Int))) (by rw [decide_eq_false (Int.not_lt.2 h1')]; rfl), unhide HB⟩
      · have tab : ((na : Int) != (nb : Int)) = true := by simp; omega
        go_wp2_with (go_at_call 11; refine (num_any _ _).mono ?_; rintro e w' ⟨rfl, rfl⟩)
        go_ret
        exact ⟨rfl, bt (unhide HB) (below_alloc _ _)⟩
    · have ty : (y != (0 : Int)) = true := by simp [hy0]
      go_wp2_with (go_at_call 11; refine (num_any _ _).mono ?_; rintro e w' ⟨rfl, rfl⟩)
      go_ret
      exact ⟨rfl, bt (unhide HB) (below_alloc _ _)⟩
  · have tx : (x != (0 : Int)) = true := by simp [hx0]
    go_wp2_with (go_at_call 11; refine (num_any _ _).mono ?_; rintro e w' ⟨rfl, rfl⟩)
    go_ret
    exact ⟨rfl, bt (unhide HB) (below_alloc _ _)⟩
end Go.Proofs.Ythkafgcpnbolfaa
