/- MatrixPicks: rows picked of a product are those rows, multiplied. -/
import Derived.Test.YtpkofmpghhaobaaMatrixThreeWalk
namespace Go.Proofs.Ytpkofmpghhaobaa
open Go.RowKit
set_option linter.unusedVariables false
set_option linter.unusedSimpArgs false
attribute [local go_sem ↓] Go.wp_at_zero Go.wp_at_succ
theorem IsRow.some_of_lt {w : World} {a : Option Addr} {n cap i : Nat} {f : Nat → Value} (h : IsRow w a n cap f) (hi : i < n) : ∃ b off, a = some ⟨b, off, none⟩ ∧ ∀ i, i < n → w.cell? ⟨b, off + i, none⟩ = some (f i) := by
  rcases h.two with h | h
  · omega
  · exact h
theorem take_snoc0 (xs : List Int) (k : Nat) (h : k < xs.length) : xs.take (k + 1) = xs.take k ++ [xs.getD k 0] := by
  rw [List.take_succ_eq_append_getElem h]
  simp [List.getD, List.getElem?_eq_getElem h]
/-- the row that a number means -/
def wrapRow (n : Nat) (r : Int) : Int := (r % 18446744073709551616) % (n : Int)
theorem wrapRow_eq (n : Nat) (x : Int) : wrapRow n x = (IntKind.u64.wrap x).tmod (n : Int) := by
  have h0 : IntKind.u64.wrap x = x % 18446744073709551616 := by
    rw [IntKind.wrap_u64]
  rw [h0, Int.tmod_eq_emod_of_nonneg (by omega)]
  rfl
theorem wrapRow_nat (n : Nat) (x : Int) (h : 1 ≤ n) : ∃ y : Nat, y < n ∧ wrapRow n x = (y : Int) := by
  have h1 := Int.emod_nonneg (x % 18446744073709551616) (show (n : Int) ≠ 0 by omega)
  have h2 := Int.emod_lt_of_pos (x % 18446744073709551616) (show (0 : Int) < n by omega)
  exact ⟨(wrapRow n x).toNat, by unfold wrapRow; omega, by unfold wrapRow; omega⟩
theorem u64_small (n : Nat) (h : n ≤ 12) : IntKind.u64.wrap (n : Int) = n := by
  rw [IntKind.wrap_u64]
  omega
theorem wrapRow_in {n : Nat} (h : 1 ≤ n) (xs : List Int) (i : Nat) (hi : i < xs.length) : 0 ≤ (xs.map (wrapRow n)).getD i 0 ∧ (xs.map (wrapRow n)).getD i 0 < (n : Int) := by
  have e : (xs.map (wrapRow n)).getD i 0 = wrapRow n xs[i] := by simp [List.getD, List.getElem?_eq_getElem hi]
  rw [e]
  obtain ⟨y, hy, ey⟩ := wrapRow_nat n xs[i] h
  rw [ey]; omega
theorem OwnL.ints' {w : World} {B e : Nat} {p : Option Addr} {n cap : Nat} {ss : List Int} (h : OwnL w B e (.slice p n cap) (ss.map (Value.int .i64))) : Ints w p n cap ss := by
  obtain ⟨a, c, e, hi⟩ := h.ints
  simp only [Value.slice.injEq] at e
  obtain ⟨rfl, rfl, rfl⟩ := e
  exact hi
theorem pickF_yes {A : List (List Int)} {rs : List Int} (h : PickMay A rs) : pickF A rs = (pickM A rs, 0) := by simp [pickF, h]
theorem picked_mul {A B : List (List Int)} {rs : List Int} (h : PickMay A rs) : mulM (pickM A rs) B = pickM (mulM A B) rs := mul_picked (fun i hi => by have := h.2.2.2 i hi; omega)
theorem picked_may {A B : List (List Int)} {rs : List Int} (h : MulMay A B) (hp : PickMay A rs) : MulMay (pickM A rs) B := by
  refine ⟨pickM_may hp, h.2.1, ?_⟩
  rw [pickM_row hp.2.1]
  have h0 := hp.2.2.2 0 hp.2.1
  rw [(h.1.2.2.2.2 _ (by omega)).1]
  exact h.2.2
set_option maxRecDepth 100000 in
set_option maxHeartbeats 2000000 in
theorem MatrixPicks_go (v0 v1 : Value) (a2 : Option Addr) (n2 c2 : Nat) (A B : List (List Int)) (xs : List Int) (w : World) (h0 : MatV w v0 A) (h1 : MatV w v1 B) (h2 : Ints w a2 n2 c2 xs) (r2 : n2 * 8 ≤ 140737488351232) :
    Calls Try.prog 6 #[v0, v1, .slice a2 n2 c2] w fun e w' => e = .returned (.bool true) ∧ Below w.heap.size w w' := by
  have MA := hide h0
  have MB := hide h1
  have MX := hide h2
  obtain ⟨pa, na, ca, rfl, Ra⟩ := h0
  obtain ⟨pb, nb, cb, rfl, Rb⟩ := h1
  have hna : A.length = na := by obtain ⟨_, h, _⟩ := Ra; exact h
  have HNA := hide hna
  clear Ra Rb hna h2
  go_enter Try.func6, Try.ntmps6
  go_wp2_with fail
  have BA := hide (two_old w (.cells #[.slice pa na ca] 24) (.cells #[.slice pb nb cb] 24))
  have BB := hide (two_new w (.cells #[.slice pa na ca] 24) (.cells #[.slice pb nb cb] 24))
  have hb0 : Below w.heap.size w ((w.alloc (.cells #[.slice pa na ca] 24)).alloc (.cells #[.slice pb nb cb] 24)) := by go_grown
  generalize ((w.alloc (.cells #[.slice pa na ca] 24)).alloc (.cells #[.slice pb nb cb] 24)) = W0 at *
  replace MA := hide ((unhide MA).below hb0)
  replace MB := hide ((unhide MB).below hb0)
  replace MX := hide ((unhide MX).below hb0)
  have HB := hide hb0
  clear hb0
  refine (awake3_any _).mono ?_
  rintro e w1 ⟨rfl, b1⟩
  replace BA := hide ((b1.block _ (lt_of_block (unhide BA))).trans (unhide BA))
  replace BB := hide ((b1.block _ (lt_of_block (unhide BB))).trans (unhide BB))
  replace MA := hide ((unhide MA).below b1)
  replace MB := hide ((unhide MB).below b1)
  replace MX := hide ((unhide MX).below b1)
  replace HB := hide (bt (unhide HB) b1)
  clear b1 W0
  have cBA := cell_of_one (unhide BA)
  have dBA := fun o => ((below_alloc w1 o).cell (cell_lt cBA)).trans cBA
  have cBB := cell_of_one (unhide BB)
  have dBB := fun o => ((below_alloc w1 o).cell (cell_lt cBB)).trans cBB
  go_wp2_with fail
  refine (matMul_fun _ _ A B _ (unhide MA) (unhide MB)).mono ?_
  rintro e w2 ⟨u2, he, O2, b2⟩
  obtain ⟨p2, m2, q2, rfl, e2⟩ := O2.form
  replace BA := hide ((b2.block _ (lt_of_block (unhide BA))).trans (unhide BA))
  replace BB := hide ((b2.block _ (lt_of_block (unhide BB))).trans (unhide BB))
  replace MA := hide ((unhide MA).below b2)
  replace MB := hide ((unhide MB).below b2)
  replace MX := hide ((unhide MX).below b2)
  replace HB := hide (bt (unhide HB) b2)
  have M2 := hide (O2.matV (mulF_le _ _))
  have E2 := hide e2
  clear O2 b2 e2 cBA cBB dBA dBB
  have cBA := cell_of_one (unhide BA)
  have dBA := fun o => ((below_alloc w2 o).cell (cell_lt cBA)).trans cBA
  have cBB := cell_of_one (unhide BB)
  have dBB := fun o => ((below_alloc w2 o).cell (cell_lt cBB)).trans cBB
  by_cases hAB : MulMay A B
  · rw [mulF_yes hAB] at he M2 E2
    subst he
    have na1 : 1 ≤ na := by rw [← unhide HNA]; exact hAB.1.1
    have na2 : na ≤ 12 := by rw [← unhide HNA]; exact hAB.1.2.1
    go_wp2_with (go_at_call 15; refine (num_any _ _).mono ?_; rintro e w' ⟨rfl, rfl⟩)
    have B2 := hide (heap_alloc_new w2 (.cells #[.slice p2 m2 q2] 24))
    have hx3 := below_alloc w2 (.cells #[.slice p2 m2 q2] 24)
    generalize (w2.alloc (.cells #[.slice p2 m2 q2] 24)) = W3 at *
    replace BA := hide ((hx3.block _ (lt_of_block (unhide BA))).trans (unhide BA))
    replace BB := hide ((hx3.block _ (lt_of_block (unhide BB))).trans (unhide BB))
    replace MA := hide ((unhide MA).below hx3)
    replace MB := hide ((unhide MB).below hx3)
    replace MX := hide ((unhide MX).below hx3)
    replace M2 := hide ((unhide M2).below hx3)
    replace HB := hide (bt (unhide HB) hx3)
    clear hx3 cBA cBB dBA dBB
    go_loopw [9, 10] (fun rv iv wr => ∃ k : Nat, k ≤ n2 ∧ k ≤ 12 ∧ iv = .int .i64 k ∧ Hid (OwnL wr W3.heap.size 3 rv (((xs.take k).map (wrapRow na)).map (Value.int .i64))) ∧ Hid (Below W3.heap.size W3 wr)) (fun _ iv _ => n2 - (intOf iv).toNat)
    case atStart => exact ⟨0, by omega, by omega, rfl, hide (OwnL.nil _ _ _), hide (Below.refl _ _)⟩
    case round =>
      obtain ⟨k, hk, hk12, rfl, HO, HW⟩ := hrel
      by_cases hlt : k < n2 ∧ k < 12
      · obtain ⟨hlt1, hlt2⟩ := hlt
        have hlt1' : (k : Int) < n2 := by omega
        have hlt2' : (k : Int) < 12 := by omega
        obtain ⟨hxl, hxr⟩ := unhide MX
        obtain ⟨b, off, rfl, hc⟩ := hxr.some_of_lt hlt1
        have hck := hc k hlt1
        have lb : b < W3.heap.size := cell_lt hck
        have lA := lt_of_block (unhide BA)
        have gx := kept_cell (B := W3.heap.size) (((unhide HW).cell (cell_lt hck)).trans hck) lb
        have gA := kept_cell (B := W3.heap.size) (cell_of_one (((unhide HW).block _ lA).trans (unhide BA))) lA
        obtain ⟨x, ex⟩ : ∃ x, x = xs.getD k 0 := ⟨_, rfl⟩
        rw [← ex] at gx
        have EX := hide ex
        have HXL := hide hxl
        obtain ⟨pr, cr, er⟩ := (unhide HO).form
        rw [List.length_map, List.length_map, List.length_take, Nat.min_eq_left (by omega)] at er
        subst er
        clear ex hxl hxr hc hck
        obtain ⟨y, hy, ey⟩ := wrapRow_nat na x na1
        have wn := u64_small na na2
        have zn : ¬ na = 0 := by omega
        have wy : wrap64 (y : Int) = y := by unfold wrap64; omega
        have wy' : IntKind.i64.wrap (y : Int) = y := by rw [IntKind.wrap_i64]; omega
        have EY := hide ey
        have ey' : (IntKind.u64.wrap x).tmod (na : Int) = (y : Int) := by rw [← wrapRow_eq, ey]
        clear ey
        go_wp2
        refine wp_region_ord_then (S := Below W3.heap.size wr) [(true, 0), (true, 1), (true, 2), (true, 3), (true, 4), (true, 5), (true, 6), (true, 7), (true, 8), (true, 9), (true, 10), (true, 11), (false, 12), (false, 13)] (List.cons_ne_nil _ _) (by kernel_rfl) (by kernel_rfl) (by kernel_rfl) (by kernel_rfl) (by kernel_rfl) ((Below.refl _ _).drew) ?_
        simp only [List.dropLast_cons_cons, List.dropLast_singleton, List.getLast_cons_cons, List.getLast_singleton, withOps, List.map_cons, List.map_nil, List.getElem?_cons_succ, List.getElem?_cons_zero]
        repeat (refine walkH_read (by rfl) (by (intro gx; go_simp; try (with_reducible rfl))) ?_; try simp only [Act.put, List.setIfInBounds_toArray, List.set_cons_zero, List.set_cons_succ])
        refine walkH_do rfl (fun K hK => ?_)
        go_simp
        have hbA : Below wr.heap.size wr (wr.alloc (.cells #[.int .i64 y] 3)).drew := by go_grown
        have hsz := (unhide HW).size
        refine hK _ _ (hbA.mono hsz) ?_
        clear hK K
        try simp only [Act.put, List.setIfInBounds_toArray, List.set_cons_zero, List.set_cons_succ]
        refine walkH_do rfl (fun K hK => ?_)
        have hlen : (((xs.take k).map (wrapRow na)).map (Value.int .i64)).length = k := by simp; have := unhide HXL; omega
        refine step_push _ (by rfl) (.tmp 48) (.tmp 60) 25 (by rfl) W3.heap.size 3 (.int .i64 0) 8 Try.underlying25 Try.infoInt rfl (.slice pr k cr) (((xs.take k).map (wrapRow na)).map (Value.int .i64)) (by simp [Act.eval]) ((unhide HO).below hbA) (.int .i64 y) (by rfl) wr.heap.size 0 (by simp [Act.eval]) (by simp [go_sem]) (by rw [hlen]; omega) (by omega) (by simp; omega) ?_
        intro v1 w3 O1 P1
        have hB1 : Below W3.heap.size wr w3 := P1.below ((unhide HO).below hbA) (hbA.mono hsz) (Nat.le_refl _) (by simp; omega)
        refine hK _ _ hB1 ?_
        clear hK K
        have HO1 := hide O1
        have HB1 := hide hB1
        clear O1 P1 hB1
        try simp only [Act.put, List.setIfInBounds_toArray, List.set_cons_zero, List.set_cons_succ]
        refine lastPost_of_list ?_
        simp only [List.cons_append, List.nil_append]
        go_wp2
        refine NoPanic.normal ?_
        go_wp2
        go_roundw
        case rel =>
          refine ⟨k + 1, by omega, by omega, by go_num, hide ?_, hide ((unhide HW).trans (unhide HB1))⟩
          have hs := unhide HO1
          rw [take_snoc0 xs k (by have := unhide HXL; omega), List.map_append, List.map_append]
          simp only [List.map_cons, List.map_nil]
          rw [← unhide EX, unhide EY]
          exact hs
        case measure => simp [intOf]; omega
      · obtain ⟨pr, cr, er⟩ := (unhide HO).form
        have hxl := (unhide MX).1
        rw [List.length_map, List.length_map, List.length_take, Nat.min_eq_left (by omega)] at er
        subst er
        have hrl : ((xs.take k).map (wrapRow na)).length = k := by simp; omega
        have hrr : ∀ i, i < ((xs.take k).map (wrapRow na)).length → 0 ≤ ((xs.take k).map (wrapRow na)).getD i 0 ∧ ((xs.take k).map (wrapRow na)).getD i 0 < (na : Int) := fun i hi => wrapRow_in na1 _ i (by simpa using hi)
        have HI := hide (unhide HO).ints'
        generalize (xs.take k).map (wrapRow na) = rs at hrl hrr HI
        have HRL := hide hrl
        have HRR := hide hrr
        have hbw := (unhide HW)
        replace BA := hide ((hbw.block _ (lt_of_block (unhide BA))).trans (unhide BA))
        replace BB := hide ((hbw.block _ (lt_of_block (unhide BB))).trans (unhide BB))
        replace B2 := hide ((hbw.block _ (lt_of_block (unhide B2))).trans (unhide B2))
        replace MA := hide ((unhide MA).below hbw)
        replace MB := hide ((unhide MB).below hbw)
        replace M2 := hide ((unhide M2).below hbw)
        replace HB := hide (bt (unhide HB) hbw)
        have hcase : ¬ (k : Int) < n2 ∨ ((k : Int) < n2 ∧ ¬ (k : Int) < 12) := by omega
        clear hrl hrr hbw HO hlt hxl
        have cBA := cell_of_one (unhide BA)
        have dBA := fun o => ((below_alloc wr o).cell (cell_lt cBA)).trans cBA
        have cBB := cell_of_one (unhide BB)
        have dBB := fun o => ((below_alloc wr o).cell (cell_lt cBB)).trans cBB
        have cB2 := cell_of_one (unhide B2)
        have dB2 := fun o => ((below_alloc wr o).cell (cell_lt cB2)).trans cB2
        by_cases hk0 : k = 0
        · subst hk0
          rcases hcase with hq | ⟨hq, hq'⟩
          · go_wp2
            go_ret
            exact ⟨rfl, unhide HB⟩
          · omega
        · have hk1 : ¬ (k : Int) < 1 := by omega
          have hPA : PickMay A rs := ⟨hAB.1, by rw [unhide HRL]; omega, by rw [unhide HRL]; omega, fun i hi => by rw [unhide HNA]; exact unhide HRR i hi⟩
          have hPP : PickMay (mulM A B) rs := ⟨mulM_may hAB.1 hAB.2.1, hPA.2.1, hPA.2.2.1, fun i hi => by rw [mulM_len]; exact hPA.2.2.2 i hi⟩
          have HPA := hide hPA
          have HPP := hide hPP
          clear hPA hPP
          rcases hcase with hq | ⟨hq, hq'⟩
          all_goals
            go_wp2_with fail
            refine (matPick_fun _ _ _ _ (mulM A B) rs _ (unhide M2) (unhide HI) (by unfold maxLen; omega)).mono ?_
            rintro e w4 ⟨u4, he, O4, b4⟩
            rw [pickF_yes (unhide HPP)] at he O4
            subst he
            obtain ⟨p4, n4, c4, rfl, e4⟩ := O4.form
            replace BA := hide ((b4.block _ (lt_of_block (unhide BA))).trans (unhide BA))
            replace BB := hide ((b4.block _ (lt_of_block (unhide BB))).trans (unhide BB))
            replace B2 := hide ((b4.block _ (lt_of_block (unhide B2))).trans (unhide B2))
            replace MA := hide ((unhide MA).below b4)
            replace MB := hide ((unhide MB).below b4)
            replace HI := hide ((unhide HI).below b4)
            replace HB := hide (bt (unhide HB) b4)
            have M4 := hide (O4.matV (rows_le (pickM_may (unhide HPP))))
            clear O4 b4 e4 cBA cBB cB2 dBA dBB dB2
            have cBA := cell_of_one (unhide BA)
            have dBA := fun o => ((below_alloc w4 o).cell (cell_lt cBA)).trans cBA
            have cBB := cell_of_one (unhide BB)
            have dBB := fun o => ((below_alloc w4 o).cell (cell_lt cBB)).trans cBB
            go_wp2_with fail
            have hx5 := below_alloc w4 (.cells #[.slice p4 n4 c4] 24)
            have B4 := hide (heap_alloc_new w4 (.cells #[.slice p4 n4 c4] 24))
            refine (matPick_fun _ _ _ _ A rs _ ((unhide MA).below hx5) ((unhide HI).below hx5) (by unfold maxLen; omega)).mono ?_
            rintro e w5 ⟨u5, he, O5, b5⟩
            rw [pickF_yes (unhide HPA)] at he O5
            subst he
            obtain ⟨p5, n5, c5, rfl, e5⟩ := O5.form
            replace B4 := hide ((b5.block _ (lt_of_block (unhide B4))).trans (unhide B4))
            replace b5 := bt hx5 b5
            replace BA := hide ((b5.block _ (lt_of_block (unhide BA))).trans (unhide BA))
            replace BB := hide ((b5.block _ (lt_of_block (unhide BB))).trans (unhide BB))
            replace MA := hide ((unhide MA).below b5)
            replace MB := hide ((unhide MB).below b5)
            replace M4 := hide ((unhide M4).below b5)
            replace HB := hide (bt (unhide HB) b5)
            have M5 := hide (O5.matV (rows_le (pickM_may (unhide HPA))))
            clear O5 b5 hx5 e5 cBA cBB dBA dBB
            have cBB := cell_of_one (unhide BB)
            have dBB := fun o => ((below_alloc w5 o).cell (cell_lt cBB)).trans cBB
            have cB4 := cell_of_one (unhide B4)
            have dB4 := fun o => ((below_alloc w5 o).cell (cell_lt cB4)).trans cB4
            go_wp2_with fail
            have hx6 := below_alloc w5 (.cells #[.slice p5 n5 c5] 24)
            refine (matMul_fun _ _ (pickM A rs) B _ ((unhide M5).below hx6) ((unhide MB).below hx6)).mono ?_
            rintro e w6 ⟨u6, he, O6, b6⟩
            rw [mulF_yes (picked_may hAB (unhide HPA)), picked_mul (unhide HPA)] at he O6
            subst he
            obtain ⟨p6, n6, c6, rfl, e6⟩ := O6.form
            replace b6 := bt hx6 b6
            replace B4 := hide ((b6.block _ (lt_of_block (unhide B4))).trans (unhide B4))
            replace M4 := hide ((unhide M4).below b6)
            replace HB := hide (bt (unhide HB) b6)
            have M6 := hide (O6.matV (rows_le (pickM_may (unhide HPP))))
            clear O6 b6 hx6 e6 cBB cB4 dBB dB4
            have cB4 := cell_of_one (unhide B4)
            have dB4 := fun o => ((below_alloc w6 o).cell (cell_lt cB4)).trans cB4
            go_wp2_with (go_at_call 15; refine (num_any _ _).mono ?_; rintro e w' ⟨rfl, rfl⟩)
            have hx7 := below_alloc w6 (.cells #[.slice p6 n6 c6] 24)
            refine (sameMatrix_any _ _ _ _ _ ((unhide M4).below hx7) ((unhide M6).below hx7)).mono ?_
            rintro e w7 ⟨he, b7⟩
            rw [beq_self_eq_true] at he
            subst he
            replace HB := hide (bt (unhide HB) (bt hx7 b7))
            clear b7 hx7 cB4 dB4
            go_wp2
            go_ret
            exact ⟨rfl, unhide HB⟩
  · rw [mulF_no hAB] at he M2 E2
    subst he
    obtain rfl : m2 = 0 := unhide E2
    go_wp2_with (go_at_call 15; refine (num_any _ _).mono ?_; rintro e w' ⟨rfl, rfl⟩)
    go_ret
    exact ⟨rfl, bt (unhide HB) (below_alloc _ _)⟩
theorem MatrixPicks_walk {w : World} (v0 : Value) (M0 : List (List Int)) (h0 : MatV w v0 M0) (s0 : (M0.length * 24 ≤ 140737488351232 ∧ ∀ i, (M0.getD i []).length * 8 ≤ 140737488351232)) (v1 : Value) (M1 : List (List Int)) (h1 : MatV w v1 M1) (s1 : (M1.length * 24 ≤ 140737488351232 ∧ ∀ i, (M1.getD i []).length * 8 ≤ 140737488351232)) (a2 : Option Addr) (n2 c2 : Nat) (x2 : List Int) (h2 : Ints w a2 n2 c2 x2) (r2 : n2 * 8 ≤ 140737488351232) (q2 : ∀ x ∈ x2, (Lit.int .i64 x).wf = true) :
    Calls Try.prog 6 #[v0, v1, .slice a2 n2 c2] w fun e w' => e = .returned (.bool true) ∧ Below w.heap.size w w' := MatrixPicks_go v0 v1 a2 n2 c2 M0 M1 x2 w h0 h1 h2 r2
end Go.Proofs.Ytpkofmpghhaobaa
