/- InvertDiagonal: a diagonal's inverse. -/
import Derived.Test.YthkafgcpnbolfaaInvertProductWalk
namespace Go.Proofs.Ythkafgcpnbolfaa
open Go.RowKit
set_option linter.unusedVariables false
set_option linter.unusedSimpArgs false
attribute [local go_sem ↓] Go.wp_at_zero Go.wp_at_succ
/-- the number on the diagonal -/
def dg (xs : List Int) (r : Nat) : Nat := (xs.getD r 0 % 256).toNat
theorem dg_lt (xs : List Int) (r : Nat) : dg xs r < 256 := by unfold dg; omega
theorem dg_and (xs : List Int) (r : Nat) : bits .and .i64 (xs.getD r 0) 255 = ((dg xs r : Nat) : Int) := by
  rw [and_255]
  unfold dg
  omega
/-- the diagonal, done up to i -/
def dgTo (xs : List Int) (i r c : Nat) : Nat := if r = c then (if r < i then dg xs r else 1) else 0
theorem bt' {B : Nat} {w w' w'' : World} (h : Below B w w') (h' : Below B w' w'') : Below B w w'' := h.trans h'
theorem natbeq (y : Nat) : (((y : Nat) : Int) == 0) = (y == 0) := by
  by_cases hy : y = 0
  · subst hy; rfl
  · have h1 : ((y : Int) == 0) = false := by simp; omega
    have h2 : (y == 0) = false := by simp; omega
    rw [h1, h2]
/-- is there a nought among the first i? -/
def anyz (xs : List Int) (i : Nat) : Bool := (List.range i).any fun r => dg xs r == 0
theorem anyz_succ (xs : List Int) (i : Nat) : anyz xs (i + 1) = (anyz xs i || (dg xs i == 0)) := by simp [anyz, List.range_succ]
theorem anyz_false {xs : List Int} {k : Nat} (h : anyz xs k = false) : ∀ r, r < k → dg xs r ≠ 0 := by
  intro r hr e
  have : anyz xs k = true := by
    unfold anyz
    rw [List.any_eq_true]
    exact ⟨r, by simpa using hr, by simp [e]⟩
  rw [h] at this
  cases this
theorem anyz_true {xs : List Int} {k : Nat} (h : anyz xs k = true) : ∃ r, r < k ∧ dg xs r = 0 := by
  unfold anyz at h
  rw [List.any_eq_true] at h
  obtain ⟨r, hr, e⟩ := h
  exact ⟨r, by simpa using hr, by simpa using e⟩
set_option maxRecDepth 100000 in
set_option maxHeartbeats 4000000 in
theorem InvertDiagonal_walk {w : World} (a0 : Option Addr) (n0 c0 : Nat) (x0 : List Int) (h0 : Ints w a0 n0 c0 x0) (r0 : n0 * 8 ≤ 140737488351232) (q0 : ∀ x ∈ x0, (Lit.int .i64 x).wf = true) :
    Calls Try.prog 6 #[.slice a0 n0 c0] w fun e w' => e = .returned (.bool true) ∧ Below w.heap.size w w' := by
  have MX := hide h0
  clear h0 q0
  go_enter Try.func6, Try.ntmps6
  go_wp2_with fail
  refine (awake4_any _).mono ?_
  rintro e w1 ⟨rfl, b1⟩
  replace MX := hide ((unhide MX).below b1)
  have HB := hide b1
  clear b1
  obtain ⟨k, ek, hk⟩ : ∃ k : Nat, (if (12 : Int) < (n0 : Int) then (12 : Int) else (n0 : Int)) = k ∧ k = min n0 12 := ⟨min n0 12, by split <;> omega, rfl⟩
  by_cases hk0 : k < 1
  · obtain rfl : n0 = 0 := by omega
    go_wp2_with fail
    go_ret
    exact ⟨rfl, unhide HB⟩
  · have k1 : 1 ≤ k := by omega
    have k2 : k ≤ 12 := by omega
    have k3 : k ≤ n0 := by omega
    have hk0' : ¬ (k : Int) < 1 := by omega
    clear hk hk0
    go_wp2_with fail
    refine (matIdentity_fun _ _).mono ?_
    rintro e w2 ⟨u2, he, O2, b2⟩
    have hid : idF (k : Int) = (idM k, 0) := by simp only [idF]; rw [if_pos (by omega), Int.toNat_natCast]
    rw [hid] at he O2
    subst he
    obtain ⟨p2, n2, c2, rfl, e2⟩ := O2.form
    obtain rfl : k = n2 := by rw [e2, idM_len]
    replace MX := hide ((unhide MX).below b2)
    replace HB := hide (bt (unhide HB) b2)
    have MI := hide (O2.matV (rows_le (idM_may k1 k2)))
    clear O2 b2 e2 hid
    have tk : ((k : Int) != (k : Int)) = false := by simp
    go_wp2_with (go_at_call 11; refine (num_any _ _).mono ?_; rintro e w' ⟨rfl, rfl⟩)
    have BI := hide (heap_alloc_new w2 (.cells #[.slice p2 k c2] 24))
    have hx := below_alloc w2 (.cells #[.slice p2 k c2] 24)
    generalize (w2.alloc (.cells #[.slice p2 k c2] 24)) = W3 at *
    replace MX := hide ((unhide MX).below hx)
    replace MI := hide ((unhide MI).below hx)
    have MX3 := MX
    have MI3 := MI
    replace HB := hide (bt (unhide HB) hx)
    have hwl : w.heap.size ≤ W3.heap.size := (unhide HB).size
    have lbi := lt_of_block (unhide BI)
    clear hx
    refine (copyMatrix_any _ (idM k) _ (unhide MI) (by rw [idM_len]; omega) (fun i => by have := mrow_le (idM_may k1 k2) i; omega)).mono ?_
    rintro e w4 ⟨u4, rfl, O4, b4⟩
    obtain ⟨usm, RM⟩ := O4
    obtain ⟨gm, cm, em, hgm, _⟩ := RM.form (by rw [idM_len]; omega)
    rw [idM_len] at em
    subst em
    replace BI := hide ((b4.block _ (lt_of_block (unhide BI))).trans (unhide BI))
    replace MX := hide ((unhide MX).below b4)
    replace MI := hide ((unhide MI).below b4)
    replace HB := hide (bt (unhide HB) b4)
    have HRM := hide RM
    have hs4 := b4.size
    have H34 := hide b4
    clear b4 RM
    have cBI := cell_of_one (unhide BI)
    have dBI := fun o => ((below_alloc w4 o).cell (cell_lt cBI)).trans cBI
    go_wp2_with fail
    have BM := hide (heap_alloc_new w4 (.cells #[.slice (some ⟨gm, 0, none⟩) k cm] 24))
    have hx := below_alloc w4 (.cells #[.slice (some ⟨gm, 0, none⟩) k cm] 24)
    generalize (w4.alloc (.cells #[.slice (some ⟨gm, 0, none⟩) k cm] 24)) = W5 at *
    have lgm : W3.heap.size ≤ w4.heap.size := hs4
    replace BI := hide ((hx.block _ (lt_of_block (unhide BI))).trans (unhide BI))
    replace MX := hide ((unhide MX).below hx)
    replace MI := hide ((unhide MI).below hx)
    replace HRM := hide ((unhide HRM).below hx)
    replace HB := hide (bt (unhide HB) hx)
    have hs5 := hx.size
    have H35 := hide (bt (unhide H34) hx)
    have hst : RowsO W5 W3.heap.size 38 3 (.slice (some ⟨gm, 0, none⟩) k cm) usm (matF k k (dgTo x0 0)) := by
      have := unhide HRM
      rw [idM_idx] at this
      rw [matF_congr (g := idx) (fun r c _ _ => by simp [dgTo, idx])]
      exact this
    have HST := hide hst
    clear hst HRM hx cBI dBI
    go_loopw [6, 8] (fun zv iv wr => ∃ i : Nat, i ≤ k ∧ iv = .int .i64 i ∧ zv = .bool (anyz x0 i) ∧ wr.heap[w4.heap.size]? = some (.cells #[.slice (some ⟨gm, 0, none⟩) k cm] 24 (0, 0)) ∧ Hid (RowsO wr W3.heap.size 38 3 (.slice (some ⟨gm, 0, none⟩) k cm) usm (matF k k (dgTo x0 i))) ∧ Hid (Below W3.heap.size W5 wr)) (fun _ iv _ => k - (intOf iv).toNat)
    case atStart => exact ⟨0, by omega, rfl, rfl, unhide BM, HST, hide (Below.refl _ _)⟩
    case round =>
      obtain ⟨i, hi, rfl, rfl, hbm, HR, HW⟩ := hrel
      have cm7 := cell_of_one hbm
      by_cases hlt : i < k
      · have hlt' : (i : Int) < k := by omega
        have hlt0' : (i : Int) < n0 := by omega
        obtain ⟨gi, ci, hui, hgi, hcell, hown, hvi⟩ := rowAt (unhide HR) hlt
        have hvv := hvi i hlt
        obtain ⟨hxl, hxr⟩ := unhide MX3
        obtain ⟨b, off, rfl, hc3⟩ : ∃ b off, a0 = some ⟨b, off, none⟩ ∧ ∀ i, i < n0 → W3.cell? ⟨b, off + i, none⟩ = some (.int .i64 (x0.getD i 0)) := by
          rcases hxr.two with h | ⟨b, off, e, h⟩
          · omega
          · exact ⟨b, off, e, h⟩
        have lb : b < W3.heap.size := cell_lt (hc3 i (by omega))
        have hcx : W5.cell? ⟨b, off + i, none⟩ = some (.int .i64 (x0.getD i 0)) := by
          rcases (unhide MX).2.two with h | ⟨b', off', e, h⟩
          · omega
          · simp only [Option.some.injEq, Addr.mk.injEq, and_true] at e
            obtain ⟨rfl, rfl⟩ := e
            exact h i (by omega)
        have hcw := ((unhide HW).cell (p := ⟨b, off + i, none⟩) lb).trans hcx
        have hand := dg_and x0 i
        have hd := dg_lt x0 i
        obtain ⟨x, ex⟩ : ∃ x, x = x0.getD i 0 := ⟨_, rfl⟩
        obtain ⟨y, ey⟩ : ∃ y, y = dg x0 i := ⟨_, rfl⟩
        rw [← ex] at hcw hand
        rw [← ey] at hand hd
        have EY := hide ey
        have f1 := own_free hown i
        have HOW := hide hown
        have HUI := hide hui
        have tk2 : ((k : Int) != (k : Int)) = false := by simp
        clear ex ey hxl hxr hc3 hcx hown hui hvi
        go_wp2
        refine wp_region_quiet_then (List.cons_ne_nil _ _) ?_ ?_ ?_ ?_
        · kernel_rfl
        · kernel_rfl
        · kernel_rfl
        simp only [List.dropLast_cons_cons, List.dropLast_singleton, List.getLast_cons_cons, List.getLast_singleton]
        repeat (first | go_big_quiet_step (fail) | quiet_step (fail))
        refine wpQuiet_nil ?_
        intro _ hw'
        obtain ⟨nq, hw''⟩ := hw'
        subst hw''
        have hcell2 : ((wr.drewN nq).setCell ⟨gi, i, none⟩ (.int .i64 y)).cell? ⟨b, off + i, none⟩ = some (.int .i64 x) := (World.cell?_of_block (w := wr) (Below.heap_setCell (wr.drewN nq) ⟨gi, i, none⟩ _ b (by show b ≠ gi; omega))).trans hcw
        simp only [List.cons_append, List.nil_append]
        have hnext : RowsO ((wr.drewN nq).setCell ⟨gi, i, none⟩ (.int .i64 y)) W3.heap.size 38 3 (.slice (some ⟨gm, 0, none⟩) k cm) usm (matF k k (dgTo x0 (i + 1))) := by
          have hd1 : Below wr.heap.size wr (wr.drewN nq) := below_drewN _ _ nq
          have hput := own_put ((unhide HOW).below hd1) i (.int .i64 ((y : Nat) : Int))
          rw [← List.map_set, rowF_set hlt] at hput
          have := ((unhide HR).below hd1).setRow (by decide) (unhide HUI) hput (fun j hj _ => Below.heap_setCell (wr.drewN nq) ⟨gi, i, none⟩ _ j (fun e => hj (by rw [e]; rfl)))
          rw [matF_setRow hlt, matF_congr (g := dgTo x0 (i + 1)) (fun r c hr hc => ?_)] at this
          · exact this
          · unfold dgTo
            by_cases h1 : r = i
            · subst h1
              by_cases h2 : c = r
              · subst h2; simp [unhide EY]
              · simp [h2, Ne.symm h2]
            · by_cases h3 : r < i
              · simp [h1, h3, show r < i + 1 by omega]
              · simp [h1, h3, show ¬ r < i + 1 by omega]
        have hbm2 : ((wr.drewN nq).setCell ⟨gi, i, none⟩ (.int .i64 y)).heap[w4.heap.size]? = some (.cells #[.slice (some ⟨gm, 0, none⟩) k cm] 24 (0, 0)) := by
          refine (Below.heap_setCell (wr.drewN nq) ⟨gi, i, none⟩ _ w4.heap.size ?_).trans hbm
          intro e
          obtain ⟨_, cur, hcur⟩ := own_block (unhide HOW)
          have e' : w4.heap.size = gi := e
          rw [← e', hbm] at hcur
          simp at hcur
        have hbw2 : Below W3.heap.size W5 ((wr.drewN nq).setCell ⟨gi, i, none⟩ (.int .i64 y)) := ((unhide HW).trans (below_drewN _ _ nq)).setCell hgi _
        have HN := hide hnext
        have HBM2 := hide hbm2
        have HBW2 := hide hbw2
        clear hnext hbm2 hbw2
        have hzs := anyz_succ x0 i
        rw [← unhide EY] at hzs
        have HZS := hide hzs
        clear hzs
        cases hz : anyz x0 i with
        | true =>
          go_wp2
          go_roundw
          case rel => exact ⟨i + 1, by omega, by go_num, by rw [unhide HZS, hz]; rfl, unhide HBM2, HN, HBW2⟩
          case measure => simp [intOf]; omega
        | false =>
          go_wp2
          go_roundw
          case rel =>
            refine ⟨i + 1, by omega, by go_num, ?_, unhide HBM2, HN, HBW2⟩
            rw [unhide HZS, hz, Bool.false_or]
            exact congrArg Value.bool (natbeq y)
          case measure => simp [intOf]; omega
      · have hlt' : ¬ (i : Int) < k := by omega
        obtain rfl : i = k := by omega
        have hDM : matF i i (dgTo x0 i) = diagM i (dg x0) := matF_congr (fun r c hr hc => by simp [dgTo, hr])
        have hR := unhide HR
        rw [hDM] at hR
        have sD : Sq i (diagM i (dg x0)) := diag_sq k1 k2 (fun r _ => dg_lt x0 r)
        have MD := hide (OwnM.matV ⟨usm, hR⟩ (rows_le sD.1.1))
        have HSD := hide sD
        clear hR hDM sD HR
        have hbi := ((unhide HW).block _ (lbi)).trans (unhide BI)
        have BI2 := hide hbi
        have BM2 := hide hbm
        have MI2 := hide ((unhide MI3).below (bt' (unhide H35) (unhide HW)))
        replace HB := hide (((unhide HB)).trans ((unhide HW).mono hwl))
        clear hbi hbm cm7
        have cBI2 := cell_of_one (unhide BI2)
        have dBI2 := fun o => ((below_alloc wr o).cell (cell_lt cBI2)).trans cBI2
        have cBM2 := cell_of_one (unhide BM2)
        have dBM2 := fun o => ((below_alloc wr o).cell (cell_lt cBM2)).trans cBM2
        go_wp2_with fail
        refine (invInvert_any _ _ _ (unhide MD)).mono ?_
        rintro e w6 ⟨u6, r6, hr6, rfl, O6, b6⟩
        obtain ⟨p6, n6, c6, rfl, e6⟩ := O6.form
        replace BI2 := hide ((b6.block _ (lt_of_block (unhide BI2))).trans (unhide BI2))
        replace BM2 := hide ((b6.block _ (lt_of_block (unhide BM2))).trans (unhide BM2))
        replace MI2 := hide ((unhide MI2).below b6)
        replace MD := hide ((unhide MD).below b6)
        replace HB := hide (bt (unhide HB) b6)
        have M6 := hide (O6.matV (invR_le hr6))
        have HO6 := hide O6
        clear O6 b6 cBI2 dBI2 cBM2 dBM2
        have cBI2 := cell_of_one (unhide BI2)
        have dBI2 := fun o => ((below_alloc w6 o).cell (cell_lt cBI2)).trans cBI2
        have cBM2 := cell_of_one (unhide BM2)
        have dBM2 := fun o => ((below_alloc w6 o).cell (cell_lt cBM2)).trans cBM2
        cases hz : anyz x0 i with
        | true =>
          obtain ⟨r, hr, er⟩ := anyz_true hz
          obtain rfl := invR_one hr6 (.inr (.inr ⟨(unhide HSD).1, diag_none k1 k2 (fun r _ => dg_lt x0 r) hr er, rfl⟩))
          obtain rfl : n6 = 0 := e6
          clear hr6 hr er
          go_wp2_with (go_at_call 11; refine (num_any _ _).mono ?_; rintro e w' ⟨rfl, rfl⟩)
          go_ret
          exact ⟨rfl, bt (unhide HB) (below_alloc _ _)⟩
        | false =>
          have hnz := anyz_false hz
          obtain ⟨N, hN⟩ := diag_some k1 k2 (fun r _ => dg_lt x0 r) hnz
          obtain rfl := invR_one hr6 (.inr (.inl ⟨(unhide HSD).1, N, hN, rfl⟩))
          clear hr6 e6
          go_wp2_with (go_at_call 11; refine (num_any _ _).mono ?_; rintro e w' ⟨rfl, rfl⟩)
          have sN := hN.sq (unhide HSD)
          have hmul : mulF N (diagM i (dg x0)) = (idM i, 0) := by rw [mulF_sq sN (unhide HSD), hN.left (unhide HSD)]
          have HOFF := hide (fun (r c : Nat) (hr : r < i) (hc : c < i) (hrc : r ≠ c) => diag_off k1 k2 (fun r _ => dg_lt x0 r) hnz hN hr hc hrc)
          have HSN := hide sN
          clear hN sN hnz
          have B6 := hide (heap_alloc_new w6 (.cells #[.slice p6 n6 c6] 24))
          have hx := below_alloc w6 (.cells #[.slice p6 n6 c6] 24)
          refine (matMul_fun _ _ N (diagM i (dg x0)) _ ((unhide M6).below hx) ((unhide MD).below hx)).mono ?_
          rintro e w7 ⟨u7, he, O7, b7⟩
          rw [hmul] at he O7
          subst he
          obtain ⟨p7, n7, c7, rfl, e7⟩ := O7.form
          replace B6 := hide ((b7.block _ (lt_of_block (unhide B6))).trans (unhide B6))
          replace b7 := bt hx b7
          replace BI2 := hide ((b7.block _ (lt_of_block (unhide BI2))).trans (unhide BI2))
          replace MI2 := hide ((unhide MI2).below b7)
          replace M6 := hide ((unhide M6).below b7)
          replace HB := hide (bt (unhide HB) b7)
          have M7 := hide (O7.matV (rows_le (idM_may k1 k2)))
          clear O7 b7 hx e7 hmul cBI2 dBI2 cBM2 dBM2
          have cBI2 := cell_of_one (unhide BI2)
          have dBI2 := fun o => ((below_alloc w7 o).cell (cell_lt cBI2)).trans cBI2
          have cB6 := cell_of_one (unhide B6)
          have dB6 := fun o => ((below_alloc w7 o).cell (cell_lt cB6)).trans cB6
          go_wp2_with (go_at_call 11; refine (num_any _ _).mono ?_; rintro e w' ⟨rfl, rfl⟩)
          have hx := below_alloc w7 (.cells #[.slice p7 n7 c7] 24)
          refine (sameMatrix_any _ _ _ _ _ ((unhide M7).below hx) ((unhide MI2).below hx)).mono ?_
          rintro e w8 ⟨he, b8⟩
          rw [beq_self_eq_true] at he
          subst he
          replace b8 := bt hx b8
          replace B6 := hide ((b8.block _ (lt_of_block (unhide B6))).trans (unhide B6))
          replace M6 := hide ((unhide M6).below b8)
          replace HB := hide (bt (unhide HB) b8)
          clear b8 hx cBI2 dBI2 cB6 dB6
          obtain ⟨hlN, _, _, kN, bN, oN, ekN, kN1, kN2, rfl, hcN⟩ := mat_at (unhide M6) (unhide HSN).1.1
          obtain rfl : i = n6 := by rw [← hlN]; exact (unhide HSN).2.symm
          obtain rfl : i = kN := by rw [← ekN]; exact (unhide HSN).head.symm
          have HCN := hide hcN
          clear hcN ekN kN1 kN2 hlN
          have cB6 := cell_of_one (unhide B6)
          have dB6 := fun o => ((below_alloc w8 o).cell (cell_lt cB6)).trans cB6
          go_wp2_with fail
          go_loop [13] (fun rv => ∃ r : Nat, r ≤ i ∧ rv = .int .i64 r) (fun rv => i - (intOf rv).toNat)
          case atStart => exact ⟨0, by omega, rfl⟩
          case round =>
            obtain ⟨r, hr, rfl⟩ := hrel
            by_cases hltr : r < i
            · have hltr' : (r : Int) < i := by omega
              obtain ⟨gR, oR, qR, hrowR, hcR⟩ := unhide HCN r hltr
              have HCR := hide hcR
              clear hcR
              go_wp2
              go_loop [14] (fun sv => ∃ s : Nat, s ≤ i ∧ sv = .int .i64 s) (fun sv => i - (intOf sv).toNat)
              case atStart => exact ⟨0, by omega, rfl⟩
              case round =>
                obtain ⟨s, hs, rfl⟩ := hrel
                by_cases hlts : s < i
                · have hlts' : (s : Int) < i := by omega
                  by_cases hrs : r = s
                  · subst hrs
                    have trs : ((r : Int) != (r : Int)) = false := by simp
                    go_wp2
                    go_round
                    case rel => exact ⟨r + 1, by omega, by go_num⟩
                    case measure => simp [intOf]; omega
                  · have trs : ((r : Int) != (s : Int)) = true := by simp; omega
                    have hv := (unhide HCR s hlts).1
                    rw [unhide HOFF r s hltr hlts hrs] at hv
                    go_wp2
                    go_round
                    case rel => exact ⟨s + 1, by omega, by go_num⟩
                    case measure => simp [intOf]; omega
                · have hlts' : ¬ (s : Int) < i := by omega
                  obtain rfl : s = i := by omega
                  go_wp2
                  go_round
                  case rel => exact ⟨r + 1, by omega, by go_num⟩
                  case measure => simp [intOf]; omega
            · have hltr' : ¬ (r : Int) < i := by omega
              obtain rfl : r = i := by omega
              go_wp2
              go_ret
              exact ⟨rfl, unhide HB⟩
end Go.Proofs.Ythkafgcpnbolfaa
