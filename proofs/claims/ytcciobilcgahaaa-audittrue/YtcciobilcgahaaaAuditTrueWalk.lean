/- The Go text of the statement AuditTrue returns true, whatever the roots, the question and the numbers. -/
import Derived.Test.YtcciobilcgahaaaAwake12
import Derived.Test.YtcciobilcgahaaaAuditMath4
import Derived.Test.YtcciobilcgahaaaSealTurnedWalk
import Derived.Test.YtcciobilcgahaaaTreeTurnedWalk
import Derived.Test.YtcciobilcgahaaaLie
import Derived.Deep.CutBlock
import Derived.Deep.CutRange
namespace Go.Proofs.Ytcciobilcgahaaa
open Go.RowKit
set_option linter.unusedVariables false
set_option linter.unusedSimpArgs false
attribute [local go_sem ↓] Go.wp_at_zero Go.wp_at_succ
theorem byte_of (a : Int) : a % 256 = (((a % 256).toNat : Nat) : Int) := by omega
def ands (bs : List Int) (k : Nat) : List Int := (bs.take k).map (fun x => x % 4)
theorem ands_snoc (bs : List Int) (k : Nat) (h : k < bs.length) : ands bs (k + 1) = ands bs k ++ [bs.getD k 0 % 4] := by
  unfold ands
  rw [List.take_add_one, List.map_append]
  simp [List.getD, List.getElem?_eq_getElem h]
theorem ands_len (bs : List Int) (k : Nat) (h : k ≤ bs.length) : (ands bs k).length = k := by simp [ands]; omega
theorem ands_ok (bs : List Int) (k : Nat) : ∀ x ∈ ands bs k, BkOk x := by
  intro x hx
  unfold ands at hx
  obtain ⟨y, _, rfl⟩ := List.mem_map.1 hx
  unfold BkOk
  omega
theorem ask_m {N : Nat} (hN : N < 1073741825) {bs : List Int} (h1 : 1 ≤ bs.length) (h2 : bs.length ≤ 64) (hb : ∀ b ∈ bs, BkOk b) : AskM (N : Int) bs := ⟨by unfold Sl; omega, h1, h2, hb⟩
theorem and_3r (n : Int) : bits .and .i64 n 3 = n % 4 := and_mask_i64 n 2 3 (by decide) (by decide)
theorem two_set1 {w : World} {b : Nat} {x y y' : Value} {T : TypeId} (h : w.heap[b]? = some (.cells #[x, y] T (0, 0))) : (w.setCell ⟨b, 1, none⟩ y').heap[b]? = some (.cells #[x, y'] T (0, 0)) := by
  rw [heap_setCell_same w b 1 _ T y' h]
  rfl
theorem wrap_one {N : Nat} (h : N < 1073741824) : wrap64 ((N : Int) + 1) = (N : Int) + 1 := by unfold wrap64; omega
theorem ne_8 {n : Nat} (h : n = 8) : ((n : Int) != 8) = false := by subst h; rfl
theorem lt_2 {n : Nat} (h : 2 ≤ n) : ¬ ((n : Int) < 2) := by omega
theorem and_7 (n : Int) : ∃ m : Nat, m < 8 ∧ bits .and .i64 n 7 = (m : Int) := ⟨(n % 8).toNat, by omega, by
  have h : bits .and .i64 n 7 = n % 8 := and_mask_i64 n 3 7 (by decide) (by decide)
  rw [h]; omega⟩
theorem wf_30 {N : Nat} (h : N < 1073741824) : (Lit.int .i64 (N : Int)).wf = true := wf_nat (by omega)
theorem root_leaves {s : ByteArray} (h : s.size = 32) : rootP (nint (leavesL s)) = ((((Tree.root (leavesL s)) : Nat) : Int), 0) := rootP_nint (by rw [leaves_32 h]; decide) (by rw [leaves_32 h]; decide) (leaves_may _)
set_option maxRecDepth 100000 in
set_option maxHeartbeats 4000000 in
theorem AuditTrue_walk {w : World} (a0 : Option Addr) (n0 c0 : Nat) (xs : List Int) (h0 : Ints w a0 n0 c0 xs) (r0 : n0 * 8 ≤ 140737488351232) (wf0 : ∀ x ∈ xs, (Lit.int .i64 x).wf = true)
    (at_ : Int) (w1 : (Lit.int .i64 at_).wf = true) (b2 : Int) (w2 : (Lit.int .i64 b2).wf = true)
    (q : Int) (wfq : (Lit.int .i64 q).wf = true) (ba : Option Addr) (bn bc : Nat) (bs : List Int) (hB : Ints w ba bn bc bs) (rB : bn * 8 ≤ 140737488351232)
    (wh : Int) (w4 : (Lit.int .i64 wh).wf = true) (by_ : Int) (w5 : (Lit.int .i64 by_).wf = true) :
    Calls Try.prog 4 #[.slice a0 n0 c0, .int .i64 at_, .int .i64 b2, .agg #[.int .i64 q, .slice ba bn bc], .int .i64 wh, .int .i64 by_] w fun e w' => e = .returned (.bool true) ∧ Below w.heap.size w w' := by
  have hlen := h0.1
  have H0 := hide h0
  have K0 := hide hB
  have BX := hide (heap_alloc_new w (.cells #[.int .i64 q, .slice ba bn bc] 24))
  have HB := hide (below_alloc w (.cells #[.int .i64 q, .slice ba bn bc] 24))
  clear hB h0 wf0 w1 w2 w4 w5 wfq
  go_enter Try.func4, Try.ntmps4
  go_upto_region 1 with fail
  generalize (w.alloc (.cells #[.int .i64 q, .slice ba bn bc] 24)) = W at *
  go_wp2_with fail
  refine (awake12_any _).mono ?_
  rintro e w1 ⟨rfl, b1⟩
  replace BX := hide ((b1.block _ (lt_of_block (unhide BX))).trans (unhide BX))
  replace HB := hide (bt (unhide HB) b1)
  clear b1
  obtain ⟨bb, ebb⟩ : ∃ bb : Nat, bb = (b2 % 256).toNat := ⟨_, rfl⟩
  have hbb : bb < 256 := by omega
  have e8 : b2 % 256 = (bb : Int) := by omega
  clear ebb
  go_wp2_with fail
  refine (text_any bb hbb _).mono ?_
  rintro e w2 ⟨rfl, b2'⟩
  obtain ⟨s, es⟩ : ∃ s, s = textS bb := ⟨_, rfl⟩
  have hss : s.size = 32 := by rw [es]; exact textS_size _
  rw [← es]
  have hrt := root_leaves hss
  have hll : (nint (leavesL s)).length = 4 := by rw [nint_len, leaves_32 hss]
  obtain ⟨l, el⟩ : ∃ l, l = leavesL s := ⟨_, rfl⟩
  obtain ⟨own, eo⟩ : ∃ own, own = Tree.root l := ⟨_, rfl⟩
  rw [← el, ← eo] at hrt
  rw [← el] at hll
  have hol : own < 2147483647 := by rw [eo, el]; exact Tree.root_lt (by intro h; have := leaves_32 hss; rw [h] at this; simp at this) (leaves_may _)
  have HRT := hide hrt
  have HLL := hide hll
  have EL := hide el
  have EO := hide eo
  replace BX := hide ((b2'.block _ (lt_of_block (unhide BX))).trans (unhide BX))
  replace HB := hide (bt (unhide HB) b2')
  clear es hrt hll el eo b2' e8
  go_wp2_with fail
  refine (refLeaves_any s _ (by omega)).mono ?_
  rintro e w3 ⟨v2, rfl, O3, b3⟩
  rw [← unhide EL] at O3
  obtain ⟨p2, c2, rfl, S2⟩ := O3.ints
  rw [unhide HLL] at S2 ⊢
  have HI := hide S2
  replace BX := hide ((b3.block _ (lt_of_block (unhide BX))).trans (unhide BX))
  replace HB := hide (bt (unhide HB) b3)
  clear O3 S2 b3
  go_wp2_with fail
  refine (refRoot_any _ _ _ (nint l) _ (unhide HI) (by decide)).mono ?_
  rintro e w4 ⟨he, b4⟩
  rw [unhide HRT] at he
  subst he
  replace BX := hide ((b4.block _ (lt_of_block (unhide BX))).trans (unhide BX))
  replace HB := hide (bt (unhide HB) b4)
  clear b4 HI
  replace H0 := hide ((unhide H0).below (unhide HB))
  have hsw4 := (unhide HB).size
  have hbx4 := lt_of_block (unhide BX)
  go_upto_block 0 with fail
  go_cut [16, 17] from 42 to 61 (fun rv iv wr => ∃ j : Nat, j ≤ n0 ∧ j ≤ 6 ∧ (j = n0 ∨ j = 6) ∧ iv = .int .i64 j ∧ Hid (OwnL wr w4.heap.size 3 rv ((nint (lows xs j)).map (Value.int .i64))) ∧ Hid (Below w4.heap.size w4 wr))
  case first =>
    have HW4 := hide (Below.refl w4.heap.size w4)
    go_wp2
    go_loopw [16, 17] (fun rv iv wr => ∃ j : Nat, j ≤ n0 ∧ j ≤ 6 ∧ iv = .int .i64 j ∧ Hid (OwnL wr w4.heap.size 3 rv ((nint (lows xs j)).map (Value.int .i64))) ∧ Hid (Below w4.heap.size w4 wr)) (fun _ iv _ => 6 - (intOf iv).toNat)
    case atStart => exact ⟨0, by omega, by omega, rfl, hide (OwnL.nil _ _ _), HW4⟩
    case round =>
      obtain ⟨j, hj, hj6, rfl, HO, HW⟩ := hrel
      obtain ⟨pv, cv, ev⟩ := (unhide HO).form
      rw [List.length_map, nint_len, lows_len _ _ (by omega)] at ev
      subst ev
      have hszW := (unhide HW).size
      by_cases hlt : j < n0 ∧ j < 6
      · have hlt1 : (j : Int) < n0 := by omega
        have hlt2 : (j : Int) < 6 := by omega
        obtain ⟨b, o, ea, hcell⟩ : ∃ b off, a0 = some ⟨b, off, none⟩ ∧ ∀ i, i < n0 → wr.cell? ⟨b, off + i, none⟩ = some (.int .i64 (xs.getD i 0)) := by
          rcases ((unhide H0).below (unhide HW)).2.two with h | h
          · omega
          · exact h
        subst ea
        have cj := hcell j hlt.1
        clear hcell
        obtain ⟨x, ex⟩ : ∃ x, x = xs.getD j 0 := ⟨_, rfl⟩
        rw [← ex] at cj
        have EX := hide ex
        clear ex
        have hlow : (x % 4294967296 / 4) = ((low30 x : Nat) : Int) := by unfold low30; omega
        have HLOW := hide hlow
        have hlw := lows_len xs j (by omega)
        clear hlow
        go_wp2_with (at_builtin; refine wpList_push wr (by rfl) (.tmp 52) (.tmp 60) 22 (by rfl) w4.heap.size 3 (.int .i64 0) 8 Try.underlying22 Try.infoInt rfl _ _ (by rfl) (unhide HO) _ (by rfl) (by rfl) (by simp [nint_len, hlw]; omega) (by omega) hszW ?_; intro v1 wa O1 P1; have HBa := hide (P1.below (unhide HO) (unhide HW) (Nat.le_refl _) hszW); have HO1 := hide O1; clear O1 P1)
        go_roundw
        case rel =>
          refine ⟨j + 1, by omega, by omega, by go_num, hide ?_, HBa⟩
          have := unhide HO1
          rw [unhide HLOW, unhide EX] at this
          rw [lows_snoc _ _ (by omega)]
          simpa [nint] using this
        case measure => simp [intOf]; omega
      · have hex : (¬ (j : Int) < n0) ∨ ((j : Int) < n0 ∧ ¬ (j : Int) < 6) := by omega
        clear hlt
        rcases hex with h1 | ⟨h1, h2⟩
        · go_wp2
          go_meet
          case rel => exact ⟨j, hj, hj6, by omega, rfl, HO, HW⟩
        · go_wp2
          go_meet
          case rel => exact ⟨j, hj, hj6, by omega, rfl, HO, HW⟩
  case rest =>
    obtain ⟨j, hj, hj6, hjj, rfl, HO, HW⟩ := hcut
    have hll := lows_len xs j (by omega)
    obtain ⟨pv, cv, ev⟩ := (unhide HO).form
    rw [List.length_map, nint_len, hll] at ev
    subst ev
    replace BX := hide (((unhide HW).block _ (lt_of_block (unhide BX))).trans (unhide BX))
    replace HB := hide (bt (unhide HB) (unhide HW))
    have K1 := hide ((unhide K0).below (unhide HB))
    have hg0 := hide (fun g (e : pv = some ⟨g, 0, none⟩) => ((unhide HO).lt (g := g) (by rw [e]; rfl)).1)
    have hs4 := (unhide HW).size
    by_cases hz : j = 0
    · subst hz
      go_wp2
      go_ret
      exact ⟨rfl, unhide HB⟩
    · obtain ⟨k, hkj, ek⟩ := modT at_ j (by omega) (by omega)
      have hz1 : ¬ (j : Int) < 1 := by omega
      have hz2 : ¬ (j : Int) = 0 := by omega
      have hk : k < j := by omega
      obtain ⟨g, cap, eg, hg, hcap, hcap2, _⟩ := own_form (n := ((nint (lows xs j)).map (Value.int .i64)).length) (unhide HO) (by simp [nint_len, hll]; omega)
      simp only [Value.slice.injEq, List.length_map, nint_len, hll, true_and] at eg
      obtain ⟨rfl, rfl⟩ := eg
      have fi := own_free (unhide HO) k
      have ci := own_cell (unhide HO) k (by rw [nint_len]; omega)
      obtain ⟨y, ey⟩ : ∃ y, y = (nint (lows xs j)).getD k 0 := ⟨_, rfl⟩
      rw [← ey] at ci
      clear ey
      have HP := own_put (unhide HO) k (.int .i64 (own : Int))
      rw [nint_set] at HP
      obtain ⟨l2, el2⟩ : ∃ l2, l2 = (lows xs j).set k own := ⟨_, rfl⟩
      rw [← el2] at HP
      have hl2 : l2.length = j := by rw [el2, List.length_set]; exact hll
      have hm2 : Tree.May l2 := by
        intro x hx
        rw [el2] at hx
        rcases List.mem_or_eq_of_mem_set hx with h | rfl
        · exact lows_may xs j x h
        · exact hol
      have hk2 : l2.getD k 0 = Tree.root (leavesL s) := by
        rw [el2, ← unhide EL, ← unhide EO]
        simp [List.getD, show k < (lows xs j).length by omega]
      have HWHO : Hid (Who s l2 j k) := hide ⟨hss, hl2, hj6, hk, hm2, hk2⟩
      have hIP := HP.ints
      obtain ⟨p', c', e', hI⟩ := hIP
      simp only [Value.slice.injEq, nint_len, hl2, true_and] at e'
      obtain ⟨e1, e2⟩ := e'
      rw [← e1, ← e2, nint_len, hl2] at hI
      have HI := hide hI
      have hr := hide (rootP_nint (by omega) (by omega) hm2)
      have hp := hide (pathP_nint (i := k) (by omega) (by omega) (by omega) hm2)
      have HB5 := hide ((unhide HB).setCell (p := ⟨g, k, none⟩) (Nat.le_trans hsw4 hg) (.int .i64 (own : Int)))
      have BX5 := hide ((Below.heap_setCell wc ⟨g, k, none⟩ (.int .i64 (own : Int)) w.heap.size (by show w.heap.size ≠ g; omega)).trans (unhide BX))
      have K5 := hide ((unhide K0).below (unhide HB5))
      clear HP hI e1 e2 el2 hm2 hk2 HO HW HB BX K1 hg0
      go_wp2_with fail
      try clear ek
      generalize (wc.setCell ⟨g, k, none⟩ (.int .i64 (own : Int))) = W5 at *
      clear ci fi
      refine (refRoot_any _ _ _ (nint l2) _ (unhide HI) (by omega)).mono ?_
      rintro e w6 ⟨he, b6⟩
      rw [unhide hr] at he
      obtain ⟨R, eR⟩ : ∃ R, R = Tree.root l2 := ⟨_, rfl⟩
      rw [← eR] at he
      have ER := hide eR
      subst he
      replace HI := hide ((unhide HI).below b6)
      replace K5 := hide ((unhide K5).below b6)
      replace BX5 := hide ((b6.block _ (lt_of_block (unhide BX5))).trans (unhide BX5))
      replace HB5 := hide (bt (unhide HB5) b6)
      clear b6 eR hr
      go_wp2_with fail
      refine (refPath_any _ _ _ (nint l2) k _ (unhide HI) (by omega)).mono ?_
      rintro e w7 ⟨v7, he, O7, b7⟩
      rw [unhide hp] at he O7
      subst he
      have hps := who_path (unhide HWHO)
      obtain ⟨p, ep⟩ : ∃ p, p = nint (Tree.path l2 k) := ⟨_, rfl⟩
      rw [← ep] at hps O7
      have EP := hide ep
      obtain ⟨pp, pc, rfl, IP⟩ := O7.ints
      obtain ⟨pn, epn⟩ : ∃ pn, pn = p.length := ⟨_, rfl⟩
      rw [← epn] at IP hps ⊢
      have HP := hide IP
      have hpn := hps.2
      replace K5 := hide ((unhide K5).below b7)
      replace BX5 := hide ((b7.block _ (lt_of_block (unhide BX5))).trans (unhide BX5))
      replace HB5 := hide (bt (unhide HB5) b7)
      have EPN := hide epn
      clear b7 O7 IP hps ep HI hp epn
      obtain ⟨x0, x1⟩ := box_2 (unhide BX5)
      obtain ⟨N, eN, hN⟩ : ∃ N : Nat, q % 4294967296 / 4 = (N : Int) ∧ N < 1073741824 := ⟨(q % 4294967296 / 4).toNat, by omega, by omega⟩
      have hbx7 := lt_of_block (unhide BX5)
      go_upto_region 17 with fail
      have BQ := hide (heap_alloc_new w7 (.cells #[.int .i64 (N : Int), .slice none 0 0] 24))
      have HW8 := hide (below_alloc w7 (.cells #[.int .i64 (N : Int), .slice none 0 0] 24))
      clear x0 x1 eN
      generalize (w7.alloc (.cells #[.int .i64 (N : Int), .slice none 0 0] 24)) = W8 at *
      go_upto_block 2 with fail
      go_cut [24] from 93 to 114 (fun iv wr => ∃ (i : Nat) (v : Value), i ≤ bn ∧ i ≤ 8 ∧ (i = bn ∨ i = 8) ∧ iv = .int .i64 i ∧ Hid (wr.heap[w7.heap.size]? = some (.cells #[.int .i64 (N : Int), v] 24 (0, 0))) ∧ Hid (OwnL wr (w7.heap.size + 1) 3 v ((ands bs i).map (Value.int .i64))) ∧ Hid (Below w7.heap.size w7 wr))
      case first =>
        go_wp2
        go_loopw [24] (fun iv wr => ∃ (i : Nat) (v : Value), i ≤ bn ∧ i ≤ 8 ∧ iv = .int .i64 i ∧ Hid (wr.heap[w7.heap.size]? = some (.cells #[.int .i64 (N : Int), v] 24 (0, 0))) ∧ Hid (OwnL wr (w7.heap.size + 1) 3 v ((ands bs i).map (Value.int .i64))) ∧ Hid (Below w7.heap.size w7 wr)) (fun iv _ => 8 - (intOf iv).toNat)
        case atStart => exact ⟨0, _, by omega, by omega, rfl, BQ, hide (OwnL.nil _ _ _), HW8⟩
        case round =>
          obtain ⟨i, v, hi, hi8, rfl, BQr, HO, HW⟩ := hrel
          obtain ⟨pv, cw, ev⟩ := (unhide HO).form
          have hbl := (unhide K5).1
          rw [List.length_map, ands_len _ _ (by omega)] at ev
          subst ev
          have BXr := hide (((unhide HW).block _ hbx7).trans (unhide BX5))
          obtain ⟨x0, x1⟩ := box_2 (unhide BXr)
          obtain ⟨y0, y1⟩ := box_2 (unhide BQr)
          by_cases hlt : i < bn ∧ i < 8
          · have hlt1 : (i : Int) < bn := by omega
            have hlt2 : (i : Int) < 8 := by omega
            obtain ⟨b, o, ea, hcell⟩ : ∃ b off, ba = some ⟨b, off, none⟩ ∧ ∀ i, i < bn → w7.cell? ⟨b, off + i, none⟩ = some (.int .i64 (bs.getD i 0)) := by
              rcases (unhide K5).2.two with h | h
              · omega
              · exact h
            subst ea
            have cj7 := hcell i hlt.1
            have hbl7 := cell_lt cj7
            have cj := ((unhide HW).cell hbl7).trans cj7
            obtain ⟨x, ex⟩ : ∃ x, x = bs.getD i 0 := ⟨_, rfl⟩
            rw [← ex] at cj
            have EX := hide ex
            have k0 := kept_cell (B := w7.heap.size + 1) x1 (by show w.heap.size < _; omega)
            have k1 := kept_cell (B := w7.heap.size + 1) y1 (by show w7.heap.size < _; omega)
            have k2 := kept_cell (B := w7.heap.size + 1) cj (by show b < _; have : b < w7.heap.size := hbl7; omega)
            have hnl := ands_len bs i (by omega)
            have hand := and_3r x
            have f1 := free_of_row (unhide BQr) 1
            have hs78 := (unhide HW8).size
            have hszr := lt_of_block (unhide BQr)
            have HO' := HO
            clear ex hcell cj7
            go_upto_region 20 with fail
            clear x0 x1 y0 cj
            refine wp_region_ord_then (S := Below (w7.heap.size + 1) wr) [(true, 0), (true, 1), (true, 2), (true, 3), (true, 4), (true, 5), (true, 6), (true, 7), (false, 8), (false, 9), (true, 10)] (List.cons_ne_nil _ _) (by kernel_rfl) (by kernel_rfl) (by kernel_rfl) (by kernel_rfl) (by kernel_rfl) ((Below.refl _ _).drew) ?_
            simp only [List.dropLast_cons_cons, List.dropLast_singleton, List.getLast_cons_cons, List.getLast_singleton, withOps, List.map_cons, List.map_nil, List.getElem?_cons_succ, List.getElem?_cons_zero]
            repeat (refine walkH_read (by rfl) (by (intro gx; go_simp; try (with_reducible rfl))) ?_; try simp only [Act.put, List.setIfInBounds_toArray, List.set_cons_zero, List.set_cons_succ])
            refine walkH_do rfl (fun K hK => ?_)
            go_simp
            have hbA : Below wr.heap.size wr (wr.alloc (.cells #[.int .i64 (x % 4)] 3)).drew := by go_grown
            have cA : (wr.alloc (.cells #[.int .i64 (x % 4)] 3)).drew.cell? ⟨wr.heap.size, 0, none⟩ = some (.int .i64 (x % 4)) := cell_of_one (heap_alloc_new wr _)
            refine hK _ _ (hbA.mono (by omega)) ?_
            clear hK K
            try simp only [Act.put, List.setIfInBounds_toArray, List.set_cons_zero, List.set_cons_succ]
            have HO6 := hide ((unhide HO).below hbA)
            have HB6 := hide (hbA.mono (B' := w7.heap.size + 1) (by omega))
            have BQ6 := hide ((hbA.block _ hszr).trans (unhide BQr))
            have hsz6 := hbA.size
            generalize (wr.alloc (.cells #[.int .i64 (x % 4)] 3)).drew = w6' at *
            clear hbA
            refine walkH_do rfl (fun K hK => ?_)
            refine step_push _ (by rfl) (.tmp 105) (.tmp 112) 22 (by rfl) (w7.heap.size + 1) 3 (.int .i64 0) 8 Try.underlying22 Try.infoInt rfl (.slice pv i cw) ((ands bs i).map (Value.int .i64)) (by simp [Act.eval]) (unhide HO6) (.int .i64 (x % 4)) (by rfl) wr.heap.size 0 (by simp [Act.eval]) cA (by rw [List.length_map, hnl]; omega) (by omega) (by omega) ?_
            intro v7' wa O7 P7
            have hBa : Below (w7.heap.size + 1) wr wa := P7.below (unhide HO6) (unhide HB6) (Nat.le_refl _) (by omega)
            have BQa := hide ((P7.block (unhide HO6) (k := w7.heap.size) (by omega) (by omega)).trans (unhide BQ6))
            have HOa := hide O7
            refine hK _ _ hBa ?_
            clear hK K O7 P7 k0 k1 k2 cA HB6 BQ6 HO6
            try simp only [Act.put, List.setIfInBounds_toArray, List.set_cons_zero, List.set_cons_succ]
            have HBa := hide hBa
            clear hBa
            repeat (refine walkH_read (by rfl) (by (intro gx; go_simp; try (with_reducible rfl))) ?_; try simp only [Act.put, List.setIfInBounds_toArray, List.set_cons_zero, List.set_cons_succ])
            refine lastPost_of_list ?_
            simp only [List.cons_append, List.nil_append]
            obtain ⟨p7, c7, e7⟩ := (unhide HOa).form
            rw [List.length_append, List.length_map, hnl] at e7
            simp only [List.length_cons, List.length_nil, Nat.zero_add] at e7
            subst e7
            obtain ⟨z0, z1⟩ := box_2 (unhide BQa)
            have f1a := free_of_row (unhide BQa) 1
            go_wp2
            refine NoPanic.normal ?_
            go_wp2
            go_roundw
            case rel =>
              refine ⟨i + 1, _, by omega, by omega, by go_num, hide (two_set1 (unhide BQa)), hide ?_, hide (((unhide HW).trans ((unhide HBa).mono (by omega))).setCell (Nat.le_refl _) _)⟩
              rw [ands_snoc _ _ (by omega), ← unhide EX, List.map_append]
              exact (unhide HOa).setBelow (Nat.lt_succ_self _) _
            case measure => simp [intOf]; omega
          · have hex : (¬ (i : Int) < bn) ∨ ((i : Int) < bn ∧ ¬ (i : Int) < 8) := by omega
            clear hlt
            rcases hex with h1 | ⟨h1, h2⟩
            · go_wp2
              go_meet
              case rel => exact ⟨i, _, hi, hi8, by omega, rfl, BQr, HO, HW⟩
            · go_wp2
              go_meet
              case rel => exact ⟨i, _, hi, hi8, by omega, rfl, BQr, HO, HW⟩
      case rest =>
        obtain ⟨i, v, hi, hi8, hii, rfl, BQr, HO, HW⟩ := hcut
        have hbl := (unhide K5).1
        have hnl := ands_len bs i (by omega)
        obtain ⟨pb, cb, ev, IB⟩ := (unhide HO).ints
        rw [hnl] at ev IB
        subst ev
        have HIB := hide IB
        obtain ⟨y0, y1⟩ := box_2 (unhide BQr)
        have f1 := free_of_row (unhide BQr) 1
        have hlt7 := lt_of_block (unhide BQr)
        have AK0 : Hid (1 ≤ i → AskM (N : Int) (ands bs i)) := hide (fun h => ask_m (by omega) (by omega) (by omega) (ands_ok bs i))
        have AK1 : Hid (AskM (N : Int) [b2 % 4]) := hide (ask_m (by omega) (by simp) (by simp) (fun x hx => by rw [List.mem_singleton.1 hx]; unfold BkOk; omega))
        have hand := and_3r b2
        clear IB
        go_upto_if 118 with fail
        go_cut [] from 115 to 122 (fun wr => ∃ (L : List Int) (p : Option Addr) (m c : Nat), L.length = m ∧ m ≤ 8 ∧ Hid (wr.heap[w7.heap.size]? = some (.cells #[.int .i64 (N : Int), .slice p m c] 24 (0, 0))) ∧ Hid (Ints wr p m c L) ∧ Hid (AskM (N : Int) L) ∧ Hid (Below w7.heap.size w7 wr))
        case first =>
          by_cases hi1 : i = 0
          · subst hi1
            go_wp2
            go_meet
            case rel =>
              refine ⟨[b2 % 4], some ⟨wc.heap.size, 0, none⟩, 1, 1, rfl, by decide, hide ?_, hide ?_, AK1, hide ?_⟩
              · exact ((below_alloc _ _).block _ (by rw [World.size_setCell]; exact hlt7)).trans (two_set1 (unhide BQr))
              · exact int_lit (wc.setCell ⟨w7.heap.size, 1, none⟩ (.slice (some ⟨wc.heap.size, 0, none⟩) 1 1)) [b2 % 4] 3 wc.heap.size #[.int .i64 (b2 % 4)] 1 (World.size_setCell _ _ _) rfl rfl
              · exact ((unhide HW).setCell (Nat.le_refl _) _).alloc (by rw [World.size_setCell]; have := (unhide HW).size; exact this) _
          · have hi2 : ¬ (i : Int) < 1 := by omega
            have hi3 : ¬ (i : Int) = 0 := by omega
            go_wp2
            go_meet
            case rel => exact ⟨_, _, _, _, hnl, hi8, BQr, HIB, hide (unhide AK0 (by omega)), HW⟩
        case rest =>
          obtain ⟨L, pL, m, cL, hLl, hm8, BQs, HK, AK, HWs⟩ := hcut
          clear AK0 AK1 hand BQr HO HW HIB hii hi8 hi hnl f1 y0 y1 HW8
          have HP9 := hide ((unhide HP).below (unhide HWs))
          have HK0 := HK
          have BQ0 := BQs
          have HB9 := hide (bt (unhide HB5) (unhide HWs))
          have hm1 : 1 ≤ m := by have := (unhide AK).2.1; omega
          have hm9 : m ≤ 140737488351232 := Nat.le_trans hm8 (by decide)
          have hlq : w7.heap.size < wc.heap.size := lt_of_block (unhide BQs)
          have hr1 := who_rsp (unhide HWHO) (unhide AK)
          have ht1 := who_aud (unhide HWHO) (unhide AK)
          have ho1 := other_nonce (unhide HWHO) (unhide AK) (by omega)
          have hblk := fun (j' : Nat) (h : j' < L.length) => ans_blk (unhide HWHO) (unhide AK) h
          have htb := fun (j' : Nat) (h : j' < L.length) (t : ByteArray) (ht : Seal.of (byts ((ansL s l2 k N L).getD j' ans0).blk) ≠ Seal.of (byts t)) => other_block (unhide HWHO) (unhide AK) h ht
          have htl := fun (j' : Nat) (h : j' < L.length) (t : ByteArray) (ht : Seal.of (byts ((ansL s l2 k N L).getD j' ans0).blk) ≠ Seal.of (byts t)) (y : Int) => other_liar (unhide HWHO) (unhide AK) h ht y
          obtain ⟨zs, ez⟩ : ∃ zs, zs = ansL s l2 k N L := ⟨_, rfl⟩
          have hzl : zs.length = m := by rw [ez, ansL_len]; exact hLl
          rw [← ez] at ht1 ho1 hblk htb htl
          rw [← unhide EP, ← ez] at hr1
          rw [← unhide ER] at ht1 ho1 htb htl
          rw [hLl] at hblk htb htl
          have R1 := hide hr1
          have T1 := hide (decide_eq_true ht1)
          have O1 := hide (decide_eq_false ho1)
          have HBLK := hide hblk
          have HTB := hide htb
          have HTL := hide htl
          have HPZ : Hid (∀ j, j < m → (zs.getD j ans0).path.length ≤ 140737488351232) := hide (fun j hj => by have := (hblk j hj).2.2; omega)
          have HZL := hide hzl
          clear hr1 ht1 ho1 hblk htb htl ez hzl
          obtain ⟨y0, y1⟩ := box_2 (unhide BQs)
          go_wp2_with fail
          refine (auditRespond_any s _ _ _ p N _ _ _ L _ (unhide HP9) (unhide HK) (by omega) (by omega)).mono ?_
          rintro e w10 ⟨v10, us, he, O10, b10⟩
          rw [unhide R1] at he O10
          subst he
          simp only [] at O10 ⊢
          have ho10 := O10.outer
          obtain ⟨g9, c9, ev, hg9, hc9, hc9m, _⟩ := ownZ_form ho10 (by rw [unhide HZL]; omega)
          rw [unhide HZL] at ev
          subst ev
          have HA := hide O10
          replace BQs := hide ((b10.block _ (lt_of_block (unhide BQs))).trans (unhide BQs))
          replace HK := hide ((unhide HK).below b10)
          replace HB9 := hide (bt (unhide HB9) b10)
          have HKc := HK0
          have HBc := hide b10
          have hs10 := b10.size
          clear b10 O10 ho10 y0 y1 HP9
          obtain ⟨y0, y1⟩ := box_2 (unhide BQs)
          have HV : Hid (AnsV w10 (some ⟨g9, 0, none⟩) m c9 zs) := hide (by
            obtain ⟨a', c', e', hv⟩ := (unhide HA).ansV
            rw [unhide HZL] at e' hv
            simp only [Value.slice.injEq, true_and] at e'
            obtain ⟨e1, e2⟩ := e'
            rw [e1, e2]
            exact hv)
          go_wp2_with (go_at_call 12; refine (num_any _ _).mono ?_; rintro e w' ⟨rfl, hw'⟩; rw [hw']; clear hw' w')
          refine (auditCheck_any _ _ _ _ _ _ _ L _ _ _ zs _ (unhide HK) (unhide HV) hm9 (unhide HPZ)).mono ?_
          rintro e w11 ⟨he, b11⟩
          rw [unhide T1] at he
          subst he
          replace BQs := hide ((b11.block _ (lt_of_block (unhide BQs))).trans (unhide BQs))
          replace HK := hide ((unhide HK).below b11)
          replace HA := hide ((unhide HA).below b11)
          replace HV := hide ((unhide HV).below b11)
          replace HB9 := hide (bt (unhide HB9) b11)
          replace HBc := hide (bt (unhide HBc) b11)
          have hs11 := b11.size
          clear b11 y0 y1
          obtain ⟨jj, hjm, ejj⟩ := modT wh m (by omega) (by omega)
          have hjm' : jj < m := by omega
          have hzm : ¬ (m : Int) = 0 := by omega
          obtain ⟨ab, ao, px, cx, ea, _, z0, z1, z2, hIx⟩ := (unhide HV).at hjm'
          simp only [Option.some.injEq, Addr.mk.injEq, and_true] at ea
          obtain ⟨e1, e2⟩ := ea
          rw [← e1, ← e2, Nat.zero_add] at z0 z1 z2
          clear e1 e2
          obtain ⟨zx, ezx⟩ : ∃ zx, zx = zs.getD jj ans0 := ⟨_, rfl⟩
          rw [← ezx] at z0 z1 z2 hIx
          have hbx := unhide HBLK jj hjm'
          rw [← ezx] at hbx
          obtain ⟨hb8, hp2, hp64⟩ := hbx
          have EZX := hide ezx
          have hus := (unhide HA).mid (unhide HZL) (j := jj) (by rw [unhide HZL]; exact hjm') (v := .slice px zx.path.length cx) z1
          have HUS := hide hus
          clear ezx hIx hus
          go_upto_region 28 with fail
          try rw [ejj]
          clear ejj
          have BXX := hide (heap_alloc_new w11 (.cells #[.string zx.blk, .slice px zx.path.length cx, .int .i64 zx.keyed] 49))
          have b12 := below_alloc w11 (.cells #[.string zx.blk, .slice px zx.path.length cx, .int .i64 zx.keyed] 49)
          replace BQs := hide ((b12.block _ (lt_of_block (unhide BQs))).trans (unhide BQs))
          replace HK := hide ((unhide HK).below b12)
          replace HA := hide ((unhide HA).below b12)
          replace HV := hide ((unhide HV).below b12)
          replace HB9 := hide (bt (unhide HB9) b12)
          replace HBc := hide (bt (unhide HBc) b12)
          have hs12 := b12.size
          have hgA : g9 < w11.heap.size := cell_lt z0
          clear b12 z0 z1 z2
          generalize (w11.alloc (.cells #[.string zx.blk, .slice px zx.path.length cx, .int .i64 zx.keyed] 49)) = W12 at *
          obtain ⟨z0, z1, z2⟩ := box_three (unhide BXX)
          have hb8' : ((zx.blk.size : Int) != 8) = false := ne_8 hb8
          have hp2' : ¬ ((zx.path.length : Int) < 2) := lt_2 hp2
          have hp2'' : decide ((zx.path.length : Int) < 2) = false := decide_eq_false hp2'
          go_upto_region 30 with fail
          obtain ⟨y0, y1⟩ := box_2 (unhide BQs)
          have hN1 := wrap_one hN
          have HWN := hide (wf_30 hN)
          clear hN hol
          go_upto_region 31 with fail
          have BO := hide (heap_alloc_new W12 (.cells #[.int .i64 ((N : Int) + 1), .slice pL m cL] 24))
          have b13 := below_alloc W12 (.cells #[.int .i64 ((N : Int) + 1), .slice pL m cL] 24)
          replace BQs := hide ((b13.block _ (lt_of_block (unhide BQs))).trans (unhide BQs))
          replace BXX := hide ((b13.block _ (lt_of_block (unhide BXX))).trans (unhide BXX))
          replace HK := hide ((unhide HK).below b13)
          replace HA := hide ((unhide HA).below b13)
          replace HV := hide ((unhide HV).below b13)
          replace HB9 := hide (bt (unhide HB9) b13)
          replace HBc := hide (bt (unhide HBc) b13)
          have hs13 := b13.size
          clear b13 y0 y1 z0 z1 z2 hN1 hp2' hp2'' hb8'
          generalize (W12.alloc (.cells #[.int .i64 ((N : Int) + 1), .slice pL m cL] 24)) = W13 at *
          obtain ⟨y0, y1⟩ := box_2 (unhide BO)
          go_wp2_with fail
          refine (auditCheck_any _ _ _ _ _ _ _ L _ _ _ zs _ (unhide HK) (unhide HV) hm9 (unhide HPZ)).mono ?_
          rintro e w14 ⟨he, b14⟩
          rw [unhide O1] at he
          subst he
          replace BQs := hide ((b14.block _ (lt_of_block (unhide BQs))).trans (unhide BQs))
          replace BXX := hide ((b14.block _ (lt_of_block (unhide BXX))).trans (unhide BXX))
          replace HK := hide ((unhide HK).below b14)
          replace HA := hide ((unhide HA).below b14)
          replace HB9 := hide (bt (unhide HB9) b14)
          replace HBc := hide (bt (unhide HBc) b14)
          have hs14 := b14.size
          clear b14 y0 y1 BO HV O1
          obtain ⟨z0, z1, z2⟩ := box_three (unhide BXX)
          obtain ⟨bk, ebk⟩ : ∃ bk, bk = zx.blk := ⟨_, rfl⟩
          rw [← ebk] at z0 hb8
          have EBK := hide ebk
          clear ebk
          have hcv := run_bytes_of_string (P := Try.prog) w14 9 50 5 bk Try.underlying9 Try.underlying50 Try.underlying5
          obtain ⟨cap, ec⟩ : ∃ cap, cap = grownCap w14 bk.size 0 5 := ⟨_, rfl⟩
          rw [← ec] at hcv
          clear ec
          have R0 : Hid (ByteRow (w14.alloc (.cells (bytesRow bk cap) 5 ((bytesRow bk cap).size, (bytesRow bk cap).size + 1))).drew w14.heap.size bk.size 5 (bint bk)) := hide (bytes_row w14 bk cap 5)
          have B0 : Hid (Below w14.heap.size w14 (w14.alloc (.cells (bytesRow bk cap) 5 ((bytesRow bk cap).size, (bytesRow bk cap).size + 1))).drew) := hide (by go_grown)
          obtain ⟨kb, hkb, ekb⟩ := and_7 by_
          have hkb' : (kb : Int) < 8 := by omega
          have hkz : kb < bk.size := by rw [hb8]; exact hkb
          obtain ⟨z, hz, hzne, ezz⟩ := turn_byte ((byts bk).getD kb 0) (by
            have hl : kb < (byts bk).length := by rw [byts_len]; exact hkz
            have : (byts bk).getD kb 0 = (byts bk)[kb] := by simp [List.getD, hl]
            rw [this]
            simp [byts]
            exact UInt8.toNat_lt _) (by_ / 8)
          have htt := turned_text hkz hz hzne
          have HTT := hide htt
          have HZ := hide hz
          clear htt hzne hz
          go_upto_region 34 with fail
          clear hcv
          generalize hW15 : (w14.alloc (.cells (bytesRow bk cap) 5 ((bytesRow bk cap).size, (bytesRow bk cap).size + 1))).drew = W15 at *
          clear hW15
          have c8 := (unhide R0).cell hkz
          have f8 := (unhide R0).free hkz
          have eb : (bint bk).getD kb 0 = (((byts bk).getD kb 0 : Nat) : Int) := by
            have hl : kb < bk.data.toList.length := by simpa using hkz
            simp only [bint, byts, List.getD, List.getElem?_map]
            cases bk.data.toList[kb]? <;> rfl
          rw [eb] at c8
          obtain ⟨x0, ex0⟩ : ∃ x0, x0 = (byts bk).getD kb 0 := ⟨_, rfl⟩
          rw [← ex0] at c8 ezz
          clear ex0 eb
          go_upto_region 35 with fail
          have hR9 := (unhide R0).set kb (z : Int)
          have hl9 := hR9.1
          rw [hb8] at hR9 hl9
          have hcb := run_convert_bytes_arg (P := Try.prog) (W15.setCell ⟨w14.heap.size, kb, none⟩ (.int .u8 (z : Int))) 50 5 Try.underlying50 Try.underlying5 w14.heap.size 0 8 cap _ hl9 (fun j hj => by rw [Nat.zero_add]; exact hR9.cell hj) 9 Try.underlying9
          obtain ⟨t, et⟩ : ∃ t, t = strOfNums ((bint bk).set kb (z : Int)) := ⟨_, rfl⟩
          have htz : t.size = 8 := by rw [et, strOfNums_size, List.length_set, bint_len]; exact hb8
          rw [← et] at hcb HTT
          have HCB := hide hcb
          have hB16 := (unhide B0).setCell (p := ⟨w14.heap.size, kb, none⟩) (Nat.le_refl _) (.int .u8 (z : Int))
          have RB16 : Hid (ByteRow (W15.setCell ⟨w14.heap.size, kb, none⟩ (.int .u8 (z : Int))) w14.heap.size 8 5 ((bint bk).set kb (z : Int))) := hide hR9
          have ETT := hide et
          replace BQs := hide ((hB16.block _ (lt_of_block (unhide BQs))).trans (unhide BQs))
          replace BXX := hide ((hB16.block _ (lt_of_block (unhide BXX))).trans (unhide BXX))
          replace HK := hide ((unhide HK).below hB16)
          replace HA := hide ((unhide HA).below hB16)
          replace HB9 := hide (bt (unhide HB9) hB16)
          replace HBc := hide (bt (unhide HBc) hB16)
          clear hR9 hl9 et R0 c8 f8 B0 hB16 z0 z1 z2 ekb ezz
          generalize (W15.setCell ⟨w14.heap.size, kb, none⟩ (.int .u8 (z : Int))) = W16 at *
          have hcb := unhide HCB
          have HV16 : Hid (AnsV W16 (some ⟨g9, 0, none⟩) m c9 zs) := hide (by
            obtain ⟨a', c', e', hv⟩ := (unhide HA).ansV
            rw [unhide HZL] at e' hv
            simp only [Value.slice.injEq, true_and] at e'
            obtain ⟨e1, e2⟩ := e'
            rw [e1, e2]
            exact hv)
          obtain ⟨ab', ao', px', cx', ea', _, z0, z1, z2, _⟩ := (unhide HV16).at hjm'
          simp only [Option.some.injEq, Addr.mk.injEq, and_true] at ea'
          obtain ⟨e1, e2⟩ := ea'
          rw [← e1, ← e2, Nat.zero_add] at z0 z1 z2
          clear e1 e2
          have fz : W16.frozen? ⟨g9, jj * 3, none⟩ = false := by
            have h := (unhide HA).outer
            rw [unhide HZL] at h
            exact World.ownsRow.frozenAt h (jj * 3)
          go_upto_region 36 with fail
          have hw9 : w.heap.size ≤ g9 := by omega
          have hA1 := (unhide HA).putBlk (by decide) (unhide HZL) (j := jj) (by rw [unhide HZL]; exact hjm') t
          obtain ⟨zs1, ez1⟩ : ∃ zs1, zs1 = zs.set jj ⟨t, (zs.getD jj ans0).path, (zs.getD jj ans0).keyed⟩ := ⟨_, rfl⟩
          rw [← ez1] at hA1
          have hl1 : zs1.length = m := by rw [ez1, List.length_set]; exact unhide HZL
          have hbad := decide_eq_false (unhide HTB jj hjm' t (by rw [← unhide EZX, ← unhide EBK]; exact unhide HTT))
          rw [← ez1] at hbad
          have hp1 : ∀ j, j < m → (zs1.getD j ans0).path.length ≤ 140737488351232 := fun j' hj' => by
            rw [ez1, set_getD (by rw [unhide HZL]; exact hjm')]
            by_cases e : j' = jj
            · subst e; simp only [if_pos]; exact unhide HPZ j' hj'
            · rw [if_neg e]; exact unhide HPZ j' hj'
          have HA1 := hide hA1
          have HL1 := hide hl1
          have BAD1 := hide hbad
          have HPZ1 := hide hp1
          have EZ1 := hide ez1
          replace BXX := hide ((Below.heap_setCell W16 ⟨g9, jj * 3, none⟩ (.string t) w11.heap.size (by show w11.heap.size ≠ g9; omega)).trans (unhide BXX))
          replace HB9 := hide ((unhide HB9).setCell (p := ⟨g9, jj * 3, none⟩) hw9 (.string t))
          replace HBc := hide ((unhide HBc).setCell (p := ⟨g9, jj * 3, none⟩) hg9 (.string t))
          have RB17 : Hid (ByteRow (W16.setCell ⟨g9, jj * 3, none⟩ (.string t)) w14.heap.size 8 5 ((bint bk).set kb (z : Int))) := hide (by
            obtain ⟨h1, C, h2, h3, h4⟩ := unhide RB16
            have hne : w14.heap.size ≠ g9 := by omega
            exact ⟨h1, C, (Below.heap_setCell W16 ⟨g9, jj * 3, none⟩ (.string t) w14.heap.size hne).trans h2, h3, h4⟩)
          clear hA1 hl1 hbad hp1 ez1 HV16 z0 z1 z2 fz hcb HCB RB16 BQs HK HA
          generalize (W16.setCell ⟨g9, jj * 3, none⟩ (.string t)) = W17 at *
          have HK := hide ((unhide HKc).below (unhide HBc))
          have BQs := hide (((unhide HBc).block _ hlq).trans (unhide BQ0))
          have HV1 : Hid (AnsV W17 (some ⟨g9, 0, none⟩) m c9 zs1) := hide (by
            obtain ⟨a', c', e', hv⟩ := (unhide HA1).ansV
            rw [unhide HL1] at e' hv
            simp only [Value.slice.injEq, true_and] at e'
            obtain ⟨e1, e2⟩ := e'
            rw [e1, e2]
            exact hv)
          obtain ⟨y0, y1⟩ := box_2 (unhide BQs)
          go_wp2_with fail
          refine (auditCheck_any _ _ _ _ _ _ _ L _ _ _ zs1 _ (unhide HK) (unhide HV1) hm9 (unhide HPZ1)).mono ?_
          rintro e w18 ⟨he, b18⟩
          rw [unhide BAD1] at he
          subst he
          replace BXX := hide ((b18.block _ (lt_of_block (unhide BXX))).trans (unhide BXX))
          replace HA1 := hide ((unhide HA1).below b18)
          replace HV1 := hide ((unhide HV1).below b18)
          replace HB9 := hide (bt (unhide HB9) b18)
          replace HBc := hide (bt (unhide HBc) b18)
          have RB18 : Hid (ByteRow w18 w14.heap.size 8 5 ((bint bk).set kb (z : Int))) := hide (by
            obtain ⟨h1, C, h2, h3, h4⟩ := unhide RB17
            exact ⟨h1, C, (b18.block _ (lt_of_block h2)).trans h2, h3, h4⟩)
          clear b18 y0 y1 HK BQs RB17 BAD1
          have HK := hide ((unhide HKc).below (unhide HBc))
          have BQs := hide (((unhide HBc).block _ hlq).trans (unhide BQ0))
          obtain ⟨y0, y1⟩ := box_2 (unhide BQs)
          have k0 := kept_cell (B := w18.heap.size) y0 (cell_lt y0)
          have hrb := unhide RB18
          have hcb := fun X : Subtype (Below w18.heap.size w18) => run_convert_bytes_arg (P := Try.prog) X.val 50 5 Try.underlying50 Try.underlying5 w14.heap.size 0 8 cap _ hrb.1 (fun j hj => by rw [Nat.zero_add]; exact (X.property.cell (cell_lt (hrb.cell hj))).trans (hrb.cell hj)) 9 Try.underlying9
          rw [← unhide ETT] at hcb
          obtain ⟨f, ef⟩ : ∃ f, f = Seal.of (byts t) := ⟨_, rfl⟩
          have hfw : (Lit.int .i64 (f : Int)).wf = true := by rw [ef]; exact wf_nat (Seal.of_lt _)
          have HFW := hide hfw
          have EF := hide ef
          have HTZ := hide htz
          clear hfw ef htz hrb y0 y1
          go_upto_region 38 with fail
          refine wp_region_ord_thenT (S := Below w18.heap.size w18) [(true, 0), (true, 1), (true, 2), (true, 3), (true, 4), (true, 5), (false, 6), (false, 7), (true, 8), (true, 9)] (List.cons_ne_nil _ _) (by kernel_rfl) (by kernel_rfl) (by kernel_rfl) (by kernel_rfl) (by kernel_rfl) ((Below.refl _ _).drew) ?_
          simp only [List.dropLast_cons_cons, List.dropLast_singleton, List.getLast_cons_cons, List.getLast_singleton, withOps, List.map_cons, List.map_nil, List.getElem?_cons_succ, List.getElem?_cons_zero]
          repeat (refine walkH_read (by rfl) (by (intro gx; go_simp; try (with_reducible rfl))) ?_; try simp only [Act.put, List.setIfInBounds_toArray, List.set_cons_zero, List.set_cons_succ])
          refine walkH_do rfl (fun K hK => ?_)
          go_simp
          refine (refOf_any t _ (by rw [unhide HTZ]; decide)).mono ?_
          rintro e wn ⟨rfl, hwn⟩
          subst hwn
          rw [← unhide EF]
          refine hK _ _ ((Below.refl _ _).drew) ?_
          clear hK K
          try simp only [Act.put, List.setIfInBounds_toArray, List.set_cons_zero, List.set_cons_succ]
          repeat (refine walkH_read (by rfl) (by (intro gx; go_simp; try (with_reducible rfl))) ?_; try simp only [Act.put, List.setIfInBounds_toArray, List.set_cons_zero, List.set_cons_succ])
          refine walkH_do rfl (fun K hK => ?_)
          go_simp
          refine (refPair_any N f _ (unhide HWN) (unhide HFW)).mono ?_
          rintro e wn ⟨rfl, hwn⟩
          subst hwn
          refine hK _ _ ((Below.refl _ _).drew) ?_
          clear hK K hcb k0
          try simp only [Act.put, List.setIfInBounds_toArray, List.set_cons_zero, List.set_cons_succ]
          obtain ⟨pk, epk⟩ : ∃ pk, pk = Seal.pair (N : Int) (f : Int) := ⟨_, rfl⟩
          rw [← epk]
          clear epk
          repeat (refine walkH_read (by rfl) (by (intro gx; go_simp; try (with_reducible rfl))) ?_; try simp only [Act.put, List.setIfInBounds_toArray, List.set_cons_zero, List.set_cons_succ])
          refine lastPost_of_list ?_
          simp only [List.cons_append, List.nil_append]
          have b19 : Below w18.heap.size w18 w18.drew := (Below.refl _ _).drew
          replace BXX := hide ((b19.block _ (lt_of_block (unhide BXX))).trans (unhide BXX))
          replace HA1 := hide ((unhide HA1).below b19)
          replace HV1 := hide ((unhide HV1).below b19)
          replace HB9 := hide (bt (unhide HB9) b19)
          replace HBc := hide (bt (unhide HBc) b19)
          clear b19 HK BQs RB18
          generalize w18.drew = w19 at *
          obtain ⟨ab', ao', px', cx', ea', _, z0, z1, z2, _⟩ := (unhide HV1).at hjm'
          simp only [Option.some.injEq, Addr.mk.injEq, and_true] at ea'
          obtain ⟨e1, e2⟩ := ea'
          rw [← e1, ← e2, Nat.zero_add] at z0 z1 z2
          clear e1 e2
          have fz : w19.frozen? ⟨g9, jj * 3 + 2, none⟩ = false := by
            have h := (unhide HA1).outer
            rw [unhide HL1] at h
            exact World.ownsRow.frozenAt h (jj * 3 + 2)
          go_wp2
          refine NoPanic.normal ?_
          go_upto_region 39 with fail
          have hA2 := (unhide HA1).putKey (by decide) (unhide HL1) (j := jj) (by rw [unhide HL1]; exact hjm') (pk : Int)
          have e1g : zs1.getD jj ans0 = ⟨t, (zs.getD jj ans0).path, (zs.getD jj ans0).keyed⟩ := by rw [unhide EZ1, set_getD (by rw [unhide HZL]; exact hjm'), if_pos rfl]
          rw [e1g, unhide EZ1, List.set_set] at hA2
          obtain ⟨zs2, ez2⟩ : ∃ zs2, zs2 = zs.set jj ⟨t, (zs.getD jj ans0).path, (pk : Int)⟩ := ⟨_, rfl⟩
          simp only [] at hA2
          rw [← ez2] at hA2
          have hl2' : zs2.length = m := by rw [ez2, List.length_set]; exact unhide HZL
          have hbad := decide_eq_false (unhide HTL jj hjm' t (by rw [← unhide EZX, ← unhide EBK]; exact unhide HTT) (pk : Int))
          rw [← ez2] at hbad
          have hp1 : ∀ j, j < m → (zs2.getD j ans0).path.length ≤ 140737488351232 := fun j' hj' => by
            rw [ez2, set_getD (by rw [unhide HZL]; exact hjm')]
            by_cases e : j' = jj
            · subst e; simp only [if_pos]; exact unhide HPZ j' hj'
            · rw [if_neg e]; exact unhide HPZ j' hj'
          have HA2 := hide hA2
          have HL2 := hide hl2'
          have BAD2 := hide hbad
          have HPZ2 := hide hp1
          have EZ2 := hide ez2
          replace BXX := hide ((Below.heap_setCell w19 ⟨g9, jj * 3 + 2, none⟩ (.int .i64 (pk : Int)) w11.heap.size (by show w11.heap.size ≠ g9; omega)).trans (unhide BXX))
          replace HB9 := hide ((unhide HB9).setCell (p := ⟨g9, jj * 3 + 2, none⟩) hw9 (.int .i64 (pk : Int)))
          replace HBc := hide ((unhide HBc).setCell (p := ⟨g9, jj * 3 + 2, none⟩) hg9 (.int .i64 (pk : Int)))
          clear hA2 hl2' hbad hp1 ez2 e1g z0 z1 z2 fz HV1 HA1
          generalize (w19.setCell ⟨g9, jj * 3 + 2, none⟩ (.int .i64 (pk : Int))) = W20 at *
          have HK := hide ((unhide HKc).below (unhide HBc))
          have BQs := hide (((unhide HBc).block _ hlq).trans (unhide BQ0))
          have HV2 : Hid (AnsV W20 (some ⟨g9, 0, none⟩) m c9 zs2) := hide (by
            obtain ⟨a', c', e', hv⟩ := (unhide HA2).ansV
            rw [unhide HL2] at e' hv
            simp only [Value.slice.injEq, true_and] at e'
            obtain ⟨e1, e2⟩ := e'
            rw [e1, e2]
            exact hv)
          obtain ⟨y0, y1⟩ := box_2 (unhide BQs)
          go_wp2_with fail
          refine (auditCheck_any _ _ _ _ _ _ _ L _ _ _ zs2 _ (unhide HK) (unhide HV2) hm9 (unhide HPZ2)).mono ?_
          rintro e w21 ⟨he, b21⟩
          rw [unhide BAD2] at he
          subst he
          replace BXX := hide ((b21.block _ (lt_of_block (unhide BXX))).trans (unhide BXX))
          replace HA2 := hide ((unhide HA2).below b21)
          replace HV2 := hide ((unhide HV2).below b21)
          replace HB9 := hide (bt (unhide HB9) b21)
          replace HBc := hide (bt (unhide HBc) b21)
          clear b21 y0 y1 HK BQs BAD2
          obtain ⟨ab', ao', px', cx', ea', _, z0, z1, z2, _⟩ := (unhide HV2).at hjm'
          simp only [Option.some.injEq, Addr.mk.injEq, and_true] at ea'
          obtain ⟨e1, e2⟩ := ea'
          rw [← e1, ← e2, Nat.zero_add] at z0 z1 z2
          clear e1 e2
          have fz := fun i => World.ownsRow.frozenAt (n := m) (w := w21) (g := g9) (cap := c9) (xs := ansCells us zs2) (by have h := (unhide HA2).outer; rw [unhide HL2] at h; exact h) i
          have f0 := fz (jj * 3)
          have f1 := fz (jj * 3 + 1)
          have f2 := fz (jj * 3 + 2)
          clear fz
          obtain ⟨x0, x1, x2⟩ := box_three (unhide BXX)
          rw [← unhide EBK] at x0
          go_upto_region 42 with fail
          have hA3 := (unhide HA2).putAll (by decide) (unhide HL2) (j := jj) (by rw [unhide HL2]; exact hjm') bk (unhide HUS) zx.keyed
          have e2g : (zs2.getD jj ans0).path = (zs.getD jj ans0).path := by rw [unhide EZ2, set_getD (by rw [unhide HZL]; exact hjm'), if_pos rfl]
          rw [e2g, unhide EZ2, ans_back (by rw [unhide HZL]; exact hjm') _ _ _ (by rw [unhide EBK, unhide EZX]) (by rw [unhide EZX])] at hA3
          have HA3 := hide hA3
          have hB22 := (((unhide HB9).setCell (p := ⟨g9, jj * 3, none⟩) hw9 (.string bk)).setCell (p := ⟨g9, jj * 3 + 1, none⟩) hw9 (.slice px zx.path.length cx)).setCell (p := ⟨g9, jj * 3 + 2, none⟩) hw9 (.int .i64 zx.keyed)
          have hC22 := (((unhide HBc).setCell (p := ⟨g9, jj * 3, none⟩) hg9 (.string bk)).setCell (p := ⟨g9, jj * 3 + 1, none⟩) hg9 (.slice px zx.path.length cx)).setCell (p := ⟨g9, jj * 3 + 2, none⟩) hg9 (.int .i64 zx.keyed)
          replace HB9 := hide hB22
          replace HBc := hide hC22
          clear hA3 e2g hB22 hC22 z0 z1 z2 f0 f1 f2 x0 x1 x2 HV2 HA2 BXX
          generalize (((w21.setCell ⟨g9, jj * 3, none⟩ (.string bk)).setCell ⟨g9, jj * 3 + 1, none⟩ (.slice px zx.path.length cx)).setCell ⟨g9, jj * 3 + 2, none⟩ (.int .i64 zx.keyed)) = W22 at *
          have HK := hide ((unhide HKc).below (unhide HBc))
          have BQs := hide (((unhide HBc).block _ hlq).trans (unhide BQ0))
          have HV3 : Hid (AnsV W22 (some ⟨g9, 0, none⟩) m c9 zs) := hide (by
            obtain ⟨a', c', e', hv⟩ := (unhide HA3).ansV
            rw [unhide HZL] at e' hv
            simp only [Value.slice.injEq, true_and] at e'
            obtain ⟨e1, e2⟩ := e'
            rw [e1, e2]
            exact hv)
          have ht3 := (unhide HV3).tail (by omega)
          rw [Nat.zero_add] at ht3
          have HT := hide ht3
          clear ht3
          have hbad := decide_eq_false (p := Aud (R : Int) j k N L (zs.drop 1)) (fun ha => by
            have h1 := ha.1.2.1
            rw [List.length_drop, unhide HZL, hLl] at h1
            omega)
          have BAD3 := hide hbad
          have HPZ3 : Hid (∀ j, j < m - 1 → ((zs.drop 1).getD j ans0).path.length ≤ 140737488351232) := hide (fun j' hj' => by
            have e : (zs.drop 1).getD j' ans0 = zs.getD (1 + j') ans0 := by simp [List.getD, Nat.add_comm]
            rw [e]; exact unhide HPZ _ (by omega))
          clear hbad
          obtain ⟨y0, y1⟩ := box_2 (unhide BQs)
          have k0 := kept_cell (B := W22.heap.size) y0 (cell_lt y0)
          have k1 := kept_cell (B := W22.heap.size) y1 (cell_lt y1)
          clear y0 y1
          refine wp_region_ord_then (S := Below W22.heap.size W22) [(true, 0), (true, 1), (true, 2), (true, 3), (true, 4), (true, 5), (false, 6), (true, 7), (true, 8), (true, 9), (true, 10), (true, 11), (true, 12), (true, 13), (true, 14), (false, 15), (true, 16), (true, 17)] (List.cons_ne_nil _ _) (by kernel_rfl) (by kernel_rfl) (by kernel_rfl) (by kernel_rfl) (by kernel_rfl) ((Below.refl _ _).drew) ?_
          simp only [List.dropLast_cons_cons, List.dropLast_singleton, List.getLast_cons_cons, List.getLast_singleton, withOps, List.map_cons, List.map_nil, List.getElem?_cons_succ, List.getElem?_cons_zero]
          repeat (refine walkH_read (by rfl) (by (intro gx; go_simp; try (with_reducible rfl))) ?_; try simp only [Act.put, List.setIfInBounds_toArray, List.set_cons_zero, List.set_cons_succ])
          refine walkH_do rfl (fun K hK => ?_)
          go_simp
          refine (auditCheck_any _ _ _ _ _ _ _ L _ _ _ zs _ ((unhide HK).below ((Below.refl _ _).drew)) ((unhide HV3).below ((Below.refl _ _).drew)) hm9 (unhide HPZ)).mono ?_
          rintro e w23 ⟨he, b23⟩
          rw [unhide T1] at he
          subst he
          have hb23 : Below W22.heap.size W22 w23 := ((Below.refl _ _).drew).trans b23
          refine hK _ _ hb23 ?_
          clear hK K b23
          try simp only [Act.put, List.setIfInBounds_toArray, List.set_cons_zero, List.set_cons_succ]
          have hm2 : (1 : Int) ≤ m := by omega
          repeat (refine walkH_read (by rfl) (by (intro gx; go_simp; try (with_reducible rfl))) ?_; try simp only [Act.put, List.setIfInBounds_toArray, List.set_cons_zero, List.set_cons_succ])
          refine walkH_do rfl (fun K hK => ?_)
          go_simp
          generalize (if c9 = 1 then some (⟨g9, 0, none⟩ : Addr) else some ⟨g9, 3, none⟩) = TA at *
          refine (auditCheck_any _ _ _ _ _ _ _ L _ _ _ (zs.drop 1) _ ((unhide HK).below hb23) ((unhide HT).below hb23) hm9 (unhide HPZ3)).mono ?_
          rintro e w24 ⟨he, b24⟩
          rw [unhide BAD3] at he
          subst he
          have hb24 : Below W22.heap.size W22 w24 := bt hb23 b24
          refine hK _ _ hb24 ?_
          clear hK K b24 k0 k1
          try simp only [Act.put, List.setIfInBounds_toArray, List.set_cons_zero, List.set_cons_succ]
          repeat (refine walkH_read (by rfl) (by (intro gx; go_simp; try (with_reducible rfl))) ?_; try simp only [Act.put, List.setIfInBounds_toArray, List.set_cons_zero, List.set_cons_succ])
          refine lastPost_of_list ?_
          simp only [List.cons_append, List.nil_append]
          go_wp2
          refine NoPanic.normal ?_
          go_wp2
          go_ret
          exact ⟨rfl, bt (unhide HB9) hb24⟩
end Go.Proofs.Ytcciobilcgahaaa
