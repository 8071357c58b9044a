/- Data back by the document (ossuaryref1.Decode): where there are as many shards as there should be. -/
import Derived.Test.YtcgagkaalbljmaaDoorDecRef
namespace Go.Proofs.YtcgagkaalbljmaaDoor
open Go.RowKit
set_option linter.unusedVariables false
set_option linter.unusedSimpArgs false
open Vec (alikeTo numsTo May)
def decPost (d p : Int) (ss : List ByteArray) (bs : List Bool) (w : World) (e : Ending) (w' : World) : Prop := ∃ v r, decR d p ss bs r ∧ e = .returned (.tuple #[v, .int .i64 r.2]) ∧ OwnL w' w.heap.size 9 v (r.1.map Value.string) ∧ Below w.heap.size w w'
set_option maxRecDepth 100000 in
set_option maxHeartbeats 8000000 in
theorem refDecode_go (d p R : Nat) (a b : Option Addr) (ca cb : Nat) (ss : List ByteArray) (bs : List Bool) (w : World) (hs : Strs w a R ca ss) (hb : Bools w b R cb bs) (h1 : 1 ≤ d) (h2 : d ≤ 4) (h3 : p ≤ 2) (hR : R = d + p) :
    Calls Tryd.prog 19 #[.agg #[.int .i64 d, .int .i64 p], .slice a R ca, .slice b R cb] w (decPost d p ss bs w) := by
  have hS := hide hs
  have hls := hs.1
  have hlb := hb.1
  obtain ⟨ba, oa, rfl, hca⟩ : ∃ b off, a = some ⟨b, off, none⟩ ∧ ∀ i, i < R → w.cell? ⟨b, off + i, none⟩ = some (.string (ss.getD i ByteArray.empty)) := by
    rcases hs.2.two with h | h
    · omega
    · exact h
  obtain ⟨bb, ob, rfl, hcb⟩ : ∃ b' off, b = some ⟨b', off, none⟩ ∧ ∀ i, i < R → w.cell? ⟨b', off + i, none⟩ = some (.bool (bs.getD i false)) := by
    rcases hb.2.two with h | h
    · omega
    · exact h
  have H1 : Hid (ShpMay d p) := hide (by unfold ShpMay; omega)
  have HCA := hide hca
  have HCB := hide hcb
  have HLS := hide hls
  have HLB := hide hlb
  have hR6 : R ≤ 6 := by omega
  have hRd : d ≤ R := by omega
  have t1 : ((R : Int) != (d : Int) + (p : Int)) = false := by simp; omega
  have t2 : ((R : Int) != (R : Int)) = false := by simp
  have ER := hide hR
  clear hs hb hca hcb hls hlb hR
  go_enter Tryd.func19, Tryd.ntmps19
  go_wp2_with fail
  have BS := hide (heap_alloc_new w (.cells #[.int .i64 d, .int .i64 p] 23))
  have HB := hide (below_alloc w (.cells #[.int .i64 d, .int .i64 p] 23))
  generalize (w.alloc (.cells #[.int .i64 d, .int .i64 p] 23)) = W0 at *
  refine (refShapeMay_yes d p W0 (unhide H1)).mono ?_
  rintro e w1 ⟨rfl, b1⟩
  replace BS := hide ((b1.block _ (lt_of_block (unhide BS))).trans (unhide BS))
  replace HB := hide (bt (unhide HB) b1)
  clear b1
  obtain ⟨c0, c1⟩ := box_two (unhide BS)
  go_wp2
  clear c0 c1 t1 t2
  go_loopw [8, 9, 10] (fun rv hv iv wr => ∃ k : Nat, k ≤ R ∧ iv = .int .i64 k ∧ Hid (OwnL wr w1.heap.size 3 rv ((ofNats (rowsL bs k)).map (Value.int .i64))) ∧ Hid (OwnL wr w1.heap.size 9 hv ((hadL bs ss k).map Value.string)) ∧ Hid (Below w1.heap.size w1 wr)) (fun _ _ iv _ => R - (intOf iv).toNat)
  case atStart => exact ⟨0, by omega, rfl, hide (OwnL.nil _ _ _), hide (OwnL.nil _ _ _), hide (Below.refl _ _)⟩
  case round =>
    obtain ⟨k, hk, rfl, O1, O2, HW⟩ := hrel
    have hsz := (unhide HW).size
    have hle := rowsL_le bs k
    obtain ⟨p1, q1, e1⟩ := (unhide O1).form
    rw [List.length_map, ofNats_len] at e1
    obtain ⟨p2, q2, e2⟩ := (unhide O2).form
    rw [List.length_map, hadL_len] at e2
    obtain ⟨L, eL⟩ : ∃ L, L = (rowsL bs k).length := ⟨_, rfl⟩
    rw [← eL] at e1 e2 hle
    subst e1 e2
    have EL := hide eL
    clear eL
    by_cases hlt : k < R
    · have hlt' : (k : Int) < R := by omega
      have c1 := ((bt (unhide HB) (unhide HW)).cell (cell_lt (unhide HCB k hlt))).trans (unhide HCB k hlt)
      have c2 := ((bt (unhide HB) (unhide HW)).cell (cell_lt (unhide HCA k hlt))).trans (unhide HCA k hlt)
      obtain ⟨t, et⟩ : ∃ t, t = ss.getD k ByteArray.empty := ⟨_, rfl⟩
      rw [← et] at c2
      have ET := hide et
      clear et
      by_cases hh : hasB bs k = true
      · have e3 : bs.getD k false = true := hh
        rw [e3] at c1
        have HH := hide hh
        have A := hide (apt_types (unhide O1) (unhide O2) (by decide))
        clear e3 hh
        have hl1 : ((ofNats (rowsL bs k)).map (Value.int .i64)).length ≤ 6 := by rw [List.length_map, ofNats_len, ← unhide EL]; omega
        have hl2 : ((hadL bs ss k).map Value.string).length ≤ 6 := by rw [List.length_map, hadL_len, ← unhide EL]; omega
        go_wp2_with (first | (at_builtin; refine wpList_push wr (by rfl) (.tmp 51) (.tmp 53) 36 (by rfl) w1.heap.size 3 (.int .i64 0) 8 Tryd.underlying36 Tryd.infoInt rfl _ _ (by rfl) (unhide O1) _ (by rfl) (by rfl) (by omega) (by omega) hsz ?_; intro v1' wa O1' P1; have HBa := hide (P1.below (unhide O1) (unhide HW) (Nat.le_refl _) hsz); have O2a := hide (P1.other (unhide O2) (unhide A)); have Aa := hide (P1.apt (unhide O2) (unhide A)); have OO1 := hide O1'; have c2a := ((bt (unhide HB) (unhide HBa)).cell (cell_lt (unhide HCA k hlt))).trans (unhide HCA k hlt); rw [← unhide ET] at c2a; clear O1' P1 O1 O2 A HW) | (at_builtin; refine wpList_push wa (by rfl) (.tmp 55) (.tmp 60) 24 (by rfl) w1.heap.size 9 (.string ByteArray.empty) 16 Tryd.underlying24 Tryd.infoText rfl _ _ (by rfl) (unhide O2a) _ (by rfl) (by rfl) (by omega) (by omega) (unhide HBa).size ?_; intro v2' wb O2' P2; have HBb := hide (P2.below (unhide O2a) (unhide HBa) (Nat.le_refl _) (unhide HBa).size); have O1b := hide (P2.other (unhide OO1) (unhide Aa).symm); have O2b := hide O2'; clear O2' P2 O2a OO1 Aa HBa))
        go_roundw
        case rel =>
          refine ⟨k + 1, by omega, by go_num, hide ?_, hide ?_, HBb⟩
          · rw [rowsL_yes (unhide HH), ofNats_snoc', List.map_append]; exact unhide O1b
          · rw [hadL_yes (unhide HH), ← unhide ET, List.map_append]; exact unhide O2b
        case measure => simp [intOf]; omega
      · have hh : hasB bs k = false := by simpa using hh
        have e3 : bs.getD k false = false := hh
        rw [e3] at c1
        have HH := hide hh
        clear e3 hh
        go_wp2
        go_roundw
        case rel => exact ⟨k + 1, by omega, by go_num, by rw [rowsL_no (unhide HH)]; exact O1, by rw [hadL_no (unhide HH)]; exact O2, HW⟩
        case measure => simp [intOf]; omega
    · have hlt' : ¬ (k : Int) < R := by omega
      obtain rfl : k = R := by omega
      obtain ⟨a1, g1, e1, hI⟩ := (unhide O1).ints
      rw [ofNats_len, ← unhide EL] at e1 hI
      simp only [Value.slice.injEq] at e1
      obtain ⟨rfl, _, rfl⟩ := e1
      obtain ⟨a2, g2, e2, hT⟩ := (unhide O2).strs
      rw [hadL_len, ← unhide EL] at e2 hT
      simp only [Value.slice.injEq] at e2
      obtain ⟨rfl, _, rfl⟩ := e2
      have HI := hide hI
      have HT := hide hT
      have hbw := unhide HW
      replace BS := hide ((hbw.block _ (lt_of_block (unhide BS))).trans (unhide BS))
      replace HB := hide (bt (unhide HB) hbw)
      have hL6 : L ≤ 6 := by omega
      clear hI hT hbw O1 O2 HW hle hsz
      go_wp2_with fail
      refine (alike_any _ _ _ _ wr (unhide HT) (by omega)).mono ?_
      rintro e w2 ⟨hd, ⟨ha, rfl⟩ | ⟨ha, rfl⟩⟩
      rotate_left
      · replace HB := hide (bt (unhide HB) (below_drews hd))
        clear hd
        have HN : Hid (¬ DecForm d p ss bs) := hide (fun h => ha (by
          have := h.2.2.2
          rw [unhide HLB, hadL_len, ← unhide EL] at this
          exact this))
        clear ha
        go_wp2
        go_ret2
        exact ⟨_, ([], 700), .inl ⟨unhide HN, rfl⟩, rfl, OwnL.nil _ _ _, unhide HB⟩
      · have b2 := below_drews (B := wr.heap.size) hd
        replace BS := hide ((b2.block _ (lt_of_block (unhide BS))).trans (unhide BS))
        replace HI := hide ((unhide HI).below b2)
        replace HT := hide ((unhide HT).below b2)
        replace HB := hide (bt (unhide HB) b2)
        have HF : Hid (DecForm d p ss bs) := hide ⟨unhide H1, by rw [unhide HLS, unhide ER]; simp, by rw [unhide HLB, unhide HLS], by rw [unhide HLB, hadL_len, ← unhide EL]; exact ha⟩
        clear hd b2 ha
        obtain ⟨c0, c1⟩ := box_two (unhide BS)
        by_cases hf : L < d
        · have hf' : (L : Int) < d := by omega
          go_wp2
          go_ret2
          exact ⟨_, ([], 701), .inr (.inl ⟨unhide HF, by rw [unhide HLB, ← unhide EL]; exact hf', rfl⟩), rfl, OwnL.nil _ _ _, unhide HB⟩
        · have hf' : ¬ (L : Int) < d := by omega
          have hLd : d ≤ L := by omega
          go_wp2_with fail
          refine (refGen_yes d p w2 h1 h2 h3).mono ?_
          rintro e w3 ⟨u3, rfl, O3, b3⟩
          obtain ⟨p3, n3, c3, rfl, e3⟩ := O3.form
          have hm3 := genM_may d (by omega) p (by omega) h1
          have M3 := hide (O3.matV (rows_le hm3.1))
          replace BS := hide ((b3.block _ (lt_of_block (unhide BS))).trans (unhide BS))
          replace HI := hide ((unhide HI).below b3)
          replace HT := hide ((unhide HT).below b3)
          replace HB := hide (bt (unhide HB) b3)
          clear O3 b3 e3 hm3 c0 c1
          obtain ⟨br, orr, rfl, hqr⟩ : ∃ b o, p1 = some ⟨b, o, none⟩ ∧ L ≤ q1 := by
            rcases (unhide HI).2 with ⟨_, h, _⟩ | ⟨h, _⟩ | ⟨_, h, b, o, e, _⟩
            · omega
            · omega
            · exact ⟨b, o, e, h⟩
          obtain ⟨bh, oh, rfl, hqh⟩ : ∃ b o, p2 = some ⟨b, o, none⟩ ∧ L ≤ q2 := by
            rcases (unhide HT).2 with ⟨_, h, _⟩ | ⟨h, _⟩ | ⟨_, h, b, o, e, _⟩
            · omega
            · omega
            · exact ⟨b, o, e, h⟩
          have BA := hide (heap_alloc_new w3 (.cells #[.slice p3 n3 c3] 52))
          have hx := below_alloc w3 (.cells #[.slice p3 n3 c3] 52)
          go_wp2_with fail
          generalize (w3.alloc (.cells #[.slice p3 n3 c3] 52)) = W3 at *
          replace BS := hide ((hx.block _ (lt_of_block (unhide BS))).trans (unhide BS))
          replace HI := hide ((unhide HI).below hx)
          replace HT := hide ((unhide HT).below hx)
          replace M3 := hide ((unhide M3).below hx)
          replace HB := hide (bt (unhide HB) hx)
          clear hx
          have q0 := kept_cell (B := W3.heap.size) (box_two (unhide BS)).1 (cell_lt (box_two (unhide BS)).1)
          have q3 := kept_cell (B := W3.heap.size) (cell_of_one (unhide BA)) (cell_lt (cell_of_one (unhide BA)))
          have hdq : (d : Int) ≤ q1 := by omega
          have hdqn : d ≤ q1 := by omega
          refine wp_region_ord2 (S := Below W3.heap.size W3) [0, 1, 2, 3, 4] 5 9 [(true, 6), (true, 7), (true, 8), (false, 9), (false, 10), (true, 11)] [(false, 5), (true, 6), (true, 7), (true, 8), (false, 10), (true, 11)] (by kernel_rfl) (by kernel_rfl) (by kernel_rfl) (by kernel_rfl) ((Below.refl _ _).drew) ?_
          simp only [withOps, List.map_cons, List.map_nil, List.getElem?_cons_succ, List.getElem?_cons_zero]
          repeat (refine walkH_read (by rfl) (by (intro gx; go_simp; try (with_reducible rfl))) ?_; try simp only [Act.put, List.setIfInBounds_toArray, List.set_cons_zero, List.set_cons_succ])
          refine walkH_both ?_ ?_
          refine walkH_do rfl (fun K hK => ?_)
          go_simp
          refine (refPick_fun _ _ _ _ _ _ _ ((unhide M3).below (w' := W3.drew) ((Below.refl _ _).drew)) (((unhide HI).below (w' := W3.drew) ((Below.refl _ _).drew)).take hLd (by omega)) (by unfold maxLen; omega)).mono ?_
          rintro e w4 ⟨u4, he, O4, b4⟩
          rw [show (ofNats (rowsL bs k)).take d = ofNats ((rowsL bs bs.length).take d) by rw [unhide HLB]; exact (List.map_take ..).symm, firstM_pick h1 h2 h3 (by rw [unhide HLB, ← unhide EL]; exact hLd) (by rw [unhide HLB]; exact unhide ER)] at he O4
          subst he
          obtain ⟨p4, n4, c4, rfl, e4⟩ := O4.form
          have M4 := hide (O4.matV (rows_le (firstM_sq h1 h2 h3 (by rw [unhide HLB, ← unhide EL]; exact hLd) (by rw [unhide HLB]; exact unhide ER)).1))
          have hb4 : Below W3.heap.size W3 w4 := ((Below.refl _ _).drew).trans b4
          refine hK _ _ hb4 ?_
          clear hK K
          try simp only [Act.put, List.setIfInBounds_toArray, List.set_cons_zero, List.set_cons_succ]
          have HB4 := hide hb4
          clear b4 hb4 O4 e4
          repeat (refine walkH_read (by rfl) (by (intro gx; go_simp; try (with_reducible rfl))) ?_; try simp only [Act.put, List.setIfInBounds_toArray, List.set_cons_zero, List.set_cons_succ])
          refine walkH_do rfl (fun K hK => ?_)
          go_simp
          refine hK _ _ (bt (unhide HB4) (below_alloc _ _)) ?_
          clear hK K
          try simp only [Act.put, List.setIfInBounds_toArray, List.set_cons_zero, List.set_cons_succ]
          refine walkH_do rfl (fun K hK => ?_)
          go_simp
          refine hK _ _ (bt (unhide HB4) (below_alloc _ _)) ?_
          clear hK K
          try simp only [Act.put, List.setIfInBounds_toArray, List.set_cons_zero, List.set_cons_succ]
          repeat (refine walkH_read (by rfl) (by (intro gx; go_simp; try (with_reducible rfl))) ?_; try simp only [Act.put, List.setIfInBounds_toArray, List.set_cons_zero, List.set_cons_succ])
          refine walkH_nil ?_
          refine NoPanic.normal ?_
          have R5 := hide (heap_alloc_new w4 (.cells #[.slice p4 n4 c4] 52))
          have HB5 := hide (bt (unhide HB4) (below_alloc w4 (.cells #[.slice p4 n4 c4] 52)))
          replace M4 := hide ((unhide M4).below (below_alloc w4 (.cells #[.slice p4 n4 c4] 52)))
          clear HB4
          generalize (w4.alloc (.cells #[.slice p4 n4 c4] 52)) = W5 at *
          generalize w4.heap.size = g5 at *
          clear w4
          rotate_left
          refine walkH_do rfl (fun K hK => ?_)
          go_simp
          refine hK _ _ (by go_grown) ?_
          clear hK K
          try simp only [Act.put, List.setIfInBounds_toArray, List.set_cons_zero, List.set_cons_succ]
          refine walkH_do rfl (fun K hK => ?_)
          go_simp
          refine (refPick_fun _ _ _ _ _ _ _ ((unhide M3).below (w' := (W3.alloc (.cells #[.slice none 0 0] 52)).drew) (by go_grown)) (((unhide HI).below (w' := (W3.alloc (.cells #[.slice none 0 0] 52)).drew) (by go_grown)).take hLd (by omega)) (by unfold maxLen; omega)).mono ?_
          rintro e w4 ⟨u4, he, O4, b4⟩
          rw [show (ofNats (rowsL bs k)).take d = ofNats ((rowsL bs bs.length).take d) by rw [unhide HLB]; exact (List.map_take ..).symm, firstM_pick h1 h2 h3 (by rw [unhide HLB, ← unhide EL]; exact hLd) (by rw [unhide HLB]; exact unhide ER)] at he O4
          subst he
          obtain ⟨p4, n4, c4, rfl, e4⟩ := O4.form
          have M4 := hide (O4.matV (rows_le (firstM_sq h1 h2 h3 (by rw [unhide HLB, ← unhide EL]; exact hLd) (by rw [unhide HLB]; exact unhide ER)).1))
          have hb4 : Below W3.heap.size W3 w4 := bt (by go_grown) b4
          refine hK _ _ hb4 ?_
          clear hK K
          try simp only [Act.put, List.setIfInBounds_toArray, List.set_cons_zero, List.set_cons_succ]
          have r9 : w4.heap[W3.heap.size]? = some (.cells #[.slice none 0 0] 52 (0, 0)) := (b4.block W3.heap.size (by simp)).trans (heap_alloc_new W3 _)
          have hs4 := lt_of_block r9
          have HB4 := hide hb4
          have c9 := cell_of_one r9
          have f9 := free_of_one r9
          have R9 := hide r9
          have hM4 := O4.setBelow (a := ⟨W3.heap.size, 0, none⟩) (by show W3.heap.size < _; simp) (.slice p4 n4 c4)
          replace M4 := hide (hM4.matV (rows_le (firstM_sq h1 h2 h3 (by rw [unhide HLB, ← unhide EL]; exact hLd) (by rw [unhide HLB]; exact unhide ER)).1))
          clear b4 hb4 O4 e4 r9 hM4
          repeat (refine walkH_read (by rfl) (by (intro gx; go_simp; try (with_reducible rfl))) ?_; try simp only [Act.put, List.setIfInBounds_toArray, List.set_cons_zero, List.set_cons_succ])
          refine walkH_do rfl (fun K hK => ?_)
          go_simp
          have hb5 : Below W3.heap.size W3 (w4.setCell ⟨W3.heap.size, 0, none⟩ (.slice p4 n4 c4)) := (unhide HB4).setCell (Nat.le_refl _) _
          refine hK _ _ hb5 ?_
          clear hK K
          try simp only [Act.put, List.setIfInBounds_toArray, List.set_cons_zero, List.set_cons_succ]
          repeat (refine walkH_read (by rfl) (by (intro gx; go_simp; try (with_reducible rfl))) ?_; try simp only [Act.put, List.setIfInBounds_toArray, List.set_cons_zero, List.set_cons_succ])
          refine walkH_nil ?_
          refine NoPanic.normal ?_
          have R5 := hide (one_setCell (u := .slice p4 n4 c4) (unhide R9))
          have HB5 := hide hb5
          clear HB4 R9 hb5 c9 f9 hs4
          generalize (w4.setCell ⟨W3.heap.size, 0, none⟩ (.slice p4 n4 c4)) = W5 at *
          obtain ⟨g5, eg⟩ : ∃ g5, g5 = W3.heap.size := ⟨_, rfl⟩
          rw [← eg] at R5 ⊢
          clear eg w4
          all_goals
            have hb5 := unhide HB5
            replace BS := hide ((hb5.block _ (lt_of_block (unhide BS))).trans (unhide BS))
            replace HI := hide ((unhide HI).below hb5)
            replace HT := hide ((unhide HT).below hb5)
            replace HB := hide (bt (unhide HB) hb5)
            clear hb5 HB5 q0 q3 BA M3
            have c5 := cell_of_one (unhide R5)
            go_wp2_with fail
            clear c5
            refine (refInvert_any _ _ W5 (unhide M4)).mono ?_
            rintro e w6 ⟨u6, r6, hr6, he, O6, b6⟩
            obtain ⟨N, hN⟩ := firstM_inv h1 h2 h3 (bs := bs) (by rw [unhide HLB, ← unhide EL]; exact hLd) (by rw [unhide HLB]; exact unhide ER)
            obtain rfl : r6 = (N, 0) := invR_one hr6 (.inr (.inl ⟨firstM_sq h1 h2 h3 (by rw [unhide HLB, ← unhide EL]; exact hLd) (by rw [unhide HLB]; exact unhide ER), N, hN, rfl⟩))
            subst he
            obtain ⟨p6, n6, c6, rfl, e6⟩ := O6.form
            have hN6 : n6 = d := by rw [e6]; show N.length = d; rw [hN.2.1, firstM_len (by rw [unhide HLB, ← unhide EL]; exact hLd)]
            have M6 := hide (O6.matV (rows_le hN.1))
            have HN := hide hN
            replace BS := hide ((b6.block _ (lt_of_block (unhide BS))).trans (unhide BS))
            replace HI := hide ((unhide HI).below b6)
            replace HT := hide ((unhide HT).below b6)
            replace HB := hide (bt (unhide HB) b6)
            clear O6 b6 e6 hr6 hN M4 R5
            subst hN6
            have BC := hide (heap_alloc_new w6 (.cells #[.slice p6 n6 c6] 52))
            have hx := below_alloc w6 (.cells #[.slice p6 n6 c6] 52)
            go_wp2_with fail
            generalize (w6.alloc (.cells #[.slice p6 n6 c6] 52)) = W6 at *
            replace BS := hide ((hx.block _ (lt_of_block (unhide BS))).trans (unhide BS))
            replace HI := hide ((unhide HI).below hx)
            replace HT := hide ((unhide HT).below hx)
            replace M6 := hide ((unhide M6).below hx)
            replace HB := hide (bt (unhide HB) hx)
            clear hx
            obtain ⟨b6, o6, rfl, hrows⟩ : ∃ b o, p6 = some ⟨b, o, none⟩ ∧ ∀ i, i < n6 → ∃ u, W6.cell? ⟨b, o + i, none⟩ = some u ∧ RowV W6 u (N.getD i []) := by
              obtain ⟨a', n', c', e, RR⟩ := unhide M6
              simp only [Value.agg.injEq, Array.mk.injEq, List.cons.injEq, Value.slice.injEq, and_true] at e
              obtain ⟨rfl, rfl, rfl⟩ := e
              rcases RR.two with h0 | h
              · omega
              · exact h
            have HRW := hide hrows
            clear hrows M6
            have hdq2 : (n6 : Int) ≤ q2 := by omega
            have hdq2n : n6 ≤ q2 := by omega
            have HHT := hide ((unhide HT).take hLd (by omega))
            go_loopw [17, 18] (fun ov iv wr => ∃ j : Nat, j ≤ n6 ∧ iv = .int .i64 j ∧ Hid (OwnL wr W6.heap.size 9 ov ((backTo N ((hadL bs ss bs.length).take n6) j).map Value.string)) ∧ Hid (Below W6.heap.size W6 wr)) (fun _ iv _ => n6 - (intOf iv).toNat)
            case atStart => exact ⟨0, by omega, rfl, hide (OwnL.nil _ _ _), hide (Below.refl _ _)⟩
            case round =>
              obtain ⟨j, hj, rfl, HO, HW⟩ := hrel
              have bS := ((unhide HW).block _ (lt_of_block (unhide BS))).trans (unhide BS)
              have bC := ((unhide HW).block _ (lt_of_block (unhide BC))).trans (unhide BC)
              obtain ⟨c0, c1⟩ := box_two bS
              have cC := cell_of_one bC
              obtain ⟨pv, cv, ev⟩ := (unhide HO).form
              rw [List.length_map, backTo_len] at ev
              subst ev
              have hszW := (unhide HW).size
              clear bS bC
              by_cases hlt : j < n6
              · have hlt' : (j : Int) < n6 := by omega
                obtain ⟨u, hu, x, nx, cx, rfl, hnx, hx⟩ := unhide HRW j hlt
                have cu := ((unhide HW).cell (cell_lt hu)).trans hu
                have HX := hide (hx.below (unhide HW))
                have q0 := kept_cell (B := wr.heap.size) c0 (cell_lt c0)
                have qC := kept_cell (B := wr.heap.size) cC (cell_lt cC)
                have qu := kept_cell (B := wr.heap.size) cu (cell_lt cu)
                have hnx' : nx ≤ 140737488355328 := by rw [← hx.1, (back_may h1 h2 (by rw [unhide HLB, ← unhide EL]; exact hLd) (unhide HF).2.2.2 (unhide HN) hlt).1]; omega
                clear hu hx hnx cC cu
                go_wp2_with fail
                refine wp_region_ord_then (S := Below wr.heap.size wr) [(true, 0), (true, 1), (true, 2), (true, 3), (true, 4), (true, 5), (true, 6), (true, 7), (true, 8), (false, 9), (true, 10), (true, 11), (true, 12), (true, 13)] (List.cons_ne_nil _ _) (by kernel_rfl) (by kernel_rfl) (by kernel_rfl) (by kernel_rfl) (by kernel_rfl) ((Below.refl _ _).drew) ?_
                simp only [List.dropLast_cons_cons, List.dropLast_singleton, List.getLast_cons_cons, List.getLast_singleton, withOps, List.map_cons, List.map_nil, List.getElem?_cons_succ, List.getElem?_cons_zero]
                repeat (refine walkH_read (by rfl) (by (intro gx; go_simp; try (with_reducible rfl))) ?_; try simp only [Act.put, List.setIfInBounds_toArray, List.set_cons_zero, List.set_cons_succ])
                refine walkH_do rfl (fun K hK => ?_)
                go_simp
                refine (refCombine_any _ _ _ _ _ _ (N.getD j []) ((hadL bs ss bs.length).take n6) _ ((unhide HX).below ((Below.refl _ _).drew)) (by rw [unhide HLB]; exact ((unhide HHT).below (unhide HW)).below ((Below.refl _ _).drew)) hnx').mono ?_
                rintro e w7 ⟨r7, hr7, rfl, b7⟩
                obtain rfl := back_comb h1 h2 (by rw [unhide HLB, ← unhide EL]; exact hLd) (unhide HF).2.2.2 (unhide HN) hlt hr7
                have hb7 : Below wr.heap.size wr w7 := ((Below.refl _ _).drew).trans b7
                refine hK _ _ hb7 ?_
                clear hK K
                try simp only [Act.put, List.setIfInBounds_toArray, List.set_cons_zero, List.set_cons_succ]
                replace HO := hide ((unhide HO).below hb7)
                replace HW := hide (bt (unhide HW) hb7)
                replace hszW := (unhide HW).size
                clear hr7 b7 hb7 q0 qC qu c0 c1
                obtain ⟨t, et⟩ : ∃ t, t = Vec.out (N.getD j []) ((hadL bs ss bs.length).take n6) := ⟨_, rfl⟩
                rw [← et]
                have ET := hide et
                clear et
                repeat (refine walkH_read (by rfl) (by (intro gx; go_simp; try (with_reducible rfl))) ?_; try simp only [Act.put, List.setIfInBounds_toArray, List.set_cons_zero, List.set_cons_succ])
                refine lastPost_of_list ?_
                simp only [List.cons_append, List.nil_append]
                go_wp2
                refine NoPanic.normal ?_
                go_wp2_with (at_builtin; refine wpList_push w7 (by rfl) (.tmp 108) (.tmp 110) 24 (by rfl) W6.heap.size 9 (.string ByteArray.empty) 16 Tryd.underlying24 Tryd.infoText rfl _ _ (by rfl) (unhide HO) _ (by rfl) (by rfl) (by simp [backTo_len]; omega) (by omega) hszW ?_; intro v1 wa O1 P1; have HBa := hide (P1.below (unhide HO) (unhide HW) (Nat.le_refl _) hszW); have HO1 := hide O1; clear O1 P1 HO HW)
                go_roundw
                case rel =>
                  refine ⟨j + 1, by omega, by go_num, hide ?_, HBa⟩
                  have := unhide HO1
                  rw [backTo_snoc, List.map_append]
                  simp only [List.map_cons, List.map_nil]
                  rw [← unhide ET]
                  exact this
                case measure => simp [intOf]; omega
              · have hlt' : ¬ (j : Int) < n6 := by omega
                obtain rfl : j = n6 := by omega
                have hB := hide (bt (unhide HB) (unhide HW))
                have hs6 := (unhide HB).size
                go_wp2
                go_ret2
                refine ⟨_, (backTo N ((hadL bs ss bs.length).take j) j, 0), .inr (.inr ⟨unhide HF, by rw [unhide HLB, ← unhide EL]; omega, N, ?_, ?_⟩), rfl, (unhide HO).mono hs6, unhide hB⟩
                · rw [Int.toNat_natCast, Int.toNat_natCast]; exact unhide HN
                · rw [Int.toNat_natCast]
theorem refDecode_any (d p : Int) (a b : Option Addr) (n ca m cb : Nat) (ss : List ByteArray) (bs : List Bool) (w : World) (hs : Strs w a n ca ss) (hb : Bools w b m cb bs) (hn : n * 16 ≤ 140737488351232) (hm : m ≤ 140737488351232) :
    Calls Tryd.prog 19 #[.agg #[.int .i64 d, .int .i64 p], .slice a n ca, .slice b m cb] w (decPost d p ss bs w) := by
  have hls := hs.1
  have hlb := hb.1
  by_cases h : ¬ ShpMay d p ∨ (n : Int) ≠ d + p ∨ m ≠ n
  · refine (refDecode_no d p a b n ca m cb w (by omega) hm h).mono ?_
    rintro e w' ⟨rfl, hB⟩
    refine ⟨_, ([], 700), .inl ⟨fun hf => ?_, rfl⟩, rfl, OwnL.nil _ _ _, hB⟩
    obtain ⟨f1, f2, f3, _⟩ := hf
    rcases h with h | h | h
    · exact h f1
    · exact h (by rw [← hls]; exact f2)
    · exact h (by rw [← hls, ← hlb]; exact f3)
  · have h1 : ShpMay d p := Classical.byContradiction fun q => h (.inl q)
    have h2 : (n : Int) = d + p := Classical.byContradiction fun q => h (.inr (.inl q))
    have h3 : m = n := Classical.byContradiction fun q => h (.inr (.inr q))
    have h4 := h1
    unfold ShpMay at h4
    obtain ⟨d', rfl⟩ : ∃ x : Nat, d = x := ⟨d.toNat, by omega⟩
    obtain ⟨p', rfl⟩ : ∃ x : Nat, p = x := ⟨p.toNat, by omega⟩
    subst h3
    exact refDecode_go d' p' m a b ca cb ss bs w hs hb (by omega) (by omega) (by omega) (by omega)
end Go.Proofs.YtcgagkaalbljmaaDoor
