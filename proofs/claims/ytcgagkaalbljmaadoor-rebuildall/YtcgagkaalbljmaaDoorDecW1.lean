/- Package decode: haveLength and had. -/
import Derived.Test.YtcgagkaalbljmaaDoorDecRef2
namespace Go.Proofs.YtcgagkaalbljmaaDoor
open Go.RowKit
set_option linter.unusedVariables false
set_option linter.unusedSimpArgs false
attribute [local go_sem ↓] Go.wp_at_zero Go.wp_at_succ
open Vec (alikeTo numsTo May)
/-- a text that is not as long as the first one, or too long -/
def unfit (s0 t : ByteArray) : Bool := ((t.size : Int) != (s0.size : Int)) || decide ((4096 : Int) < (t.size : Int))
set_option maxRecDepth 100000 in
theorem decLit_any (t s : ByteArray) (g b off n ca : Nat) (w : World) (hg : w.cell? ⟨g, 0, none⟩ = some (.slice (some ⟨b, off, none⟩) n ca)) (hn : 1 ≤ n) (hc : w.cell? ⟨b, off, none⟩ = some (.string s)) :
    Calls Tryd.prog 45 #[.string t, .pointer (some ⟨g, 0, none⟩)] w fun e w' => e = .returned (.bool (unfit s t)) ∧ w' = w := by
  have hn' : (0 : Int) < n := by omega
  unfold unfit
  by_cases h1 : ((t.size : Int) != (s.size : Int)) = true
  · rw [h1]
    go_enter Tryd.func45, Tryd.ntmps45
    go_wp2
    go_ret
    exact ⟨rfl, rfl⟩
  · have h1 : ((t.size : Int) != (s.size : Int)) = false := by simpa using h1
    rw [h1]
    go_enter Tryd.func45, Tryd.ntmps45
    go_wp2
    go_ret
    exact ⟨rfl, rfl⟩
set_option maxRecDepth 100000 in
theorem indexFunc_zero (a : Option Addr) (ca k : Nat) (q : Array Value) (w : World) :
    Calls Tryd.prog 54 #[.slice a 0 ca, .func (.func k) #[] q] w fun e w' => e = .returned (.int .i64 (-1)) ∧ w' = w := by
  go_enter Tryd.func54, Tryd.ntmps54
  go_wp2
  go_loopw [8] (fun iv wr => iv = .int .i64 0 ∧ wr = w) (fun iv _ => 0)
  case atStart => exact ⟨rfl, rfl⟩
  case round =>
    obtain ⟨rfl, hw⟩ := hrel
    subst hw
    go_wp2
    go_ret
    exact ⟨rfl, rfl⟩
set_option maxRecDepth 100000 in
theorem containsFunc_zero (a : Option Addr) (ca k : Nat) (q : Array Value) (w : World) :
    Calls Tryd.prog 34 #[.slice a 0 ca, .func (.func k) #[] q] w fun e w' => e = .returned (.bool false) ∧ w' = w := by
  go_enter Tryd.func34, Tryd.ntmps34
  go_wp2_with fail
  refine (indexFunc_zero _ _ _ _ _).mono ?_
  rintro e w' ⟨rfl, rfl⟩
  go_wp2
  go_ret
  exact ⟨rfl, rfl⟩
theorem alike_of_unfit {ss : List ByteArray} {n : Nat} (hl : ss.length = n) : (!(ss.any (unfit (ss.getD 0 ByteArray.empty)))) = decide (alikeTo ss n) := by
  rw [Bool.eq_iff_iff]
  simp only [Bool.not_eq_true', List.any_eq_false, decide_eq_true_eq]
  constructor
  · intro h i hi
    have hx : ss.getD i ByteArray.empty ∈ ss := by rw [List.getD, List.getElem?_eq_getElem (by omega)]; exact List.getElem_mem _
    have := h _ hx
    simp [unfit] at this
    exact ⟨by simp only [List.getD] at this ⊢; omega, by simp only [List.getD] at this ⊢; omega⟩
  · intro h x hx
    obtain ⟨j, hj, rfl⟩ := List.getElem_of_mem hx
    have := h j (by omega)
    rw [List.getD, List.getElem?_eq_getElem hj] at this
    simp only [Option.getD_some] at this
    simp only [unfit, Bool.or_eq_true, bne_iff_ne, decide_eq_true_eq, ne_eq]
    rintro (h' | h')
    · exact h' (by have := this.1; omega)
    · have := this.2; omega
set_option maxRecDepth 100000 in
set_option maxHeartbeats 1000000 in
theorem decLen_any (a : Option Addr) (n ca : Nat) (ss : List ByteArray) (w : World) (hs : Strs w a n ca ss) (hn : n ≤ 12) :
    Calls Tryd.prog 29 #[.slice a n ca] w fun e w' => e = .returned (.bool (decide (alikeTo ss ss.length))) ∧ Below w.heap.size w w' := by
  have hl : ss.length = n := hs.1
  have HL := hide hl
  have EV := hide (alike_of_unfit hl).symm
  by_cases h0 : n = 0
  · subst h0
    have hv : decide (alikeTo ss ss.length) = true := decide_eq_true (fun i hi => by omega)
    rw [hv]
    clear hs hl hv
    go_enter Tryd.func29, Tryd.ntmps29
    go_wp2_with fail
    have HB := hide (below_alloc w (.cells #[.slice a 0 ca] 24))
    generalize (w.alloc (.cells #[.slice a 0 ca] 24)) = W at *
    refine (containsFunc_zero _ _ _ _ _).mono ?_
    rintro e w2 ⟨rfl, rfl⟩
    go_wp2
    go_ret
    exact ⟨rfl, unhide HB⟩
  · obtain ⟨b, off, rfl, hc⟩ : ∃ b off, a = some ⟨b, off, none⟩ ∧ ∀ i, i < n → w.cell? ⟨b, off + i, none⟩ = some (.string (ss.getD i ByteArray.empty)) := by
      rcases hs.2.two with h | h
      · omega
      · exact h
    have HC := hide hc
    obtain ⟨s0, es0⟩ : ∃ s0, s0 = ss.getD 0 ByteArray.empty := ⟨_, rfl⟩
    have E0 := hide es0
    have hn1 : 1 ≤ n := by omega
    rw [hl]
    clear hs hl hc es0 h0
    go_enter Tryd.func29, Tryd.ntmps29
    go_wp2_with fail
    have B1 := hide (heap_alloc_new w (.cells #[.slice (some ⟨b, off, none⟩) n ca] 24))
    have HB := hide (below_alloc w (.cells #[.slice (some ⟨b, off, none⟩) n ca] 24))
    generalize (w.alloc (.cells #[.slice (some ⟨b, off, none⟩) n ca] 24)) = W at *
    have c1 := cell_of_one (unhide B1)
    have cc := ((unhide HB).cell (cell_lt (unhide HC 0 hn1))).trans (unhide HC 0 hn1)
    rw [← unhide E0, Nat.add_zero] at cc
    refine (containsFunc_any b off n ca 45 #[.pointer (some ⟨w.heap.size, 0, none⟩)] (unfit s0) ss W (unhide HL) (by omega) (fun i hi => ((unhide HB).cell (cell_lt (unhide HC i hi))).trans (unhide HC i hi)) (enters_it Tryd.func45 (by kernel_rfl) rfl) (fun t => by simpa using decLit_any t s0 w.heap.size b off n ca W c1 hn1 cc)).mono ?_
    rintro e w2 ⟨rfl, rfl⟩
    obtain ⟨B, eB⟩ : ∃ B, B = ss.any (unfit s0) := ⟨_, rfl⟩
    rw [← eB]
    have EB := hide eB
    clear eB c1 cc
    go_wp2
    go_ret
    refine ⟨?_, unhide HB⟩
    rw [unhide EV, ← unhide E0, ← unhide EB]
    first | done | rfl
set_option maxRecDepth 100000 in
set_option maxHeartbeats 2000000 in
theorem decHad_any (R : Nat) (a b : Option Addr) (ca cb : Nat) (ss : List ByteArray) (bs : List Bool) (w : World) (hs : Strs w a R ca ss) (hb : Bools w b R cb bs) (h0 : 1 ≤ R) (h6 : R ≤ 6) :
    Calls Tryd.prog 28 #[.slice a R ca, .slice b R cb] w fun e w' => ∃ v v', e = .returned (.tuple #[v, v']) ∧ OwnL w' w.heap.size 3 v ((ofNats (rowsL bs R)).map (Value.int .i64)) ∧ OwnL w' w.heap.size 9 v' ((hadL bs ss R).map Value.string) ∧ Below w.heap.size w w' := by
  obtain ⟨ba, oa, rfl, hca⟩ : ∃ b off, a = some ⟨b, off, none⟩ ∧ ∀ i, i < R → w.cell? ⟨b, off + i, none⟩ = some (.string (ss.getD i ByteArray.empty)) := by
    rcases hs.2.two with h | h
    · omega
    · exact h
  obtain ⟨bb, ob, rfl, hcb⟩ : ∃ b' off, b = some ⟨b', off, none⟩ ∧ ∀ i, i < R → w.cell? ⟨b', off + i, none⟩ = some (.bool (bs.getD i false)) := by
    rcases hb.2.two with h | h
    · omega
    · exact h
  have HCA := hide hca
  have HCB := hide hcb
  clear hs hb hca hcb
  go_enter Tryd.func28, Tryd.ntmps28
  go_wp2
  go_loopw [4, 5, 9] (fun rv hv iv wr => ∃ k : Nat, k ≤ R ∧ iv = .int .i64 k ∧ Hid (OwnL wr w.heap.size 3 rv ((ofNats (rowsL bs k)).map (Value.int .i64))) ∧ Hid (OwnL wr w.heap.size 9 hv ((hadL bs ss k).map Value.string)) ∧ Hid (Below w.heap.size w wr)) (fun _ _ iv _ => R - (intOf iv).toNat)
  case atStart => exact ⟨0, by omega, rfl, hide (OwnL.nil _ _ _), hide (OwnL.nil _ _ _), hide (Below.refl _ _)⟩
  case round =>
    obtain ⟨k, hk, rfl, O1, O2, HW⟩ := hrel
    have hsz := (unhide HW).size
    have hle := rowsL_le bs k
    obtain ⟨p1, q1, e1⟩ := (unhide O1).form
    rw [List.length_map, ofNats_len] at e1
    obtain ⟨p2, q2, e2⟩ := (unhide O2).form
    rw [List.length_map, hadL_len] at e2
    obtain ⟨L, eL⟩ : ∃ L, L = (rowsL bs k).length := ⟨_, rfl⟩
    rw [← eL] at e1 e2 hle
    subst e1 e2
    have EL := hide eL
    clear eL
    by_cases hlt : k < R
    · have hlt' : (k : Int) < R := by omega
      have c1 := ((unhide HW).cell (cell_lt (unhide HCB k hlt))).trans (unhide HCB k hlt)
      have c2 := ((unhide HW).cell (cell_lt (unhide HCA k hlt))).trans (unhide HCA k hlt)
      obtain ⟨t, et⟩ : ∃ t, t = ss.getD k ByteArray.empty := ⟨_, rfl⟩
      rw [← et] at c2
      have ET := hide et
      clear et
      by_cases hh : hasB bs k = true
      · have e3 : bs.getD k false = true := hh
        rw [e3] at c1
        have HH := hide hh
        have A := hide (apt_types (unhide O1) (unhide O2) (by decide))
        clear e3 hh
        have hl1 : ((ofNats (rowsL bs k)).map (Value.int .i64)).length ≤ 6 := by rw [List.length_map, ofNats_len, ← unhide EL]; omega
        have hl2 : ((hadL bs ss k).map Value.string).length ≤ 6 := by rw [List.length_map, hadL_len, ← unhide EL]; omega
        go_wp2_with (first | (at_builtin; refine wpList_push wr (by rfl) (.tmp 16) (.tmp 18) 36 (by rfl) w.heap.size 3 (.int .i64 0) 8 Tryd.underlying36 Tryd.infoInt rfl _ _ (by rfl) (unhide O1) _ (by rfl) (by rfl) (by omega) (by omega) hsz ?_; intro v1' wa O1' P1; have HBa := hide (P1.below (unhide O1) (unhide HW) (Nat.le_refl _) hsz); have O2a := hide (P1.other (unhide O2) (unhide A)); have Aa := hide (P1.apt (unhide O2) (unhide A)); have OO1 := hide O1'; have c2a := ((unhide HBa).cell (cell_lt (unhide HCA k hlt))).trans (unhide HCA k hlt); rw [← unhide ET] at c2a; clear O1' P1 O1 O2 A HW) | (at_builtin; refine wpList_push wa (by rfl) (.tmp 20) (.tmp 25) 24 (by rfl) w.heap.size 9 (.string ByteArray.empty) 16 Tryd.underlying24 Tryd.infoText rfl _ _ (by rfl) (unhide O2a) _ (by rfl) (by rfl) (by omega) (by omega) (unhide HBa).size ?_; intro v2' wb O2' P2; have HBb := hide (P2.below (unhide O2a) (unhide HBa) (Nat.le_refl _) (unhide HBa).size); have O1b := hide (P2.other (unhide OO1) (unhide Aa).symm); have O2b := hide O2'; clear O2' P2 O2a OO1 Aa HBa))
        go_roundw
        case rel =>
          refine ⟨k + 1, by omega, by go_num, hide ?_, hide ?_, HBb⟩
          · rw [rowsL_yes (unhide HH), ofNats_snoc', List.map_append]; exact unhide O1b
          · rw [hadL_yes (unhide HH), ← unhide ET, List.map_append]; exact unhide O2b
        case measure => simp [intOf]; omega
      · have hh : hasB bs k = false := by simpa using hh
        have e3 : bs.getD k false = false := hh
        rw [e3] at c1
        have HH := hide hh
        clear e3 hh
        go_wp2
        go_roundw
        case rel => exact ⟨k + 1, by omega, by go_num, by rw [rowsL_no (unhide HH)]; exact O1, by rw [hadL_no (unhide HH)]; exact O2, HW⟩
        case measure => simp [intOf]; omega
    · have hlt' : ¬ (k : Int) < R := by omega
      obtain rfl : k = R := by omega
      clear hle hsz
      go_wp2
      go_ret2
      exact ⟨_, _, rfl, unhide O1, unhide O2, unhide HW⟩
end Go.Proofs.YtcgagkaalbljmaaDoor
