/- SameWrites, SameDisk (ossuarylaw0), full (ossuarylaw13): contracts. -/
import Derived.Test.YtpmbmhjhclekeabWrEq
namespace Go.Proofs.Ytpmbmhjhclekeab
open Go.RowKit
set_option linter.unusedVariables false
set_option linter.unusedSimpArgs false
attribute [local go_sem ↓] Go.wp_at_zero Go.wp_at_succ
set_option maxRecDepth 100000 in
theorem getD_get {xs : List (Int × ByteArray)} {k : Nat} (h : k < xs.length) : xs.getD k wr0 = xs[k] := by simp [List.getD, h]
theorem wr_ne {x y : Int × ByteArray} (h : (!((x.1 == y.1) && (x.2.toList == y.2.toList))) = true) : x ≠ y := by
  rintro rfl
  simp at h
theorem wr_eq {x y : Int × ByteArray} (h : (!((x.1 == y.1) && (x.2.toList == y.2.toList))) = false) : x = y := by
  obtain ⟨a, b⟩ := x
  obtain ⟨c, d⟩ := y
  simp at h
  obtain ⟨h1, h2⟩ := h
  have h3 : (!b.toList == d.toList) = false := by simpa using h2
  rw [h1, str_eq h3]
theorem sameWrites_len (a a' : Option Addr) (n n' ca cb : Nat) (w : World) (h : n ≠ n') :
    Calls Try.prog 26 #[.slice a n ca, .slice a' n' cb] w fun e w' => e = .returned (.bool false) ∧ w' = w := by
  have ht : ((n : Int) != (n' : Int)) = true := by simp; omega
  go_enter Try.func26, Try.ntmps26
  go_wp2
  go_ret
  exact ⟨rfl, rfl⟩
set_option maxRecDepth 100000 in
theorem sameWrites_none (a a' : Option Addr) (ca cb : Nat) (w : World) :
    Calls Try.prog 26 #[.slice a 0 ca, .slice a' 0 cb] w fun e w' => e = .returned (.bool true) ∧ w' = w := by
  go_enter Try.func26, Try.ntmps26
  go_wp2
  go_rounds 1
  go_ret
  exact ⟨rfl, rfl⟩
set_option maxRecDepth 100000 in
set_option maxHeartbeats 1000000 in
theorem sameWrites_some (b off b' off' ca cb n : Nat) (xs ys : List (Int × ByteArray)) (w : World) (hx : xs.length = n) (hy : ys.length = n) (hn : n ≤ maxLen)
    (hc : ∀ i, i < n → w.cell? ⟨b, off + i * 2, none⟩ = some (.int .i64 (xs.getD i wr0).1) ∧ w.cell? ⟨b, off + i * 2 + 1, none⟩ = some (.string (xs.getD i wr0).2))
    (hd : ∀ i, i < n → w.cell? ⟨b', off' + i * 2, none⟩ = some (.int .i64 (ys.getD i wr0).1) ∧ w.cell? ⟨b', off' + i * 2 + 1, none⟩ = some (.string (ys.getD i wr0).2)) :
    Calls Try.prog 26 #[.slice (some ⟨b, off, none⟩) n ca, .slice (some ⟨b', off', none⟩) n cb] w fun e w' => e = .returned (.bool (decide (xs = ys))) ∧ ∃ m, w' = w.drewN m := by
  unfold maxLen at hn
  go_enter Try.func26, Try.ntmps26
  go_wp2
  go_loopw [5] (fun i wr => ∃ k : Nat, k ≤ n ∧ i = .int .i64 k ∧ Hid (xs.take k = ys.take k) ∧ Hid (∃ m, wr = w.drewN m)) (fun i _ => n - (intOf i).toNat)
  case atStart => exact ⟨0, by omega, rfl, rfl, ⟨0, rfl⟩⟩
  case round =>
    obtain ⟨k, hk, rfl, he, m, rfl⟩ := hrel
    by_cases hlt : k < n
    · have hlt' : (k : Int) < n := by omega
      obtain ⟨h1, h1'⟩ := hc k hlt
      obtain ⟨h2, h2'⟩ := hd k hlt
      clear hc hd
      obtain ⟨x1, ex1⟩ : ∃ x1, x1 = (xs.getD k wr0).1 := ⟨_, rfl⟩
      obtain ⟨x2, ex2⟩ : ∃ x2, x2 = (xs.getD k wr0).2 := ⟨_, rfl⟩
      obtain ⟨y1, ey1⟩ : ∃ y1, y1 = (ys.getD k wr0).1 := ⟨_, rfl⟩
      obtain ⟨y2, ey2⟩ : ∃ y2, y2 = (ys.getD k wr0).2 := ⟨_, rfl⟩
      rw [← ex1] at h1
      rw [← ex2] at h1'
      rw [← ey1] at h2
      rw [← ey2] at h2'
      have E1 := hide ex1
      have E2 := hide ex2
      have E3 := hide ey1
      have E4 := hide ey2
      clear ex1 ex2 ey1 ey2
      obtain ⟨t, et⟩ : ∃ t, t = (!((x1 == y1) && (x2.toList == y2.toList))) := ⟨_, rfl⟩
      have hq := ne_write x1 y1 x2 y2
      simp only [← et] at hq
      have ET := hide et
      clear et
      have hgd : ∀ w, (eqGuard .neq 48 (.tmp 20) (.tmp 24) (.agg #[.int .i64 x1, .string x2]) (.agg #[.int .i64 y1, .string y2])).run Try.prog w = .ok () w := fun w => run_eqGuard_agg w .neq _ _ _ _ _ (by kernel_rfl)
      cases t with
      | true =>
        go_wp2
        go_quiet (fail)
        go_wp2
        have hk1 : k < xs.length := by omega
        have hk2 : k < ys.length := by omega
        have : (decide (xs = ys)) = false := by
          rw [decide_eq_false_iff_not]
          refine ne_of_at (k := k) hk1 hk2 ?_
          rw [← getD_get hk1, ← getD_get hk2]
          exact wr_ne (by rw [← unhide E1, ← unhide E2, ← unhide E3, ← unhide E4]; exact (unhide ET).symm)
        go_ret
        exact ⟨ret_bool this.symm, m + nq, by simp⟩
      | false =>
        go_wp2
        go_quiet (fail)
        go_wp2
        have hk1 : k < xs.length := by omega
        have hk2 : k < ys.length := by omega
        have hxy : xs[k] = ys[k] := by
          rw [← getD_get hk1, ← getD_get hk2]
          exact wr_eq (by rw [← unhide E1, ← unhide E2, ← unhide E3, ← unhide E4]; exact (unhide ET).symm)
        go_roundw
        case rel => exact ⟨k + 1, by omega, by go_num, take_snoc_eq hk1 hk2 he hxy, ⟨_, rfl⟩⟩
        case measure => simp [intOf]; omega
    · have hlt' : ¬ (k : Int) < n := by omega
      obtain rfl : k = n := by omega
      have : (decide (xs = ys)) = true := by rw [decide_eq_true_eq]; exact take_eq_len hx hy he
      have HT := hide this
      clear this
      go_wp2
      go_ret
      exact ⟨ret_bool (unhide HT).symm, _, rfl⟩
theorem sameWrites_any (a a' : Option Addr) (n n' ca cb : Nat) (xs ys : List (Int × ByteArray)) (w : World) (hx : WrV w a n ca xs) (hy : WrV w a' n' cb ys) (hn : n ≤ maxLen) :
    Calls Try.prog 26 #[.slice a n ca, .slice a' n' cb] w fun e w' => e = .returned (.bool (decide (xs = ys))) ∧ ∃ m, w' = w.drewN m := by
  have lx := hx.1
  have ly := hy.1
  by_cases hl : n = n'
  · subst hl
    by_cases h0 : n = 0
    · subst h0
      refine (sameWrites_none a a' ca cb w).mono ?_
      rintro e w' ⟨rfl, rfl⟩
      rw [List.length_eq_zero_iff.1 lx, List.length_eq_zero_iff.1 ly]
      exact ⟨rfl, 0, rfl⟩
    · obtain ⟨b, o, rfl, _, hc⟩ := hx.at (j := 0) (by omega)
      obtain ⟨b', o', rfl, _, hd⟩ := hy.at (j := 0) (by omega)
      exact sameWrites_some b o b' o' ca cb n xs ys w lx ly hn hc hd
  · refine (sameWrites_len a a' n n' ca cb w hl).mono ?_
    rintro e w' ⟨rfl, rfl⟩
    have : ¬ xs = ys := fun h => hl (by rw [← lx, ← ly, h])
    rw [decide_eq_false this]
    exact ⟨rfl, 0, rfl⟩
/-- the same disk -/
def SameD (d e : Dsk) : Prop := d.lost = e.lost ∧ d.secs = e.secs ∧ d.cache = e.cache
instance sameD_dec (d e : Dsk) : Decidable (SameD d e) := by unfold SameD; exact inferInstance
theorem sameD_refl (d : Dsk) : SameD d d := ⟨rfl, rfl, rfl⟩
set_option maxRecDepth 100000 in
set_option maxHeartbeats 1000000 in
theorem sameDisk_any (d e : Dsk) (sa : Option Addr) (n sc : Nat) (ca : Option Addr) (m cc : Nat) (sb : Option Addr) (n' sd : Nat) (cb : Option Addr) (m' cd : Nat) (w : World) (hS : Strs w sa n sc d.secs) (hC : WrV w ca m cc d.cache) (hS' : Strs w sb n' sd e.secs) (hC' : WrV w cb m' cd e.cache)
    (hn : n ≤ maxLen) (hm : m ≤ maxLen) :
    Calls Try.prog 11 #[.agg #[.bool d.lost, .slice sa n sc, .slice ca m cc], .agg #[.bool e.lost, .slice sb n' sd, .slice cb m' cd]] w fun r w' => r = .returned (.bool (decide (SameD d e))) ∧ Below w.heap.size w w' := by
  have HS := hide hS
  have HC := hide hC
  have HS2 := hide hS'
  have HC2 := hide hC'
  obtain ⟨b, eb⟩ : ∃ b, b = d.lost := ⟨_, rfl⟩
  obtain ⟨b', eb'⟩ : ∃ b', b' = e.lost := ⟨_, rfl⟩
  have EB := hide eb
  have EB2 := hide eb'
  rw [← eb, ← eb']
  clear hS hC hS' hC' eb eb'
  go_enter Try.func11, Try.ntmps11
  go_upto_region 1 with fail
  have HB := hide (below_two w (.cells #[.bool b, .slice sa n sc, .slice ca m cc] 27) (.cells #[.bool b', .slice sb n' sd, .slice cb m' cd] 27))
  have RX := hide (two_new w (.cells #[.bool b, .slice sa n sc, .slice ca m cc] 27) (.cells #[.bool b', .slice sb n' sd, .slice cb m' cd] 27))
  have BX := hide ((((below_alloc (w.alloc (.cells #[.bool b, .slice sa n sc, .slice ca m cc] 27)) (.cells #[.bool b', .slice sb n' sd, .slice cb m' cd] 27)).block w.heap.size (by simp)).trans (heap_alloc_new w (.cells #[.bool b, .slice sa n sc, .slice ca m cc] 27))))
  generalize ((w.alloc (.cells #[.bool b, .slice sa n sc, .slice ca m cc] 27)).alloc (.cells #[.bool b', .slice sb n' sd, .slice cb m' cd] 27)) = W at *
  obtain ⟨x0, x1, x2⟩ := box_dsk (unhide BX)
  obtain ⟨y0, y1, y2⟩ := box_dsk (unhide RX)
  by_cases h1 : b = b'
  · subst h1
    have t1 : (b == b) = true := by simp
    by_cases h2 : d.secs = e.secs
    · have T2 := hide (decide_eq_true h2)
      have H2 := hide h2
      clear h2
      go_wp2_with (go_at_call 25; refine (sameTexts_any _ _ _ _ _ _ d.secs e.secs _ ((unhide HS).below (unhide HB)) ((unhide HS2).below (unhide HB)) hn).mono ?_; rintro r w' ⟨rfl, k1, rfl⟩; rw [unhide T2])
      refine (sameWrites_any _ _ _ _ _ _ d.cache e.cache _ ((unhide HC).below ((unhide HB).trans (below_drewN _ _ _))) ((unhide HC2).below ((unhide HB).trans (below_drewN _ _ _))) hm).mono ?_
      rintro r w' ⟨rfl, k2, rfl⟩
      by_cases h3 : d.cache = e.cache
      · have hv := hide (decide_eq_true (show SameD d e from ⟨by rw [← unhide EB, ← unhide EB2], unhide H2, h3⟩))
        rw [decide_eq_true h3]
        clear h3
        go_wp2
        go_ret
        exact ⟨ret_bool (unhide hv).symm, (unhide HB).trans (below_drewN _ _ _)⟩
      · have hv := hide (decide_eq_false (show ¬ SameD d e from fun h => h3 h.2.2))
        rw [decide_eq_false h3]
        clear h3
        go_wp2
        go_ret
        exact ⟨ret_bool (unhide hv).symm, (unhide HB).trans (below_drewN _ _ _)⟩
    · have T2 := hide (decide_eq_false h2)
      have hv := hide (decide_eq_false (show ¬ SameD d e from fun h => h2 h.2.1))
      clear h2
      go_wp2_with (go_at_call 25; refine (sameTexts_any _ _ _ _ _ _ d.secs e.secs _ ((unhide HS).below (unhide HB)) ((unhide HS2).below (unhide HB)) hn).mono ?_; rintro r w' ⟨rfl, k1, rfl⟩; rw [unhide T2])
      go_ret
      exact ⟨ret_bool (unhide hv).symm, (unhide HB).trans (below_drewN _ _ _)⟩
  · have t1 : (b == b') = false := by simpa using h1
    have hv := hide (decide_eq_false (show ¬ SameD d e from fun h => h1 (by rw [unhide EB, unhide EB2]; exact h.1)))
    clear h1
    go_wp2
    go_ret
    exact ⟨ret_bool (unhide hv).symm, unhide HB⟩
def fullN (b : Nat) : List Int := List.replicate 64 (b : Int)
/-- a sector of one byte -/
def fullB (b : Nat) : ByteArray := strOfNums (fullN b)
theorem fullB_size (b : Nat) : (fullB b).size = 64 := by rw [fullB, strOfNums_size]; simp [fullN]
def fullTo (b k : Nat) : List Int := List.replicate k (b : Int) ++ List.replicate (64 - k) 0
theorem fullTo_len (b k : Nat) (h : k ≤ 64) : (fullTo b k).length = 64 := by simp [fullTo]; omega
theorem fullTo_step (b k : Nat) (h : k < 64) : (fullTo b k).set k (b : Int) = fullTo b (k + 1) := by
  unfold fullTo
  rw [List.set_append, if_neg (by simp)]
  have e : 64 - k = (64 - (k + 1)) + 1 := by omega
  rw [e, List.replicate_succ]
  simp only [List.length_replicate, Nat.sub_self, List.set_cons_zero]
  rw [List.replicate_succ', List.append_assoc]
  rfl
set_option maxRecDepth 100000 in
set_option maxHeartbeats 1000000 in
theorem full_any (b : Nat) (hb : b < 256) (w : World) : Calls Try.prog 8 #[.int .u8 b] w fun e w' => e = .returned (.string (fullB b)) ∧ Below w.heap.size w w' := by
  have hmk : ∀ w, (Instr.makeSlice 43 (.int .i64 64) (.int .i64 64)).run Try.prog w = .ok (.slice (some ⟨w.heap.size, 0, none⟩) 64 64) (w.alloc (.cells (madeCells #[.int .u8 0] 64) 5)) := fun w => run_make_row' (P := Try.prog) 43 5 (.int .u8 0) 1 Try.underlying43 Try.infoByte8 rfl .i64 .i64 64 (by omega) (by omega) w
  go_enter Try.func8, Try.ntmps8
  go_wp2
  have HO := hide (own_mk8 w w.heap.size 64 5 (Nat.le_refl _) (by decide))
  have HB := hide (below_alloc w (.cells (madeCells #[.int .u8 0] 64) 5))
  go_loopw [4] (fun iv wr => ∃ k : Nat, k ≤ 64 ∧ iv = .int .i64 k ∧ Hid (OwnL wr w.heap.size 5 (.slice (some ⟨w.heap.size, 0, none⟩) 64 64) ((fullTo b k).map (Value.int .u8))) ∧ Hid (Below w.heap.size w wr)) (fun iv _ => 64 - (intOf iv).toNat)
  case atStart => exact ⟨0, by omega, rfl, HO, HB⟩
  case round =>
    obtain ⟨k, hk, rfl, HO, HW⟩ := hrel
    have hl := fullTo_len b k hk
    have hcell : ∀ j, j < 64 → wr.cell? ⟨w.heap.size, j, none⟩ = some (.int .u8 ((fullTo b k).getD j 0)) := fun j hj => by
      rw [World.ownsRow.cellAt (own_row' (unhide HO)) j (by omega), List.getElem?_map, List.getElem?_eq_getElem (by omega)]
      simp [List.getD, List.getElem?_eq_getElem (show j < (fullTo b k).length by omega)]
    by_cases hlt : k < 64
    · have hlt' : (k : Int) < 64 := by omega
      have c1 := hcell k hlt
      have f1 := own_free (unhide HO) k
      obtain ⟨y, ey⟩ : ∃ y, y = (fullTo b k).getD k 0 := ⟨_, rfl⟩
      rw [← ey] at c1
      have HP := own_put (unhide HO) k (.int .u8 (b : Int))
      rw [← List.map_set, fullTo_step b k hlt] at HP
      have HP' := hide HP
      clear hcell ey HP hl
      go_wp2
      refine ⟨⟨k + 1, by omega, by go_num, HP', hide ((unhide HW).setCell (Nat.le_refl _) _)⟩, by simp [intOf]; omega⟩
    · obtain rfl : k = 64 := by omega
      have hcb := run_convert_bytes_arg (P := Try.prog) wr 43 5 Try.underlying43 Try.underlying5 w.heap.size 0 64 64 (fullTo b 64) hl (fun j hj => by rw [Nat.zero_add]; exact hcell j hj) 9 Try.underlying9
      have e64 : strOfNums (fullTo b 64) = fullB b := by unfold fullB fullN fullTo; simp
      rw [e64] at hcb
      clear hcell e64 hl
      go_wp2
      go_ret
      exact ⟨rfl, unhide HW⟩
end Go.Proofs.Ytpmbmhjhclekeab
