/- The document's own answers for the field (ossuaryref1) return what the field of plain numbers says: contracts, one a function. -/
import Derived.Test.YtfeepmjkamdldaaDoorGfWalks
namespace Go.Proofs.YtfeepmjkamdldaaDoor
open Go.RowKit
set_option maxRecDepth 100000 in
theorem byteNum_yes (a : Int) (w : World) (h : 0 ≤ a) (h' : a ≤ 255) : Calls Tryd.prog 48 #[.int .i64 a] w fun e w' => e = .returned (.bool true) ∧ w' = w := by
  go_enter Tryd.func48, Tryd.ntmps48
  go_wp2
  go_ret
  exact ⟨rfl, rfl⟩
set_option maxRecDepth 100000 in
theorem byteNum_no (a : Int) (w : World) (h : a < 0 ∨ 256 ≤ a) : Calls Tryd.prog 48 #[.int .i64 a] w fun e w' => e = .returned (.bool false) ∧ w' = w := by
  rcases h with h | h
  · have h' : ¬ 0 ≤ a := by omega
    go_enter Tryd.func48, Tryd.ntmps48
    go_wp2
    go_ret
    exact ⟨rfl, rfl⟩
  · have h' : ¬ a ≤ 255 := by omega
    have h'' : 0 ≤ a := by omega
    go_enter Tryd.func48, Tryd.ntmps48
    go_wp2
    go_ret
    exact ⟨rfl, rfl⟩
theorem tx_yes {a : Nat} (h : a < 256) (h2 : 256 ≤ 2 * a) : bits .xor .i64 ((a : Int) * 2) 285 = ((Gf.tx a : Nat) : Int) := by
  rw [xor285 a h, ← Gf.tx_if h, if_pos h2]
theorem tx_no {a : Nat} (h : a < 256) (h2 : ¬ 256 ≤ 2 * a) : (a : Int) * 2 = ((Gf.tx a : Nat) : Int) := by
  rw [← Gf.tx_if h, if_neg h2]; omega
set_option maxRecDepth 100000 in
set_option maxHeartbeats 1000000 in
theorem refmul_any (a b : Nat) (w : World) (h : a < 256) : Calls Tryd.prog 49 #[.int .i64 a, .int .i64 b] w fun e w' => e = .returned (.int .i64 (Gf.mul a b : Nat)) ∧ w' = w := by
  have H0 := hide (Gf.txN_zero h)
  go_enter Tryd.func49, Tryd.ntmps49
  go_wp2
  go_loop [0, 5, 6] (fun x s i => ∃ k : Nat, k ≤ 8 ∧ i = .int .i64 k ∧ s = .int .i64 (Gf.prN k a b : Nat) ∧ x = .int .i64 (Gf.txN k a : Nat)) (fun _ _ i => 8 - (intOf i).toNat)
  case atStart => exact ⟨0, by omega, rfl, rfl, by rw [unhide H0]⟩
  case round =>
    obtain ⟨k, hk, rfl, rfl, rfl⟩ := hrel
    have hn := Gf.txN_lt k a
    have hm := Gf.prN_lt k a b
    by_cases hlt : k < 8
    · have hlt' : (k : Int) < 8 := by omega
      by_cases hbit : b / 2 ^ k % 2 = 1
      · have ht := bit_true hbit
        have HS := hide (Gf.prN_one (a := a) hbit)
        have HX := hide (xor_small _ _ hm hn)
        clear hbit
        by_cases h2 : 256 ≤ 2 * Gf.txN k a
        · have HT := hide (tx_yes hn h2)
          have h2' : 255 < (Gf.txN k a : Int) * 2 := by omega
          go_wp2
          go_round
          case rel => exact ⟨k + 1, by omega, by go_num, by rw [unhide HX, unhide HS], by rw [unhide HT]; rfl⟩
          case measure => simp [intOf]; omega
        · have HT := hide (tx_no hn h2)
          have h2' : ¬ 255 < (Gf.txN k a : Int) * 2 := by omega
          go_wp2
          go_round
          case rel => exact ⟨k + 1, by omega, by go_num, by rw [unhide HX, unhide HS], by rw [unhide HT]; rfl⟩
          case measure => simp [intOf]; omega
      · have ht := bit_false hbit
        have HS := hide (Gf.prN_none (a := a) hbit)
        clear hbit
        by_cases h2 : 256 ≤ 2 * Gf.txN k a
        · have HT := hide (tx_yes hn h2)
          have h2' : 255 < (Gf.txN k a : Int) * 2 := by omega
          go_wp2
          go_round
          case rel => exact ⟨k + 1, by omega, by go_num, by rw [unhide HS], by rw [unhide HT]; rfl⟩
          case measure => simp [intOf]; omega
        · have HT := hide (tx_no hn h2)
          have h2' : ¬ 255 < (Gf.txN k a : Int) * 2 := by omega
          go_wp2
          go_round
          case rel => exact ⟨k + 1, by omega, by go_num, by rw [unhide HS], by rw [unhide HT]; rfl⟩
          case measure => simp [intOf]; omega
    · have hlt' : ¬ (k : Int) < 8 := by omega
      obtain rfl : k = 8 := by omega
      go_wp2
      go_ret
      exact ⟨rfl, rfl⟩
theorem inv_hit {a x : Nat} (h : a < 256) (h0 : a ≠ 0) (hx : x < 256) (e : (((Gf.mul a x : Nat) : Int) == 1) = true) : (x : Int) = ((Gf.inv a : Nat) : Int) := by
  have e' : Gf.mul a x = 1 := by have := eq_of_beq e; omega
  rw [Gf.inv_unique h h0 hx e']
theorem inv_miss {a x : Nat} (e : (((Gf.mul a x : Nat) : Int) == 1) = false) : ¬ Gf.mul a x = 1 := by
  intro q; rw [q] at e; cases e
set_option maxRecDepth 100000 in
set_option maxHeartbeats 1000000 in
theorem refinv_any (a : Nat) (w : World) (h : a < 256) (h0 : a ≠ 0) : Calls Tryd.prog 53 #[.int .i64 a] w fun e w' => e = .returned (.int .i64 (Gf.inv a : Nat)) ∧ w' = w := by
  have H1 := hide (Gf.mul_inv h h0)
  have HL := hide (Gf.inv_lt a)
  have H0 := hide h0
  have HN : Hid (Gf.inv a ≠ 0) := hide (Gf.inv_ne h h0)
  clear h0
  go_enter Tryd.func53, Tryd.ntmps53
  go_wp2
  go_loop [3] (fun i => ∃ k : Nat, k ≤ 256 ∧ 1 ≤ k ∧ i = .int .i64 k ∧ Hid (∀ x, 1 ≤ x → x < k → ¬ Gf.mul a x = 1)) (fun i => 256 - (intOf i).toNat)
  case atStart => exact ⟨1, by omega, by omega, rfl, hide (fun x h1 h2 => by omega)⟩
  case round =>
    obtain ⟨k, hk, hk1, rfl, HM⟩ := hrel
    by_cases hlt : k < 256
    · have hlt' : (k : Int) < 256 := by omega
      by_cases hit : (((Gf.mul a k : Nat) : Int) == 1) = true
      · have HH := hide (inv_hit h (unhide H0) hlt hit)
        go_wp2_with (go_at_call 49; refine (refmul_any _ _ _ h).mono ?_; rintro e w' ⟨rfl, rfl⟩)
        go_ret
        exact ⟨ret_int (unhide HH), rfl⟩
      · have hit' : (((Gf.mul a k : Nat) : Int) == 1) = false := by simpa using hit
        have HH := hide (inv_miss hit')
        clear hit
        go_wp2_with (go_at_call 49; refine (refmul_any _ _ _ h).mono ?_; rintro e w' ⟨rfl, rfl⟩)
        go_round
        case rel =>
          refine ⟨k + 1, by omega, by omega, by go_num, hide (fun x h1 h2 => ?_)⟩
          by_cases q : x = k
          · rw [q]; exact unhide HH
          · exact unhide HM x h1 (by omega)
        case measure => simp [intOf]; omega
    · exfalso
      have h2 : Gf.inv a < 256 := unhide HL
      have h3 : Gf.inv a ≠ 0 := unhide HN
      exact unhide HM (Gf.inv a) (by omega) (by omega) (unhide H1)
set_option maxRecDepth 100000 in
set_option maxHeartbeats 1000000 in
theorem refPow_yes (a n : Nat) (w : World) (h : a < 256) (hn : n ≤ 1000) : Calls Tryd.prog 28 #[.int .i64 a, .int .i64 n] w fun e w' => e = .returned (.tuple #[.int .i64 (Gf.pw a n : Nat), .int .i64 0]) ∧ w' = w := by
  have h1 : ¬ (n : Int) < 0 := by omega
  have h2 : ¬ (1000 : Int) < n := by omega
  go_enter Tryd.func28, Tryd.ntmps28
  go_wp2_with (go_at_call 48; refine (byteNum_yes _ _ (by omega) (by omega)).mono ?_; rintro e w' ⟨rfl, rfl⟩)
  go_loop [6, 7] (fun x i => ∃ k : Nat, k ≤ n ∧ i = .int .i64 k ∧ x = .int .i64 (Gf.pw a k : Nat)) (fun _ i => n - (intOf i).toNat)
  case atStart => exact ⟨0, by omega, rfl, rfl⟩
  case round =>
    obtain ⟨k, hk, rfl, rfl⟩ := hrel
    have hb := Gf.pw_lt a k
    by_cases hlt : k < n
    · have hlt' : (k : Int) < n := by omega
      go_wp2_with (go_at_call 49; refine (refmul_any _ _ _ (by omega)).mono ?_; rintro e w' ⟨rfl, rfl⟩)
      go_round
      case rel => exact ⟨k + 1, by omega, by go_num, rfl⟩
      case measure => simp [intOf]; omega
    · have hlt' : ¬ (k : Int) < n := by omega
      obtain rfl : k = n := by omega
      go_wp2
      go_ret2
      exact ⟨rfl, rfl⟩
set_option maxRecDepth 100000 in
theorem refPow_no (a n : Int) (w : World) (h : (a < 0 ∨ 256 ≤ a) ∨ (n < 0 ∨ 1000 < n)) : Calls Tryd.prog 28 #[.int .i64 a, .int .i64 n] w fun e w' => e = .returned (.tuple #[.int .i64 0, .int .i64 100]) ∧ w' = w := by
  by_cases ha : a < 0 ∨ 256 ≤ a
  · have HA := hide ha
    clear ha h
    go_enter Tryd.func28, Tryd.ntmps28
    go_wp2_with (go_at_call 48; refine (byteNum_no _ _ (unhide HA)).mono ?_; rintro e w' ⟨rfl, rfl⟩)
    go_ret2
    exact ⟨rfl, rfl⟩
  · have hb := h.resolve_left ha
    have h1 : 0 ≤ a := by omega
    have h2 : a ≤ 255 := by omega
    clear ha h
    rcases hb with hb | hb
    · go_enter Tryd.func28, Tryd.ntmps28
      go_wp2_with (go_at_call 48; refine (byteNum_yes _ _ h1 h2).mono ?_; rintro e w' ⟨rfl, rfl⟩)
      go_ret2
      exact ⟨rfl, rfl⟩
    · have h3 : ¬ n < 0 := by omega
      go_enter Tryd.func28, Tryd.ntmps28
      go_wp2_with (go_at_call 48; refine (byteNum_yes _ _ h1 h2).mono ?_; rintro e w' ⟨rfl, rfl⟩)
      go_ret2
      exact ⟨rfl, rfl⟩
end Go.Proofs.YtfeepmjkamdldaaDoor
