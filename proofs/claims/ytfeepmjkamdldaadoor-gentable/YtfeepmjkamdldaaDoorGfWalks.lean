/- The functions of package gf return what the field of plain numbers says: contracts, one a function. -/
import Derived.Test.YtfeepmjkamdldaaDoorProg
import Derived.Test.YtfeepmjkamdldaaDoorGf
import Derived.Test.YtfeepmjkamdldaaDoorBits
import Derived.Test.YtfeepmjkamdldaaDoorMem
import Derived.Test.YtfeepmjkamdldaaDoorLaw0
namespace Go.Proofs.YtfeepmjkamdldaaDoor
open Go.RowKit

theorem xor285 (a : Nat) (h : a < 256) : bits .xor .i64 ((a : Int) * 2) 285 = ((2 * a ^^^ 285 : Nat) : Int) := by
  have := xor_i64 (2 * a) 285 (by omega) (by decide)
  rw [← this]; congr 1; omega
set_option maxRecDepth 100000 in
theorem timesX_any (a : Nat) (w : World) (h : a < 256) : Calls Tryd.prog 73 #[.int .i64 a] w fun e w' => e = .returned (.int .i64 (Gf.tx a : Nat)) ∧ w' = w := by
  have hx := xor285 a h
  have ht := Gf.tx_if h
  have HX := hide hx
  have HT := hide ht
  clear hx ht
  go_enter Tryd.func73, Tryd.ntmps73
  go_wp2
  · go_ret
    refine ⟨ret_int ?_, rfl⟩
    rw [unhide HX, ← unhide HT, if_pos (by omega)]
  · go_ret
    refine ⟨ret_int ?_, rfl⟩
    rw [← unhide HT, if_neg (by omega)]; omega

theorem xor_small (a b : Nat) (ha : a < 256) (hb : b < 256) : bits .xor .i64 (a : Int) (b : Int) = ((a ^^^ b : Nat) : Int) := xor_i64 a b (by omega) (by omega)
set_option maxRecDepth 100000 in
set_option maxHeartbeats 400000 in
theorem product_any (a b : Nat) (w : World) (h : a < 256) (_hb : b < 256) : Calls Tryd.prog 72 #[.int .i64 a, .int .i64 b] w fun e w' => e = .returned (.int .i64 (Gf.mul a b : Nat)) ∧ w' = w := by
  have H0 := hide (Gf.txN_zero h)
  go_enter Tryd.func72, Tryd.ntmps72
  go_wp2
  go_loop [0, 5, 7] (fun x s i => ∃ k : Nat, k ≤ 8 ∧ i = .int .i64 k ∧ s = .int .i64 (Gf.prN k a b : Nat) ∧ x = .int .i64 (Gf.txN k a : Nat)) (fun _ _ i => 8 - (intOf i).toNat)
  case atStart => exact ⟨0, by omega, rfl, rfl, by rw [unhide H0]⟩
  case round =>
    obtain ⟨k, hk, rfl, rfl, rfl⟩ := hrel
    have hn := Gf.txN_lt k a
    have hm := Gf.prN_lt k a b
    by_cases hlt : k < 8
    · have hlt' : (k : Int) < 8 := by omega
      by_cases hbit : b / 2 ^ k % 2 = 1
      · have ht := bit_true hbit
        have HS := hide (Gf.prN_one (a := a) hbit)
        have HX := hide (xor_small _ _ hm hn)
        clear hbit
        go_wp2_with (go_at_call 73; refine (timesX_any _ _ (by omega)).mono ?_; rintro e w' ⟨rfl, rfl⟩)
        go_round
        case rel => exact ⟨k + 1, by omega, by go_num, by rw [unhide HX, unhide HS], rfl⟩
        case measure => simp [intOf]; omega
      · have ht := bit_false hbit
        have HS := hide (Gf.prN_none (a := a) hbit)
        clear hbit
        go_wp2_with (go_at_call 73; refine (timesX_any _ _ (by omega)).mono ?_; rintro e w' ⟨rfl, rfl⟩)
        go_round
        case rel => exact ⟨k + 1, by omega, by go_num, by rw [unhide HS], rfl⟩
        case measure => simp [intOf]; omega
    · have hlt' : ¬ (k : Int) < 8 := by omega
      obtain rfl : k = 8 := by omega
      go_wp2
      go_ret
      exact ⟨rfl, rfl⟩

theorem pw_small (a : Nat) (h : a < 256) : a = Gf.pw a (2 ^ 0) := (Gf.pw_one h).symm
theorem pw_start (a e : Nat) : 1 = Gf.pw a (e % 2 ^ 0) := by rw [Nat.pow_zero, Nat.mod_one]; rfl
theorem pw_last (a e : Nat) (h : e ≤ 1000) : Gf.pw a (e % 2 ^ 10) = Gf.pw a e := by rw [Nat.mod_eq_of_lt (by omega)]
set_option maxRecDepth 100000 in
set_option maxHeartbeats 400000 in
theorem power_any (a n : Nat) (w : World) (h : a < 256) (hn : n ≤ 1000) : Calls Tryd.prog 67 #[.int .i64 a, .int .i64 n] w fun e w' => e = .returned (.int .i64 (Gf.pw a n : Nat)) ∧ w' = w := by
  have H0 := hide (pw_small a h)
  have H1 := hide (pw_start a n)
  have H2 := hide (pw_last a n hn)
  go_enter Tryd.func67, Tryd.ntmps67
  go_wp2
  go_loop [0, 5, 7] (fun x s i => ∃ k : Nat, k ≤ 10 ∧ i = .int .i64 k ∧ s = .int .i64 (Gf.pw a (n % 2 ^ k) : Nat) ∧ x = .int .i64 (Gf.pw a (2 ^ k) : Nat)) (fun _ _ i => 10 - (intOf i).toNat)
  case atStart => exact ⟨0, by omega, rfl, by rw [← unhide H1]; rfl, by rw [← unhide H0]⟩
  case round =>
    obtain ⟨k, hk, rfl, rfl, rfl⟩ := hrel
    have hx := Gf.pw_lt a (2 ^ k)
    have hs := Gf.pw_lt a (n % 2 ^ k)
    have HQ := hide (Gf.pw_sq k a)
    by_cases hlt : k < 10
    · have hlt' : (k : Int) < 10 := by omega
      by_cases hbit : n / 2 ^ k % 2 = 1
      · have ht := bit_true hbit
        have HS := hide (Gf.pw_bit_one (a := a) hbit)
        clear hbit
        go_wp2_with (go_at_call 72; refine (product_any _ _ _ (by omega) (by omega)).mono ?_; rintro e w' ⟨rfl, rfl⟩)
        go_round
        case rel => exact ⟨k + 1, by omega, by go_num, by rw [unhide HS], by rw [unhide HQ]⟩
        case measure => simp [intOf]; omega
      · have ht := bit_false hbit
        have HS := hide (Gf.pw_bit_none (a := a) hbit)
        clear hbit
        go_wp2_with (go_at_call 72; refine (product_any _ _ _ (by omega) (by omega)).mono ?_; rintro e w' ⟨rfl, rfl⟩)
        go_round
        case rel => exact ⟨k + 1, by omega, by go_num, by rw [unhide HS], by rw [unhide HQ]⟩
        case measure => simp [intOf]; omega
    · have hlt' : ¬ (k : Int) < 10 := by omega
      obtain rfl : k = 10 := by omega
      go_wp2
      go_ret
      exact ⟨ret_int (by rw [unhide H2]), rfl⟩

/-- is it a number of the field? -/
def inB (a : Int) : Bool := decide (0 ≤ a) && decide (a < 256)
theorem inB_nat {a : Nat} (h : a < 256) : inB a = true := by simp [inB]; omega
theorem inB_out {a : Int} (h : a < 0 ∨ 256 ≤ a) : inB a = false := by simp [inB]; omega
set_option maxRecDepth 100000 in
theorem inField_yes (a : Int) (w : World) (h : 0 ≤ a) (h' : a < 256) : Calls Tryd.prog 66 #[.int .i64 a] w fun e w' => e = .returned (.bool true) ∧ w' = w := by
  go_enter Tryd.func66, Tryd.ntmps66
  go_wp2
  go_ret
  exact ⟨rfl, rfl⟩
set_option maxRecDepth 100000 in
theorem inField_no (a : Int) (w : World) (h : a < 0 ∨ 256 ≤ a) : Calls Tryd.prog 66 #[.int .i64 a] w fun e w' => e = .returned (.bool false) ∧ w' = w := by
  rcases h with h | h
  · have h' : ¬ 0 ≤ a := by omega
    go_enter Tryd.func66, Tryd.ntmps66
    go_wp2
    go_ret
    exact ⟨rfl, rfl⟩
  · have h' : ¬ a < 256 := by omega
    have h'' : 0 ≤ a := by omega
    go_enter Tryd.func66, Tryd.ntmps66
    go_wp2
    go_ret
    exact ⟨rfl, rfl⟩

/-! ### the four faces -/
set_option maxRecDepth 100000 in
theorem gfAdd_yes (a b : Nat) (w : World) (h : a < 256) (hb : b < 256) : Calls Tryd.prog 70 #[.int .i64 a, .int .i64 b] w fun e w' => e = .returned (.tuple #[.int .i64 (a ^^^ b : Nat), .int .i64 0]) ∧ w' = w := by
  have HX := hide (xor_small _ _ h hb)
  go_enter Tryd.func70, Tryd.ntmps70
  go_wp2_with (go_at_call 66; refine (inField_yes _ _ (by omega) (by omega)).mono ?_; rintro e w' ⟨rfl, rfl⟩)
  go_ret2
  exact ⟨ret_two (unhide HX) rfl, rfl⟩
set_option maxRecDepth 100000 in
theorem gfAdd_no (a b : Int) (w : World) (h : (a < 0 ∨ 256 ≤ a) ∨ (b < 0 ∨ 256 ≤ b)) : Calls Tryd.prog 70 #[.int .i64 a, .int .i64 b] w fun e w' => e = .returned (.tuple #[.int .i64 0, .int .i64 100]) ∧ w' = w := by
  by_cases ha : a < 0 ∨ 256 ≤ a
  · have HA := hide ha
    clear ha h
    go_enter Tryd.func70, Tryd.ntmps70
    go_wp2_with (go_at_call 66; refine (inField_no _ _ (unhide HA)).mono ?_; rintro e w' ⟨rfl, rfl⟩)
    go_ret2
    exact ⟨rfl, rfl⟩
  · have HB := hide (h.resolve_left ha)
    have h1 : 0 ≤ a := by omega
    have h2 : a < 256 := by omega
    clear ha h
    go_enter Tryd.func70, Tryd.ntmps70
    go_wp2_with fail
    refine (inField_yes _ _ h1 h2).mono ?_
    rintro e w' ⟨rfl, rfl⟩
    go_wp2_with fail
    refine (inField_no _ _ (unhide HB)).mono ?_
    rintro e w' ⟨rfl, rfl⟩
    go_wp2
    go_ret2
    exact ⟨rfl, rfl⟩
set_option maxRecDepth 100000 in
theorem gfMul_yes (a b : Nat) (w : World) (h : a < 256) (hb : b < 256) : Calls Tryd.prog 69 #[.int .i64 a, .int .i64 b] w fun e w' => e = .returned (.tuple #[.int .i64 (Gf.mul a b : Nat), .int .i64 0]) ∧ w' = w := by
  go_enter Tryd.func69, Tryd.ntmps69
  go_wp2_with (first | (go_at_call 66; refine (inField_yes _ _ (by omega) (by omega)).mono ?_; rintro e w' ⟨rfl, rfl⟩) | (go_at_call 72; refine (product_any _ _ _ h hb).mono ?_; rintro e w' ⟨rfl, rfl⟩))
  go_ret2
  exact ⟨rfl, rfl⟩
set_option maxRecDepth 100000 in
theorem gfMul_no (a b : Int) (w : World) (h : (a < 0 ∨ 256 ≤ a) ∨ (b < 0 ∨ 256 ≤ b)) : Calls Tryd.prog 69 #[.int .i64 a, .int .i64 b] w fun e w' => e = .returned (.tuple #[.int .i64 0, .int .i64 100]) ∧ w' = w := by
  by_cases ha : a < 0 ∨ 256 ≤ a
  · have HA := hide ha
    clear ha h
    go_enter Tryd.func69, Tryd.ntmps69
    go_wp2_with (go_at_call 66; refine (inField_no _ _ (unhide HA)).mono ?_; rintro e w' ⟨rfl, rfl⟩)
    go_ret2
    exact ⟨rfl, rfl⟩
  · have HB := hide (h.resolve_left ha)
    have h1 : 0 ≤ a := by omega
    have h2 : a < 256 := by omega
    clear ha h
    go_enter Tryd.func69, Tryd.ntmps69
    go_wp2_with fail
    refine (inField_yes _ _ h1 h2).mono ?_
    rintro e w' ⟨rfl, rfl⟩
    go_wp2_with fail
    refine (inField_no _ _ (unhide HB)).mono ?_
    rintro e w' ⟨rfl, rfl⟩
    go_wp2
    go_ret2
    exact ⟨rfl, rfl⟩
set_option maxRecDepth 100000 in
theorem gfInv_yes (a : Nat) (w : World) (h : a < 256) (h0 : a ≠ 0) : Calls Tryd.prog 68 #[.int .i64 a] w fun e w' => e = .returned (.tuple #[.int .i64 (Gf.inv a : Nat), .int .i64 0]) ∧ w' = w := by
  have hz : ((a : Int) == 0) = false := by simp; omega
  go_enter Tryd.func68, Tryd.ntmps68
  go_wp2_with (first | (go_at_call 66; refine (inField_yes _ _ (by omega) (by omega)).mono ?_; rintro e w' ⟨rfl, rfl⟩) | (go_at_call 67; refine (power_any _ 254 _ h (by decide)).mono ?_; rintro e w' ⟨rfl, rfl⟩))
  go_ret2
  exact ⟨rfl, rfl⟩
set_option maxRecDepth 100000 in
theorem gfInv_zero (w : World) : Calls Tryd.prog 68 #[.int .i64 0] w fun e w' => e = .returned (.tuple #[.int .i64 0, .int .i64 101]) ∧ w' = w := by
  go_enter Tryd.func68, Tryd.ntmps68
  go_wp2_with (go_at_call 66; refine (inField_yes _ _ (by omega) (by omega)).mono ?_; rintro e w' ⟨rfl, rfl⟩)
  go_ret2
  exact ⟨rfl, rfl⟩
set_option maxRecDepth 100000 in
theorem gfInv_no (a : Int) (w : World) (h : a < 0 ∨ 256 ≤ a) : Calls Tryd.prog 68 #[.int .i64 a] w fun e w' => e = .returned (.tuple #[.int .i64 0, .int .i64 100]) ∧ w' = w := by
  have HA := hide h
  clear h
  go_enter Tryd.func68, Tryd.ntmps68
  go_wp2_with (go_at_call 66; refine (inField_no _ _ (unhide HA)).mono ?_; rintro e w' ⟨rfl, rfl⟩)
  go_ret2
  exact ⟨rfl, rfl⟩
set_option maxRecDepth 100000 in
theorem gfPow_yes (a n : Nat) (w : World) (h : a < 256) (hn : n ≤ 1000) : Calls Tryd.prog 47 #[.int .i64 a, .int .i64 n] w fun e w' => e = .returned (.tuple #[.int .i64 (Gf.pw a n : Nat), .int .i64 0]) ∧ w' = w := by
  have h1 : ¬ (n : Int) < 0 := by omega
  have h2 : ¬ (1000 : Int) < n := by omega
  go_enter Tryd.func47, Tryd.ntmps47
  go_wp2_with (first | (go_at_call 66; refine (inField_yes _ _ (by omega) (by omega)).mono ?_; rintro e w' ⟨rfl, rfl⟩) | (go_at_call 67; refine (power_any _ _ _ h hn).mono ?_; rintro e w' ⟨rfl, rfl⟩))
  go_ret2
  exact ⟨rfl, rfl⟩
set_option maxRecDepth 100000 in
theorem gfPow_no (a n : Int) (w : World) (h : (a < 0 ∨ 256 ≤ a) ∨ (n < 0 ∨ 1000 < n)) : Calls Tryd.prog 47 #[.int .i64 a, .int .i64 n] w fun e w' => e = .returned (.tuple #[.int .i64 0, .int .i64 100]) ∧ w' = w := by
  by_cases ha : a < 0 ∨ 256 ≤ a
  · have HA := hide ha
    clear ha h
    go_enter Tryd.func47, Tryd.ntmps47
    go_wp2_with (go_at_call 66; refine (inField_no _ _ (unhide HA)).mono ?_; rintro e w' ⟨rfl, rfl⟩)
    go_ret2
    exact ⟨rfl, rfl⟩
  · have hb := h.resolve_left ha
    have h1 : 0 ≤ a := by omega
    have h2 : a < 256 := by omega
    clear ha h
    rcases hb with hb | hb
    · go_enter Tryd.func47, Tryd.ntmps47
      go_wp2_with (go_at_call 66; refine (inField_yes _ _ h1 h2).mono ?_; rintro e w' ⟨rfl, rfl⟩)
      go_ret2
      exact ⟨rfl, rfl⟩
    · have h3 : ¬ n < 0 := by omega
      go_enter Tryd.func47, Tryd.ntmps47
      go_wp2_with (go_at_call 66; refine (inField_yes _ _ h1 h2).mono ?_; rintro e w' ⟨rfl, rfl⟩)
      go_ret2
      exact ⟨rfl, rfl⟩
end Go.Proofs.YtfeepmjkamdldaaDoor
