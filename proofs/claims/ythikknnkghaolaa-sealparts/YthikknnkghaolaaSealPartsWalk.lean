/- SealParts: the seal of a text behind another one. -/
import Derived.Test.YthikknnkghaolaaAwake9
namespace Go.Proofs.Ythikknnkghaolaa
open Go.RowKit
set_option linter.unusedVariables false
set_option linter.unusedSimpArgs false
theorem byts_append (s t : ByteArray) : byts (s ++ t) = byts s ++ byts t := by
  simp [byts]
def pw (x k : Nat) : Nat := x * 65537 ^ k % 2147483647
theorem pw_zero {x : Nat} (h : x < 2147483647) : pw x 0 = x := by simp [pw]; omega
theorem pw_succ (x k : Nat) : pw x k * 65537 % 2147483647 = pw x (k + 1) := by
  unfold pw
  rw [Nat.mod_mul_mod, Nat.pow_succ, Nat.mul_assoc]
theorem pw_lt (x k : Nat) : pw x k < 2147483647 := Nat.mod_lt _ (by decide)
theorem of_two (s t : ByteArray) : Seal.of (byts (s ++ t)) = (Seal.of (byts s) + pw (Seal.of (byts t)) s.size) % 2147483647 := by
  rw [byts_append, Seal.of_append, byts_len]
  unfold pw
  rw [Nat.add_mod_mod]
set_option maxRecDepth 100000 in
set_option maxHeartbeats 1000000 in
theorem SealParts_walk {w : World} (s : ByteArray) (hs : s.size ≤ 140737488351232) (t : ByteArray) (ht : t.size ≤ 140737488351232) :
    Calls Try.prog 5 #[.string s, .string t] w fun e w' => e = .returned (.bool true) ∧ Below w.heap.size w w' := by
  by_cases hlong : 2000 < s.size ∨ 2000 < t.size
  · have hcase : (2000 : Int) < s.size ∨ (¬ (2000 : Int) < s.size ∧ (2000 : Int) < t.size) := by omega
    clear hlong
    rcases hcase with hc | ⟨hc, hc'⟩
    all_goals
      go_enter Try.func5, Try.ntmps5
      go_wp2_with fail
      refine (awake9_any _).mono ?_
      rintro e w5 ⟨rfl, rfl⟩
      go_wp2
      go_ret
      exact ⟨rfl, Below.refl _ _⟩
  · have hc1 : ¬ (2000 : Int) < s.size := by omega
    have hc2 : ¬ (2000 : Int) < t.size := by omega
    clear hlong
    go_enter Try.func5, Try.ntmps5
    go_wp2_with fail
    refine (awake9_any _).mono ?_
    rintro e w5 ⟨rfl, rfl⟩
    go_wp2_with fail
    refine (sealOf_any t _ ht).mono ?_
    rintro e w6 ⟨rfl, rfl⟩
    obtain ⟨x, ex⟩ : ∃ x, x = Seal.of (byts t) := ⟨_, rfl⟩
    have hx : x < 2147483647 := by rw [ex]; exact Seal.of_lt _
    have hx2 : decide ((2147483647 : Int) ≤ (x : Int)) = false := decide_eq_false (by omega)
    have hx3 : decide ((x : Int) < 0) = false := decide_eq_false (by omega)
    have HX := hide hx
    clear hx
    have EX := hide ex
    rw [← ex]
    clear ex
    go_wp2
    go_loop [5, 6] (fun xv iv => ∃ k : Nat, k ≤ s.size ∧ iv = .int .i64 k ∧ xv = .int .i64 ((pw x k : Nat) : Int)) (fun _ iv => s.size - (intOf iv).toNat)
    case atStart => exact ⟨0, by omega, rfl, by rw [pw_zero (unhide HX)]⟩
    case round =>
      obtain ⟨k, hk, rfl, rfl⟩ := hrel
      have hp := pw_lt x k
      have hs1 := pw_succ x k
      obtain ⟨y, ey⟩ : ∃ y, y = pw x k := ⟨_, rfl⟩
      rw [← ey] at hp hs1 ⊢
      have HS1 := hide hs1
      have EY := hide ey
      clear ey hs1
      by_cases hlt : k < s.size
      · have hlt' : (k : Int) < s.size := by omega
        go_wp2
        go_round
        case rel => exact ⟨k + 1, by omega, by go_num, by rw [← unhide HS1]; go_num⟩
        case measure => simp [intOf]; omega
      · have hlt' : ¬ (k : Int) < s.size := by omega
        obtain rfl : k = s.size := by omega
        have h2 := of_two s t
        rw [← unhide EX, ← unhide EY] at h2
        obtain ⟨a, ea⟩ : ∃ a, a = Seal.of (byts s) := ⟨_, rfl⟩
        have ha : a < 2147483647 := by rw [ea]; exact Seal.of_lt _
        rw [← ea] at h2
        have H2 := hide h2
        have EA := hide ea
        clear h2 ea
        obtain ⟨Z, eZ⟩ : ∃ Z, Z = (a + y) % 2147483647 := ⟨_, rfl⟩
        have hZ : ((a : Int) + (y : Int)) % 2147483647 = (Z : Int) := by omega
        rw [← eZ] at H2
        clear eZ
        go_wp2_with fail
        refine (sealOf_any (s ++ t) _ (by rw [ByteArray.size_append]; omega)).mono ?_
        rintro e w7 ⟨rfl, rfl⟩
        rw [unhide H2]
        go_wp2_with fail
        refine (sealOf_any s _ hs).mono ?_
        rintro e w8 ⟨rfl, rfl⟩
        rw [← unhide EA]
        go_wp2
        go_ret
        exact ⟨rfl, Below.refl _ _⟩
end Go.Proofs.Ythikknnkghaolaa
