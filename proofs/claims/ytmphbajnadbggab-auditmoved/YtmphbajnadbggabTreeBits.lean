/- Package tree: the side's length, by math/bits. -/
import Derived.Test.YtmphbajnadbggabTreeRef
import Derived.Laws.MathBits
namespace Go.Proofs.Ytmphbajnadbggab
open Go.RowKit
set_option linter.unusedVariables false
set_option linter.unusedSimpArgs false
/-- how many bits a number has -/
def blenN (x : Nat) : Nat := if x = 0 then 0 else Nat.log2 x + 1
set_option maxRecDepth 1000000 in
theorem lenTab (i : Nat) (h : i < 64) (q : i < (⟨#[0, 1, 2, 2, 3, 3, 3, 3, 4, 4, 4, 4, 4, 4, 4, 4, 5, 5, 5, 5, 5, 5, 5, 5, 5, 5, 5, 5, 5, 5, 5, 5, 6, 6, 6, 6, 6, 6, 6, 6, 6, 6, 6, 6, 6, 6, 6, 6, 6, 6, 6, 6, 6, 6, 6, 6, 6, 6, 6, 6, 6, 6, 6, 6, 7, 7, 7, 7, 7, 7, 7, 7, 7, 7, 7, 7, 7, 7, 7, 7, 7, 7, 7, 7, 7, 7, 7, 7, 7, 7, 7, 7, 7, 7, 7, 7, 7, 7, 7, 7, 7, 7, 7, 7, 7, 7, 7, 7, 7, 7, 7, 7, 7, 7, 7, 7, 7, 7, 7, 7, 7, 7, 7, 7, 7, 7, 7, 7, 8, 8, 8, 8, 8, 8, 8, 8, 8, 8, 8, 8, 8, 8, 8, 8, 8, 8, 8, 8, 8, 8, 8, 8, 8, 8, 8, 8, 8, 8, 8, 8, 8, 8, 8, 8, 8, 8, 8, 8, 8, 8, 8, 8, 8, 8, 8, 8, 8, 8, 8, 8, 8, 8, 8, 8, 8, 8, 8, 8, 8, 8, 8, 8, 8, 8, 8, 8, 8, 8, 8, 8, 8, 8, 8, 8, 8, 8, 8, 8, 8, 8, 8, 8, 8, 8, 8, 8, 8, 8, 8, 8, 8, 8, 8, 8, 8, 8, 8, 8, 8, 8, 8, 8, 8, 8, 8, 8, 8, 8, 8, 8, 8, 8, 8, 8, 8, 8, 8, 8, 8, 8, 8, 8, 8, 8, 8, 8]⟩ : ByteArray).size) : ((⟨#[0, 1, 2, 2, 3, 3, 3, 3, 4, 4, 4, 4, 4, 4, 4, 4, 5, 5, 5, 5, 5, 5, 5, 5, 5, 5, 5, 5, 5, 5, 5, 5, 6, 6, 6, 6, 6, 6, 6, 6, 6, 6, 6, 6, 6, 6, 6, 6, 6, 6, 6, 6, 6, 6, 6, 6, 6, 6, 6, 6, 6, 6, 6, 6, 7, 7, 7, 7, 7, 7, 7, 7, 7, 7, 7, 7, 7, 7, 7, 7, 7, 7, 7, 7, 7, 7, 7, 7, 7, 7, 7, 7, 7, 7, 7, 7, 7, 7, 7, 7, 7, 7, 7, 7, 7, 7, 7, 7, 7, 7, 7, 7, 7, 7, 7, 7, 7, 7, 7, 7, 7, 7, 7, 7, 7, 7, 7, 7, 8, 8, 8, 8, 8, 8, 8, 8, 8, 8, 8, 8, 8, 8, 8, 8, 8, 8, 8, 8, 8, 8, 8, 8, 8, 8, 8, 8, 8, 8, 8, 8, 8, 8, 8, 8, 8, 8, 8, 8, 8, 8, 8, 8, 8, 8, 8, 8, 8, 8, 8, 8, 8, 8, 8, 8, 8, 8, 8, 8, 8, 8, 8, 8, 8, 8, 8, 8, 8, 8, 8, 8, 8, 8, 8, 8, 8, 8, 8, 8, 8, 8, 8, 8, 8, 8, 8, 8, 8, 8, 8, 8, 8, 8, 8, 8, 8, 8, 8, 8, 8, 8, 8, 8, 8, 8, 8, 8, 8, 8, 8, 8, 8, 8, 8, 8, 8, 8, 8, 8, 8, 8, 8, 8, 8, 8, 8, 8]⟩ : ByteArray)[i]'q).toNat = blenN i := by
  have hb : i < 256 := by omega
  have e := Go.len8tab_get i q
  exact e.trans (by unfold Go.bitLen blenN; rfl)
set_option maxRecDepth 1000000 in
set_option maxHeartbeats 4000000 in
theorem blenN_lt {x : Nat} (h : x < 64) : blenN x < 7 := by
  unfold blenN
  by_cases h0 : x = 0
  · rw [if_pos h0]; omega
  · rw [if_neg h0]
    have : Nat.log2 x < 6 := (Nat.log2_lt (by omega)).2 (by omega)
    omega
theorem blenN_half {n : Nat} (h : 1 ≤ n) : blenN (n / 2) = Nat.log2 n := by
  unfold blenN
  by_cases h1 : n = 1
  · subst h1; rfl
  · rw [if_neg (by omega), Nat.log2_def n, if_pos (by omega)]
set_option maxRecDepth 1000000 in
set_option maxHeartbeats 4000000 in
theorem bitsLen64_any (x : Int) (w : World) (h1 : 0 ≤ x) (h : x < 64) : Calls Try.prog 52 #[.int .u64 x] w fun e w' => e = .returned (.int .i64 ((blenN x.toNat : Nat) : Int)) ∧ w' = w := by
  have t1 : decide ((4294967296 : Int) ≤ x) = false := decide_eq_false (by omega)
  have t2 : decide ((65536 : Int) ≤ x) = false := decide_eq_false (by omega)
  have t3 : decide ((256 : Int) ≤ x) = false := decide_eq_false (by omega)
  have hq : blenN x.toNat < 7 := blenN_lt (by omega)
  go_enter Try.func52, Try.ntmps52
  go_upto_region 10 with fail
  go_wp2
  go_ret
  refine ⟨?_, rfl⟩
  refine ret_int ?_
  rw [lenTab x.toNat (by omega)]
  obtain ⟨L, eL⟩ : ∃ L, L = blenN x.toNat := ⟨_, rfl⟩
  rw [← eL] at hq ⊢
  clear eL
  rcases (show L = 0 ∨ L = 1 ∨ L = 2 ∨ L = 3 ∨ L = 4 ∨ L = 5 ∨ L = 6 by omega) with rfl | rfl | rfl | rfl | rfl | rfl | rfl <;> decide +kernel
set_option maxRecDepth 100000 in
set_option maxHeartbeats 1000000 in
theorem bitsLen_any (x : Int) (w : World) (h1 : 0 ≤ x) (h : x < 64) : Calls Try.prog 50 #[.int .u64 x] w fun e w' => e = .returned (.int .i64 ((blenN x.toNat : Nat) : Int)) ∧ w' = w := by
  go_enter Try.func50, Try.ntmps50
  go_wp2_with fail
  refine (bitsLen64_any x w h1 h).mono ?_
  rintro e w1 ⟨rfl, rfl⟩
  go_wp2
  go_ret
  exact ⟨rfl, rfl⟩
set_option maxRecDepth 100000 in
set_option maxHeartbeats 1000000 in
theorem firstSide_any (n : Nat) (w : World) (h2 : 2 ≤ n) (h : n ≤ 64) : Calls Try.prog 49 #[.int .i64 n] w fun e w' => e = .returned (.int .i64 (Tree.half n : Nat)) ∧ w' = w := by
  have hq : Nat.log2 (n - 1) < 6 := (Nat.log2_lt (by omega)).2 (by omega)
  have hn : (((n : Int) - 1) / 2).toNat = (n - 1) / 2 := by omega
  have hl := bitsLen_any (((n : Int) - 1) / 2) w (by omega) (by omega)
  rw [hn, blenN_half (by omega)] at hl
  obtain ⟨L, eL⟩ : ∃ L, L = Nat.log2 (n - 1) := ⟨_, rfl⟩
  rw [← eL] at hq hl
  have eh : Tree.half n = 2 ^ L := by unfold Tree.half; rw [eL]
  rw [eh]
  have HL := hide hl
  clear hl eL eh hn
  go_enter Try.func49, Try.ntmps49
  go_wp2_with fail
  refine (unhide HL).mono ?_
  rintro e w1 ⟨rfl, rfl⟩
  go_wp2
  go_ret
  refine ⟨?_, rfl⟩
  refine ret_int ?_
  clear HL
  rcases (show L = 0 ∨ L = 1 ∨ L = 2 ∨ L = 3 ∨ L = 4 ∨ L = 5 by omega) with rfl | rfl | rfl | rfl | rfl | rfl <;> decide +kernel
end Go.Proofs.Ytmphbajnadbggab
