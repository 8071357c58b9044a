/- Package tree: the side's length, by math/bits. -/
import Derived.Test.YtkabldoaacajkaaTreeRef
import Derived.Laws.MathBits
namespace Go.Proofs.Ytkabldoaacajkaa
open Go.RowKit
set_option linter.unusedVariables false
set_option linter.unusedSimpArgs false
set_option maxRecDepth 1000000 in
theorem lenTab (i : Nat) (h0 : 1 ≤ i) (h : i < 64) (q : i < (⟨#[0, 1, 2, 2, 3, 3, 3, 3, 4, 4, 4, 4, 4, 4, 4, 4, 5, 5, 5, 5, 5, 5, 5, 5, 5, 5, 5, 5, 5, 5, 5, 5, 6, 6, 6, 6, 6, 6, 6, 6, 6, 6, 6, 6, 6, 6, 6, 6, 6, 6, 6, 6, 6, 6, 6, 6, 6, 6, 6, 6, 6, 6, 6, 6, 7, 7, 7, 7, 7, 7, 7, 7, 7, 7, 7, 7, 7, 7, 7, 7, 7, 7, 7, 7, 7, 7, 7, 7, 7, 7, 7, 7, 7, 7, 7, 7, 7, 7, 7, 7, 7, 7, 7, 7, 7, 7, 7, 7, 7, 7, 7, 7, 7, 7, 7, 7, 7, 7, 7, 7, 7, 7, 7, 7, 7, 7, 7, 7, 8, 8, 8, 8, 8, 8, 8, 8, 8, 8, 8, 8, 8, 8, 8, 8, 8, 8, 8, 8, 8, 8, 8, 8, 8, 8, 8, 8, 8, 8, 8, 8, 8, 8, 8, 8, 8, 8, 8, 8, 8, 8, 8, 8, 8, 8, 8, 8, 8, 8, 8, 8, 8, 8, 8, 8, 8, 8, 8, 8, 8, 8, 8, 8, 8, 8, 8, 8, 8, 8, 8, 8, 8, 8, 8, 8, 8, 8, 8, 8, 8, 8, 8, 8, 8, 8, 8, 8, 8, 8, 8, 8, 8, 8, 8, 8, 8, 8, 8, 8, 8, 8, 8, 8, 8, 8, 8, 8, 8, 8, 8, 8, 8, 8, 8, 8, 8, 8, 8, 8, 8, 8, 8, 8, 8, 8, 8, 8]⟩ : ByteArray).size) : ((⟨#[0, 1, 2, 2, 3, 3, 3, 3, 4, 4, 4, 4, 4, 4, 4, 4, 5, 5, 5, 5, 5, 5, 5, 5, 5, 5, 5, 5, 5, 5, 5, 5, 6, 6, 6, 6, 6, 6, 6, 6, 6, 6, 6, 6, 6, 6, 6, 6, 6, 6, 6, 6, 6, 6, 6, 6, 6, 6, 6, 6, 6, 6, 6, 6, 7, 7, 7, 7, 7, 7, 7, 7, 7, 7, 7, 7, 7, 7, 7, 7, 7, 7, 7, 7, 7, 7, 7, 7, 7, 7, 7, 7, 7, 7, 7, 7, 7, 7, 7, 7, 7, 7, 7, 7, 7, 7, 7, 7, 7, 7, 7, 7, 7, 7, 7, 7, 7, 7, 7, 7, 7, 7, 7, 7, 7, 7, 7, 7, 8, 8, 8, 8, 8, 8, 8, 8, 8, 8, 8, 8, 8, 8, 8, 8, 8, 8, 8, 8, 8, 8, 8, 8, 8, 8, 8, 8, 8, 8, 8, 8, 8, 8, 8, 8, 8, 8, 8, 8, 8, 8, 8, 8, 8, 8, 8, 8, 8, 8, 8, 8, 8, 8, 8, 8, 8, 8, 8, 8, 8, 8, 8, 8, 8, 8, 8, 8, 8, 8, 8, 8, 8, 8, 8, 8, 8, 8, 8, 8, 8, 8, 8, 8, 8, 8, 8, 8, 8, 8, 8, 8, 8, 8, 8, 8, 8, 8, 8, 8, 8, 8, 8, 8, 8, 8, 8, 8, 8, 8, 8, 8, 8, 8, 8, 8, 8, 8, 8, 8, 8, 8, 8, 8, 8, 8, 8, 8]⟩ : ByteArray)[i]'q).toNat = Nat.log2 i + 1 := by
  have hb : i < 256 := by omega
  have e := Go.len8tab_get i q
  exact e.trans (by unfold Go.bitLen; rw [if_neg (by omega)])
set_option maxRecDepth 1000000 in
set_option maxHeartbeats 4000000 in
theorem bitsLen64_any (x : Int) (w : World) (h1 : 1 ≤ x) (h : x < 64) : Calls Try.prog 37 #[.int .u64 x] w fun e w' => e = .returned (.int .i64 ((Nat.log2 x.toNat + 1 : Nat) : Int)) ∧ w' = w := by
  have t1 : decide ((4294967296 : Int) ≤ x) = false := decide_eq_false (by omega)
  have t2 : decide ((65536 : Int) ≤ x) = false := decide_eq_false (by omega)
  have t3 : decide ((256 : Int) ≤ x) = false := decide_eq_false (by omega)
  have h0 : 0 ≤ x := by omega
  have hq : Nat.log2 x.toNat < 6 := (Nat.log2_lt (by omega)).2 (by omega)
  go_enter Try.func37, Try.ntmps37
  go_upto_region 10 with fail
  go_wp2
  go_ret
  refine ⟨?_, rfl⟩
  refine ret_int ?_
  rw [lenTab x.toNat (by omega) (by omega)]
  obtain ⟨L, eL⟩ : ∃ L, L = Nat.log2 x.toNat := ⟨_, rfl⟩
  rw [← eL] at hq ⊢
  clear eL
  rcases (show L = 0 ∨ L = 1 ∨ L = 2 ∨ L = 3 ∨ L = 4 ∨ L = 5 by omega) with rfl | rfl | rfl | rfl | rfl | rfl <;> decide +kernel
set_option maxRecDepth 100000 in
set_option maxHeartbeats 1000000 in
theorem bitsLen_any (x : Int) (w : World) (h1 : 1 ≤ x) (h : x < 64) : Calls Try.prog 34 #[.int .u64 x] w fun e w' => e = .returned (.int .i64 ((Nat.log2 x.toNat + 1 : Nat) : Int)) ∧ w' = w := by
  go_enter Try.func34, Try.ntmps34
  go_wp2_with fail
  refine (bitsLen64_any x w h1 h).mono ?_
  rintro e w1 ⟨rfl, rfl⟩
  go_wp2
  go_ret
  exact ⟨rfl, rfl⟩
set_option maxRecDepth 100000 in
set_option maxHeartbeats 1000000 in
theorem firstSide_any (n : Nat) (w : World) (h2 : 2 ≤ n) (h : n ≤ 64) : Calls Try.prog 30 #[.int .i64 n] w fun e w' => e = .returned (.int .i64 (Tree.half n : Nat)) ∧ w' = w := by
  have hq : Nat.log2 (n - 1) < 6 := (Nat.log2_lt (by omega)).2 (by omega)
  have h1' : (1 : Int) ≤ (n : Int) - 1 := by omega
  have h64 : (n : Int) - 1 < 64 := by omega
  have hn : (((n : Int) - 1).toNat) = n - 1 := by omega
  have hl := bitsLen_any ((n : Int) - 1) w h1' h64
  rw [hn] at hl
  obtain ⟨L, eL⟩ : ∃ L, L = Nat.log2 (n - 1) := ⟨_, rfl⟩
  rw [← eL] at hq hl
  have eh : Tree.half n = 2 ^ L := by unfold Tree.half; rw [eL]
  rw [eh]
  have HL := hide hl
  clear hl eL eh hn
  go_enter Try.func30, Try.ntmps30
  go_wp2_with fail
  refine (unhide HL).mono ?_
  rintro e w1 ⟨rfl, rfl⟩
  go_wp2
  go_ret
  refine ⟨?_, rfl⟩
  refine ret_int ?_
  clear HL h64 h1'
  rcases (show L = 0 ∨ L = 1 ∨ L = 2 ∨ L = 3 ∨ L = 4 ∨ L = 5 by omega) with rfl | rfl | rfl | rfl | rfl | rfl <;> decide +kernel
end Go.Proofs.Ytkabldoaacajkaa
