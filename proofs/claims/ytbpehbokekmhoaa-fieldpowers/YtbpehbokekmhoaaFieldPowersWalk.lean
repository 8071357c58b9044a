/- The Go text of the statement FieldPowers returns true, whatever the numbers. -/
import Derived.Test.YtbpehbokekmhoaaFieldSquaresWalk
namespace Go.Proofs.Ytbpehbokekmhoaa
open Go.RowKit
theorem gfPow2 (n : Nat) (m : Int) (w : World) (hm : m = n) (hn : n ≤ 1000) : Calls Try.prog 14 #[.int .i64 2, .int .i64 m] w fun e w' => e = .returned (.tuple #[.int .i64 (Gf.pw 2 n : Nat), .int .i64 0]) ∧ w' = w := by
  rw [hm]; exact gfPow_yes 2 n w (by decide) hn
theorem mod255 (a : Int) : ∃ i : Nat, i < 255 ∧ wrap64 ((IntKind.u64.wrap a).tmod 255) = (i : Int) := by
  have h0 : 0 ≤ IntKind.u64.wrap a := wrap_u64_nonneg a
  refine ⟨(IntKind.u64.wrap a % 255).toNat, by omega, ?_⟩
  rw [Int.tmod_eq_emod_of_nonneg h0]
  unfold wrap64
  omega
theorem pw2_beq {i j : Nat} (hi : i < 255) (hj : j < 255) : (((Gf.pw 2 i : Nat) : Int) == ((Gf.pw 2 j : Nat) : Int)) = ((i : Int) == (j : Int)) := by
  by_cases h : i = j
  · rw [h]; simp
  · have h' : ¬ Gf.pw 2 i = Gf.pw 2 j := fun e => h ((Gf.pw2_inj hi hj).1 e)
    have e1 : (((Gf.pw 2 i : Nat) : Int) == ((Gf.pw 2 j : Nat) : Int)) = false := by simp; omega
    have e2 : ((i : Int) == (j : Int)) = false := by simp; omega
    rw [e1, e2]
set_option maxRecDepth 100000 in
set_option maxHeartbeats 2000000 in
theorem FieldPowers_walk (a0 a1 : Int) (_ : (Lit.int .i64 a0).wf = true) (_ : (Lit.int .i64 a1).wf = true) (w : World) :
    Calls Try.prog 5 #[.int .i64 a0, .int .i64 a1] w fun e w' => e = .returned (.bool true) ∧ Grown w w' := by
  obtain ⟨i, hi, ei⟩ := mod255 a0
  obtain ⟨j, hj, ej⟩ := mod255 a1
  have b1 := Gf.pw_lt 2 i
  have b2 := Gf.pw_lt 2 j
  have t1 := beq_nat (Gf.pw_add 2 i j).symm
  have t2 : (((Gf.pw 2 (i + 255) : Nat) : Int) == ((Gf.pw 2 i : Nat) : Int)) = true := by
    rw [Gf.pw_add, Gf.pw_255 (by decide) (by decide), Gf.mul_one b1]; simp
  have t3 : (((Gf.pw 2 i : Nat) : Int) != 0) = true := by
    have := Gf.pw_ne (a := 2) (by decide) (by decide) i
    simp; exact this
  have t4 := pw2_beq hi hj
  go_enter Try.func5, Try.ntmps5
  go_wp2_with (go_at_call 17; refine (awake_any _).mono ?_; rintro e w' ⟨rfl, rfl⟩)
  refine (gfPow2 i _ _ rfl (by omega)).mono ?_
  rintro e w' ⟨rfl, rfl⟩
  go_wp2_with fail
  refine (gfPow2 j _ _ rfl (by omega)).mono ?_
  rintro e w' ⟨rfl, rfl⟩
  go_wp2_with fail
  refine (gfPow2 (i + j) _ _ (by omega) (by omega)).mono ?_
  rintro e w' ⟨rfl, rfl⟩
  go_wp2_with fail
  refine (gfPow2 (i + 255) _ _ (by omega) (by omega)).mono ?_
  rintro e w' ⟨rfl, rfl⟩
  go_wp2_with (first | (go_at_call 10; refine (gfMul_yes _ _ _ (by omega) (by omega)).mono ?_; rintro e w' ⟨rfl, rfl⟩) | (go_at_call 16; refine (num_any _ _).mono ?_; rintro e w' ⟨rfl, rfl⟩))
  go_ret
  exact ⟨rfl, Grown.refl _⟩
end Go.Proofs.Ytbpehbokekmhoaa
