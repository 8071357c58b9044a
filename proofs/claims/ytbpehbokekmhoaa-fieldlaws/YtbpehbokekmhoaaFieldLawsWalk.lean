/- The Go text of the statement FieldLaws returns true, whatever the numbers. -/
import Derived.Test.YtbpehbokekmhoaaFieldSquaresWalk
namespace Go.Proofs.Ytbpehbokekmhoaa
open Go.RowKit
set_option maxRecDepth 100000 in
set_option maxHeartbeats 2000000 in
theorem FieldLaws_walk (a0 a1 a2 : Int) (_ : (Lit.int .i64 a0).wf = true) (_ : (Lit.int .i64 a1).wf = true) (_ : (Lit.int .i64 a2).wf = true) (w : World) :
    Calls Try.prog 4 #[.int .i64 a0, .int .i64 a1, .int .i64 a2] w fun e w' => e = .returned (.bool true) ∧ Grown w w' := by
  obtain ⟨x, hx, ex⟩ := mask255 a0
  obtain ⟨y, hy, ey⟩ := mask255 a1
  obtain ⟨z, hz, ez⟩ := mask255 a2
  have b1 := Gf.xor_lt hy hz
  have b2 := Gf.mul_lt x y
  have b3 := Gf.mul_lt x z
  have b4 := Gf.mul_lt y z
  have b5 := Gf.inv_lt x
  have t1 := beq_nat (Gf.mul_comm x y)
  have t2 := beq_nat (Gf.mul_assoc x y z)
  have t3 := beq_nat (Gf.mul_xor_right x y z)
  by_cases h0 : x = 0
  · have hp : ¬ (0 : Int) < x := by omega
    have t4 : ((Gf.mul x y : Nat) : Int) = 0 := by rw [h0, Gf.zero_mul]; rfl
    have t5 : ((x : Int) == 0) = true := by rw [h0]; rfl
    have T4 := hide t4
    have t6 : (((Gf.mul x y : Nat) : Int) == 0) = true := by rw [t4]; rfl
    have H0 := hide h0
    clear h0 t4
    go_enter Try.func4, Try.ntmps4
    go_wp2_with (first | (go_at_call 17; refine (awake_any _).mono ?_; rintro e w' ⟨rfl, rfl⟩) | (go_at_call 8; refine (gfAdd_yes _ _ _ (by omega) (by omega)).mono ?_; rintro e w' ⟨rfl, rfl⟩) | (go_at_call 10; refine (gfMul_yes _ _ _ (by omega) (by omega)).mono ?_; rintro e w' ⟨rfl, rfl⟩) | (go_at_call 16; refine (num_any _ _).mono ?_; rintro e w' ⟨rfl, rfl⟩))
    all_goals
      go_ret
      exact ⟨rfl, Grown.refl _⟩
  · have hp : (0 : Int) < x := by omega
    have t4 := beq_nat (Gf.inv_mul_mul hx h0 hy)
    have t4' : (((Gf.mul (Gf.inv x) (Gf.mul x y) : Nat) : Int) != (y : Int)) = false := by rw [Gf.inv_mul_mul hx h0 hy]; simp
    have t5 : ((x : Int) == 0) = false := by simp; exact h0
    have t6 : (((Gf.mul x y : Nat) : Int) == 0) = ((y : Int) == 0) := by
      have := Gf.mul_eq_zero hx hy
      by_cases hy0 : y = 0
      · rw [hy0, Gf.mul_zero]
      · have h1 : Gf.mul x y ≠ 0 := fun e => by rcases this.1 e with q | q; exact h0 q; exact hy0 q
        have e1 : (((Gf.mul x y : Nat) : Int) == 0) = false := by simp; exact h1
        have e2 : ((y : Int) == 0) = false := by simp; exact hy0
        rw [e1, e2]
    have h0' : x ≠ 0 := h0
    clear h0
    go_enter Try.func4, Try.ntmps4
    go_wp2_with (first | (go_at_call 17; refine (awake_any _).mono ?_; rintro e w' ⟨rfl, rfl⟩) | (go_at_call 8; refine (gfAdd_yes _ _ _ (by omega) (by omega)).mono ?_; rintro e w' ⟨rfl, rfl⟩) | (go_at_call 10; refine (gfMul_yes _ _ _ (by omega) (by omega)).mono ?_; rintro e w' ⟨rfl, rfl⟩) | (go_at_call 16; refine (num_any _ _).mono ?_; rintro e w' ⟨rfl, rfl⟩) | (go_at_call 12; refine (gfInv_yes _ _ (by omega) h0').mono ?_; rintro e w' ⟨rfl, rfl⟩))
    all_goals
      go_ret
      exact ⟨rfl, Grown.refl _⟩
end Go.Proofs.Ytbpehbokekmhoaa
