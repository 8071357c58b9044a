/- The Go text of the statement FieldSquares returns true, whatever the numbers. -/
import Derived.Test.YtbpehbokekmhoaaAwake1
namespace Go.Proofs.Ytbpehbokekmhoaa
open Go.RowKit
theorem mask255 (a : Int) : ∃ x : Nat, x < 256 ∧ bits .and .i64 a 255 = (x : Int) := ⟨(a % 256).toNat, by omega, by rw [and_255]; omega⟩
theorem beq_nat {a b : Nat} (h : a = b) : ((a : Int) == (b : Int)) = true := by rw [h]; simp
set_option maxRecDepth 100000 in
set_option maxHeartbeats 1000000 in
theorem FieldSquares_walk (a0 a1 : Int) (_ : (Lit.int .i64 a0).wf = true) (_ : (Lit.int .i64 a1).wf = true) (w : World) :
    Calls Try.prog 6 #[.int .i64 a0, .int .i64 a1] w fun e w' => e = .returned (.bool true) ∧ Grown w w' := by
  obtain ⟨x, hx, ex⟩ := mask255 a0
  obtain ⟨y, hy, ey⟩ := mask255 a1
  have b1 := Gf.xor_lt hx hy
  have b2 := Gf.mul_lt x x
  have b3 := Gf.mul_lt y y
  have t1 := beq_nat (Gf.sq_xor x y)
  have t2 := beq_nat (Gf.pw_256 hx)
  go_enter Try.func6, Try.ntmps6
  go_wp2_with (first | (go_at_call 17; refine (awake_any _).mono ?_; rintro e w' ⟨rfl, rfl⟩) | (go_at_call 8; refine (gfAdd_yes _ _ _ (by omega) (by omega)).mono ?_; rintro e w' ⟨rfl, rfl⟩) | (go_at_call 10; refine (gfMul_yes _ _ _ (by omega) (by omega)).mono ?_; rintro e w' ⟨rfl, rfl⟩) | (go_at_call 14; refine (gfPow_yes _ 256 _ (by omega) (by omega)).mono ?_; rintro e w' ⟨rfl, rfl⟩) | (go_at_call 16; refine (num_any _ _).mono ?_; rintro e w' ⟨rfl, rfl⟩))
  go_ret
  exact ⟨rfl, Grown.refl _⟩
end Go.Proofs.Ytbpehbokekmhoaa
