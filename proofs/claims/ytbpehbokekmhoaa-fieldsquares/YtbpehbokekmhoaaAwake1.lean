/- 'awake' of the statements over package gf returns true. -/
import Derived.Test.YtbpehbokekmhoaaGfWalks
namespace Go.Proofs.Ytbpehbokekmhoaa
open Go.RowKit
theorem awk_mul (w : World) : Calls Try.prog 10 #[.int .i64 128, .int .i64 2] w fun e w' => e = .returned (.tuple #[.int .i64 29, .int .i64 0]) ∧ w' = w := by
  have h := gfMul_yes 128 2 w (by decide) (by decide)
  rw [show Gf.mul 128 2 = 29 from by decide +kernel] at h
  exact h
theorem awk_inv (w : World) : Calls Try.prog 12 #[.int .i64 2] w fun e w' => e = .returned (.tuple #[.int .i64 142, .int .i64 0]) ∧ w' = w := by
  have h := gfInv_yes 2 w (by decide) (by decide)
  rw [show Gf.inv 2 = 142 from by decide +kernel] at h
  exact h
theorem awk_pow (w : World) : Calls Try.prog 14 #[.int .i64 2, .int .i64 8] w fun e w' => e = .returned (.tuple #[.int .i64 29, .int .i64 0]) ∧ w' = w := by
  have h := gfPow_yes 2 8 w (by decide) (by decide)
  rw [show Gf.pw 2 8 = 29 from by decide +kernel] at h
  exact h
theorem awk_add (w : World) : Calls Try.prog 8 #[.int .i64 7, .int .i64 5] w fun e w' => e = .returned (.tuple #[.int .i64 2, .int .i64 0]) ∧ w' = w := by
  have h := gfAdd_yes 7 5 w (by decide) (by decide)
  rw [show 7 ^^^ 5 = 2 from by decide] at h
  exact h
set_option maxRecDepth 100000 in
theorem awake_any (w : World) : Calls Try.prog 17 #[] w fun e w' => e = .returned (.bool true) ∧ w' = w := by
  go_enter Try.func17, Try.ntmps17
  go_wp2_with fail
  refine (awk_mul _).mono ?_
  rintro e w' ⟨rfl, rfl⟩
  go_wp2_with fail
  refine (awk_inv _).mono ?_
  rintro e w' ⟨rfl, rfl⟩
  go_wp2_with fail
  refine (gfInv_zero _).mono ?_
  rintro e w' ⟨rfl, rfl⟩
  go_wp2_with fail
  refine (gfMul_no _ _ _ (by omega)).mono ?_
  rintro e w' ⟨rfl, rfl⟩
  go_wp2_with fail
  refine (awk_pow _).mono ?_
  rintro e w' ⟨rfl, rfl⟩
  go_wp2_with fail
  refine (awk_add _).mono ?_
  rintro e w' ⟨rfl, rfl⟩
  go_wp2_with (go_at_call 16; refine (num_any _ _).mono ?_; rintro e w' ⟨rfl, rfl⟩)
  go_ret
  exact ⟨rfl, rfl⟩
end Go.Proofs.Ytbpehbokekmhoaa
