/- 'awake' of the statements over package seal returns true. -/
import Derived.Test.YthikknnkghaolaaSealWalk
namespace Go.Proofs.Ythikknnkghaolaa
open Go.RowKit
set_option linter.unusedVariables false
set_option linter.unusedSimpArgs false
theorem of_e : ((Seal.of (byts ⟨#[]⟩) : Nat) : Int) = 0 := by decide +kernel
theorem of_a : ((Seal.of (byts ⟨#[97]⟩) : Nat) : Int) = 6422626 := by decide +kernel
theorem of_ab : ((Seal.of (byts ⟨#[97, 98]⟩) : Nat) : Int) = 19399051 := by decide +kernel
theorem pair_00 : ((Seal.pair 0 0 : Nat) : Int) = 911 := by decide +kernel
theorem pair_10 : ((Seal.pair 1 0 : Nat) : Int) = 66448 := by decide +kernel
theorem pair_p0 : ((Seal.pair (-2147483647) 0 : Nat) : Int) = 911 := by decide +kernel
set_option maxRecDepth 100000 in
set_option maxHeartbeats 1000000 in
theorem awake9_any (w : World) : Calls Try.prog 12 #[] w fun e w' => e = .returned (.bool true) ∧ w' = w := by
  go_enter Try.func12, Try.ntmps12
  go_wp2_with fail
  refine (num_any _ _).mono ?_
  rintro e w1 ⟨rfl, rfl⟩
  go_wp2_with fail
  refine (sealOf_any ⟨#[]⟩ _ (by decide)).mono ?_
  rintro e w2 ⟨rfl, rfl⟩
  rw [of_e]
  go_wp2_with fail
  refine (sealOf_any ⟨#[97]⟩ _ (by decide)).mono ?_
  rintro e w3 ⟨rfl, rfl⟩
  rw [of_a]
  go_wp2_with fail
  refine (sealOf_any ⟨#[97, 98]⟩ _ (by decide)).mono ?_
  rintro e w4 ⟨rfl, rfl⟩
  rw [of_ab]
  go_wp2_with fail
  refine (sealPair_any 0 0 _ (by decide) (by decide)).mono ?_
  rintro e w5 ⟨rfl, rfl⟩
  rw [pair_00]
  go_wp2_with fail
  refine (sealPair_any 1 0 _ (by decide) (by decide)).mono ?_
  rintro e w6 ⟨rfl, rfl⟩
  rw [pair_10]
  go_wp2_with fail
  refine (sealPair_any (-2147483647) 0 _ (by decide) (by decide)).mono ?_
  rintro e w7 ⟨rfl, rfl⟩
  rw [pair_p0]
  go_wp2
  go_ret
  exact ⟨rfl, rfl⟩
end Go.Proofs.Ythikknnkghaolaa
