/- 'awake' of the statements over package seal returns true. -/
import Derived.Test.YtcciobilcgahaaaSealWalk
namespace Go.Proofs.Ytcciobilcgahaaa
open Go.RowKit
set_option linter.unusedVariables false
set_option linter.unusedSimpArgs false
theorem of_e : ((Seal.of (byts ⟨#[]⟩) : Nat) : Int) = 0 := by decide +kernel
theorem of_a : ((Seal.of (byts ⟨#[97]⟩) : Nat) : Int) = 6422626 := by decide +kernel
theorem of_ab : ((Seal.of (byts ⟨#[97, 98]⟩) : Nat) : Int) = 19399051 := by decide +kernel
theorem pair_00 : ((Seal.pair 0 0 : Nat) : Int) = 911 := by decide +kernel
theorem pair_10 : ((Seal.pair 1 0 : Nat) : Int) = 66448 := by decide +kernel
theorem pair_p0 : ((Seal.pair (-2147483647) 0 : Nat) : Int) = 911 := by decide +kernel
end Go.Proofs.Ytcciobilcgahaaa
