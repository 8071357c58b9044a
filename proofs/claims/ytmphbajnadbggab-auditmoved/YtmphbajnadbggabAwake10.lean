/- 'awake' of the statements over package tree returns true. -/
import Derived.Test.YtmphbajnadbggabTreeWalk
namespace Go.Proofs.Ytmphbajnadbggab
open Go.RowKit
set_option linter.unusedVariables false
set_option linter.unusedSimpArgs false
theorem root_5 : rootP [5] = (5, 0) := by decide +kernel
def q12 : Nat := Seal.pairN 1 2
def q123 : Nat := Seal.pairN q12 3
theorem root_123 : rootP [1, 2, 3] = ((q123 : Int), 0) := by decide +kernel
theorem root_nil : rootP [] = (0, 1000) := by decide +kernel
theorem root_neg : rootP [-1] = (0, 1000) := by decide +kernel
theorem pair_12 : Seal.pair 1 2 = q12 := by decide +kernel
theorem pair_q3 : Seal.pair (q12 : Int) 3 = q123 := by decide +kernel
def s8 : ByteArray := ⟨#[97, 98, 99, 100, 101, 102, 103, 104]⟩
def s1 : ByteArray := ⟨#[105]⟩
def s9 : ByteArray := ⟨#[97, 98, 99, 100, 101, 102, 103, 104, 105]⟩
theorem leaves_9 : nint (leavesL s9) = [((Seal.of (byts s8) : Nat) : Int), ((Seal.of (byts s1) : Nat) : Int)] := by decide +kernel
theorem q12_lt : q12 < 2147483647 := Seal.pairN_lt _ _
end Go.Proofs.Ytmphbajnadbggab
