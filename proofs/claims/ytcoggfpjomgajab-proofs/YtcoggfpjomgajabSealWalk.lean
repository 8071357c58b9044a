/- The program's seals: Of, Pair. -/
import Derived.Test.YtcoggfpjomgajabSealRef
namespace Go.Proofs.Ytcoggfpjomgajab
open Go.RowKit
set_option linter.unusedVariables false
set_option linter.unusedSimpArgs false
set_option maxRecDepth 100000 in
set_option maxHeartbeats 1000000 in
theorem sealRest_any (a : Int) (w : World) (ha : (Lit.int .i64 a).wf = true) : Calls Try.prog 39 #[.int .i64 a] w fun e w' => e = .returned (.int .i64 (Seal.md a : Nat)) ∧ w' = w := by
  go_enter Try.func39, Try.ntmps39
  go_wp2
  go_ret
  exact ⟨ret_int (md_tmod a), rfl⟩
theorem sealPair_num (a b : Int) : (911 + (((Seal.md a : Nat) : Int) + ((Seal.md b : Nat) : Int) * 65537 % 2147483647) * 65537) % 2147483647 = ((Seal.pair a b : Nat) : Int) := by
  unfold Seal.pair Seal.pairN
  omega
set_option maxRecDepth 100000 in
set_option maxHeartbeats 1000000 in
theorem sealPair_any (a b : Int) (w : World) (ha : (Lit.int .i64 a).wf = true) (hb : (Lit.int .i64 b).wf = true) : Calls Try.prog 36 #[.int .i64 a, .int .i64 b] w fun e w' => e = .returned (.int .i64 (Seal.pair a b : Nat)) ∧ w' = w := by
  have h1 := Seal.md_lt a
  have h2 := Seal.md_lt b
  go_enter Try.func36, Try.ntmps36
  go_wp2_with fail
  refine (sealRest_any b w hb).mono ?_
  rintro e w' ⟨rfl, rfl⟩
  go_wp2_with fail
  refine (sealRest_any a w' ha).mono ?_
  rintro e w'' ⟨rfl, rfl⟩
  go_wp2
  go_ret
  exact ⟨ret_int (sealPair_num a b), rfl⟩
end Go.Proofs.Ytcoggfpjomgajab
