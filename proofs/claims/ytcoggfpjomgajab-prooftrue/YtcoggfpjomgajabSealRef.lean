/- The document's own seals (ossuaryref1): Of, Pair. -/
import Derived.Test.YtcoggfpjomgajabProg
import Derived.Test.YtcoggfpjomgajabSealMath
import Derived.Test.YtcoggfpjomgajabKCore
namespace Go.Proofs.Ytcoggfpjomgajab
open Go.RowKit
set_option linter.unusedVariables false
set_option linter.unusedSimpArgs false
/-- the bytes of a text -/
def byts (s : ByteArray) : List Nat := s.data.toList.map UInt8.toNat
theorem byts_len (s : ByteArray) : (byts s).length = s.size := by simp [byts]
theorem byts_drop {s : ByteArray} {j : Nat} (h : j < s.size) : (byts s).drop j = (s[j]).toNat :: (byts s).drop (j + 1) := by
  have hl : j < (byts s).length := by rw [byts_len]; exact h
  rw [List.drop_eq_getElem_cons hl]
  congr 1
  simp [byts]
  rfl
theorem md_tmod (a : Int) : (wrap64 (a.tmod 2147483647 + 2147483647)).tmod 2147483647 = (Seal.md a : Int) := by
  have h1 : a.tmod 2147483647 = a % 2147483647 ∨ a.tmod 2147483647 = a % 2147483647 - 2147483647 := by
    rw [Int.tmod_eq_emod]
    split
    · left; omega
    · right; rfl
  have h2 : 0 ≤ a % 2147483647 := Int.emod_nonneg _ (by decide)
  have h3 : a % 2147483647 < 2147483647 := Int.emod_lt_of_pos _ (by decide)
  have h4 : wrap64 (a.tmod 2147483647 + 2147483647) = a.tmod 2147483647 + 2147483647 := by unfold wrap64; omega
  rw [h4, Int.tmod_eq_emod_of_nonneg (by omega)]
  unfold Seal.md
  omega
set_option maxRecDepth 100000 in
set_option maxHeartbeats 1000000 in
theorem refMod_any (a : Int) (w : World) (ha : (Lit.int .i64 a).wf = true) : Calls Try.prog 40 #[.int .i64 a] w fun e w' => e = .returned (.int .i64 (Seal.md a : Nat)) ∧ w' = w := by
  go_enter Try.func40, Try.ntmps40
  go_wp2
  go_ret
  exact ⟨ret_int (md_tmod a), rfl⟩
theorem pair_num (a b : Int) : (911 + ((Seal.md a : Nat) : Int) * 65537 % 2147483647 + ((Seal.md b : Nat) : Int) * 65537 % 2147483647 * 65537) % 2147483647 = ((Seal.pair a b : Nat) : Int) := by
  unfold Seal.pair Seal.pairN
  omega
set_option maxRecDepth 100000 in
set_option maxHeartbeats 1000000 in
theorem refPair_any (a b : Int) (w : World) (ha : (Lit.int .i64 a).wf = true) (hb : (Lit.int .i64 b).wf = true) : Calls Try.prog 37 #[.int .i64 a, .int .i64 b] w fun e w' => e = .returned (.int .i64 (Seal.pair a b : Nat)) ∧ w' = w := by
  have h1 := Seal.md_lt a
  have h2 := Seal.md_lt b
  go_enter Try.func37, Try.ntmps37
  go_wp2_with fail
  refine (refMod_any a w ha).mono ?_
  rintro e w' ⟨rfl, rfl⟩
  go_wp2_with fail
  refine (refMod_any b w' hb).mono ?_
  rintro e w'' ⟨rfl, rfl⟩
  go_wp2
  go_ret
  exact ⟨ret_int (pair_num a b), rfl⟩
end Go.Proofs.Ytcoggfpjomgajab
