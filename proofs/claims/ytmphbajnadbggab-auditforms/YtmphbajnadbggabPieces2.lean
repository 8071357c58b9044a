/- Pieces of a text, in line: how long, where. -/
import Derived.Test.YtmphbajnadbggabPieces
import Derived.Laws.Small
namespace Go.Proofs.Ytmphbajnadbggab
open Go.RowKit
set_option linter.unusedVariables false
set_option linter.unusedSimpArgs false
theorem run_min60c {P : Program} (ts : Array TypeId) (t : TypeId) (a : Nat) : ∃ m : Nat, m ≤ a ∧ m ≤ 60 ∧ ∀ w : World,
    (Builtin.min_ ts t #[.int .i64 (a : Int), .int .i64 60]).run P w = .ok (.int .i64 (m : Int)) w := by
  refine ⟨min a 60, by omega, by omega, fun w => ?_⟩
  have h : (if (60 : Int) < (a : Int) then (60 : Int) else (a : Int)) = ((min a 60 : Nat) : Int) := by
    split <;> omega
  have h2 : (Builtin.min_ ts t #[.int .i64 (a : Int), .int .i64 60]).run P w = .ok (.int .i64 (if (60 : Int) < (a : Int) then (60 : Int) else (a : Int))) w := run_min_int2 w ts t .i64 .i64 (a : Int) 60
  rw [h2, h]
theorem run_min30c {P : Program} (ts : Array TypeId) (t : TypeId) (a : Nat) : ∃ m : Nat, m ≤ a ∧ m ≤ 30 ∧ ∀ w : World,
    (Builtin.min_ ts t #[.int .i64 (a : Int), .int .i64 30]).run P w = .ok (.int .i64 (m : Int)) w := by
  refine ⟨min a 30, by omega, by omega, fun w => ?_⟩
  have h : (if (30 : Int) < (a : Int) then (30 : Int) else (a : Int)) = ((min a 30 : Nat) : Int) := by
    split <;> omega
  have h2 : (Builtin.min_ ts t #[.int .i64 (a : Int), .int .i64 30]).run P w = .ok (.int .i64 (if (30 : Int) < (a : Int) then (30 : Int) else (a : Int))) w := run_min_int2 w ts t .i64 .i64 (a : Int) 30
  rw [h2, h]
theorem pcs_at2 {t : ByteArray} {m j i : Nat} (h : i < j) : (pcs t m j).getD i ByteArray.empty = t.extract (m * i) (m * i + m) := by simp [pcs, List.getD, h]
theorem pcs_size2 {t : ByteArray} {m k i : Nat} (hm : m * k ≤ t.size) (hi : i < k) : ((pcs t m k).getD i ByteArray.empty).size = m := by
  rw [pcs_at2 hi, ByteArray.size_extract]
  have h3 : m * i + m ≤ m * k := by
    rw [← Nat.mul_succ]; exact Nat.mul_le_mul_left _ hi
  omega
end Go.Proofs.Ytmphbajnadbggab
