/- '!=' on two writes. -/
import Derived.Test.YtpmbmhjhclekeaaDskRef8
import Derived.Laws.StructEq
namespace Go.Proofs.Ytpmbmhjhclekeaa
open Go.RowKit
set_option linter.unusedVariables false
set_option linter.unusedSimpArgs false
theorem wr_fields : ∃ f g, (Try.prog.fieldsOf 62).toList = [f, g] ∧ f.type = 3 ∧ f.offset = 0 ∧ (f.name == "_") = false ∧ g.type = 9 ∧ g.offset = 1 ∧ (g.name == "_") = false :=
  ⟨(Try.prog.fieldsOf 62)[0]!, (Try.prog.fieldsOf 62)[1]!, by kernel_rfl, by kernel_rfl, by kernel_rfl, by kernel_rfl, by kernel_rfl, by kernel_rfl, by kernel_rfl⟩
theorem ne_write (x1 y1 : Int) (x2 y2 : ByteArray) (w : World) : (binOp .neq 62 (.agg #[.int .i64 x1, .string x2]) (.agg #[.int .i64 y1, .string y2])).run Try.prog w = .ok (.bool (!((x1 == y1) && (x2.toList == y2.toList)))) w := by
  rw [run_neq_struct, run_equalIn_agg _ _ _ _ _ (by kernel_rfl) (by kernel_rfl)]
  obtain ⟨f, g, e, e1, e2, e3, e4, e5, e6⟩ := wr_fields
  rw [e]
  have n1 : ¬ f.name = "_" := by simpa using e3
  have n2 : ¬ g.name = "_" := by simpa using e6
  simp [Op.eqFields, e1, e2, e3, e4, e5, e6, n1, n2, go_sem]
  by_cases h1 : x1 = y1
  · by_cases h2 : x2.toList = y2.toList
    · simp [h1, h2]
    · simp [h1, h2]
  · simp [h1]
end Go.Proofs.Ytpmbmhjhclekeaa
