/- Opening a shape that came in: two numbers. -/
import Derived.Test.YtcgagkaalbljmaaDoorOpenC
namespace Go.Proofs.YtcgagkaalbljmaaDoor
open Go.ChangeShapes Go.WideShapes Go.ChangeAt Go.RowKit
set_option linter.unusedVariables false
section
variable {H : Type} {enc : TypeId × Value → H} {P : Program}
/-- two numbers, one behind the other -/
def GotTwo (w : World) (cs : List Value) : Prop := ∃ x y : Int, cs = [.int .i64 x, .int .i64 y]
theorem opens_two {t e : TypeId} {f g : Field} (ht : P.underlying t = some (.struct #[f, g])) (ct : P.cellsOf t = 2) (f0 : f.offset = 0) (g0 : g.offset = 1) (fr : f.type = e) (gr : g.type = e) (he : P.underlying e = some (.int .i64)) (ce : P.cellsOf e = 1) : Opens enc P t GotTwo := by
  refine (opens_struct (R := fun _ _ cs => ∃ z, cs = [.int .i64 z] ∧ (Lit.int .i64 z).wf = true) ht (fun i h hh => ?_)).mono ?_
  · match i with
    | 0 => simp at hh; subst hh; rw [fr]; exact opens_int he
    | 1 => simp at hh; subst hh; rw [gr]; exact opens_int he
    | i + 2 => simp at hh
  · rintro w cs ⟨hl, h⟩
    obtain ⟨x, hx, _⟩ := h 0 f rfl
    obtain ⟨y, hy, _⟩ := h 1 g rfl
    rw [f0, fr, ce] at hx
    rw [g0, gr, ce] at hy
    rw [ct] at hl
    match cs, hl with
    | [a, b], _ =>
      simp at hx hy
      exact ⟨x, y, by rw [hx, hy]⟩
end
end Go.Proofs.YtcgagkaalbljmaaDoor
