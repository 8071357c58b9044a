/- Opening a slice of acts that came in. -/
import Derived.Test.YtpmbmhjhclekeaaOpenD
import Derived.Test.YtpmbmhjhclekeaaDskActs
namespace Go.Proofs.Ytpmbmhjhclekeaa
open Go.RowKit Go.ChangeShapes Go.WideShapes
set_option linter.unusedVariables false
set_option linter.unusedSimpArgs false
section
variable {H : Type} {enc : TypeId × Value → H} {P : Program}
def GotActs (w : World) (cs : List Value) : Prop := ∃ a n cap l, cs = [.slice a n cap] ∧ ActV w a n cap l ∧ n * 48 ≤ reachBytes
theorem opens_acts {t u e s : TypeId} {f0 f1 f2 f3 f4 : Field} (ht : P.underlying t = some (.slice u)) (hu : P.underlying u = some (.struct #[f0, f1, f2, f3, f4])) (cu : P.cellsOf u = 5) (bu : P.bytesOf u = 48)
    (o0 : f0.offset = 0) (o1 : f1.offset = 1) (o2 : f2.offset = 2) (o3 : f3.offset = 3) (o4 : f4.offset = 4) (r0 : f0.type = e) (r1 : f1.type = e) (r2 : f2.type = s) (r3 : f3.type = e) (r4 : f4.type = e)
    (he : P.underlying e = some (.int .i64)) (ce : P.cellsOf e = 1) (hs : P.underlying s = some .string) (cs' : P.cellsOf s = 1) : Opens enc P t GotActs := by
  have hU : Opens enc P u (fun w cs => ∃ z : ActR, cs = actC z) := by
    refine (opens_flat (R := fun i => if i = 2 then (fun _ cs => ∃ s : ByteArray, cs = [.string s] ∧ s.size ≤ reachBytes) else (fun _ cs => ∃ z, cs = [.int .i64 z] ∧ (Lit.int .i64 z).wf = true)) hu cu rfl (fun i k hh => ?_) (fun i k hh => ?_)).mono ?_
    · match i with
      | 0 => simp at hh; subst hh; exact ⟨o0, by rw [r0]; exact ce⟩
      | 1 => simp at hh; subst hh; exact ⟨o1, by rw [r1]; exact ce⟩
      | 2 => simp at hh; subst hh; exact ⟨o2, by rw [r2]; exact cs'⟩
      | 3 => simp at hh; subst hh; exact ⟨o3, by rw [r3]; exact ce⟩
      | 4 => simp at hh; subst hh; exact ⟨o4, by rw [r4]; exact ce⟩
      | i + 5 => simp at hh
    · match i with
      | 0 => simp at hh; subst hh; rw [r0]; exact opens_int he
      | 1 => simp at hh; subst hh; rw [r1]; exact opens_int he
      | 2 => simp at hh; subst hh; rw [r2]; exact opens_string hs
      | 3 => simp at hh; subst hh; rw [r3]; exact opens_int he
      | 4 => simp at hh; subst hh; rw [r4]; exact opens_int he
      | i + 5 => simp at hh
    · rintro w cs ⟨hl, h⟩
      obtain ⟨v0, h0, y0, e0, -⟩ := h 0 (by decide)
      obtain ⟨v1, h1, y1, e1, -⟩ := h 1 (by decide)
      obtain ⟨v2, h2, y2, e2, -⟩ := h 2 (by decide)
      obtain ⟨v3, h3, y3, e3, -⟩ := h 3 (by decide)
      obtain ⟨v4, h4, y4, e4, -⟩ := h 4 (by decide)
      simp only [List.cons.injEq, and_true] at e0 e1 e2 e3 e4
      subst e0 e1 e2 e3 e4
      match cs, hl with
      | [x0, x1, x2, x3, x4], _ =>
        simp at h0 h1 h2 h3 h4
        subst h0 h1 h2 h3 h4
        exact ⟨⟨y0, y1, y2, y3, y4⟩, rfl⟩
  refine (opens_slice ht hU).mono ?_
  rintro w cs ⟨a, n, cap, rfl, hS, hbd⟩
  rw [cu] at hS
  rw [bu] at hbd
  obtain ⟨f', hR, hle, hm, hE⟩ := hS.recs (by decide)
  obtain ⟨l, hll, hl⟩ := list_of (α := ActR) (p := fun i x => ∀ j, j < 5 → some (f' (i * 5 + j)) = (actC x)[j]?) act0 (fun i hi => by
    obtain ⟨cs, hcl, ⟨x, rfl⟩, hcs⟩ := hE i hi
    refine ⟨x, fun j hj => ?_⟩
    have := hcs j hj
    exact this.symm)
  refine ⟨a, n, cap, l, rfl, ⟨hll, hR.congr (fun i hi => ?_)⟩, Nat.le_trans (Nat.mul_le_mul_right _ hle) hbd⟩
  have hj : i / 5 < n := by omega
  have hm5 : i % 5 < 5 := Nat.mod_lt _ (by decide)
  have h1 := hl _ hj (i % 5) hm5
  have h2 := actCells_at l (i / 5) (by omega) (i % 5) hm5
  have e5 : i / 5 * 5 + i % 5 = i := by omega
  rw [e5] at h1 h2
  have h3 : (actCells l).getD i undef = f' i := by
    rw [List.getD, h2, ← h1]
    rfl
  exact h3.symm
end
end Go.Proofs.Ytpmbmhjhclekeaa
