/- Opening a question, and answers, that came in. -/
import Derived.Test.YtmphbajnadbggabOpenR
import Derived.Test.YtmphbajnadbggabAnsMem
namespace Go.Proofs.Ytmphbajnadbggab
open Go.RowKit Go.ChangeShapes Go.WideShapes
set_option linter.unusedVariables false
set_option linter.unusedSimpArgs false
section
variable {H : Type} {enc : TypeId × Value → H} {P : Program}
theorem getD_of_some {α : Type} {l : List α} {i : Nat} {v d : α} (h : l[i]? = some v) : v = l.getD i d := by simp [List.getD, h]
def GotAsk (w : World) (cs : List Value) : Prop := ∃ q a n cap xs, cs = [.int .i64 q, .slice a n cap] ∧ (Lit.int .i64 q).wf = true ∧ Ints w a n cap xs ∧ n * 8 ≤ reachBytes
theorem opens_ask {t r e : TypeId} {f g : Field} (ht : P.underlying t = some (.struct #[f, g])) (ct : P.cellsOf t = 2) (f0 : f.offset = 0) (g0 : g.offset = 1) (fr : f.type = e) (gr : g.type = r) (hr : P.underlying r = some (.slice e)) (cr : P.cellsOf r = 1)
    (he : P.underlying e = some (.int .i64)) (ce : P.cellsOf e = 1) (be : P.bytesOf e = 8) : Opens enc P t GotAsk := by
  refine (opens_flat (R := fun i => if i = 0 then (fun _ cs => ∃ z, cs = [.int .i64 z] ∧ (Lit.int .i64 z).wf = true) else GotInts) ht ct rfl (fun i h hh => ?_) (fun i h hh => ?_)).mono ?_
  · match i with
    | 0 => simp at hh; subst hh; exact ⟨f0, by rw [fr]; exact ce⟩
    | 1 => simp at hh; subst hh; exact ⟨g0, by rw [gr]; exact cr⟩
    | i + 2 => simp at hh
  · match i with
    | 0 => simp at hh; subst hh; rw [fr]; exact opens_int he
    | 1 => simp at hh; subst hh; rw [gr]; exact opens_ints hr he ce be
    | i + 2 => simp at hh
  · rintro w cs ⟨hl, h⟩
    obtain ⟨v0, h0, z, e0, wz⟩ := h 0 (by decide)
    obtain ⟨v1, h1, a, n, cap, xs, e1, hI, hb, hle, _⟩ := h 1 (by decide)
    simp only [List.cons.injEq, and_true] at e0 e1
    subst e0 e1
    match cs, hl with
    | [x, y], _ =>
      simp at h0 h1
      subst h0 h1
      exact ⟨z, a, n, cap, xs, rfl, wz, hI, Nat.le_trans (Nat.mul_le_mul_right _ hle) hb⟩
def GotAnswers (w : World) (cs : List Value) : Prop := ∃ a n cap zs, cs = [.slice a n cap] ∧ AnsV w a n cap zs ∧ n * 48 ≤ reachBytes ∧ ∀ j, j < n → (zs.getD j ans0).path.length * 8 ≤ reachBytes
theorem opens_answers {t u s r e : TypeId} {f g h : Field} (ht : P.underlying t = some (.slice u)) (hu : P.underlying u = some (.struct #[f, g, h])) (cu : P.cellsOf u = 3) (bu : P.bytesOf u = 48)
    (f0 : f.offset = 0) (g0 : g.offset = 1) (h0 : h.offset = 2) (fr : f.type = s) (gr : g.type = r) (hr' : h.type = e) (hs : P.underlying s = some .string) (cs' : P.cellsOf s = 1) (hr : P.underlying r = some (.slice e)) (cr : P.cellsOf r = 1)
    (he : P.underlying e = some (.int .i64)) (ce : P.cellsOf e = 1) (be : P.bytesOf e = 8) : Opens enc P t GotAnswers := by
  have hU : Opens enc P u (fun w cs => ∃ (z : Ans) (p : Option Addr) (m c : Nat) (xs : List Int), cs = [.string z.blk, .slice p m c, .int .i64 z.keyed] ∧ z.path = xs ∧ m = xs.length ∧ Ints w p m c xs ∧ m * 8 ≤ reachBytes) := by
    refine (opens_flat (R := fun i => if i = 0 then (fun _ cs => ∃ s : ByteArray, cs = [.string s] ∧ s.size ≤ reachBytes) else if i = 1 then GotInts else (fun _ cs => ∃ z, cs = [.int .i64 z] ∧ (Lit.int .i64 z).wf = true)) hu cu rfl (fun i k hh => ?_) (fun i k hh => ?_)).mono ?_
    · match i with
      | 0 => simp at hh; subst hh; exact ⟨f0, by rw [fr]; exact cs'⟩
      | 1 => simp at hh; subst hh; exact ⟨g0, by rw [gr]; exact cr⟩
      | 2 => simp at hh; subst hh; exact ⟨h0, by rw [hr']; exact ce⟩
      | i + 3 => simp at hh
    · match i with
      | 0 => simp at hh; subst hh; rw [fr]; exact opens_string hs
      | 1 => simp at hh; subst hh; rw [gr]; exact opens_ints hr he ce be
      | 2 => simp at hh; subst hh; rw [hr']; exact opens_int he
      | i + 3 => simp at hh
    · rintro w cs ⟨hl, h⟩
      obtain ⟨v0, h0, z, e0, _⟩ := h 0 (by decide)
      obtain ⟨v1, h1, a, n, cap, xs, e1, hI, hb, hle, _⟩ := h 1 (by decide)
      obtain ⟨v2, h2, y, e2, _⟩ := h 2 (by decide)
      simp only [List.cons.injEq, and_true] at e0 e1 e2
      subst e0 e1 e2
      match cs, hl with
      | [x0, x1, x2], _ =>
        simp at h0 h1 h2
        subst h0 h1 h2
        exact ⟨⟨z, xs, y⟩, a, n, cap, xs, rfl, rfl, hI.1.symm, hI, Nat.le_trans (Nat.mul_le_mul_right _ hle) hb⟩
  refine (opens_slice ht hU).mono ?_
  rintro w cs ⟨a, n, cap, rfl, hS, hbd⟩
  rw [cu] at hS
  rw [bu] at hbd
  obtain ⟨f', hR, hle, hm, hE⟩ := hS.recs (by decide)
  obtain ⟨l, hll, hl⟩ := list_of (α := Value × Ans) (p := fun i y => f' (i * 3) = .string y.2.blk ∧ f' (i * 3 + 1) = y.1 ∧ f' (i * 3 + 2) = .int .i64 y.2.keyed ∧ ∃ p c, y.1 = .slice p y.2.path.length c ∧ Ints w p y.2.path.length c y.2.path ∧ y.2.path.length * 8 ≤ reachBytes) (undef, ans0) (fun i hi => by
    obtain ⟨cs, hcl, ⟨z, p, m, c, xs, rfl, hz, rfl, hI, hb⟩, hcs⟩ := hE i hi
    have c0 := hcs 0 (by decide)
    have c1 := hcs 1 (by decide)
    have c2 := hcs 2 (by decide)
    simp at c0 c1 c2
    exact ⟨(.slice p xs.length c, z), c0.symm, c1.symm, c2.symm, p, c, by rw [hz], by rw [hz]; exact hI, by rw [hz]; exact hb⟩)
  have hu1 : ∀ j, j < n → (l.map Prod.fst)[j]? = some (l.getD j (undef, ans0)).1 := fun j hj => by simp [List.getD, List.getElem?_eq_getElem (show j < l.length by omega)]
  have hz1 : ∀ j, j < n → (l.map Prod.snd).getD j ans0 = (l.getD j (undef, ans0)).2 := fun j hj => by simp [List.getD, List.getElem?_eq_getElem (show j < l.length by omega)]
  refine ⟨a, n, cap, l.map Prod.snd, rfl, ⟨by simpa using hll, l.map Prod.fst, by simpa using hll, hR.congr (fun i hi => ?_), fun j hj => ?_⟩, Nat.le_trans (Nat.mul_le_mul_right _ hle) hbd, fun j hj => ?_⟩
  · have hj : i / 3 < n := by omega
    obtain ⟨t1, t2, t3⟩ := ansCells_at (us := l.map Prod.fst) (zs := l.map Prod.snd) (by simp) (i := i / 3) (by simp; omega)
    obtain ⟨g1, g2, g3, _⟩ := hl _ hj
    rw [hz1 _ hj] at t1 t3
    rw [hu1 _ hj] at t2
    have : i = i / 3 * 3 ∨ i = i / 3 * 3 + 1 ∨ i = i / 3 * 3 + 2 := by omega
    rcases this with h | h | h
    · rw [h, g1]; exact getD_of_some t1
    · rw [h, g2]; exact getD_of_some t2
    · rw [h, g3]; exact getD_of_some t3
  · obtain ⟨_, _, _, p, c, e1, hI, _⟩ := hl j hj
    exact ⟨p, c, by rw [hu1 j hj, hz1 j hj, e1], by rw [hz1 j hj]; exact hI⟩
  · obtain ⟨_, _, _, p, c, _, _, hb⟩ := hl j hj
    rw [hz1 j hj]; exact hb
end
end Go.Proofs.Ytmphbajnadbggab
