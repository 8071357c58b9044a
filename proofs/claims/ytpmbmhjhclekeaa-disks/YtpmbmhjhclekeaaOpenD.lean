/- Opening a disk that came in. -/
import Derived.Test.YtpmbmhjhclekeaaOpenR
import Derived.Test.YtpmbmhjhclekeaaDskMem
namespace Go.Proofs.Ytpmbmhjhclekeaa
open Go.RowKit Go.ChangeShapes Go.WideShapes
set_option linter.unusedVariables false
set_option linter.unusedSimpArgs false
theorem getD_of {α : Type} {l : List α} {i : Nat} {v d : α} (h : l[i]? = some v) : v = l.getD i d := by simp [List.getD, h]
section
variable {H : Type} {enc : TypeId × Value → H} {P : Program}
def GotWrites (w : World) (cs : List Value) : Prop := ∃ a n cap l, cs = [.slice a n cap] ∧ WrV w a n cap l ∧ n * 24 ≤ reachBytes ∧ ∀ x ∈ l, (Lit.int .i64 x.1).wf = true ∧ x.2.size ≤ reachBytes
theorem opens_writes {t u e s : TypeId} {f g : Field} (ht : P.underlying t = some (.slice u)) (hu : P.underlying u = some (.struct #[f, g])) (cu : P.cellsOf u = 2) (bu : P.bytesOf u = 24)
    (f0 : f.offset = 0) (g0 : g.offset = 1) (fr : f.type = e) (gr : g.type = s) (he : P.underlying e = some (.int .i64)) (ce : P.cellsOf e = 1) (hs : P.underlying s = some .string) (cs' : P.cellsOf s = 1) : Opens enc P t GotWrites := by
  have hU : Opens enc P u (fun w cs => ∃ x : Int × ByteArray, cs = [.int .i64 x.1, .string x.2] ∧ (Lit.int .i64 x.1).wf = true ∧ x.2.size ≤ reachBytes) := by
    refine (opens_flat (R := fun i => if i = 0 then (fun _ cs => ∃ z, cs = [.int .i64 z] ∧ (Lit.int .i64 z).wf = true) else (fun _ cs => ∃ s : ByteArray, cs = [.string s] ∧ s.size ≤ reachBytes)) hu cu rfl (fun i k hh => ?_) (fun i k hh => ?_)).mono ?_
    · match i with
      | 0 => simp at hh; subst hh; exact ⟨f0, by rw [fr]; exact ce⟩
      | 1 => simp at hh; subst hh; exact ⟨g0, by rw [gr]; exact cs'⟩
      | i + 2 => simp at hh
    · match i with
      | 0 => simp at hh; subst hh; rw [fr]; exact opens_int he
      | 1 => simp at hh; subst hh; rw [gr]; exact opens_string hs
      | i + 2 => simp at hh
    · rintro w cs ⟨hl, h⟩
      obtain ⟨v0, h0, y, e0, wy⟩ := h 0 (by decide)
      obtain ⟨v1, h1, z, e1, hz⟩ := h 1 (by decide)
      simp only [List.cons.injEq, and_true] at e0 e1
      subst e0 e1
      match cs, hl with
      | [x0, x1], _ =>
        simp at h0 h1
        subst h0 h1
        exact ⟨(y, z), rfl, wy, hz⟩
  refine (opens_slice ht hU).mono ?_
  rintro w cs ⟨a, n, cap, rfl, hS, hbd⟩
  rw [cu] at hS
  rw [bu] at hbd
  obtain ⟨f', hR, hle, hm, hE⟩ := hS.recs (by decide)
  obtain ⟨l, hll, hl⟩ := list_of (α := Int × ByteArray) (p := fun i x => f' (i * 2) = .int .i64 x.1 ∧ f' (i * 2 + 1) = .string x.2 ∧ (Lit.int .i64 x.1).wf = true ∧ x.2.size ≤ reachBytes) wr0 (fun i hi => by
    obtain ⟨cs, hcl, ⟨x, rfl, hx, hy⟩, hcs⟩ := hE i hi
    have c0 := hcs 0 (by decide)
    have c1 := hcs 1 (by decide)
    simp at c0 c1
    exact ⟨x, c0.symm, c1.symm, hx, hy⟩)
  refine ⟨a, n, cap, l, rfl, ⟨hll, hR.congr (fun i hi => ?_)⟩, Nat.le_trans (Nat.mul_le_mul_right _ hle) hbd, fun x hx => ?_⟩
  · have hj : i / 2 < n := by omega
    obtain ⟨t1, t2⟩ := wrCells_at l (i / 2) (by omega)
    obtain ⟨g1, g2, _⟩ := hl _ hj
    have : i = i / 2 * 2 ∨ i = i / 2 * 2 + 1 := by omega
    rcases this with h | h
    · rw [h, g1]; exact getD_of t1
    · rw [h, g2]; exact getD_of t2
  · obtain ⟨i, hi, rfl⟩ := List.getElem_of_mem hx
    obtain ⟨_, _, h3, h4⟩ := hl i (by omega)
    have e : l.getD i wr0 = l[i] := by simp [List.getD, hi]
    rw [e] at h3 h4
    exact ⟨h3, h4⟩
def GotDisk (w : World) (cs : List Value) : Prop := ∃ (d : Dsk) (sa : Option Addr) (n sc : Nat) (ca : Option Addr) (m cc : Nat), cs = [.bool d.lost, .slice sa n sc, .slice ca m cc] ∧ Strs w sa n sc d.secs ∧ WrV w ca m cc d.cache ∧ n * 16 ≤ reachBytes ∧ m * 24 ≤ reachBytes ∧ (∀ x ∈ d.secs, x.size ≤ reachBytes) ∧ ∀ x ∈ d.cache, (Lit.int .i64 x.1).wf = true ∧ x.2.size ≤ reachBytes
theorem opens_disk {t bt st wt u e s : TypeId} {f g h fu gu : Field} (ht : P.underlying t = some (.struct #[f, g, h])) (ct : P.cellsOf t = 3) (f0 : f.offset = 0) (g0 : g.offset = 1) (h0 : h.offset = 2) (fr : f.type = bt) (gr : g.type = st) (hr : h.type = wt)
    (hb : P.underlying bt = some .bool) (cb : P.cellsOf bt = 1) (hst : P.underlying st = some (.slice s)) (cst : P.cellsOf st = 1) (hs : P.underlying s = some .string) (cs' : P.cellsOf s = 1) (bs : P.bytesOf s = 16)
    (hwt : P.underlying wt = some (.slice u)) (cwt : P.cellsOf wt = 1) (hu : P.underlying u = some (.struct #[fu, gu])) (cu : P.cellsOf u = 2) (bu : P.bytesOf u = 24) (fu0 : fu.offset = 0) (gu0 : gu.offset = 1) (fur : fu.type = e) (gur : gu.type = s)
    (he : P.underlying e = some (.int .i64)) (ce : P.cellsOf e = 1) : Opens enc P t GotDisk := by
  refine (opens_flat (R := fun i => if i = 0 then (fun _ cs => ∃ b, cs = [.bool b]) else if i = 1 then GotStrs else GotWrites) ht ct rfl (fun i k hh => ?_) (fun i k hh => ?_)).mono ?_
  · match i with
    | 0 => simp at hh; subst hh; exact ⟨f0, by rw [fr]; exact cb⟩
    | 1 => simp at hh; subst hh; exact ⟨g0, by rw [gr]; exact cst⟩
    | 2 => simp at hh; subst hh; exact ⟨h0, by rw [hr]; exact cwt⟩
    | i + 3 => simp at hh
  · match i with
    | 0 => simp at hh; subst hh; rw [fr]; exact opens_bool hb
    | 1 => simp at hh; subst hh; rw [gr]; exact opens_strs hst hs cs' bs
    | 2 => simp at hh; subst hh; rw [hr]; exact opens_writes hwt hu cu bu fu0 gu0 fur gur he ce hs cs'
    | i + 3 => simp at hh
  · rintro w cs ⟨hl, h⟩
    obtain ⟨v0, h0, b, e0⟩ := h 0 (by decide)
    obtain ⟨v1, h1, a, n, cap, xs, e1, hI, hbd, hle, hsz⟩ := h 1 (by decide)
    obtain ⟨v2, h2, a2, n2, cap2, l, e2, hW, hbd2, hx⟩ := h 2 (by decide)
    simp only [List.cons.injEq, and_true] at e0 e1 e2
    subst e0 e1 e2
    match cs, hl with
    | [x0, x1, x2], _ =>
      simp at h0 h1 h2
      subst h0 h1 h2
      exact ⟨⟨b, xs, l⟩, a, n, cap, a2, n2, cap2, rfl, hI, hW, Nat.le_trans (Nat.mul_le_mul_right _ hle) hbd, hbd2, hsz, hx⟩
end
end Go.Proofs.Ytpmbmhjhclekeaa
