/- Opening what came in: by the shape of its type. -/
import Derived.Test.YtmphbajnadbggabMemOpen
import Derived.Test.YtmphbajnadbggabKRegs
import Derived.Deep.Slices
import Derived.SizedLaws
import Derived.ChangeArms
namespace Go.Proofs.Ytmphbajnadbggab
open Go.RowKit Go.ChangeShapes Go.WideShapes
set_option linter.unusedVariables false
set_option linter.unusedSimpArgs false
section
variable {H : Type} {enc : TypeId × Value → H} {P : Program}
/-- whatever is read at type t, of which no part is too great, is as R says -/
def Opens (enc : TypeId × Value → H) (P : Program) (t : TypeId) (R : World → List Value → Prop) : Prop :=
  ∀ (w : World) (fuel : Nat) (cs : List Value) (x : DataW H × List MemPlace), DataW.trod enc P w 0 (fun _ => true) true fuel t cs = some x → (∀ n ∈ x.1.weights P t, n ≤ reachBytes) → R w cs
theorem Opens.mono {t : TypeId} {R R' : World → List Value → Prop} (h : Opens enc P t R) (h' : ∀ w cs, R w cs → R' w cs) : Opens enc P t R' := fun w fuel cs x hx hw => h' w cs (h w fuel cs x hx hw)
theorem opens_int {t : TypeId} {k : IntKind} (ht : P.underlying t = some (.int k)) : Opens enc P t (fun _ cs => ∃ z, cs = [.int k z] ∧ (Lit.int k z).wf = true) := by
  intro w fuel cs x h _
  cases fuel with
  | zero => simp [DataW.trod] at h
  | succ n =>
    unfold DataW.trod at h
    rw [ht] at h
    split at h <;> simp_all
theorem opens_bool {t : TypeId} (ht : P.underlying t = some .bool) : Opens enc P t (fun _ cs => ∃ b, cs = [.bool b]) := by
  intro w fuel cs x h _
  cases fuel with
  | zero => simp [DataW.trod] at h
  | succ n =>
    unfold DataW.trod at h
    rw [ht] at h
    split at h <;> simp_all
theorem opens_string {t : TypeId} (ht : P.underlying t = some .string) : Opens enc P t (fun _ cs => ∃ s : ByteArray, cs = [.string s] ∧ s.size ≤ reachBytes) := by
  intro w fuel cs x h hw
  cases fuel with
  | zero => simp [DataW.trod] at h
  | succ n =>
    unfold DataW.trod at h
    rw [ht] at h
    split at h <;> try simp_all
    rename_i s
    obtain ⟨h1, rfl⟩ := h
    have := hw s.size (by simp [DataW.weights])
    simpa using this
theorem weightsAll_mem {e : TypeId} : ∀ {l : List (DataW H)} {d : DataW H} {n : Nat}, d ∈ l → n ∈ d.weights P e → n ∈ DataW.weightsAll P e l
  | d0 :: l, d, n, hd, hn => by
    simp only [DataW.weightsAll, List.mem_append]
    rcases List.mem_cons.1 hd with rfl | hd
    · exact .inl hn
    · exact .inr (weightsAll_mem hd hn)
/-- a slice whose elements (each of c cells) are as R says -/
def SliceR (R : World → List Value → Prop) (c : Nat) (w : World) (a : Option Addr) (n cap : Nat) : Prop :=
  (a = none ∧ n = 0 ∧ cap = 0) ∨ ∃ x : Addr, a = some x ∧ n ≤ cap ∧ cap ≤ maxLen ∧ ∀ i, i < cap → ∃ cs, w.cells? 0 (x.add (i * c)) c = some cs ∧ R w cs
theorem opens_slice {t e : TypeId} {R : World → List Value → Prop} (ht : P.underlying t = some (.slice e)) (hR : Opens enc P e R) :
    Opens enc P t (fun w cs => ∃ a n cap, cs = [.slice a n cap] ∧ SliceR R (P.cellsOf e) w a n cap ∧ cap * P.bytesOf e ≤ reachBytes) := by
  intro w fuel cs x h hw
  rcases Go.Deep.open_slice ht h with ⟨rfl, _⟩ | ⟨a, len, cap, m, n, D, Pl, rfl, hb, hl, hm, hmm, rfl, hx⟩
  · exact ⟨none, 0, 0, rfl, .inl ⟨rfl, rfl, rfl⟩, by simp⟩
  · simp only [if_true] at hmm
    subst hmm
    simp only [DataW.weights, ht, List.length_map, List.length_range] at hw
    have h0 := hw _ (List.mem_cons_self ..)
    rw [show len + (m - len) = m by omega] at h0
    refine ⟨some a, len, m, rfl, .inr ⟨a, rfl, hl, hm, fun i hi => ?_⟩, h0⟩
    obtain ⟨cs', h1, h2⟩ := hx i hi
    refine ⟨cs', h1, hR w n cs' _ h2 (fun k hk => hw k ?_)⟩
    refine List.mem_cons_of_mem _ ?_
    rw [List.mem_append]
    by_cases hil : i < len
    · exact .inl (weightsAll_mem (d := D i) (List.mem_map.2 ⟨i, by simpa using hil, rfl⟩) hk)
    · exact .inr (weightsAll_mem (d := D i) (List.mem_map.2 ⟨i - len, by simp; omega, by rw [show len + (i - len) = i by omega]⟩) hk)
theorem opens_struct {t : TypeId} {fs : Array Field} {R : Nat → World → List Value → Prop} (ht : P.underlying t = some (.struct fs)) (hR : ∀ (i : Nat) f, fs[i]? = some f → Opens enc P f.type (R i)) :
    Opens enc P t (fun w cs => cs.length = P.cellsOf t ∧ ∀ (i : Nat) f, fs[i]? = some f → R i w ((cs.drop f.offset).take (P.cellsOf f.type))) := by
  intro w fuel cs x h hw
  obtain ⟨xs, n, rfl, rfl, hl, hxl, hx⟩ := DataW.trod_struct ht h
  refine ⟨hl, fun i f hf => ?_⟩
  have hi : i < fs.size := (Array.getElem?_eq_some_iff.1 hf).1
  have hxi := hx i f hf
  rw [List.getElem?_eq_getElem (by omega)] at hxi
  refine hR i f hf w n _ _ hxi (fun k hk => hw k ?_)
  simp only [DataW.weights, ht]
  refine DataW.weights_mem_each (j := i) (t := f.type) (d := (xs[i]'(by omega)).1) ?_ ?_ k hk
  · simp [hf]
  · simp [List.getElem?_eq_getElem (show i < xs.length by omega)]
theorem okWide_struct {w : World} {r : Reach} {base : Nat} {t : TypeId} {v : Value} {fs : Array Field} (ht : P.underlying t = some (.struct fs)) (h : Value.okWide P w r base t v) : ∃ cs, v = .agg cs := by
  unfold Value.okWide at h
  rw [ht] at h
  obtain ⟨cs, rfl, _⟩ := h
  exact ⟨cs, rfl⟩
theorem cells_one {w : World} {x : Addr} {c : List Value} (h : w.cells? 0 x 1 = some c) : ∃ v, c = [v] ∧ w.cell? x = some v := by
  obtain ⟨_, hl, hc⟩ := World.cells?_some h
  match c, hl with
  | [v], _ =>
    have := hc 0 (by omega)
    have e : x.add 0 = x := by unfold Addr.add; split <;> simp_all
    rw [e] at this
    exact ⟨v, rfl, by simpa using this⟩
/-- a slice of elements of one cell: a row of values, each as R says -/
theorem SliceR.row {R : World → List Value → Prop} {w : World} {a : Option Addr} {n cap : Nat} (h : SliceR R 1 w a n cap) : ∃ f : Nat → Value, IsRow w a n cap f ∧ n ≤ cap ∧ n ≤ maxLen ∧ ∀ i, i < n → R w [f i] := by
  rcases h with ⟨rfl, rfl, rfl⟩ | ⟨x, rfl, hl, hm, hc⟩
  · exact ⟨fun _ => undef, .inl ⟨rfl, rfl, rfl⟩, Nat.le_refl _, Nat.zero_le _, fun i hi => by omega⟩
  · have each : ∀ i, i < cap → ∃ v, w.cell? (x.add i) = some v ∧ R w [v] := fun i hi => by
      obtain ⟨cs, h1, h2⟩ := hc i hi
      rw [Nat.mul_one] at h1
      obtain ⟨v, rfl, hv⟩ := cells_one h1
      exact ⟨v, hv, h2⟩
    refine ⟨fun i => if h : i < cap then (each i h).choose else undef, row_of_add hl (fun i hi => ?_), hl, Nat.le_trans hl hm, fun i hi => ?_⟩
    · have hi' : i < cap := by omega
      simp only [dif_pos hi']; exact (each i hi').choose_spec.1
    · have hi' : i < cap := by omega
      simp only [dif_pos hi']; exact (each i hi').choose_spec.2
theorem list_of {α : Type} {p : Nat → α → Prop} {n : Nat} (d : α) (h : ∀ i, i < n → ∃ x, p i x) : ∃ l : List α, l.length = n ∧ ∀ i, i < n → p i (l.getD i d) := by
  refine ⟨(List.range n).map (fun i => if h' : i < n then (h i h').choose else d), by simp, fun i hi => ?_⟩
  have e : ((List.range n).map (fun i => if h' : i < n then (h i h').choose else d)).getD i d = (h i hi).choose := by
    simp [List.getD, hi]
  rw [e]; exact (h i hi).choose_spec
theorem IsRow.congr' {w : World} {a : Option Addr} {n cap : Nat} {f g : Nat → Value} (h : IsRow w a n cap f) (he : ∀ i, i < n → f i = g i) : IsRow w a n cap g := by
  rcases h with h | h | ⟨h1, h2, b, off, e, hc⟩
  · exact .inl h
  · exact .inr (.inl h)
  · exact .inr (.inr ⟨h1, h2, b, off, e, fun i hi => by rw [hc i hi, he i hi]⟩)
/-- a slice of ints that came in -/
def GotInts (w : World) (cs : List Value) : Prop := ∃ a n cap xs, cs = [.slice a n cap] ∧ Ints w a n cap xs ∧ cap * 8 ≤ reachBytes ∧ n ≤ cap ∧ ∀ x ∈ xs, (Lit.int .i64 x).wf = true
theorem opens_ints {t e : TypeId} (ht : P.underlying t = some (.slice e)) (he : P.underlying e = some (.int .i64)) (hc : P.cellsOf e = 1) (hb : P.bytesOf e = 8) : Opens enc P t GotInts := by
  refine (opens_slice ht (opens_int he)).mono ?_
  rintro w cs ⟨a, n, cap, rfl, hs, hbd⟩
  rw [hc] at hs
  rw [hb] at hbd
  obtain ⟨f, hr, hl, hm, hR⟩ := hs.row
  obtain ⟨xs, hxl, hx⟩ := list_of (α := Int) (p := fun i z => f i = .int .i64 z ∧ (Lit.int .i64 z).wf = true) 0 (fun i hi => by
    obtain ⟨z, h1, h2⟩ := hR i hi
    exact ⟨z, by simpa using h1, h2⟩)
  refine ⟨a, n, cap, xs, rfl, ⟨hxl, hr.congr' (fun i hi => (hx i hi).1)⟩, hbd, hl, fun z hz => ?_⟩
  obtain ⟨i, hi, rfl⟩ := List.getElem_of_mem hz
  have := (hx i (by omega)).2
  simpa [List.getD, List.getElem?_eq_getElem hi] using this
/-- a slice of strings that came in -/
def GotStrs (w : World) (cs : List Value) : Prop := ∃ a n cap xs, cs = [.slice a n cap] ∧ Strs w a n cap xs ∧ cap * 16 ≤ reachBytes ∧ n ≤ cap ∧ ∀ x ∈ xs, x.size ≤ reachBytes
theorem opens_strs {t e : TypeId} (ht : P.underlying t = some (.slice e)) (he : P.underlying e = some .string) (hc : P.cellsOf e = 1) (hb : P.bytesOf e = 16) : Opens enc P t GotStrs := by
  refine (opens_slice ht (opens_string he)).mono ?_
  rintro w cs ⟨a, n, cap, rfl, hs, hbd⟩
  rw [hc] at hs
  rw [hb] at hbd
  obtain ⟨f, hr, hl, hm, hR⟩ := hs.row
  obtain ⟨xs, hxl, hx⟩ := list_of (α := ByteArray) (p := fun i z => f i = .string z ∧ z.size ≤ reachBytes) ByteArray.empty (fun i hi => by
    obtain ⟨z, h1, h2⟩ := hR i hi
    exact ⟨z, by simpa using h1, h2⟩)
  refine ⟨a, n, cap, xs, rfl, ⟨hxl, hr.congr' (fun i hi => (hx i hi).1)⟩, hbd, hl, fun z hz => ?_⟩
  obtain ⟨i, hi, rfl⟩ := List.getElem_of_mem hz
  have := (hx i (by omega)).2
  simpa [List.getD, List.getElem?_eq_getElem hi] using this
/-- rows of numbers that came in -/
def GotRows (w : World) (cs : List Value) : Prop := ∃ a n cap M, cs = [.slice a n cap] ∧ RowsV w a n cap M ∧ cap * 24 ≤ reachBytes ∧ n ≤ cap ∧ ∀ i, (M.getD i []).length * 8 ≤ reachBytes
theorem opens_rows {t e q : TypeId} (ht : P.underlying t = some (.slice e)) (he : P.underlying e = some (.slice q)) (hq : P.underlying q = some (.int .i64)) (ce : P.cellsOf e = 1) (be : P.bytesOf e = 24) (cq : P.cellsOf q = 1) (bq : P.bytesOf q = 8) : Opens enc P t GotRows := by
  refine (opens_slice ht (opens_ints he hq cq bq)).mono ?_
  rintro w cs ⟨a, n, cap, rfl, hs, hbd⟩
  rw [ce] at hs
  rw [be] at hbd
  obtain ⟨f, hr, hl, hm, hR⟩ := hs.row
  obtain ⟨M, hMl, hM⟩ := list_of (α := List Int) (p := fun i r => RowV w (f i) r ∧ r.length * 8 ≤ reachBytes) [] (fun i hi => by
    obtain ⟨a', n', cap', xs, h1, h2, h3, h4, _⟩ := hR i hi
    have hlen := h2.1
    have hn' : n' * 8 ≤ reachBytes := Nat.le_trans (Nat.mul_le_mul_right _ h4) h3
    refine ⟨xs, ⟨a', n', cap', by simpa using h1, ?_, h2⟩, by rw [hlen]; exact hn'⟩
    unfold reachBytes at hn'
    unfold maxLen
    omega)
  refine ⟨a, n, cap, M, rfl, ⟨f, hMl, hm, hr, fun i hi => (hM i hi).1⟩, hbd, hl, fun i => ?_⟩
  by_cases hi : i < n
  · exact (hM i hi).2
  · rw [show M.getD i [] = [] by simp [List.getD, List.getElem?_eq_none (show M.length ≤ i by omega)]]
    simp
/-- a matrix that came in -/
def GotMatrix (w : World) (cs : List Value) : Prop := ∃ M, MatV w (.agg cs.toArray) M ∧ M.length * 24 ≤ 140737488351232 ∧ ∀ i, (M.getD i []).length * 8 ≤ 140737488351232
theorem opens_matrix {t r e q : TypeId} {f : Field} (ht : P.underlying t = some (.struct #[f])) (ct : P.cellsOf t = 1) (f0 : f.offset = 0) (fr : f.type = r) (cr : P.cellsOf r = 1) (hr : P.underlying r = some (.slice e)) (he : P.underlying e = some (.slice q)) (hq : P.underlying q = some (.int .i64)) (ce : P.cellsOf e = 1) (be : P.bytesOf e = 24) (cq : P.cellsOf q = 1) (bq : P.bytesOf q = 8) : Opens enc P t GotMatrix := by
  refine (opens_struct (R := fun _ => GotRows) ht (fun i g hg => ?_)).mono ?_
  · have : i = 0 ∧ g = f := by
      match i with
      | 0 => simp at hg; exact ⟨rfl, hg.symm⟩
      | i + 1 => simp at hg
    obtain ⟨rfl, rfl⟩ := this
    rw [fr]
    exact opens_rows hr he hq ce be cq bq
  · rintro w cs ⟨hl, h⟩
    have h0 := h 0 f rfl
    rw [f0, fr, cr, List.drop_zero, List.take_of_length_le (by rw [hl, ct]; exact Nat.le_refl _)] at h0
    obtain ⟨a, n, cap, M, rfl, hM, h1, h2, h3⟩ := h0
    have hml : M.length = n := by obtain ⟨_, h, _⟩ := hM; exact h
    refine ⟨M, ⟨a, n, cap, rfl, hM⟩, ?_, h3⟩
    rw [hml]
    exact Nat.le_trans (Nat.mul_le_mul_right _ h2) h1
end
end Go.Proofs.Ytmphbajnadbggab
