/- Texts of one proof, one behind the other: MemOpen, OpenC, OpenR, OpenK. -/
import Derived.Test.YtmphbajnadbggabKCore
import Derived.Test.YtmphbajnadbggabKRegs
import Derived.Test.YtmphbajnadbggabRecMem
import Derived.Test.YtmphbajnadbggabAnsMem
import Derived.Deep.Slices
import Derived.SizedLaws
import Derived.ChangeArms
/- Plain facts on slices that came in. -/
namespace Go.Proofs.Ytmphbajnadbggab
open Go.RowKit
set_option linter.unusedVariables false
/-- a slice of bytes reads xs -/
def Bytes (w : World) (a : Option Addr) (n cap : Nat) (xs : List Int) : Prop := xs.length = n ∧ IsRow w a n cap (fun i => .int .u8 (xs.getD i 0))
theorem row_le {w : World} {a : Option Addr} {n cap : Nat} {f : Nat → Value} (h : IsRow w a n cap f) : n ≤ cap := by
  rcases h with h | h | h <;> omega
theorem getD_take {α : Type} {zs : List α} {n i : Nat} (d : α) (h : i < n) : (zs.take n).getD i d = zs.getD i d := by
  simp [List.getD, h]
theorem row_of_add {w : World} {x : Addr} {n cap : Nat} {f : Nat → Value} (hl : n ≤ cap) (hc : ∀ i, i < n → w.cell? (x.add i) = some (f i)) : IsRow w (some x) n cap f := by
  by_cases h0 : n = 0
  · exact .inr (.inl ⟨h0, x, rfl⟩)
  · obtain ⟨b, off, spot⟩ := x
    have h := hc 0 (by omega)
    have hs : spot = none := by simpa [Addr.add] using World.cell?_spot h
    subst hs
    refine .inr (.inr ⟨by omega, hl, b, off, rfl, fun i hi => ?_⟩)
    have := hc i hi
    have e : (⟨b, off, none⟩ : Addr).add i = ⟨b, off + i, none⟩ := by unfold Addr.add; split <;> simp_all
    rw [e] at this; exact this
end Go.Proofs.Ytmphbajnadbggab
/- Opening what came in: by the shape of its type. -/
namespace Go.Proofs.Ytmphbajnadbggab
open Go.RowKit Go.ChangeShapes Go.WideShapes
set_option linter.unusedVariables false
set_option linter.unusedSimpArgs false
section
variable {H : Type} {enc : TypeId × Value → H} {P : Program}
/-- whatever is read at type t, of which no part is too great, is as R says -/
def Opens (enc : TypeId × Value → H) (P : Program) (t : TypeId) (R : World → List Value → Prop) : Prop :=
  ∀ (w : World) (fuel : Nat) (cs : List Value) (x : DataW H × List MemPlace), DataW.trod enc P w 0 (fun _ => true) true fuel t cs = some x → (∀ n ∈ x.1.weights P t, n ≤ reachBytes) → R w cs
theorem Opens.mono {t : TypeId} {R R' : World → List Value → Prop} (h : Opens enc P t R) (h' : ∀ w cs, R w cs → R' w cs) : Opens enc P t R' := fun w fuel cs x hx hw => h' w cs (h w fuel cs x hx hw)
theorem opens_int {t : TypeId} {k : IntKind} (ht : P.underlying t = some (.int k)) : Opens enc P t (fun _ cs => ∃ z, cs = [.int k z] ∧ (Lit.int k z).wf = true) := by
  intro w fuel cs x h _
  cases fuel with
  | zero => simp [DataW.trod] at h
  | succ n =>
    unfold DataW.trod at h
    rw [ht] at h
    split at h <;> simp_all
theorem opens_bool {t : TypeId} (ht : P.underlying t = some .bool) : Opens enc P t (fun _ cs => ∃ b, cs = [.bool b]) := by
  intro w fuel cs x h _
  cases fuel with
  | zero => simp [DataW.trod] at h
  | succ n =>
    unfold DataW.trod at h
    rw [ht] at h
    split at h <;> simp_all
theorem opens_string {t : TypeId} (ht : P.underlying t = some .string) : Opens enc P t (fun _ cs => ∃ s : ByteArray, cs = [.string s] ∧ s.size ≤ reachBytes) := by
  intro w fuel cs x h hw
  cases fuel with
  | zero => simp [DataW.trod] at h
  | succ n =>
    unfold DataW.trod at h
    rw [ht] at h
    split at h <;> try simp_all
    rename_i s
    obtain ⟨h1, rfl⟩ := h
    have := hw s.size (by simp [DataW.weights])
    simpa using this
theorem weightsAll_mem {e : TypeId} : ∀ {l : List (DataW H)} {d : DataW H} {n : Nat}, d ∈ l → n ∈ d.weights P e → n ∈ DataW.weightsAll P e l
  | d0 :: l, d, n, hd, hn => by
    simp only [DataW.weightsAll, List.mem_append]
    rcases List.mem_cons.1 hd with rfl | hd
    · exact .inl hn
    · exact .inr (weightsAll_mem hd hn)
/-- a slice whose elements (each of c cells) are as R says -/
def SliceR (R : World → List Value → Prop) (c : Nat) (w : World) (a : Option Addr) (n cap : Nat) : Prop :=
  (a = none ∧ n = 0 ∧ cap = 0) ∨ ∃ x : Addr, a = some x ∧ n ≤ cap ∧ cap ≤ maxLen ∧ ∀ i, i < cap → ∃ cs, w.cells? 0 (x.add (i * c)) c = some cs ∧ R w cs
theorem opens_slice {t e : TypeId} {R : World → List Value → Prop} (ht : P.underlying t = some (.slice e)) (hR : Opens enc P e R) :
    Opens enc P t (fun w cs => ∃ a n cap, cs = [.slice a n cap] ∧ SliceR R (P.cellsOf e) w a n cap ∧ cap * P.bytesOf e ≤ reachBytes) := by
  intro w fuel cs x h hw
  rcases Go.Deep.open_slice ht h with ⟨rfl, _⟩ | ⟨a, len, cap, m, n, D, Pl, rfl, hb, hl, hm, hmm, rfl, hx⟩
  · exact ⟨none, 0, 0, rfl, .inl ⟨rfl, rfl, rfl⟩, by simp⟩
  · simp only [if_true] at hmm
    subst hmm
    simp only [DataW.weights, ht, List.length_map, List.length_range] at hw
    have h0 := hw _ (List.mem_cons_self ..)
    rw [show len + (m - len) = m by omega] at h0
    refine ⟨some a, len, m, rfl, .inr ⟨a, rfl, hl, hm, fun i hi => ?_⟩, h0⟩
    obtain ⟨cs', h1, h2⟩ := hx i hi
    refine ⟨cs', h1, hR w n cs' _ h2 (fun k hk => hw k ?_)⟩
    refine List.mem_cons_of_mem _ ?_
    rw [List.mem_append]
    by_cases hil : i < len
    · exact .inl (weightsAll_mem (d := D i) (List.mem_map.2 ⟨i, by simpa using hil, rfl⟩) hk)
    · exact .inr (weightsAll_mem (d := D i) (List.mem_map.2 ⟨i - len, by simp; omega, by rw [show len + (i - len) = i by omega]⟩) hk)
theorem opens_struct {t : TypeId} {fs : Array Field} {R : Nat → World → List Value → Prop} (ht : P.underlying t = some (.struct fs)) (hR : ∀ (i : Nat) f, fs[i]? = some f → Opens enc P f.type (R i)) :
    Opens enc P t (fun w cs => cs.length = P.cellsOf t ∧ ∀ (i : Nat) f, fs[i]? = some f → R i w ((cs.drop f.offset).take (P.cellsOf f.type))) := by
  intro w fuel cs x h hw
  obtain ⟨xs, n, rfl, rfl, hl, hxl, hx⟩ := DataW.trod_struct ht h
  refine ⟨hl, fun i f hf => ?_⟩
  have hi : i < fs.size := (Array.getElem?_eq_some_iff.1 hf).1
  have hxi := hx i f hf
  rw [List.getElem?_eq_getElem (by omega)] at hxi
  refine hR i f hf w n _ _ hxi (fun k hk => hw k ?_)
  simp only [DataW.weights, ht]
  refine DataW.weights_mem_each (j := i) (t := f.type) (d := (xs[i]'(by omega)).1) ?_ ?_ k hk
  · simp [hf]
  · simp [List.getElem?_eq_getElem (show i < xs.length by omega)]
theorem okWide_struct {w : World} {r : Reach} {base : Nat} {t : TypeId} {v : Value} {fs : Array Field} (ht : P.underlying t = some (.struct fs)) (h : Value.okWide P w r base t v) : ∃ cs, v = .agg cs := by
  unfold Value.okWide at h
  rw [ht] at h
  obtain ⟨cs, rfl, _⟩ := h
  exact ⟨cs, rfl⟩
theorem cells_one {w : World} {x : Addr} {c : List Value} (h : w.cells? 0 x 1 = some c) : ∃ v, c = [v] ∧ w.cell? x = some v := by
  obtain ⟨_, hl, hc⟩ := World.cells?_some h
  match c, hl with
  | [v], _ =>
    have := hc 0 (by omega)
    have e : x.add 0 = x := by unfold Addr.add; split <;> simp_all
    rw [e] at this
    exact ⟨v, rfl, by simpa using this⟩
/-- a slice of elements of one cell: a row of values, each as R says -/
theorem SliceR.row {R : World → List Value → Prop} {w : World} {a : Option Addr} {n cap : Nat} (h : SliceR R 1 w a n cap) : ∃ f : Nat → Value, IsRow w a n cap f ∧ n ≤ cap ∧ n ≤ maxLen ∧ ∀ i, i < n → R w [f i] := by
  rcases h with ⟨rfl, rfl, rfl⟩ | ⟨x, rfl, hl, hm, hc⟩
  · exact ⟨fun _ => undef, .inl ⟨rfl, rfl, rfl⟩, Nat.le_refl _, Nat.zero_le _, fun i hi => by omega⟩
  · have each : ∀ i, i < cap → ∃ v, w.cell? (x.add i) = some v ∧ R w [v] := fun i hi => by
      obtain ⟨cs, h1, h2⟩ := hc i hi
      rw [Nat.mul_one] at h1
      obtain ⟨v, rfl, hv⟩ := cells_one h1
      exact ⟨v, hv, h2⟩
    refine ⟨fun i => if h : i < cap then (each i h).choose else undef, row_of_add hl (fun i hi => ?_), hl, Nat.le_trans hl hm, fun i hi => ?_⟩
    · have hi' : i < cap := by omega
      simp only [dif_pos hi']; exact (each i hi').choose_spec.1
    · have hi' : i < cap := by omega
      simp only [dif_pos hi']; exact (each i hi').choose_spec.2
theorem list_of {α : Type} {p : Nat → α → Prop} {n : Nat} (d : α) (h : ∀ i, i < n → ∃ x, p i x) : ∃ l : List α, l.length = n ∧ ∀ i, i < n → p i (l.getD i d) := by
  refine ⟨(List.range n).map (fun i => if h' : i < n then (h i h').choose else d), by simp, fun i hi => ?_⟩
  have e : ((List.range n).map (fun i => if h' : i < n then (h i h').choose else d)).getD i d = (h i hi).choose := by
    simp [List.getD, hi]
  rw [e]; exact (h i hi).choose_spec
theorem IsRow.congr' {w : World} {a : Option Addr} {n cap : Nat} {f g : Nat → Value} (h : IsRow w a n cap f) (he : ∀ i, i < n → f i = g i) : IsRow w a n cap g := by
  rcases h with h | h | ⟨h1, h2, b, off, e, hc⟩
  · exact .inl h
  · exact .inr (.inl h)
  · exact .inr (.inr ⟨h1, h2, b, off, e, fun i hi => by rw [hc i hi, he i hi]⟩)
/-- a slice of ints that came in -/
def GotInts (w : World) (cs : List Value) : Prop := ∃ a n cap xs, cs = [.slice a n cap] ∧ Ints w a n cap xs ∧ cap * 8 ≤ reachBytes ∧ n ≤ cap ∧ ∀ x ∈ xs, (Lit.int .i64 x).wf = true
theorem opens_ints {t e : TypeId} (ht : P.underlying t = some (.slice e)) (he : P.underlying e = some (.int .i64)) (hc : P.cellsOf e = 1) (hb : P.bytesOf e = 8) : Opens enc P t GotInts := by
  refine (opens_slice ht (opens_int he)).mono ?_
  rintro w cs ⟨a, n, cap, rfl, hs, hbd⟩
  rw [hc] at hs
  rw [hb] at hbd
  obtain ⟨f, hr, hl, hm, hR⟩ := hs.row
  obtain ⟨xs, hxl, hx⟩ := list_of (α := Int) (p := fun i z => f i = .int .i64 z ∧ (Lit.int .i64 z).wf = true) 0 (fun i hi => by
    obtain ⟨z, h1, h2⟩ := hR i hi
    exact ⟨z, by simpa using h1, h2⟩)
  refine ⟨a, n, cap, xs, rfl, ⟨hxl, hr.congr' (fun i hi => (hx i hi).1)⟩, hbd, hl, fun z hz => ?_⟩
  obtain ⟨i, hi, rfl⟩ := List.getElem_of_mem hz
  have := (hx i (by omega)).2
  simpa [List.getD, List.getElem?_eq_getElem hi] using this
/-- a slice of strings that came in -/
def GotStrs (w : World) (cs : List Value) : Prop := ∃ a n cap xs, cs = [.slice a n cap] ∧ Strs w a n cap xs ∧ cap * 16 ≤ reachBytes ∧ n ≤ cap ∧ ∀ x ∈ xs, x.size ≤ reachBytes
theorem opens_strs {t e : TypeId} (ht : P.underlying t = some (.slice e)) (he : P.underlying e = some .string) (hc : P.cellsOf e = 1) (hb : P.bytesOf e = 16) : Opens enc P t GotStrs := by
  refine (opens_slice ht (opens_string he)).mono ?_
  rintro w cs ⟨a, n, cap, rfl, hs, hbd⟩
  rw [hc] at hs
  rw [hb] at hbd
  obtain ⟨f, hr, hl, hm, hR⟩ := hs.row
  obtain ⟨xs, hxl, hx⟩ := list_of (α := ByteArray) (p := fun i z => f i = .string z ∧ z.size ≤ reachBytes) ByteArray.empty (fun i hi => by
    obtain ⟨z, h1, h2⟩ := hR i hi
    exact ⟨z, by simpa using h1, h2⟩)
  refine ⟨a, n, cap, xs, rfl, ⟨hxl, hr.congr' (fun i hi => (hx i hi).1)⟩, hbd, hl, fun z hz => ?_⟩
  obtain ⟨i, hi, rfl⟩ := List.getElem_of_mem hz
  have := (hx i (by omega)).2
  simpa [List.getD, List.getElem?_eq_getElem hi] using this
/-- rows of numbers that came in -/
def GotRows (w : World) (cs : List Value) : Prop := ∃ a n cap M, cs = [.slice a n cap] ∧ RowsV w a n cap M ∧ cap * 24 ≤ reachBytes ∧ n ≤ cap ∧ ∀ i, (M.getD i []).length * 8 ≤ reachBytes
theorem opens_rows {t e q : TypeId} (ht : P.underlying t = some (.slice e)) (he : P.underlying e = some (.slice q)) (hq : P.underlying q = some (.int .i64)) (ce : P.cellsOf e = 1) (be : P.bytesOf e = 24) (cq : P.cellsOf q = 1) (bq : P.bytesOf q = 8) : Opens enc P t GotRows := by
  refine (opens_slice ht (opens_ints he hq cq bq)).mono ?_
  rintro w cs ⟨a, n, cap, rfl, hs, hbd⟩
  rw [ce] at hs
  rw [be] at hbd
  obtain ⟨f, hr, hl, hm, hR⟩ := hs.row
  obtain ⟨M, hMl, hM⟩ := list_of (α := List Int) (p := fun i r => RowV w (f i) r ∧ r.length * 8 ≤ reachBytes) [] (fun i hi => by
    obtain ⟨a', n', cap', xs, h1, h2, h3, h4, _⟩ := hR i hi
    have hlen := h2.1
    have hn' : n' * 8 ≤ reachBytes := Nat.le_trans (Nat.mul_le_mul_right _ h4) h3
    refine ⟨xs, ⟨a', n', cap', by simpa using h1, ?_, h2⟩, by rw [hlen]; exact hn'⟩
    unfold reachBytes at hn'
    unfold maxLen
    omega)
  refine ⟨a, n, cap, M, rfl, ⟨f, hMl, hm, hr, fun i hi => (hM i hi).1⟩, hbd, hl, fun i => ?_⟩
  by_cases hi : i < n
  · exact (hM i hi).2
  · rw [show M.getD i [] = [] by simp [List.getD, List.getElem?_eq_none (show M.length ≤ i by omega)]]
    simp
/-- a matrix that came in -/
def GotMatrix (w : World) (cs : List Value) : Prop := ∃ M, MatV w (.agg cs.toArray) M ∧ M.length * 24 ≤ 140737488351232 ∧ ∀ i, (M.getD i []).length * 8 ≤ 140737488351232
theorem opens_matrix {t r e q : TypeId} {f : Field} (ht : P.underlying t = some (.struct #[f])) (ct : P.cellsOf t = 1) (f0 : f.offset = 0) (fr : f.type = r) (cr : P.cellsOf r = 1) (hr : P.underlying r = some (.slice e)) (he : P.underlying e = some (.slice q)) (hq : P.underlying q = some (.int .i64)) (ce : P.cellsOf e = 1) (be : P.bytesOf e = 24) (cq : P.cellsOf q = 1) (bq : P.bytesOf q = 8) : Opens enc P t GotMatrix := by
  refine (opens_struct (R := fun _ => GotRows) ht (fun i g hg => ?_)).mono ?_
  · have : i = 0 ∧ g = f := by
      match i with
      | 0 => simp at hg; exact ⟨rfl, hg.symm⟩
      | i + 1 => simp at hg
    obtain ⟨rfl, rfl⟩ := this
    rw [fr]
    exact opens_rows hr he hq ce be cq bq
  · rintro w cs ⟨hl, h⟩
    have h0 := h 0 f rfl
    rw [f0, fr, cr, List.drop_zero, List.take_of_length_le (by rw [hl, ct]; exact Nat.le_refl _)] at h0
    obtain ⟨a, n, cap, M, rfl, hM, h1, h2, h3⟩ := h0
    have hml : M.length = n := by obtain ⟨_, h, _⟩ := hM; exact h
    refine ⟨M, ⟨a, n, cap, rfl, hM⟩, ?_, h3⟩
    rw [hml]
    exact Nat.le_trans (Nat.mul_le_mul_right _ h2) h1
end
end Go.Proofs.Ytmphbajnadbggab
/- Opening structs and slices of structs that came in. -/
namespace Go.Proofs.Ytmphbajnadbggab
open Go.RowKit Go.ChangeShapes Go.WideShapes
set_option linter.unusedVariables false
set_option linter.unusedSimpArgs false
theorem rec_of_add {w : World} {x : Addr} {n cap z : Nat} {f : Nat → Value} (hz : 0 < z) (hl : n ≤ cap) (hc : ∀ i, i < n * z → w.cell? (x.add i) = some (f i)) : RecV w (some x) n cap z f := by
  by_cases h0 : n = 0
  · exact .inr (.inl ⟨h0, x, rfl⟩)
  · obtain ⟨b, off, spot⟩ := x
    have h := hc 0 (Nat.mul_pos (by omega) hz)
    have hs : spot = none := by simpa [Addr.add] using World.cell?_spot h
    subst hs
    refine .inr (.inr ⟨by omega, hl, b, off, rfl, fun i hi => ?_⟩)
    have := hc i hi
    rw [add_row] at this; exact this
theorem addr_two (x : Addr) (i j : Nat) : (x.add i).add j = x.add (i + j) := by
  unfold Addr.add
  by_cases hi : i = 0
  · subst hi; simp
  · by_cases hj : j = 0
    · subst hj; simp
    · rw [if_neg hi, if_neg hj, if_neg (by omega)]
      simp [Nat.add_assoc]
/-- a slice of structs: its cells, and what each struct's are -/
theorem SliceR.recs {R : World → List Value → Prop} {w : World} {a : Option Addr} {n cap z : Nat} (hz : 0 < z) (h : SliceR R z w a n cap) :
    ∃ f : Nat → Value, RecV w a n cap z f ∧ n ≤ cap ∧ n ≤ maxLen ∧ ∀ i, i < n → ∃ cs, cs.length = z ∧ R w cs ∧ ∀ j, j < z → cs[j]? = some (f (i * z + j)) := by
  rcases h with ⟨rfl, rfl, rfl⟩ | ⟨x, rfl, hl, hm, hc⟩
  · exact ⟨fun _ => undef, .inl ⟨rfl, rfl, rfl⟩, Nat.le_refl _, Nat.zero_le _, fun i hi => by omega⟩
  · have each : ∀ i, i < n → ∃ cs : List Value, cs.length = z ∧ R w cs ∧ ∀ j, j < z → ∃ v, cs[j]? = some v ∧ w.cell? (x.add (i * z + j)) = some v := fun i hi => by
      obtain ⟨cs, h1, h2⟩ := hc i (by omega)
      obtain ⟨_, h3, h4⟩ := World.cells?_some h1
      refine ⟨cs, h3, h2, fun j hj => ?_⟩
      have h5 := h4 j hj
      rw [List.getElem?_eq_getElem (by omega)] at h5
      exact ⟨cs[j], List.getElem?_eq_getElem _, by rw [← addr_two]; exact h5⟩
    let cs : Nat → List Value := fun i => if h : i < n then (each i h).choose else []
    have hcs : ∀ i, i < n → (cs i).length = z ∧ R w (cs i) ∧ ∀ j, j < z → ∃ v, (cs i)[j]? = some v ∧ w.cell? (x.add (i * z + j)) = some v := fun i hi => by
      have := (each i hi).choose_spec
      simp only [cs, dif_pos hi]; exact this
    refine ⟨fun k => (cs (k / z)).getD (k % z) undef, rec_of_add hz hl (fun k hk => ?_), hl, Nat.le_trans hl hm, fun i hi => ?_⟩
    · have hd : k / z < n := Nat.div_lt_of_lt_mul (by rw [Nat.mul_comm]; exact hk)
      have hm' : k % z < z := Nat.mod_lt _ hz
      obtain ⟨v, h1, h2⟩ := (hcs _ hd).2.2 _ hm'
      have e : k / z * z + k % z = k := by rw [Nat.mul_comm]; exact Nat.div_add_mod k z
      rw [e] at h2
      rw [h2]
      simp [List.getD, h1]
    · obtain ⟨h1, h2, h3⟩ := hcs i hi
      refine ⟨cs i, h1, h2, fun j hj => ?_⟩
      have e1 : (i * z + j) / z = i := by rw [Nat.mul_comm, Nat.mul_add_div hz]; simp [Nat.div_eq_of_lt hj]
      have e2 : (i * z + j) % z = j := by rw [Nat.mul_comm, Nat.mul_add_mod]; exact Nat.mod_eq_of_lt hj
      show (cs i)[j]? = some ((cs ((i * z + j) / z)).getD ((i * z + j) % z) undef)
      rw [e1, e2]
      obtain ⟨v, h4, _⟩ := h3 j hj
      rw [h4]
      simp [List.getD, h4]
section
variable {H : Type} {enc : TypeId × Value → H} {P : Program}
/-- a struct of fields of one cell each -/
theorem opens_flat {t : TypeId} {fs : Array Field} {n : Nat} {R : Nat → World → List Value → Prop} (ht : P.underlying t = some (.struct fs)) (ct : P.cellsOf t = n) (hn : fs.size = n) (ho : ∀ (i : Nat) f, fs[i]? = some f → f.offset = i ∧ P.cellsOf f.type = 1)
    (hR : ∀ (i : Nat) f, fs[i]? = some f → Opens enc P f.type (R i)) : Opens enc P t (fun w cs => cs.length = n ∧ ∀ i, i < n → ∃ v, cs[i]? = some v ∧ R i w [v]) := by
  refine (opens_struct ht hR).mono ?_
  rintro w cs ⟨hl, h⟩
  rw [ct] at hl
  refine ⟨hl, fun i hi => ?_⟩
  have hf : fs[i]? = some (fs[i]'(by omega)) := Array.getElem?_eq_getElem _
  have := h i _ hf
  obtain ⟨o1, o2⟩ := ho i _ hf
  rw [o1, o2] at this
  have e : (cs.drop i).take 1 = [cs[i]'(by omega)] := by
    rw [List.drop_eq_getElem_cons (by omega)]
    rfl
  rw [e] at this
  exact ⟨cs[i]'(by omega), List.getElem?_eq_getElem _, this⟩
end
end Go.Proofs.Ytmphbajnadbggab
/- Opening a question, and answers, that came in. -/
namespace Go.Proofs.Ytmphbajnadbggab
open Go.RowKit Go.ChangeShapes Go.WideShapes
set_option linter.unusedVariables false
set_option linter.unusedSimpArgs false
section
variable {H : Type} {enc : TypeId × Value → H} {P : Program}
theorem getD_of_some {α : Type} {l : List α} {i : Nat} {v d : α} (h : l[i]? = some v) : v = l.getD i d := by simp [List.getD, h]
def GotAsk (w : World) (cs : List Value) : Prop := ∃ q a n cap xs, cs = [.int .i64 q, .slice a n cap] ∧ (Lit.int .i64 q).wf = true ∧ Ints w a n cap xs ∧ n * 8 ≤ reachBytes
theorem opens_ask {t r e : TypeId} {f g : Field} (ht : P.underlying t = some (.struct #[f, g])) (ct : P.cellsOf t = 2) (f0 : f.offset = 0) (g0 : g.offset = 1) (fr : f.type = e) (gr : g.type = r) (hr : P.underlying r = some (.slice e)) (cr : P.cellsOf r = 1)
    (he : P.underlying e = some (.int .i64)) (ce : P.cellsOf e = 1) (be : P.bytesOf e = 8) : Opens enc P t GotAsk := by
  refine (opens_flat (R := fun i => if i = 0 then (fun _ cs => ∃ z, cs = [.int .i64 z] ∧ (Lit.int .i64 z).wf = true) else GotInts) ht ct rfl (fun i h hh => ?_) (fun i h hh => ?_)).mono ?_
  · match i with
    | 0 => simp at hh; subst hh; exact ⟨f0, by rw [fr]; exact ce⟩
    | 1 => simp at hh; subst hh; exact ⟨g0, by rw [gr]; exact cr⟩
    | i + 2 => simp at hh
  · match i with
    | 0 => simp at hh; subst hh; rw [fr]; exact opens_int he
    | 1 => simp at hh; subst hh; rw [gr]; exact opens_ints hr he ce be
    | i + 2 => simp at hh
  · rintro w cs ⟨hl, h⟩
    obtain ⟨v0, h0, z, e0, wz⟩ := h 0 (by decide)
    obtain ⟨v1, h1, a, n, cap, xs, e1, hI, hb, hle, _⟩ := h 1 (by decide)
    simp only [List.cons.injEq, and_true] at e0 e1
    subst e0 e1
    match cs, hl with
    | [x, y], _ =>
      simp at h0 h1
      subst h0 h1
      exact ⟨z, a, n, cap, xs, rfl, wz, hI, Nat.le_trans (Nat.mul_le_mul_right _ hle) hb⟩
def GotAnswers (w : World) (cs : List Value) : Prop := ∃ a n cap zs, cs = [.slice a n cap] ∧ AnsV w a n cap zs ∧ n * 48 ≤ reachBytes ∧ ∀ j, j < n → (zs.getD j ans0).path.length * 8 ≤ reachBytes
theorem opens_answers {t u s r e : TypeId} {f g h : Field} (ht : P.underlying t = some (.slice u)) (hu : P.underlying u = some (.struct #[f, g, h])) (cu : P.cellsOf u = 3) (bu : P.bytesOf u = 48)
    (f0 : f.offset = 0) (g0 : g.offset = 1) (h0 : h.offset = 2) (fr : f.type = s) (gr : g.type = r) (hr' : h.type = e) (hs : P.underlying s = some .string) (cs' : P.cellsOf s = 1) (hr : P.underlying r = some (.slice e)) (cr : P.cellsOf r = 1)
    (he : P.underlying e = some (.int .i64)) (ce : P.cellsOf e = 1) (be : P.bytesOf e = 8) : Opens enc P t GotAnswers := by
  have hU : Opens enc P u (fun w cs => ∃ (z : Ans) (p : Option Addr) (m c : Nat) (xs : List Int), cs = [.string z.blk, .slice p m c, .int .i64 z.keyed] ∧ z.path = xs ∧ m = xs.length ∧ Ints w p m c xs ∧ m * 8 ≤ reachBytes) := by
    refine (opens_flat (R := fun i => if i = 0 then (fun _ cs => ∃ s : ByteArray, cs = [.string s] ∧ s.size ≤ reachBytes) else if i = 1 then GotInts else (fun _ cs => ∃ z, cs = [.int .i64 z] ∧ (Lit.int .i64 z).wf = true)) hu cu rfl (fun i k hh => ?_) (fun i k hh => ?_)).mono ?_
    · match i with
      | 0 => simp at hh; subst hh; exact ⟨f0, by rw [fr]; exact cs'⟩
      | 1 => simp at hh; subst hh; exact ⟨g0, by rw [gr]; exact cr⟩
      | 2 => simp at hh; subst hh; exact ⟨h0, by rw [hr']; exact ce⟩
      | i + 3 => simp at hh
    · match i with
      | 0 => simp at hh; subst hh; rw [fr]; exact opens_string hs
      | 1 => simp at hh; subst hh; rw [gr]; exact opens_ints hr he ce be
      | 2 => simp at hh; subst hh; rw [hr']; exact opens_int he
      | i + 3 => simp at hh
    · rintro w cs ⟨hl, h⟩
      obtain ⟨v0, h0, z, e0, _⟩ := h 0 (by decide)
      obtain ⟨v1, h1, a, n, cap, xs, e1, hI, hb, hle, _⟩ := h 1 (by decide)
      obtain ⟨v2, h2, y, e2, _⟩ := h 2 (by decide)
      simp only [List.cons.injEq, and_true] at e0 e1 e2
      subst e0 e1 e2
      match cs, hl with
      | [x0, x1, x2], _ =>
        simp at h0 h1 h2
        subst h0 h1 h2
        exact ⟨⟨z, xs, y⟩, a, n, cap, xs, rfl, rfl, hI.1.symm, hI, Nat.le_trans (Nat.mul_le_mul_right _ hle) hb⟩
  refine (opens_slice ht hU).mono ?_
  rintro w cs ⟨a, n, cap, rfl, hS, hbd⟩
  rw [cu] at hS
  rw [bu] at hbd
  obtain ⟨f', hR, hle, hm, hE⟩ := hS.recs (by decide)
  obtain ⟨l, hll, hl⟩ := list_of (α := Value × Ans) (p := fun i y => f' (i * 3) = .string y.2.blk ∧ f' (i * 3 + 1) = y.1 ∧ f' (i * 3 + 2) = .int .i64 y.2.keyed ∧ ∃ p c, y.1 = .slice p y.2.path.length c ∧ Ints w p y.2.path.length c y.2.path ∧ y.2.path.length * 8 ≤ reachBytes) (undef, ans0) (fun i hi => by
    obtain ⟨cs, hcl, ⟨z, p, m, c, xs, rfl, hz, rfl, hI, hb⟩, hcs⟩ := hE i hi
    have c0 := hcs 0 (by decide)
    have c1 := hcs 1 (by decide)
    have c2 := hcs 2 (by decide)
    simp at c0 c1 c2
    exact ⟨(.slice p xs.length c, z), c0.symm, c1.symm, c2.symm, p, c, by rw [hz], by rw [hz]; exact hI, by rw [hz]; exact hb⟩)
  have hu1 : ∀ j, j < n → (l.map Prod.fst)[j]? = some (l.getD j (undef, ans0)).1 := fun j hj => by simp [List.getD, List.getElem?_eq_getElem (show j < l.length by omega)]
  have hz1 : ∀ j, j < n → (l.map Prod.snd).getD j ans0 = (l.getD j (undef, ans0)).2 := fun j hj => by simp [List.getD, List.getElem?_eq_getElem (show j < l.length by omega)]
  refine ⟨a, n, cap, l.map Prod.snd, rfl, ⟨by simpa using hll, l.map Prod.fst, by simpa using hll, hR.congr (fun i hi => ?_), fun j hj => ?_⟩, Nat.le_trans (Nat.mul_le_mul_right _ hle) hbd, fun j hj => ?_⟩
  · have hj : i / 3 < n := by omega
    obtain ⟨t1, t2, t3⟩ := ansCells_at (us := l.map Prod.fst) (zs := l.map Prod.snd) (by simp) (i := i / 3) (by simp; omega)
    obtain ⟨g1, g2, g3, _⟩ := hl _ hj
    rw [hz1 _ hj] at t1 t3
    rw [hu1 _ hj] at t2
    have : i = i / 3 * 3 ∨ i = i / 3 * 3 + 1 ∨ i = i / 3 * 3 + 2 := by omega
    rcases this with h | h | h
    · rw [h, g1]; exact getD_of_some t1
    · rw [h, g2]; exact getD_of_some t2
    · rw [h, g3]; exact getD_of_some t3
  · obtain ⟨_, _, _, p, c, e1, hI, _⟩ := hl j hj
    exact ⟨p, c, by rw [hu1 j hj, hz1 j hj, e1], by rw [hz1 j hj]; exact hI⟩
  · obtain ⟨_, _, _, p, c, _, _, hb⟩ := hl j hj
    rw [hz1 j hj]; exact hb
end
end Go.Proofs.Ytmphbajnadbggab
