/- Arrays that lie in a block: a line of 24 numbers, a pair of a size and 12 lines. -/
import Derived.Test.YtfeepmjkamdldaaDoorMem
import Derived.Test.YtfeepmjkamdldaaDoorProg
import Derived.Deep.MidRow
import Derived.Deep.WholeRow
namespace Go.Proofs.YtfeepmjkamdldaaDoor
open Go.RowKit
set_option linter.unusedVariables false
set_option linter.unusedSimpArgs false
/-- the cells of a line -/
def lineC (f : Nat → Nat) : List Value := (List.range 24).map (fun c => .int .i64 (f c))
/-- the cells of a pair -/
def pairC (k : Nat) (f : Nat → Nat → Nat) : List Value := .int .i64 k :: (List.range 288).map (fun j => .int .i64 (f (j / 24) (j % 24)))
theorem lineC_len (f : Nat → Nat) : (lineC f).length = 24 := by simp [lineC]
theorem pairC_len (k : Nat) (f : Nat → Nat → Nat) : (pairC k f).length = 289 := by simp [pairC]
theorem lineC_at {f : Nat → Nat} {c : Nat} (h : c < 24) : (lineC f)[c]? = some (.int .i64 (f c)) := by simp [lineC, h]
theorem pairC_zero (k : Nat) (f : Nat → Nat → Nat) : (pairC k f)[0]? = some (.int .i64 k) := by simp [pairC]
theorem pairC_at {k : Nat} {f : Nat → Nat → Nat} {r c : Nat} (hr : r < 12) (hc : c < 24) : (pairC k f)[1 + r * 24 + c]? = some (.int .i64 (f r c)) := by
  have h1 : (r * 24 + c) / 24 = r := by omega
  have h2 : (r * 24 + c) % 24 = c := by omega
  have h3 : r * 24 + c < 288 := by omega
  rw [show 1 + r * 24 + c = r * 24 + c + 1 by omega]
  simp [pairC, h1, h2, h3]
theorem lineC_congr {f g : Nat → Nat} (h : ∀ c, c < 24 → f c = g c) : lineC f = lineC g := by
  unfold lineC
  apply List.map_congr_left
  intro c hc
  rw [h c (by simpa using hc)]
theorem pairC_congr {k : Nat} {f g : Nat → Nat → Nat} (h : ∀ r c, r < 12 → c < 24 → f r c = g r c) : pairC k f = pairC k g := by
  unfold pairC
  congr 1
  apply List.map_congr_left
  intro j hj
  have : j < 288 := by simpa using hj
  rw [h (j / 24) (j % 24) (by omega) (by omega)]
theorem lineC_one (f : Nat → Nat) : ∀ v ∈ lineC f, v.oneCell' = true := by
  intro v hv
  simp only [lineC, List.mem_map] at hv
  obtain ⟨c, _, rfl⟩ := hv
  rfl
theorem pairC_one (k : Nat) (f : Nat → Nat → Nat) : ∀ v ∈ pairC k f, v.oneCell' = true := by
  intro v hv
  simp only [pairC, List.mem_cons, List.mem_map] at hv
  rcases hv with rfl | ⟨c, _, rfl⟩ <;> rfl
/-- a pair with one row put anew -/
def putRow (r : Nat) (g : Nat → Nat) (f : Nat → Nat → Nat) : Nat → Nat → Nat := fun i c => if i = r then g c else f i c
def putAt (r c x : Nat) (f : Nat → Nat → Nat) : Nat → Nat → Nat := fun i j => if i = r ∧ j = c then x else f i j
def putOne (c x : Nat) (f : Nat → Nat) : Nat → Nat := fun j => if j = c then x else f j
/-- what cells a row of stores leaves -/
theorem setCells_block (b : Nat) : ∀ (vs : List Value) (o : Nat) (w : World) (C : List Value) (t : TypeId) (fr : Nat × Nat), w.heap[b]? = some (.cells C.toArray t fr) → o + vs.length ≤ C.length →
    ∃ C' : List Value, (w.setCells b o vs).heap[b]? = some (.cells C'.toArray t fr) ∧ C'.length = C.length ∧ (∀ j, j < o → C'[j]? = C[j]?) ∧ (∀ j, o + vs.length ≤ j → C'[j]? = C[j]?) ∧ (∀ j, j < vs.length → C'[o + j]? = vs[j]?)
  | [], o, w, C, t, fr, h, hl => ⟨C, h, rfl, fun _ _ => rfl, fun _ _ => rfl, fun j hj => absurd hj (by simp)⟩
  | v :: r, o, w, C, t, fr, h, hl => by
    have hb : b < w.heap.size := (Array.getElem?_eq_some_iff.1 h).1
    have h1 : (w.setCell ⟨b, o, none⟩ v).heap[b]? = some (.cells (C.set o v).toArray t fr) := by
      simp only [World.setCell, Array.getElem?_modify, if_true, h]
      simp
    obtain ⟨C', e1, e2, e3, e4, e5⟩ := setCells_block b r (o + 1) _ (C.set o v) t fr h1 (by simp at hl ⊢; omega)
    simp at hl
    refine ⟨C', e1, by simpa using e2, fun j hj => ?_, fun j hj => ?_, fun j hj => ?_⟩
    · rw [e3 j (by omega), List.getElem?_set_ne (by omega)]
    · rw [e4 j (by simp at hj; omega), List.getElem?_set_ne (by simp at hj; omega)]
    · cases j with
      | zero => rw [Nat.add_zero, e3 o (by omega), List.getElem?_set_self (by omega)]; simp
      | succ j => rw [show o + (j + 1) = o + 1 + j by omega, e5 j (by simp at hj; omega)]; simp
theorem setCells_other (b : Nat) : ∀ (vs : List Value) (o : Nat) (w : World) (j : Nat), j ≠ b → (w.setCells b o vs).heap[j]? = w.heap[j]?
  | [], _, _, _, _ => rfl
  | v :: r, o, w, j, h => by
    rw [World.setCells, setCells_other b r (o + 1) _ j h]
    simp only [World.setCell, Array.getElem?_modify]
    rw [if_neg (fun e => h e.symm)]
theorem setCells_rest (b : Nat) : ∀ (vs : List Value) (o : Nat) (w : World), (w.setCells b o vs).heap.size = w.heap.size ∧ (w.setCells b o vs).tape = w.tape ∧ (w.setCells b o vs).os = w.os ∧ (w.setCells b o vs).output = w.output
  | [], _, _ => ⟨rfl, rfl, rfl, rfl⟩
  | v :: r, o, w => by
    obtain ⟨a, b', c, d⟩ := setCells_rest b r (o + 1) (w.setCell ⟨b, o, none⟩ v)
    rw [World.setCells]
    exact ⟨by rw [a]; simp [World.setCell], by rw [b']; rfl, by rw [c]; rfl, by rw [d]; rfl⟩
theorem below_setCells {B b : Nat} (h : B ≤ b) : ∀ (vs : List Value) (o : Nat) (w w0 : World), Below B w0 w → Below B w0 (w.setCells b o vs)
  | [], _, _, _, k => k
  | v :: r, o, w, w0, k => by
    rw [World.setCells]
    exact below_setCells h r (o + 1) _ w0 (k.setCell h _)
/-- a line, a pair in a block of its own -/
def LineAt (w : World) (g : Nat) (f : Nat → Nat) : Prop := w.heap[g]? = some (.cells (lineC f).toArray 71 (0, 0))
def PairAt (w : World) (g k : Nat) (f : Nat → Nat → Nat) : Prop := w.heap[g]? = some (.cells (pairC k f).toArray 74 (0, 0))
theorem cell_of_list {w : World} {g o : Nat} {C : List Value} {t : TypeId} {v : Value} (h : w.heap[g]? = some (.cells C.toArray t (0, 0))) (hv : C[o]? = some v) : w.cell? ⟨g, o, none⟩ = some v := by
  rw [cell_of_row w g o C.toArray t (0, 0) h]; simpa using hv
theorem free_of_list {w : World} {g o : Nat} {C : Array Value} {t : TypeId} (h : w.heap[g]? = some (.cells C t (0, 0))) : w.frozen? ⟨g, o, none⟩ = false := by simp [World.frozen?, h]
theorem LineAt.cell {w : World} {g c : Nat} {f : Nat → Nat} (h : LineAt w g f) (hc : c < 24) : w.cell? ⟨g, c, none⟩ = some (.int .i64 (f c)) := cell_of_list h (lineC_at hc)
theorem PairAt.size {w : World} {g k : Nat} {f : Nat → Nat → Nat} (h : PairAt w g k f) : w.cell? ⟨g, 0, none⟩ = some (.int .i64 k) := cell_of_list h (pairC_zero k f)
theorem PairAt.cell {w : World} {g k r c : Nat} {f : Nat → Nat → Nat} (h : PairAt w g k f) (hr : r < 12) (hc : c < 24) : w.cell? ⟨g, 1 + r * 24 + c, none⟩ = some (.int .i64 (f r c)) := cell_of_list h (pairC_at hr hc)
theorem PairAt.row {w : World} {g k r : Nat} {f : Nat → Nat → Nat} (h : PairAt w g k f) (hr : r < 12) : w.rangeAt g (1 + r * 24) (lineC (f r)) := fun j v hv => by
  have hj : j < 24 := by have := (List.getElem?_eq_some_iff.1 hv).1; rwa [lineC_len] at this
  rw [lineC_at hj] at hv
  simp only [Option.some.injEq] at hv
  rw [h.cell hr hj, hv]
theorem LineAt.range {w : World} {g : Nat} {f : Nat → Nat} (h : LineAt w g f) : w.rangeAt g 0 (lineC f) := fun j v hv => by
  rw [Nat.zero_add]; exact cell_of_list h hv
theorem PairAt.range {w : World} {g k : Nat} {f : Nat → Nat → Nat} (h : PairAt w g k f) : w.rangeAt g 0 (pairC k f) := fun j v hv => by
  rw [Nat.zero_add]; exact cell_of_list h hv
theorem there_of_list {w : World} {g o n : Nat} {C : List Value} {t : TypeId} (h : w.heap[g]? = some (.cells C.toArray t (0, 0))) (hl : o + n ≤ C.length) : w.there g o n := fun j hj => by
  refine ⟨?_, free_of_list h⟩
  rw [cell_of_row w g (o + j) C.toArray t (0, 0) h]
  simp; omega
theorem LineAt.there {w : World} {g : Nat} {f : Nat → Nat} (h : LineAt w g f) : w.there g 0 24 := there_of_list h (by rw [lineC_len]; omega)
theorem PairAt.there {w : World} {g k r : Nat} {f : Nat → Nat → Nat} (h : PairAt w g k f) (hr : r < 12) : w.there g (1 + r * 24) 24 := there_of_list h (by rw [pairC_len]; omega)
theorem PairAt.thereAll {w : World} {g k : Nat} {f : Nat → Nat → Nat} (h : PairAt w g k f) : w.there g 0 289 := there_of_list h (by rw [pairC_len]; omega)
theorem LineAt.below {w w' : World} {g : Nat} {f : Nat → Nat} (h : LineAt w g f) (hb : Below w.heap.size w w') : LineAt w' g f := (hb.block _ (Array.getElem?_eq_some_iff.1 h).1).trans h
theorem PairAt.below {w w' : World} {g k : Nat} {f : Nat → Nat → Nat} (h : PairAt w g k f) (hb : Below w.heap.size w w') : PairAt w' g k f := (hb.block _ (Array.getElem?_eq_some_iff.1 h).1).trans h
theorem PairAt.lt {w : World} {g k : Nat} {f : Nat → Nat → Nat} (h : PairAt w g k f) : g < w.heap.size := (Array.getElem?_eq_some_iff.1 h).1
theorem LineAt.lt {w : World} {g : Nat} {f : Nat → Nat} (h : LineAt w g f) : g < w.heap.size := (Array.getElem?_eq_some_iff.1 h).1
/-- every cell of a pair is its size or a number of a row -/
theorem pair_ext {k : Nat} {f : Nat → Nat → Nat} {C : List Value} (hl : C.length = 289) (h0 : C[0]? = some (.int .i64 k)) (h : ∀ r c, r < 12 → c < 24 → C[1 + r * 24 + c]? = some (.int .i64 (f r c))) : C = pairC k f := by
  apply List.ext_getElem?
  intro j
  by_cases hj : j < 289
  · cases j with
    | zero => rw [h0, pairC_zero]
    | succ j =>
      have e := h (j / 24) (j % 24) (by omega) (by omega)
      have e' := pairC_at (k := k) (f := f) (r := j / 24) (c := j % 24) (by omega) (by omega)
      rw [show 1 + j / 24 * 24 + j % 24 = j + 1 by omega] at e e'
      rw [e, e']
  · rw [List.getElem?_eq_none (by omega), List.getElem?_eq_none (by rw [pairC_len]; omega)]
theorem line_ext {f : Nat → Nat} {C : List Value} (hl : C.length = 24) (h : ∀ c, c < 24 → C[c]? = some (.int .i64 (f c))) : C = lineC f := by
  apply List.ext_getElem?
  intro j
  by_cases hj : j < 24
  · rw [h j hj, lineC_at hj]
  · rw [List.getElem?_eq_none (by omega), List.getElem?_eq_none (by rw [lineC_len]; omega)]
theorem PairAt.setRow {w : World} {g k r : Nat} {f : Nat → Nat → Nat} (h : PairAt w g k f) (hr : r < 12) (q : Nat → Nat) : PairAt (w.setCells g (1 + r * 24) (lineC q)) g k (putRow r q f) := by
  obtain ⟨C', e1, e2, e3, e4, e5⟩ := setCells_block g (lineC q) (1 + r * 24) w (pairC k f) _ _ h (by rw [lineC_len, pairC_len]; omega)
  rw [pairC_len] at e2
  have : C' = pairC k (putRow r q f) := pair_ext e2 (by rw [e3 0 (by omega), pairC_zero]) (fun i c hi hc => by
    by_cases e : i = r
    · subst e
      rw [e5 c (by rw [lineC_len]; exact hc), lineC_at hc]; simp [putRow]
    · have hp : putRow r q f i c = f i c := by simp [putRow, e]
      rw [hp]
      by_cases hlt : i < r
      · rw [e3 _ (by omega), pairC_at hi hc]
      · rw [e4 _ (by rw [lineC_len]; omega), pairC_at hi hc])
  rw [PairAt, e1, this]
theorem PairAt.setAll {w : World} {g k k' : Nat} {f q : Nat → Nat → Nat} (h : PairAt w g k f) : PairAt (w.setCells g 0 (pairC k' q)) g k' q := by
  obtain ⟨C', e1, e2, e3, e4, e5⟩ := setCells_block g (pairC k' q) 0 w (pairC k f) _ _ h (by rw [pairC_len, pairC_len]; omega)
  rw [pairC_len] at e2
  have : C' = pairC k' q := List.ext_getElem? (fun j => by
    by_cases hj : j < 289
    · have := e5 j (by rw [pairC_len]; exact hj)
      rwa [Nat.zero_add] at this
    · rw [List.getElem?_eq_none (by omega), List.getElem?_eq_none (by rw [pairC_len]; omega)])
  rw [PairAt, e1, this]
theorem LineAt.setAll {w : World} {g : Nat} {f q : Nat → Nat} (h : LineAt w g f) : LineAt (w.setCells g 0 (lineC q)) g q := by
  obtain ⟨C', e1, e2, e3, e4, e5⟩ := setCells_block g (lineC q) 0 w (lineC f) _ _ h (by rw [lineC_len, lineC_len]; omega)
  rw [lineC_len] at e2
  have : C' = lineC q := List.ext_getElem? (fun j => by
    by_cases hj : j < 24
    · have := e5 j (by rw [lineC_len]; exact hj)
      rwa [Nat.zero_add] at this
    · rw [List.getElem?_eq_none (by omega), List.getElem?_eq_none (by rw [lineC_len]; omega)])
  rw [LineAt, e1, this]
theorem block_setCell {w : World} {g o : Nat} {C : List Value} {t : TypeId} {fr : Nat × Nat} (h : w.heap[g]? = some (.cells C.toArray t fr)) (v : Value) : (w.setCell ⟨g, o, none⟩ v).heap[g]? = some (.cells (C.set o v).toArray t fr) := by
  simp only [World.setCell, Array.getElem?_modify, if_true, h]
  simp
theorem PairAt.setCell {w : World} {g k r c x : Nat} {f : Nat → Nat → Nat} (h : PairAt w g k f) (hr : r < 12) (hc : c < 24) : PairAt (w.setCell ⟨g, 1 + r * 24 + c, none⟩ (.int .i64 x)) g k (putAt r c x f) := by
  rw [PairAt, block_setCell h]
  have : (pairC k f).set (1 + r * 24 + c) (.int .i64 x) = pairC k (putAt r c x f) := pair_ext (by rw [List.length_set, pairC_len]) (by rw [List.getElem?_set_ne (by omega), pairC_zero]) (fun i j hi hj => by
    by_cases e : i = r ∧ j = c
    · obtain ⟨rfl, rfl⟩ := e
      rw [List.getElem?_set_self (by rw [pairC_len]; omega)]; simp [putAt]
    · have hp : putAt r c x f i j = f i j := by simp [putAt, e]
      rw [hp, List.getElem?_set_ne (by omega), pairC_at hi hj])
  rw [this]
theorem LineAt.setCell {w : World} {g c x : Nat} {f : Nat → Nat} (h : LineAt w g f) (hc : c < 24) : LineAt (w.setCell ⟨g, c, none⟩ (.int .i64 x)) g (putOne c x f) := by
  rw [LineAt, block_setCell h]
  have : (lineC f).set c (.int .i64 x) = lineC (putOne c x f) := line_ext (by rw [List.length_set, lineC_len]) (fun j hj => by
    by_cases e : j = c
    · subst e
      rw [List.getElem?_set_self (by rw [lineC_len]; omega)]; simp [putOne]
    · have hp : putOne c x f j = f j := by simp [putOne, e]
      rw [hp, List.getElem?_set_ne (by omega), lineC_at hj])
  rw [this]
theorem info_line : (Tryd.prog.info? 71).map (·.size) = some 24 := by kernel_rfl
theorem info_pair : (Tryd.prog.info? 74).map (·.size) = some 289 := by kernel_rfl
theorem desc_line : ∃ d, Tryd.prog.underlying 71 = some d ∧ d.isRow = true := ⟨_, Tryd.underlying71, rfl⟩
theorem desc_pair : ∃ d, Tryd.prog.underlying 74 = some d ∧ d.isRow = true := ⟨_, Tryd.underlying74, rfl⟩
/-- a whole line is read, wherever it lies -/
theorem step_load_line {ops : Array Oper} {rest : List Oper} {op : Oper} {a : Act} {w : World} {Q : Exit → Act → World → Prop} (hgd : op.guard = none) (x : Operand) (ho : op.op = .load 71 x)
    (b o : Nat) (hx : a.eval x = .pointer (some ⟨b, o, none⟩)) (f : Nat → Nat) (hc : w.rangeAt b o (lineC f))
    (h : wpList Tryd.prog ops Q rest (a.put op.dst (.agg (lineC f).toArray)) w) : wpList Tryd.prog ops Q (op :: rest) a w := by
  obtain ⟨d, hu, hd⟩ := desc_line
  exact wpList_load_mid hgd _ x ho b o hx _ d hc hu hd (by rw [info_line, lineC_len]) h
theorem step_load_pair {ops : Array Oper} {rest : List Oper} {op : Oper} {a : Act} {w : World} {Q : Exit → Act → World → Prop} (hgd : op.guard = none) (x : Operand) (ho : op.op = .load 74 x)
    (b k : Nat) (hx : a.eval x = .pointer (some ⟨b, 0, none⟩)) (f : Nat → Nat → Nat) (hc : PairAt w b k f)
    (h : wpList Tryd.prog ops Q rest (a.put op.dst (.agg (pairC k f).toArray)) w) : wpList Tryd.prog ops Q (op :: rest) a w := by
  obtain ⟨d, hu, hd⟩ := desc_pair
  exact wpList_load_mid hgd _ x ho b 0 hx _ d hc.range hu hd (by rw [info_pair, pairC_len]) h
/-- a whole line is written, wherever it lies -/
theorem step_store_line {ops : Array Oper} {rest : List Oper} {op : Oper} {a : Act} {w : World} {Q : Exit → Act → World → Prop} (hgd : op.guard = none) (x y : Operand) (ho : op.op = .store 71 x y)
    (b o : Nat) (hx : a.eval x = .pointer (some ⟨b, o, none⟩)) (f : Nat → Nat) (hy : a.eval y = .agg (lineC f).toArray) (hc : w.there b o 24)
    (h : wpList Tryd.prog ops Q rest (a.put op.dst undef) (w.setCells b o (lineC f))) : wpList Tryd.prog ops Q (op :: rest) a w :=
  wpList_store_mid hgd _ x y ho b o _ hx hy (by simpa [lineC_len] using hc) (by rw [info_line]; simp [lineC_len]) (all_oneCell_toArray (lineC_one f)) (by simpa using h)
theorem step_store_pair {ops : Array Oper} {rest : List Oper} {op : Oper} {a : Act} {w : World} {Q : Exit → Act → World → Prop} (hgd : op.guard = none) (x y : Operand) (ho : op.op = .store 74 x y)
    (b k k' : Nat) (hx : a.eval x = .pointer (some ⟨b, 0, none⟩)) (f q : Nat → Nat → Nat) (hy : a.eval y = .agg (pairC k f).toArray) (hc : PairAt w b k' q)
    (h : wpList Tryd.prog ops Q rest (a.put op.dst undef) (w.setCells b 0 (pairC k f))) : wpList Tryd.prog ops Q (op :: rest) a w :=
  wpList_store_mid hgd _ x y ho b 0 _ hx hy (by simpa [pairC_len] using hc.thereAll) (by rw [info_pair]; simp [pairC_len]) (all_oneCell_toArray (pairC_one k f)) (by simpa using h)
/-- in a region with open order: the line is read whatever came ahead -/
theorem load_line_kept {B : Nat} {W : World} {b o : Nat} {f : Nat → Nat} (h : W.rangeAt b o (lineC f)) (hb : b < B) : ∀ x : Subtype (Below B W), (Instr.loadAt 71 (.pointer (some ⟨b, o, none⟩))).run Tryd.prog x.val = .ok (.agg (lineC f).toArray) x.val := fun x => by
  obtain ⟨d, hu, hd⟩ := desc_line
  exact run_loadAt_mid x.val b o _ _ d (fun j v hv => (x.property.cell hb).trans (h j v hv)) hu hd (by rw [info_line, lineC_len])
end Go.Proofs.YtfeepmjkamdldaaDoor
