/- Texts one behind the other: MatWalk1, MatWalk2, MatWalk3, MatWalk4, MatWalk5, MatWalk. -/
import Derived.Test.YtmphbajnadbggabProg
import Derived.Test.YtmphbajnadbggabKMatRef
import Derived.Test.YtmphbajnadbggabKCore
import Derived.Test.YtmphbajnadbggabKRegs
/- Package matrix: may this be a matrix, are these rows of it: contracts. -/
namespace Go.Proofs.Ytmphbajnadbggab
open Go.RowKit
set_option linter.unusedVariables false
set_option linter.unusedSimpArgs false
def fieldTo (xs : List Int) (k : Nat) : Prop := ∀ j, j < k → byteI (xs.getD j 0)
/-- the first k numbers name rows of a matrix of m rows -/
def namesTo (rs : List Int) (m k : Nat) : Prop := ∀ j, j < k → 0 ≤ rs.getD j 0 ∧ rs.getD j 0 < m
end Go.Proofs.Ytmphbajnadbggab
/- Package matrix: what stands at a place (the function literals of Identity, Pick, Mul): contracts. -/
namespace Go.Proofs.Ytmphbajnadbggab
open Go.RowKit
set_option linter.unusedVariables false
set_option linter.unusedSimpArgs false
def idAt (r c : Nat) : Nat := if r = c then 1 else 0
/-- a number of a row that is named -/
def pickAt (M : List (List Int)) (rs : List Int) (r c : Nat) : Nat := entry M (rs.getD r 0).toNat c
end Go.Proofs.Ytmphbajnadbggab
/- Package matrix's fill: each row by itself, each number what the function handed in tells: a contract. -/
namespace Go.Proofs.Ytmphbajnadbggab
open Go.RowKit
set_option linter.unusedVariables false
set_option linter.unusedSimpArgs false
def rowsF (R : Nat) (g : Nat → List Int) : List (List Int) := (List.range R).map g
theorem rowsF_len (R : Nat) (g : Nat → List Int) : (rowsF R g).length = R := by simp [rowsF]
theorem rowsF_at (R : Nat) (g : Nat → List Int) (i : Nat) (h : i < R) : (rowsF R g).getD i [] = g i := by simp [rowsF, List.getD, h]
theorem rowsF_congr {R : Nat} {g g' : Nat → List Int} (h : ∀ r, r < R → g r = g' r) : rowsF R g = rowsF R g' := by
  unfold rowsF
  apply List.map_congr_left
  intro r hr
  exact h r (List.mem_range.1 hr)
theorem rowsF_set (R : Nat) (g : Nat → List Int) (i : Nat) (x : List Int) (h : i < R) : (rowsF R g).set i x = rowsF R (fun r => if r = i then x else g r) := by
  unfold rowsF
  apply List.ext_getElem
  · simp
  · intro r h1 h2
    rw [List.getElem_set]
    by_cases hr : i = r
    · subst hr; simp
    · simp [hr, Ne.symm hr]
def colsF (C : Nat) (f : Nat → Nat) : List Int := (List.range C).map fun c => ((f c : Nat) : Int)
theorem colsF_len (C : Nat) (f : Nat → Nat) : (colsF C f).length = C := by simp [colsF]
theorem colsF_set (C : Nat) (f : Nat → Nat) (j x : Nat) (h : j < C) : (colsF C f).set j ((x : Nat) : Int) = colsF C (fun c => if c = j then x else f c) := by
  unfold colsF
  apply List.ext_getElem
  · simp
  · intro r h1 h2
    rw [List.getElem_set]
    by_cases hr : j = r
    · subst hr; simp
    · simp [hr, Ne.symm hr]
theorem colsF_congr {C : Nat} {f f' : Nat → Nat} (h : ∀ c, c < C → f c = f' c) : colsF C f = colsF C f' := by
  unfold colsF
  apply List.map_congr_left
  intro c hc
  rw [h c (List.mem_range.1 hc)]
theorem colsF_zero (C : Nat) : colsF C (fun _ => 0) = List.replicate C 0 := by
  unfold colsF
  apply List.ext_getElem <;> simp
/-- the first i rows are filled -/
def outF (R C : Nat) (f : Nat → Nat → Nat) (i : Nat) : List (List Int) := rowsF R fun r => if r < i then colsF C (f r) else []
/-- and j numbers of row i -/
def inF (R C : Nat) (f : Nat → Nat → Nat) (i j : Nat) : List (List Int) := rowsF R fun r => if r < i then colsF C (f r) else if r = i then colsF C (fun c => if c < j then f r c else 0) else []
theorem outF_start (R C : Nat) (f : Nat → Nat → Nat) : outF R C f 0 = List.replicate R [] := by
  unfold outF rowsF
  apply List.ext_getElem <;> simp
theorem outF_end (R C : Nat) (f : Nat → Nat → Nat) : outF R C f R = matF R C f := by
  show rowsF R _ = rowsF R (fun r => colsF C (f r))
  exact rowsF_congr fun r hr => by rw [if_pos hr]
theorem outF_in (R C : Nat) (f : Nat → Nat → Nat) (i : Nat) (h : i < R) : (outF R C f i).set i (List.replicate C 0) = inF R C f i 0 := by
  unfold outF inF
  rw [rowsF_set R _ i _ h]
  refine rowsF_congr fun r hr => ?_
  by_cases e : r = i
  · subst e
    rw [if_pos rfl, if_neg (Nat.lt_irrefl _), if_pos rfl, ← colsF_zero]
    exact colsF_congr fun c _ => by simp
  · rw [if_neg e, if_neg e]
theorem inF_step (R C : Nat) (f : Nat → Nat → Nat) (i j : Nat) (h : i < R) (hj : j < C) : (inF R C f i j).set i (((inF R C f i j).getD i []).set j ((f i j : Nat) : Int)) = inF R C f i (j + 1) := by
  unfold inF
  rw [rowsF_at R _ i h, if_neg (Nat.lt_irrefl _), if_pos rfl, colsF_set _ _ _ _ hj, rowsF_set R _ i _ h]
  refine rowsF_congr fun r hr => ?_
  by_cases e : r = i
  · subst e
    rw [if_pos rfl, if_neg (Nat.lt_irrefl _), if_pos rfl]
    refine colsF_congr fun c _ => ?_
    by_cases q : c = j
    · subst q; simp
    · rw [if_neg q]
      by_cases q2 : c < j
      · rw [if_pos q2, if_pos (by omega)]
      · rw [if_neg q2, if_neg (by omega)]
  · rw [if_neg e, if_neg e, if_neg e]
theorem inF_end (R C : Nat) (f : Nat → Nat → Nat) (i : Nat) : inF R C f i C = outF R C f (i + 1) := by
  unfold outF inF
  refine rowsF_congr fun r hr => ?_
  by_cases e : r < i
  · rw [if_pos e, if_pos (by omega)]
  · rw [if_neg e]
    by_cases q : r = i
    · rw [if_pos q, if_pos (by omega)]
      exact colsF_congr fun c hc => by rw [if_pos hc]
    · rw [if_neg q, if_neg (by omega)]
theorem inF_row (R C : Nat) (f : Nat → Nat → Nat) (i j : Nat) (h : i < R) : ((inF R C f i j).getD i []).length = C := by
  unfold inF
  rw [rowsF_at R _ i h, if_neg (Nat.lt_irrefl _), if_pos rfl, colsF_len]
/-- a row of the call's own is put into a matrix of the call's own -/
theorem RowsO.put {w : World} {B : Nat} {T E : TypeId} {g n cap : Nat} {us : List Value} {M : List (List Int)} (h : RowsO w B T E (.slice (some ⟨g, 0, none⟩) n cap) us M) (hne : T ≠ E) {i : Nat} {v : Value} {r : List Int}
    (hv : OwnL w B E v (r.map (Value.int .i64))) (hnew : ∀ (j : Nat) x, us[j]? = some x → Apt v x) :
    RowsO (w.setCell ⟨g, i, none⟩ v) B T E (.slice (some ⟨g, 0, none⟩) n cap) (us.set i v) (M.set i r) := by
  have hn := own_len h.outer
  have hst := World.ownsRow.stored (own_row' h.outer) i v
  have p : Pushed w (w.setCell ⟨g, i, none⟩ v) (.slice (some ⟨g, 0, none⟩) n cap) (.slice (some ⟨g, 0, none⟩) n cap) := ⟨hst.2, .inl rfl⟩
  have hcase : ∀ (j : Nat) x, (us.set i v)[j]? = some x → (j = i ∧ x = v) ∨ (j ≠ i ∧ us[j]? = some x) := by
    intro j x hx
    rw [List.getElem?_set] at hx
    by_cases q : i = j
    · subst q
      rw [if_pos rfl] at hx
      split at hx
      · simp only [Option.some.injEq] at hx; exact .inl ⟨rfl, hx.symm⟩
      · cases hx
    · rw [if_neg q] at hx; exact .inr ⟨Ne.symm q, hx⟩
  refine ⟨by simp [h.len], own_put h.outer i v, fun j x hx => ?_, fun j k x y hx hy hjk => ?_⟩
  · rcases hcase j x hx with ⟨rfl, rfl⟩ | ⟨hji, hx'⟩
    · have hlt : j < M.length := by
        have := (List.getElem?_eq_some_iff.1 hx).1
        simp [h.len] at this
        exact this
      have e : (M.set j r).getD j [] = r := by simp [List.getD, hlt]
      rw [e]
      exact p.other hv (apt_types h.outer hv hne)
    · have e : (M.set i r).getD j [] = M.getD j [] := by simp [List.getD, List.getElem?_set, Ne.symm hji]
      rw [e]
      exact p.other (h.row j x hx') (apt_types h.outer (h.row j x hx') hne)
  · rcases hcase j x hx with ⟨h1, rfl⟩ | ⟨h1, hx'⟩
    · rcases hcase k y hy with ⟨h2, rfl⟩ | ⟨h2, hy'⟩
      · exact absurd (h1.trans h2.symm) hjk
      · exact hnew k y hy'
    · rcases hcase k y hy with ⟨h2, rfl⟩ | ⟨h2, hy'⟩
      · exact (hnew j x hx').symm
      · exact h.apart j k x y hx' hy' hjk
theorem rowsO_made (w : World) (B R : Nat) (T E : TypeId) (h : B ≤ w.heap.size) (hR : R ≤ maxLen) :
    RowsO (w.alloc (.cells (madeCells #[.slice none 0 0] R) T)) B T E (.slice (some ⟨w.heap.size, 0, none⟩) R R) (List.replicate R (.slice none 0 0)) (List.replicate R []) := by
  have ho : OwnL (w.alloc (.cells (madeCells #[.slice none 0 0] R) T)) B T (.slice (some ⟨w.heap.size, 0, none⟩) R R) (List.replicate R (.slice none 0 0)) := by
    have := World.ownsRow_lit (e := T) (size := 1) w (madeCells #[.slice none 0 0] R) R h hR (by rw [size_madeCells]; omega)
    rw [toList_madeCells_one] at this
    unfold OwnL
    simpa using this
  have hn : ∀ (j : Nat) v, (List.replicate R (Value.slice none 0 0))[j]? = some v → v = .slice none 0 0 := by
    intro j v hv
    rw [List.getElem?_replicate] at hv
    split at hv
    · simpa using hv.symm
    · cases hv
  refine ⟨by simp, ho, fun j v hv => ?_, fun i j x y hx hy _ => ?_⟩
  · rw [hn j v hv]
    have e : (List.replicate R ([] : List Int)).getD j [] = [] := by
      simp only [List.getD, List.getElem?_replicate]
      split <;> rfl
    rw [e]
    exact OwnL.nil _ _ _
  · rw [hn i x hx]
    intro g hg
    simp [Value.ownBlock] at hg
end Go.Proofs.Ytmphbajnadbggab
/- Package matrix's fill: the walk. -/
namespace Go.Proofs.Ytmphbajnadbggab
open Go.RowKit
set_option linter.unusedVariables false
set_option linter.unusedSimpArgs false
attribute [local go_sem ↓] Go.wp_at_zero Go.wp_at_succ
end Go.Proofs.Ytmphbajnadbggab
/- Package matrix's Mul, Pick, Identity, May: what they answer. -/
namespace Go.Proofs.Ytmphbajnadbggab
open Go.RowKit
set_option linter.unusedVariables false
set_option linter.unusedSimpArgs false
theorem enters_it {P : Program} {f : FuncId} {fn : Func} {c : Code} (hf : P.funcs[f]? = some fn) (hname : (fn.name == "runtime.NumGoroutine") = false) (hb : fn.body = some c) : ∀ (args : Array Value) (w : World), (callFunc f args).run P w = .ok (.enter f args) w := by
  intro args w
  have h1 : fn.name ≠ "runtime.NumGoroutine" := by simpa using hname
  simp [callFunc, hf, h1, hb, mark]
theorem idAt_matF (k : Nat) : matF k k idAt = idM k := by
  unfold matF idM idAt
  apply List.map_congr_left
  intro r hr
  apply List.map_congr_left
  intro c hc
  split <;> rfl
attribute [local go_sem ↓] Go.wp_at_zero Go.wp_at_succ
end Go.Proofs.Ytmphbajnadbggab
/- Package matrix: what its calls answer, as functions. -/
namespace Go.Proofs.Ytmphbajnadbggab
open Go.RowKit
set_option linter.unusedVariables false
set_option linter.unusedSimpArgs false
theorem row_colsF {M : List (List Int)} (hm : MMay M) {x : Nat} (hx : x < M.length) : M.getD x [] = colsF (M.getD 0 []).length (fun c => entry M x c) := by
  have hl : (M.getD x []).length = (M.getD 0 []).length := (hm.2.2.2.2 x hx).1
  apply List.ext_getElem
  · rw [colsF_len, hl]
  · intro c h1 h2
    have hc : c < (M.getD 0 []).length := by rw [← hl]; exact h1
    have := (mmay_at hm hx hc).1
    have e2 : ∀ (f : Nat → Nat) (h2 : c < (colsF (M.getD 0 []).length f).length), (colsF (M.getD 0 []).length f)[c] = ((f c : Nat) : Int) := fun f h2 => by simp [colsF]
    rw [e2, ← this]
    generalize M.getD x [] = l at h1 ⊢
    simp [List.getD, List.getElem?_eq_getElem h1]
theorem pickM_matF {M : List (List Int)} {rs : List Int} (hm : MMay M) (hn : namesTo rs M.length rs.length) : matF rs.length (M.getD 0 []).length (pickAt M rs) = pickM M rs := by
  apply List.ext_getElem
  · rw [matF_len, pickM_len]
  · intro r h1 h2
    rw [matF_len] at h1
    have hx := hn r h1
    have e1 : (matF rs.length (M.getD 0 []).length (pickAt M rs)).getD r [] = (pickM M rs).getD r [] := by
      rw [matF_row _ _ _ _ h1, pickM_row h1]
      exact (row_colsF hm (by omega)).symm
    simpa [List.getD, List.getElem?_eq_getElem, h1, h2, matF_len] using e1
end Go.Proofs.Ytmphbajnadbggab
