/- A matrix that lies in memory: what it reads. -/
import Derived.Test.YtfeepmjkamdldaaDoorMem
import Derived.Deep.OwnRows
namespace Go.Proofs.YtfeepmjkamdldaaDoor
open Go.RowKit
set_option linter.unusedVariables false
/-- a slice of ints that reads xs -/
def RowV (w : World) (v : Value) (xs : List Int) : Prop := ∃ a n cap, v = .slice a n cap ∧ n ≤ maxLen ∧ Ints w a n cap xs
theorem RowV.below {w w' : World} {v : Value} {xs : List Int} (h : RowV w v xs) (hb : Below w.heap.size w w') : RowV w' v xs := by
  obtain ⟨a, n, cap, e, hn, h⟩ := h; exact ⟨a, n, cap, e, hn, h.below hb⟩
/-- rows of numbers, one behind the other -/
def RowsV (w : World) (a : Option Addr) (n cap : Nat) (M : List (List Int)) : Prop := ∃ f : Nat → Value, M.length = n ∧ n ≤ maxLen ∧ IsRow w a n cap f ∧ ∀ i, i < n → RowV w (f i) (M.getD i [])
theorem RowsV.below {w w' : World} {a : Option Addr} {n cap : Nat} {M : List (List Int)} (h : RowsV w a n cap M) (hb : Below w.heap.size w w') : RowsV w' a n cap M := by
  obtain ⟨f, hl, hn, hr, hv⟩ := h
  exact ⟨f, hl, hn, hr.below hb, fun i hi => (hv i hi).below hb⟩
/-- a value of type api.Matrix that reads M -/
def MatV (w : World) (v : Value) (M : List (List Int)) : Prop := ∃ a n cap, v = .agg #[.slice a n cap] ∧ RowsV w a n cap M
theorem MatV.below {w w' : World} {v : Value} {M : List (List Int)} (h : MatV w v M) (hb : Below w.heap.size w w') : MatV w' v M := by
  obtain ⟨a, n, cap, e, h⟩ := h; exact ⟨a, n, cap, e, h.below hb⟩
theorem RowsV.two {w : World} {a : Option Addr} {n cap : Nat} {M : List (List Int)} (h : RowsV w a n cap M) :
    n = 0 ∨ ∃ b off, a = some ⟨b, off, none⟩ ∧ ∀ i, i < n → ∃ u, w.cell? ⟨b, off + i, none⟩ = some u ∧ RowV w u (M.getD i []) := by
  obtain ⟨f, hl, hn, hr, hv⟩ := h
  rcases hr.two with h0 | ⟨b, off, e, hc⟩
  · exact .inl h0
  · exact .inr ⟨b, off, e, fun i hi => ⟨f i, hc i hi, hv i hi⟩⟩
end Go.Proofs.YtfeepmjkamdldaaDoor
