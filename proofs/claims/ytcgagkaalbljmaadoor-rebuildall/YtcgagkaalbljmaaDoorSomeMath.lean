/- Which shards are there: at least so many. -/
import Derived.Test.YtcgagkaalbljmaaDoorCodeMath2
namespace Go.Proofs.YtcgagkaalbljmaaDoor
open Go.RowKit
set_option linter.unusedVariables false
set_option linter.unusedSimpArgs false
theorem rowsL_set' {bs : List Bool} {i : Nat} {b : Bool} : rowsL (bs.set i b) i = rowsL bs i := by
  unfold rowsL
  refine List.filter_congr fun j hj => ?_
  have : ¬ i = j := by have := List.mem_range.1 hj; omega
  simp [hasB, List.getD, List.getElem?_set, this]
theorem has_set' {bs : List Bool} {i : Nat} {b : Bool} (h : i < bs.length) : hasB (bs.set i b) i = b := by simp [hasB, List.getD, h]
/-- which are there, as far as the loop is come -/
structure SomeI (d R : Nat) (bs : List Bool) (k m : Nat) : Prop where
  lb : bs.length = R
  many : m = (rowsL bs k).length
  room : d ≤ m + (R - k)
theorem SomeI.start {d R : Nat} (h : d ≤ R) : SomeI d R (List.replicate R false) 0 0 := ⟨by simp, rfl, by omega⟩
theorem SomeI.no {d R : Nat} {bs : List Bool} {k m : Nat} (h : SomeI d R bs k m) (hk : k < R) (hr : d < m + (R - k)) : SomeI d R (bs.set k false) (k + 1) m := by
  have e : rowsL (bs.set k false) (k + 1) = rowsL bs k := by rw [rowsL_no (has_set' (by rw [h.lb]; exact hk)), rowsL_set']
  exact ⟨by simpa using h.lb, by rw [e]; exact h.many, by omega⟩
theorem SomeI.yes {d R : Nat} {bs : List Bool} {k m : Nat} (h : SomeI d R bs k m) (hk : k < R) : SomeI d R (bs.set k true) (k + 1) (m + 1) := by
  have e : rowsL (bs.set k true) (k + 1) = rowsL bs k ++ [k] := by rw [rowsL_yes (has_set' (by rw [h.lb]; exact hk)), rowsL_set']
  have hr := h.room
  exact ⟨by simpa using h.lb, by rw [e, List.length_append, ← h.many]; rfl, by omega⟩
theorem SomeI.fin {d R : Nat} {bs : List Bool} {m : Nat} (h : SomeI d R bs R m) : d ≤ (rowsL bs bs.length).length := by
  rw [h.lb, ← h.many]; have := h.room; omega
end Go.Proofs.YtcgagkaalbljmaaDoor
