/- The document's own shapes and the code's matrix (ossuaryref1.ShapeMay, Gen): contracts. -/
import Derived.Test.YtfeepmjkamdldaaDoorGenMath
import Derived.Test.YtfeepmjkamdldaaDoorInvRef4
import Derived.Test.YtfeepmjkamdldaaDoorRefGfWalks
namespace Go.Proofs.YtfeepmjkamdldaaDoor
open Go.RowKit
set_option linter.unusedVariables false
set_option linter.unusedSimpArgs false
def ShpMay (d p : Int) : Prop := 1 ≤ d ∧ d ≤ 4 ∧ 0 ≤ p ∧ p ≤ 2
instance shpDec (d p : Int) : Decidable (ShpMay d p) := by unfold ShpMay; exact inferInstance
/-- the code's matrix, the error's number -/
def genF (d p : Int) : List (List Int) × Int := if ShpMay d p then (genM d.toNat p.toNat, 0) else ([], 500)
set_option maxRecDepth 100000 in
theorem refShapeMay_yes (d p : Int) (w : World) (h : ShpMay d p) : Calls Tryd.prog 14 #[.agg #[.int .i64 d, .int .i64 p]] w fun e w' => e = .returned (.bool true) ∧ Below w.heap.size w w' := by
  obtain ⟨h1, h2, h3, h4⟩ := h
  go_enter Tryd.func14, Tryd.ntmps14
  go_wp2
  go_ret
  exact ⟨rfl, by go_grown⟩
set_option maxRecDepth 100000 in
theorem refShapeMay_no (d p : Int) (w : World) (h : ¬ ShpMay d p) : Calls Tryd.prog 14 #[.agg #[.int .i64 d, .int .i64 p]] w fun e w' => e = .returned (.bool false) ∧ Below w.heap.size w w' := by
  unfold ShpMay at h
  by_cases h1 : 1 ≤ d
  · by_cases h2 : d ≤ 4
    · by_cases h3 : 0 ≤ p
      · have h4 : ¬ p ≤ 2 := fun h4 => h ⟨h1, h2, h3, h4⟩
        clear h
        go_enter Tryd.func14, Tryd.ntmps14
        go_wp2
        go_ret
        exact ⟨rfl, by go_grown⟩
      · clear h
        go_enter Tryd.func14, Tryd.ntmps14
        go_wp2
        go_ret
        exact ⟨rfl, by go_grown⟩
    · clear h
      go_enter Tryd.func14, Tryd.ntmps14
      go_wp2
      go_ret
      exact ⟨rfl, by go_grown⟩
  · clear h
    go_enter Tryd.func14, Tryd.ntmps14
    go_wp2
    go_ret
    exact ⟨rfl, by go_grown⟩
theorem refShapeMay_fun (d p : Int) (w : World) : Calls Tryd.prog 14 #[.agg #[.int .i64 d, .int .i64 p]] w fun e w' => e = .returned (.bool (decide (ShpMay d p))) ∧ Below w.heap.size w w' := by
  by_cases h : ShpMay d p
  · rw [decide_eq_true h]; exact refShapeMay_yes d p w h
  · rw [decide_eq_false h]; exact refShapeMay_no d p w h
set_option maxRecDepth 100000 in
set_option maxHeartbeats 1000000 in
theorem refGen_no (d p : Int) (w : World) (h : ¬ ShpMay d p) : Calls Tryd.prog 10 #[.agg #[.int .i64 d, .int .i64 p]] w fun e w' => e = .returned (.tuple #[.agg #[.slice none 0 0], .int .i64 500]) ∧ Below w.heap.size w w' := by
  have H := hide h
  clear h
  go_enter Tryd.func10, Tryd.ntmps10
  go_wp2_with fail
  have k2 := hide (two_new w (.cells #[.int .i64 d, .int .i64 p] 23) (.cells #[.slice none 0 0] 26))
  have k3 := hide (below_two w (.cells #[.int .i64 d, .int .i64 p] 23) (.cells #[.slice none 0 0] 26))
  generalize ((w.alloc (.cells #[.int .i64 d, .int .i64 p] 23)).alloc (.cells #[.slice none 0 0] 26)) = W at *
  refine (refShapeMay_no d p W (unhide H)).mono ?_
  rintro e gw ⟨rfl, gb⟩
  have r2 := (gb.block _ (lt_of_block (unhide k2))).trans (unhide k2)
  have c2 := cell_of_one r2
  have f2 := free_of_one r2
  have HB1 := hide (bt (unhide k3) gb)
  clear gb
  go_wp2
  have cr := cell_of_one (one_setCell (u := .slice none 0 0) r2)
  exact bodyPost_ret (v := .tuple #[.agg #[.slice none 0 0], .int .i64 500]) (by simp [results, Tryd.results10, go_sem, cr]) rfl ⟨rfl, (unhide HB1).setCell (by show _ ≤ w.heap.size + 1; omega) _⟩
/-- V as far as the loops are come -/
def vanTo (i j r c : Nat) : Nat := if r < i ∨ (r = i ∧ c < j) then Gf.pw r c else 0
theorem vanTo_start (R d : Nat) : zeroM R d = matF R d (vanTo 0 0) := by
  rw [← matF_zero]
  exact matF_congr fun r c _ _ => by unfold vanTo; rw [if_neg (by omega)]
theorem vanTo_step (R d i j : Nat) (hi : i < R) (hj : j < d) : (matF R d (vanTo i j)).set i (((matF R d (vanTo i j)).getD i []).set j ((Gf.pw i j : Nat) : Int)) = matF R d (vanTo i (j + 1)) := by
  rw [matF_set R d _ i j _ hi hj]
  refine matF_congr fun r c hr hc => ?_
  unfold vanTo
  by_cases h : r = i ∧ c = j
  · rw [if_pos h, h.1, h.2, if_pos (by omega)]
  · rw [if_neg h]
    by_cases h2 : r < i ∨ (r = i ∧ c < j)
    · rw [if_pos h2, if_pos (by omega)]
    · rw [if_neg h2, if_neg (by omega)]
theorem vanTo_row (R d i : Nat) : matF R d (vanTo i d) = matF R d (vanTo (i + 1) 0) := by
  refine matF_congr fun r c hr hc => ?_
  unfold vanTo
  by_cases h : r < i ∨ (r = i ∧ c < d)
  · rw [if_pos h, if_pos (by omega)]
  · rw [if_neg h, if_neg (by omega)]
theorem vanTo_end (R d : Nat) : matF R d (vanTo R 0) = vanM R d := by
  refine matF_congr fun r c hr hc => ?_
  unfold vanTo
  rw [if_pos (by omega)]
theorem matF_take (R k C : Nat) (f : Nat → Nat → Nat) (h : k ≤ R) : (matF R C f).take k = matF k C f := by
  unfold matF
  rw [← List.map_take, List.take_range, Nat.min_eq_left h]
/-- the first rows of a matrix that can be read -/
theorem RowsV.take {w : World} {a : Option Addr} {n cap : Nat} {M : List (List Int)} (h : RowsV w a n cap M) {k : Nat} (hk : k ≤ n) (h0 : 0 < k) : RowsV w a k cap (M.take k) := by
  obtain ⟨f, hl, hn, hr, hv⟩ := h
  refine ⟨f, by simp; omega, by omega, ?_, fun i hi => ?_⟩
  · rcases hr with ⟨_, h1, _⟩ | ⟨h1, _⟩ | ⟨h1, h2, b, off, e, hc⟩
    · omega
    · omega
    · exact .inr (.inr ⟨h0, by omega, b, off, e, fun i hi => hc i (by omega)⟩)
  · have e : (M.take k).getD i [] = M.getD i [] := by simp [List.getD, List.getElem?_take, hi]
    rw [e]
    exact hv i (by omega)
end Go.Proofs.YtfeepmjkamdldaaDoor
