/- Texts one behind the other: GenMath, GenRef, GenRef2, Made, GenW1, GenWalk. -/
import Derived.Test.YtcgagkaalbljmaaDoorKInvRef
import Derived.Test.YtcgagkaalbljmaaDoorKMatRef
import Derived.Test.YtcgagkaalbljmaaDoorKCore
import Derived.Test.YtcgagkaalbljmaaDoorKRegs
import Derived.Test.YtcgagkaalbljmaaDoorKMat
import Derived.Test.YtcgagkaalbljmaaDoorKInv
/- The code's matrices: the twelve shapes; any choice of Data rows can be inverted. Tables, checked. -/
namespace Go.Proofs.YtcgagkaalbljmaaDoor
open Go.RowKit
set_option linter.unusedVariables false
set_option linter.unusedSimpArgs false
/-- V: in row i, column j the power i to the j -/
def vanM (R d : Nat) : List (List Int) := matF R d (fun i j => Gf.pw i j)
/-- the inverse of V's first d rows -/
def topI : Nat → List (List Int)
  | 1 => [[1]]
  | 2 => [[1, 0], [1, 1]]
  | 3 => [[1, 0, 0], [143, 245, 122], [142, 244, 122]]
  | 4 => [[1, 0, 0, 0], [123, 1, 142, 244], [0, 122, 244, 142], [122, 122, 122, 122]]
  | _ => []
/-- the code's rows, with all parity -/
def gTab : Nat → List (List Int)
  | 1 => [[1], [1], [1]]
  | 2 => [[1, 0], [0, 1], [3, 2], [2, 3]]
  | 3 => [[1, 0, 0], [0, 1, 0], [0, 0, 1], [1, 1, 1], [15, 8, 6]]
  | 4 => [[1, 0, 0, 0], [0, 1, 0, 0], [0, 0, 1, 0], [0, 0, 0, 1], [27, 28, 18, 20], [28, 27, 20, 18]]
  | _ => []
/-- the code's matrix of a shape -/
def genM (d p : Nat) : List (List Int) := (gTab d).take (d + p)
/-- choices of d rows, and the inverse of each -/
def choices : Nat → List (List Nat × List (List Int))
  | 1 => [
      ([0], [[1]]),
      ([1], [[1]]),
      ([2], [[1]])]
  | 2 => [
      ([0, 1], [[1, 0], [0, 1]]),
      ([0, 2], [[1, 0], [143, 142]]),
      ([0, 3], [[1, 0], [245, 244]]),
      ([1, 0], [[0, 1], [1, 0]]),
      ([1, 2], [[245, 244], [1, 0]]),
      ([1, 3], [[143, 142], [1, 0]]),
      ([2, 0], [[0, 1], [142, 143]]),
      ([2, 3], [[3, 2], [2, 3]]),
      ([3, 0], [[0, 1], [244, 245]])]
  | 3 => [
      ([0, 1, 2], [[1, 0, 0], [0, 1, 0], [0, 0, 1]]),
      ([0, 1, 3], [[1, 0, 0], [0, 1, 0], [1, 1, 1]]),
      ([0, 1, 4], [[1, 0, 0], [0, 1, 0], [140, 247, 122]]),
      ([0, 2, 1], [[1, 0, 0], [0, 0, 1], [0, 1, 0]]),
      ([0, 2, 3], [[1, 0, 0], [1, 1, 1], [0, 1, 0]]),
      ([0, 2, 4], [[1, 0, 0], [101, 201, 173], [0, 1, 0]]),
      ([0, 3, 1], [[1, 0, 0], [0, 0, 1], [1, 1, 1]]),
      ([0, 3, 4], [[1, 0, 0], [143, 211, 93], [142, 210, 93]]),
      ([0, 4, 1], [[1, 0, 0], [0, 0, 1], [140, 122, 247]]),
      ([1, 0, 2], [[0, 1, 0], [1, 0, 0], [0, 0, 1]]),
      ([1, 2, 0], [[0, 0, 1], [1, 0, 0], [0, 1, 0]]),
      ([1, 2, 3], [[1, 1, 1], [1, 0, 0], [0, 1, 0]]),
      ([1, 2, 4], [[196, 83, 150], [1, 0, 0], [0, 1, 0]]),
      ([1, 3, 0], [[0, 0, 1], [1, 0, 0], [1, 1, 1]]),
      ([1, 3, 4], [[245, 105, 157], [1, 0, 0], [244, 104, 157]]),
      ([1, 4, 0], [[0, 0, 1], [1, 0, 0], [247, 122, 140]]),
      ([2, 0, 1], [[0, 1, 0], [0, 0, 1], [1, 0, 0]]),
      ([2, 3, 0], [[0, 0, 1], [1, 1, 1], [1, 0, 0]]),
      ([2, 3, 4], [[2, 185, 186], [3, 184, 186], [1, 0, 0]]),
      ([2, 4, 0], [[0, 0, 1], [201, 173, 101], [1, 0, 0]]),
      ([3, 0, 1], [[0, 1, 0], [0, 0, 1], [1, 1, 1]]),
      ([3, 4, 0], [[0, 0, 1], [211, 93, 143], [210, 93, 142]]),
      ([4, 0, 1], [[0, 1, 0], [0, 0, 1], [122, 140, 247]])]
  | 4 => [
      ([0, 1, 2, 3], [[1, 0, 0, 0], [0, 1, 0, 0], [0, 0, 1, 0], [0, 0, 0, 1]]),
      ([0, 1, 2, 4], [[1, 0, 0, 0], [0, 1, 0, 0], [0, 0, 1, 0], [200, 82, 123, 224]]),
      ([0, 1, 2, 5], [[1, 0, 0, 0], [0, 1, 0, 0], [0, 0, 1, 0], [245, 143, 187, 192]]),
      ([0, 1, 3, 2], [[1, 0, 0, 0], [0, 1, 0, 0], [0, 0, 0, 1], [0, 0, 1, 0]]),
      ([0, 1, 3, 4], [[1, 0, 0, 0], [0, 1, 0, 0], [143, 245, 187, 192], [0, 0, 1, 0]]),
      ([0, 1, 3, 5], [[1, 0, 0, 0], [0, 1, 0, 0], [82, 200, 123, 224], [0, 0, 1, 0]]),
      ([0, 1, 4, 2], [[1, 0, 0, 0], [0, 1, 0, 0], [0, 0, 0, 1], [200, 82, 224, 123]]),
      ([0, 1, 4, 5], [[1, 0, 0, 0], [0, 1, 0, 0], [141, 246, 123, 1], [246, 141, 1, 123]]),
      ([0, 1, 5, 2], [[1, 0, 0, 0], [0, 1, 0, 0], [0, 0, 0, 1], [245, 143, 192, 187]]),
      ([0, 2, 1, 3], [[1, 0, 0, 0], [0, 0, 1, 0], [0, 1, 0, 0], [0, 0, 0, 1]]),
      ([0, 2, 3, 1], [[1, 0, 0, 0], [0, 0, 0, 1], [0, 1, 0, 0], [0, 0, 1, 0]]),
      ([0, 2, 3, 4], [[1, 0, 0, 0], [70, 143, 104, 160], [0, 1, 0, 0], [0, 0, 1, 0]]),
      ([0, 2, 3, 5], [[1, 0, 0, 0], [166, 210, 245, 128], [0, 1, 0, 0], [0, 0, 1, 0]]),
      ([0, 2, 4, 1], [[1, 0, 0, 0], [0, 0, 0, 1], [0, 1, 0, 0], [200, 123, 224, 82]]),
      ([0, 2, 4, 5], [[1, 0, 0, 0], [143, 211, 142, 211], [0, 1, 0, 0], [179, 143, 201, 244]]),
      ([0, 2, 5, 1], [[1, 0, 0, 0], [0, 0, 0, 1], [0, 1, 0, 0], [245, 187, 192, 143]]),
      ([0, 3, 1, 2], [[1, 0, 0, 0], [0, 0, 1, 0], [0, 0, 0, 1], [0, 1, 0, 0]]),
      ([0, 3, 4, 1], [[1, 0, 0, 0], [0, 0, 0, 1], [143, 187, 192, 245], [0, 1, 0, 0]]),
      ([0, 3, 4, 5], [[1, 0, 0, 0], [245, 105, 105, 244], [41, 245, 142, 83], [0, 1, 0, 0]]),
      ([0, 3, 5, 1], [[1, 0, 0, 0], [0, 0, 0, 1], [82, 123, 224, 200], [0, 1, 0, 0]]),
      ([0, 4, 1, 2], [[1, 0, 0, 0], [0, 0, 1, 0], [0, 0, 0, 1], [200, 224, 82, 123]]),
      ([0, 4, 5, 1], [[1, 0, 0, 0], [0, 0, 0, 1], [141, 123, 1, 246], [246, 1, 123, 141]]),
      ([0, 5, 1, 2], [[1, 0, 0, 0], [0, 0, 1, 0], [0, 0, 0, 1], [245, 192, 143, 187]]),
      ([1, 0, 2, 3], [[0, 1, 0, 0], [1, 0, 0, 0], [0, 0, 1, 0], [0, 0, 0, 1]]),
      ([1, 2, 0, 3], [[0, 0, 1, 0], [1, 0, 0, 0], [0, 1, 0, 0], [0, 0, 0, 1]]),
      ([1, 2, 3, 0], [[0, 0, 0, 1], [1, 0, 0, 0], [0, 1, 0, 0], [0, 0, 1, 0]]),
      ([1, 2, 3, 4], [[166, 245, 210, 128], [1, 0, 0, 0], [0, 1, 0, 0], [0, 0, 1, 0]]),
      ([1, 2, 3, 5], [[70, 104, 143, 160], [1, 0, 0, 0], [0, 1, 0, 0], [0, 0, 1, 0]]),
      ([1, 2, 4, 0], [[0, 0, 0, 1], [1, 0, 0, 0], [0, 1, 0, 0], [82, 123, 224, 200]]),
      ([1, 2, 4, 5], [[245, 105, 244, 105], [1, 0, 0, 0], [0, 1, 0, 0], [41, 245, 83, 142]]),
      ([1, 2, 5, 0], [[0, 0, 0, 1], [1, 0, 0, 0], [0, 1, 0, 0], [143, 187, 192, 245]]),
      ([1, 3, 0, 2], [[0, 0, 1, 0], [1, 0, 0, 0], [0, 0, 0, 1], [0, 1, 0, 0]]),
      ([1, 3, 4, 0], [[0, 0, 0, 1], [1, 0, 0, 0], [245, 187, 192, 143], [0, 1, 0, 0]]),
      ([1, 3, 4, 5], [[143, 211, 211, 142], [1, 0, 0, 0], [179, 143, 244, 201], [0, 1, 0, 0]]),
      ([1, 3, 5, 0], [[0, 0, 0, 1], [1, 0, 0, 0], [200, 123, 224, 82], [0, 1, 0, 0]]),
      ([1, 4, 0, 2], [[0, 0, 1, 0], [1, 0, 0, 0], [0, 0, 0, 1], [82, 224, 200, 123]]),
      ([1, 4, 5, 0], [[0, 0, 0, 1], [1, 0, 0, 0], [246, 123, 1, 141], [141, 1, 123, 246]]),
      ([1, 5, 0, 2], [[0, 0, 1, 0], [1, 0, 0, 0], [0, 0, 0, 1], [143, 192, 245, 187]]),
      ([2, 0, 1, 3], [[0, 1, 0, 0], [0, 0, 1, 0], [1, 0, 0, 0], [0, 0, 0, 1]]),
      ([2, 3, 0, 1], [[0, 0, 1, 0], [0, 0, 0, 1], [1, 0, 0, 0], [0, 1, 0, 0]]),
      ([2, 3, 4, 0], [[0, 0, 0, 1], [143, 104, 160, 70], [1, 0, 0, 0], [0, 1, 0, 0]]),
      ([2, 3, 4, 5], [[208, 107, 104, 210], [107, 208, 210, 104], [1, 0, 0, 0], [0, 1, 0, 0]]),
      ([2, 3, 5, 0], [[0, 0, 0, 1], [210, 245, 128, 166], [1, 0, 0, 0], [0, 1, 0, 0]]),
      ([2, 4, 0, 1], [[0, 0, 1, 0], [0, 0, 0, 1], [1, 0, 0, 0], [123, 224, 200, 82]]),
      ([2, 4, 5, 0], [[0, 0, 0, 1], [211, 142, 211, 143], [1, 0, 0, 0], [143, 201, 244, 179]]),
      ([2, 5, 0, 1], [[0, 0, 1, 0], [0, 0, 0, 1], [1, 0, 0, 0], [187, 192, 245, 143]]),
      ([3, 0, 1, 2], [[0, 1, 0, 0], [0, 0, 1, 0], [0, 0, 0, 1], [1, 0, 0, 0]]),
      ([3, 4, 0, 1], [[0, 0, 1, 0], [0, 0, 0, 1], [187, 192, 143, 245], [1, 0, 0, 0]]),
      ([3, 4, 5, 0], [[0, 0, 0, 1], [105, 105, 244, 245], [245, 142, 83, 41], [1, 0, 0, 0]]),
      ([3, 5, 0, 1], [[0, 0, 1, 0], [0, 0, 0, 1], [123, 224, 82, 200], [1, 0, 0, 0]]),
      ([4, 0, 1, 2], [[0, 1, 0, 0], [0, 0, 1, 0], [0, 0, 0, 1], [224, 200, 82, 123]]),
      ([4, 5, 0, 1], [[0, 0, 1, 0], [0, 0, 0, 1], [123, 1, 141, 246], [1, 123, 246, 141]]),
      ([5, 0, 1, 2], [[0, 1, 0, 0], [0, 0, 1, 0], [0, 0, 0, 1], [192, 245, 143, 187]])]
  | _ => []
instance invOfDec (M N : List (List Int)) : Decidable (InvOf M N) := by unfold InvOf; exact inferInstance
def ofNats (l : List Nat) : List Int := l.map Int.ofNat
theorem choices_inv : ∀ d, d < 5 → ∀ x ∈ choices d, InvOf (pickM (gTab d) (ofNats x.1)) x.2 := by decide +kernel
/-- d rows: first those that b names, in their order, then those that it doesn't -/
def rowsOf (b : Nat → Bool) (d k : Nat) : List Nat :=
  ((List.range k).filter b).take d ++ ((List.range k).filter (fun i => !b i)).take (d - (((List.range k).filter b).take d).length)
theorem rowsOf_choice : ∀ d, d < 5 → ∀ p, p < 3 → ∀ m, m < 64 → (d == 0 || ((choices d).map Prod.fst).contains (rowsOf (fun i => m.testBit i) d (d + p))) = true := by decide +kernel
theorem topI_inv : ∀ d, d < 5 → 0 < d → InvOf (vanM d d) (topI d) := by decide +kernel
theorem genM_mul : ∀ d, d < 5 → ∀ p, p < 3 → 0 < d → mulM (vanM (d + p) d) (topI d) = genM d p := by decide +kernel
theorem genM_may : ∀ d, d < 5 → ∀ p, p < 3 → 0 < d → MMay (genM d p) ∧ (genM d p).length = d + p ∧ ((genM d p).getD 0 []).length = d := by decide +kernel
theorem genM_top : ∀ d, d < 5 → ∀ p, p < 3 → 0 < d → (genM d p).take d = idM d := by decide +kernel
end Go.Proofs.YtcgagkaalbljmaaDoor
/- The document's own shapes and the code's matrix (ossuaryref1.ShapeMay, Gen): contracts. -/
namespace Go.Proofs.YtcgagkaalbljmaaDoor
open Go.RowKit
set_option linter.unusedVariables false
set_option linter.unusedSimpArgs false
def ShpMay (d p : Int) : Prop := 1 ≤ d ∧ d ≤ 4 ∧ 0 ≤ p ∧ p ≤ 2
instance shpDec (d p : Int) : Decidable (ShpMay d p) := by unfold ShpMay; exact inferInstance
/-- the code's matrix, the error's number -/
def genF (d p : Int) : List (List Int) × Int := if ShpMay d p then (genM d.toNat p.toNat, 0) else ([], 500)
set_option maxRecDepth 100000 in
theorem refShapeMay_yes (d p : Int) (w : World) (h : ShpMay d p) : Calls Tryd.prog 23 #[.agg #[.int .i64 d, .int .i64 p]] w fun e w' => e = .returned (.bool true) ∧ Below w.heap.size w w' := by
  obtain ⟨h1, h2, h3, h4⟩ := h
  go_enter Tryd.func23, Tryd.ntmps23
  go_wp2
  go_ret
  exact ⟨rfl, by go_grown⟩
set_option maxRecDepth 100000 in
theorem refShapeMay_no (d p : Int) (w : World) (h : ¬ ShpMay d p) : Calls Tryd.prog 23 #[.agg #[.int .i64 d, .int .i64 p]] w fun e w' => e = .returned (.bool false) ∧ Below w.heap.size w w' := by
  unfold ShpMay at h
  by_cases h1 : 1 ≤ d
  · by_cases h2 : d ≤ 4
    · by_cases h3 : 0 ≤ p
      · have h4 : ¬ p ≤ 2 := fun h4 => h ⟨h1, h2, h3, h4⟩
        clear h
        go_enter Tryd.func23, Tryd.ntmps23
        go_wp2
        go_ret
        exact ⟨rfl, by go_grown⟩
      · clear h
        go_enter Tryd.func23, Tryd.ntmps23
        go_wp2
        go_ret
        exact ⟨rfl, by go_grown⟩
    · clear h
      go_enter Tryd.func23, Tryd.ntmps23
      go_wp2
      go_ret
      exact ⟨rfl, by go_grown⟩
  · clear h
    go_enter Tryd.func23, Tryd.ntmps23
    go_wp2
    go_ret
    exact ⟨rfl, by go_grown⟩
theorem refShapeMay_fun (d p : Int) (w : World) : Calls Tryd.prog 23 #[.agg #[.int .i64 d, .int .i64 p]] w fun e w' => e = .returned (.bool (decide (ShpMay d p))) ∧ Below w.heap.size w w' := by
  by_cases h : ShpMay d p
  · rw [decide_eq_true h]; exact refShapeMay_yes d p w h
  · rw [decide_eq_false h]; exact refShapeMay_no d p w h
set_option maxRecDepth 100000 in
set_option maxHeartbeats 1000000 in
theorem refGen_no (d p : Int) (w : World) (h : ¬ ShpMay d p) : Calls Tryd.prog 25 #[.agg #[.int .i64 d, .int .i64 p]] w fun e w' => e = .returned (.tuple #[.agg #[.slice none 0 0], .int .i64 500]) ∧ Below w.heap.size w w' := by
  have H := hide h
  clear h
  go_enter Tryd.func25, Tryd.ntmps25
  go_wp2_with fail
  have k2 := hide (two_new w (.cells #[.int .i64 d, .int .i64 p] 23) (.cells #[.slice none 0 0] 52))
  have k3 := hide (below_two w (.cells #[.int .i64 d, .int .i64 p] 23) (.cells #[.slice none 0 0] 52))
  generalize ((w.alloc (.cells #[.int .i64 d, .int .i64 p] 23)).alloc (.cells #[.slice none 0 0] 52)) = W at *
  refine (refShapeMay_no d p W (unhide H)).mono ?_
  rintro e gw ⟨rfl, gb⟩
  have r2 := (gb.block _ (lt_of_block (unhide k2))).trans (unhide k2)
  have c2 := cell_of_one r2
  have f2 := free_of_one r2
  have HB1 := hide (bt (unhide k3) gb)
  clear gb
  go_wp2
  have cr := cell_of_one (one_setCell (u := .slice none 0 0) r2)
  exact bodyPost_ret (v := .tuple #[.agg #[.slice none 0 0], .int .i64 500]) (by simp [results, Tryd.results25, go_sem, cr]) rfl ⟨rfl, (unhide HB1).setCell (by show _ ≤ w.heap.size + 1; omega) _⟩
/-- V as far as the loops are come -/
def vanTo (i j r c : Nat) : Nat := if r < i ∨ (r = i ∧ c < j) then Gf.pw r c else 0
theorem vanTo_start (R d : Nat) : zeroM R d = matF R d (vanTo 0 0) := by
  rw [← matF_zero]
  exact matF_congr fun r c _ _ => by unfold vanTo; rw [if_neg (by omega)]
theorem vanTo_step (R d i j : Nat) (hi : i < R) (hj : j < d) : (matF R d (vanTo i j)).set i (((matF R d (vanTo i j)).getD i []).set j ((Gf.pw i j : Nat) : Int)) = matF R d (vanTo i (j + 1)) := by
  rw [matF_set R d _ i j _ hi hj]
  refine matF_congr fun r c hr hc => ?_
  unfold vanTo
  by_cases h : r = i ∧ c = j
  · rw [if_pos h, h.1, h.2, if_pos (by omega)]
  · rw [if_neg h]
    by_cases h2 : r < i ∨ (r = i ∧ c < j)
    · rw [if_pos h2, if_pos (by omega)]
    · rw [if_neg h2, if_neg (by omega)]
theorem vanTo_row (R d i : Nat) : matF R d (vanTo i d) = matF R d (vanTo (i + 1) 0) := by
  refine matF_congr fun r c hr hc => ?_
  unfold vanTo
  by_cases h : r < i ∨ (r = i ∧ c < d)
  · rw [if_pos h, if_pos (by omega)]
  · rw [if_neg h, if_neg (by omega)]
theorem vanTo_end (R d : Nat) : matF R d (vanTo R 0) = vanM R d := by
  refine matF_congr fun r c hr hc => ?_
  unfold vanTo
  rw [if_pos (by omega)]
theorem matF_take (R k C : Nat) (f : Nat → Nat → Nat) (h : k ≤ R) : (matF R C f).take k = matF k C f := by
  unfold matF
  rw [← List.map_take, List.take_range, Nat.min_eq_left h]
/-- the first rows of a matrix that can be read -/
theorem RowsV.take {w : World} {a : Option Addr} {n cap : Nat} {M : List (List Int)} (h : RowsV w a n cap M) {k : Nat} (hk : k ≤ n) (h0 : 0 < k) : RowsV w a k cap (M.take k) := by
  obtain ⟨f, hl, hn, hr, hv⟩ := h
  refine ⟨f, by simp; omega, by omega, ?_, fun i hi => ?_⟩
  · rcases hr with ⟨_, h1, _⟩ | ⟨h1, _⟩ | ⟨h1, h2, b, off, e, hc⟩
    · omega
    · omega
    · exact .inr (.inr ⟨h0, by omega, b, off, e, fun i hi => hc i (by omega)⟩)
  · have e : (M.take k).getD i [] = M.getD i [] := by simp [List.getD, List.getElem?_take, hi]
    rw [e]
    exact hv i (by omega)
end Go.Proofs.YtcgagkaalbljmaaDoor
/- The code's matrix by the document (ossuaryref1.Gen), where the shape may be. -/
namespace Go.Proofs.YtcgagkaalbljmaaDoor
open Go.RowKit
set_option linter.unusedVariables false
set_option linter.unusedSimpArgs false
/-- two cells of a box -/
theorem box_two {w : World} {b : Nat} {x y : Value} {T : TypeId} (h : w.heap[b]? = some (.cells #[x, y] T (0, 0))) : w.cell? ⟨b, 0, none⟩ = some x ∧ w.cell? ⟨b, 1, none⟩ = some y :=
  ⟨by rw [cell_of_row _ _ 0 _ _ _ h]; rfl, by rw [cell_of_row _ _ 1 _ _ _ h]; rfl⟩
theorem van_may {R d : Nat} (h1 : 1 ≤ R) (h2 : R ≤ 12) (h3 : 1 ≤ d) (h4 : d ≤ 12) : MMay (vanM R d) := matF_may h1 h2 h3 h4 (fun r c _ _ => Gf.pw_lt r c)
theorem van_sq {d : Nat} (h1 : 1 ≤ d) (h2 : d ≤ 4) : SqMay (vanM d d) := sq_matF h1 (by omega) (fun r c _ _ => Gf.pw_lt r c)
theorem top_mul {d p : Nat} (h1 : 1 ≤ d) (h2 : d ≤ 4) (h3 : p ≤ 2) : mulF (vanM (d + p) d) (topI d) = (genM d p, 0) := by
  have hi := topI_inv d (by omega) h1
  have hl : (topI d).length = d := by rw [hi.2.1]; exact matF_len _ _ _
  have hm : MulMay (vanM (d + p) d) (topI d) := ⟨van_may (by omega) (by omega) h1 (by omega), hi.1, by rw [hl]; exact matF_head (by omega)⟩
  unfold mulF
  rw [if_pos hm, genM_mul d (by omega) p (by omega) h1]
theorem top_inv {d : Nat} (h1 : 1 ≤ d) (h2 : d ≤ 4) {r : List (List Int) × Int} (h : invR (vanM d d) r) : r = (topI d, 0) :=
  invR_one h (.inr (.inl ⟨van_sq h1 h2, topI d, topI_inv d (by omega) h1, rfl⟩))
set_option maxRecDepth 100000 in
set_option maxHeartbeats 4000000 in
theorem refGen_yes (d p : Nat) (w : World) (h1 : 1 ≤ d) (h2 : d ≤ 4) (h3 : p ≤ 2) :
    Calls Tryd.prog 25 #[.agg #[.int .i64 d, .int .i64 p]] w fun e w' => ∃ u, e = .returned (.tuple #[.agg #[u], .int .i64 0]) ∧ OwnM w' w.heap.size 36 3 u (genM d p) ∧ Below w.heap.size w w' := by
  have hsh : ShpMay d p := by unfold ShpMay; omega
  have HS := hide hsh
  clear hsh
  go_enter Tryd.func25, Tryd.ntmps25
  go_wp2_with fail
  have B0 := hide (two_old w (.cells #[.int .i64 d, .int .i64 p] 23) (.cells #[.slice none 0 0] 52))
  have B1 := hide (two_new w (.cells #[.int .i64 d, .int .i64 p] 23) (.cells #[.slice none 0 0] 52))
  have HB := hide (below_two w (.cells #[.int .i64 d, .int .i64 p] 23) (.cells #[.slice none 0 0] 52))
  have hs0 : ((w.alloc (.cells #[.int .i64 d, .int .i64 p] 23)).alloc (.cells #[.slice none 0 0] 52)).heap.size = w.heap.size + 2 := by simp
  generalize ((w.alloc (.cells #[.int .i64 d, .int .i64 p] 23)).alloc (.cells #[.slice none 0 0] 52)) = W at *
  refine (refShapeMay_yes d p W (unhide HS)).mono ?_
  rintro e w1 ⟨rfl, gb⟩
  replace B0 := hide ((gb.block _ (lt_of_block (unhide B0))).trans (unhide B0))
  replace B1 := hide ((gb.block _ (lt_of_block (unhide B1))).trans (unhide B1))
  replace HB := hide (bt (unhide HB) gb)
  have hs1 := gb.size
  clear gb
  obtain ⟨c0, c0'⟩ := box_two (unhide B0)
  go_wp2_with fail
  obtain ⟨R, eR⟩ : ∃ R : Nat, R = d + p := ⟨_, rfl⟩
  have ed : ((d : Int) + (p : Int)) = (R : Int) := by omega
  have hRd : d ≤ R := by omega
  have hR6 : R ≤ 6 := by omega
  have ER := hide eR
  rw [ed]
  clear ed eR
  refine (blank_any R d w1 (by omega) (by omega)).mono ?_
  rintro e w2 ⟨u, rfl, ⟨us, hR⟩, gb⟩
  replace B0 := hide ((gb.block _ (lt_of_block (unhide B0))).trans (unhide B0))
  replace B1 := hide ((gb.block _ (lt_of_block (unhide B1))).trans (unhide B1))
  replace HB := hide (bt (unhide HB) gb)
  have hs2 := gb.size
  clear gb c0 c0'
  obtain ⟨gu, cu, rfl, hgu, _⟩ := hR.form (by simp [zeroM]; omega)
  have hz : (zeroM R d).length = R := by simp [zeroM]
  rw [hz] at hR ⊢
  rw [vanTo_start] at hR
  have HR := hide hR
  have hcu : R ≤ cu := by
    obtain ⟨g, cap, e, _, hle, _⟩ := own_form (n := us.length) hR.outer (by rw [hR.len, matF_len]; omega)
    simp only [Value.slice.injEq] at e
    rw [hR.len, matF_len] at e hle
    omega
  have hcu2 : cu ≤ maxLen := by
    obtain ⟨g, cap, e, _, _, hle, _⟩ := own_form (n := us.length) hR.outer (by rw [hR.len, matF_len]; omega)
    simp only [Value.slice.injEq] at e
    omega
  unfold maxLen at hcu2
  clear hR hz
  go_wp2
  go_loopw [5] (fun iv wr => ∃ i : Nat, i ≤ R ∧ iv = .int .i64 i ∧ wr.heap[w.heap.size]? = some (.cells #[.int .i64 d, .int .i64 p] 23 (0, 0)) ∧ wr.heap[w.heap.size + 1]? = some (.cells #[.slice none 0 0] 52 (0, 0)) ∧ wr.heap[w2.heap.size]? = some (.cells #[.slice (some ⟨gu, 0, none⟩) R cu] 52 (0, 0)) ∧ Hid (RowsO wr (w1.heap.size + 2) 36 3 (.slice (some ⟨gu, 0, none⟩) R cu) us (matF R d (vanTo i 0))) ∧ Hid (Below w.heap.size w wr) ∧ w2.heap.size < wr.heap.size) (fun iv _ => R - (intOf iv).toNat)
  case atStart => exact ⟨0, by omega, rfl, (heap_alloc_old _ _ (lt_of_block (unhide B0))).trans (unhide B0), (heap_alloc_old _ _ (lt_of_block (unhide B1))).trans (unhide B1), heap_alloc_new _ _, hide ((unhide HR).below (below_alloc _ _)), hide (bt (unhide HB) (below_alloc _ _)), by simp⟩
  case round =>
    obtain ⟨i, hi, rfl, b0, b1, b2, HR, HB, hsz⟩ := hrel
    obtain ⟨c0, c0'⟩ := box_two b0
    have c2 := cell_of_one b2
    by_cases hlt : i < R
    · have hlt' : (i : Int) < (R : Int) := by omega
      go_wp2
      go_loopw [6] (fun jv wr => ∃ j : Nat, j ≤ d ∧ jv = .int .i64 j ∧ wr.heap[w.heap.size]? = some (.cells #[.int .i64 d, .int .i64 p] 23 (0, 0)) ∧ wr.heap[w.heap.size + 1]? = some (.cells #[.slice none 0 0] 52 (0, 0)) ∧ wr.heap[w2.heap.size]? = some (.cells #[.slice (some ⟨gu, 0, none⟩) R cu] 52 (0, 0)) ∧ Hid (RowsO wr (w1.heap.size + 2) 36 3 (.slice (some ⟨gu, 0, none⟩) R cu) us (matF R d (vanTo i j))) ∧ Hid (Below w.heap.size w wr) ∧ w2.heap.size < wr.heap.size) (fun jv _ => d - (intOf jv).toNat)
      case atStart => exact ⟨0, by omega, rfl, b0, b1, b2, HR, HB, hsz⟩
      case round =>
        obtain ⟨j, hj, rfl, b0, b1, b2, HR, HB, hsz⟩ := hrel
        obtain ⟨c0, c0'⟩ := box_two b0
        have c2 := cell_of_one b2
        by_cases hltj : j < d
        · have hltj' : (j : Int) < d := by omega
          have hR := unhide HR
          obtain ⟨g, cap, hg, hBg, hcell, hfr⟩ := hR.at (i := i) (by rw [matF_len]; exact hlt) (by rw [matF_rowlen _ _ _ _ hlt]; omega)
          rw [matF_rowlen _ _ _ _ hlt] at hg hcell
          obtain ⟨gu', cu', eu, _, hcu'⟩ := hR.form (by rw [matF_len]; omega)
          rw [matF_len] at eu
          simp only [Value.slice.injEq, Option.some.injEq, Addr.mk.injEq, and_true, true_and] at eu
          obtain ⟨rfl, rfl⟩ := eu
          have c1 := hcu' i _ hg
          have c3 := hcell j hltj
          have f3 := hfr j
          obtain ⟨hR', hbl⟩ := hR.store (by decide) hg (c := j) ((Gf.pw i j : Nat) : Int)
          rw [vanTo_step _ _ i j hlt hltj] at hR'
          have n0 := own_ne (hR.row i _ hg) b0 (by decide)
          have n1 := own_ne (hR.row i _ hg) b1 (by decide)
          have n2 := own_ne (hR.row i _ hg) b2 (by decide)
          have b0' := hide ((hbl _ (lt_of_block b0) n0).trans b0)
          have b1' := hide ((hbl _ (lt_of_block b1) n1).trans b1)
          have b2' := hide ((hbl _ (lt_of_block b2) n2).trans b2)
          have HR' := hide hR'
          have hgs : w.heap.size ≤ g := by omega
          have HB' := hide ((unhide HB).setCell (p := ⟨g, j, none⟩) hgs (.int .i64 ((Gf.pw i j : Nat) : Int)))
          obtain ⟨y, ey⟩ : ∃ y, y = ((matF R d (vanTo i j)).getD i []).getD j 0 := ⟨_, rfl⟩
          rw [← ey] at c3
          have hpw := Gf.pw_lt i j
          clear hR hR' hbl hcell hfr hcu' ey b0 b1 b2
          go_wp2_with (go_at_call 41; refine (refPow_yes i j _ (by omega) (by omega)).mono ?_; rintro e w' ⟨rfl, rfl⟩)
          go_roundw
          case rel => exact ⟨j + 1, by omega, by go_num, unhide b0', unhide b1', unhide b2', HR', HB', by simp; omega⟩
          case measure => simp [intOf]; omega
        · have hltj' : ¬ (j : Int) < d := by omega
          obtain rfl : j = d := by omega
          go_wp2
          go_roundw
          case rel => exact ⟨i + 1, by omega, by go_num, b0, b1, b2, by rw [← vanTo_row]; exact HR, HB, hsz⟩
          case measure => simp [intOf]; omega
    · have hlt' : ¬ (i : Int) < (R : Int) := by omega
      obtain rfl : i = R := by omega
      have hdc : (d : Int) ≤ cu := by omega
      go_wp2_with fail
      have hV : RowsV wr (some ⟨gu, 0, none⟩) i cu (vanM i d) := by
        have hO : OwnM wr (w1.heap.size + 2) 36 3 (.slice (some ⟨gu, 0, none⟩) i cu) (vanM i d) := ⟨us, by rw [← vanTo_end]; exact unhide HR⟩
        obtain ⟨a, cap, e, hv⟩ := hO.rows (by rw [vanM, matF_len]; unfold maxLen; omega) (fun j => Nat.le_trans (mrow_le (van_may (by omega) (by omega) h1 (by omega)) j) (by decide))
        rw [vanM, matF_len] at e
        simp only [Value.slice.injEq, true_and] at e
        obtain ⟨e1, e2⟩ := e
        rw [← e1, ← e2, vanM, matF_len] at hv
        exact hv
      have hVd : RowsV wr (some ⟨gu, 0, none⟩) d cu (vanM d d) := by
        have := hV.take hRd h1
        rwa [vanM, matF_take _ _ _ _ hRd] at this
      refine (refInvert_any _ (vanM d d) wr ⟨_, _, _, rfl, hVd⟩).mono ?_
      rintro e w3 ⟨u3, r3, hr3, rfl, hO3, gb⟩
      obtain rfl := top_inv h1 h2 hr3
      obtain ⟨p3, n3, c3, rfl, hn3⟩ := hO3.form
      have hMV : MatV wr (.agg #[.slice (some ⟨gu, 0, none⟩) i cu]) (vanM i d) := ⟨_, _, _, rfl, hV⟩
      have B0 := hide b0
      have B1 := hide b1
      have B2 := hide b2
      have MV := hide hMV
      have MT := hide (hO3.matV (rows_le (topI_inv d (by omega) h1).1))
      replace B0 := hide ((gb.block _ (lt_of_block (unhide B0))).trans (unhide B0))
      replace B1 := hide ((gb.block _ (lt_of_block (unhide B1))).trans (unhide B1))
      replace B2 := hide ((gb.block _ (lt_of_block (unhide B2))).trans (unhide B2))
      replace MV := hide ((unhide MV).below gb)
      replace HB := hide (bt (unhide HB) gb)
      have hs3 := gb.size
      clear gb hV hVd hMV hr3 hO3 hn3 b0 b1 b2 c0 c0' c2
      have c2 := cell_of_one (unhide B2)
      have d2 := fun o => ((below_alloc w3 o).cell (cell_lt c2)).trans c2
      go_wp2_with fail
      have B3 := hide (heap_alloc_new w3 (.cells #[.slice p3 n3 c3] 52))
      have gb := below_alloc w3 (.cells #[.slice p3 n3 c3] 52)
      replace B0 := hide ((gb.block _ (lt_of_block (unhide B0))).trans (unhide B0))
      replace B1 := hide ((gb.block _ (lt_of_block (unhide B1))).trans (unhide B1))
      replace B2 := hide ((gb.block _ (lt_of_block (unhide B2))).trans (unhide B2))
      replace MV := hide ((unhide MV).below gb)
      replace MT := hide ((unhide MT).below gb)
      replace HB := hide (bt (unhide HB) gb)
      clear c2 d2 gb
      generalize (w3.alloc (.cells #[.slice p3 n3 c3] 52)) = w4 at *
      have hsw4 := lt_of_block (unhide B1)
      refine (refMul_fun _ _ _ _ w4 (unhide MV) (unhide MT)).mono ?_
      rintro e w5 ⟨u5, rfl, hO5, gb⟩
      have eM : mulF (vanM i d) (topI d, (0 : Int)).1 = (genM d p, 0) := by rw [unhide ER]; exact top_mul h1 h2 h3
      rw [eM] at hO5 ⊢
      obtain ⟨p5, n5, c5, rfl, hn5⟩ := hO5.form
      replace B0 := hide ((gb.block _ (lt_of_block (unhide B0))).trans (unhide B0))
      replace B1 := hide ((gb.block _ (lt_of_block (unhide B1))).trans (unhide B1))
      replace HB := hide (bt (unhide HB) gb)
      have HO := hide hO5
      have hs5 := gb.size
      clear gb hn5 hO5 eM
      have c1 := cell_of_one (unhide B1)
      have f1 := free_of_one (unhide B1)
      have d1 := fun o => ((below_alloc w5 o).cell (cell_lt c1)).trans c1
      have e1 := fun o => ((below_alloc w5 o).frozen (p := ⟨w.heap.size + 1, 0, none⟩) (cell_lt c1)).trans f1
      clear c1 f1
      go_wp2
      have B5 := (heap_alloc_old w5 (.cells #[.slice p5 n5 c5] 52) (lt_of_block (unhide B1))).trans (unhide B1)
      have cr := cell_of_one (one_setCell (u := .slice p5 n5 c5) B5)
      have hs4 := lt_of_block (unhide B1)
      have hB := bt (unhide HB) (below_alloc w5 (.cells #[.slice p5 n5 c5] 52))
      refine bodyPost_ret (v := .tuple #[.agg #[.slice p5 n5 c5], .int .i64 0]) (by simp [results, Tryd.results25, go_sem, cr]) rfl ⟨_, rfl, ?_, hB.setCell (by show _ ≤ w.heap.size + 1; omega) _⟩
      exact (((unhide HO).below (below_alloc _ _)).setBelow (by show w.heap.size + 1 < _; omega) _).mono (by omega)
theorem refGen_fun (d p : Int) (w : World) :
    Calls Tryd.prog 25 #[.agg #[.int .i64 d, .int .i64 p]] w fun e w' => ∃ u, e = .returned (.tuple #[.agg #[u], .int .i64 (genF d p).2]) ∧ OwnM w' w.heap.size 36 3 u (genF d p).1 ∧ Below w.heap.size w w' := by
  by_cases h : ShpMay d p
  · have h' := h
    unfold ShpMay at h'
    obtain ⟨n, rfl⟩ : ∃ n : Nat, d = n := ⟨d.toNat, by omega⟩
    obtain ⟨m, rfl⟩ : ∃ m : Nat, p = m := ⟨p.toNat, by omega⟩
    refine (refGen_yes n m w (by omega) (by omega) (by omega)).mono ?_
    rintro e w' ⟨u, rfl, ho, hB⟩
    simp only [genF, if_pos h, Int.toNat_natCast]
    exact ⟨u, rfl, ho, hB⟩
  · refine (refGen_no d p w h).mono ?_
    rintro e w' ⟨rfl, hB⟩
    simp only [genF, if_neg h]
    exact ⟨_, rfl, OwnM.nil _ _ _ _, hB⟩
theorem genF_le (d p : Int) : (genF d p).1.length ≤ maxLen ∧ ∀ j, ((genF d p).1.getD j []).length ≤ maxLen := by
  unfold genF
  split
  · next h => unfold ShpMay at h; exact rows_le (genM_may _ (by omega) _ (by omega) (by omega)).1
  · exact nil_le
end Go.Proofs.YtcgagkaalbljmaaDoor
/- The variable of package gen, as the program's text lays it: every shape within the limits has its matrix. -/
namespace Go.Proofs.YtcgagkaalbljmaaDoor
open Go.RowKit
def Made (w : World) : Prop := ∀ i, i < 12 → w.cell? ⟨0, i, none⟩ = some (.bool true)
theorem Made.up {w w' : World} (h : Made w) (hb : Below w.heap.size w w') : Made w' := fun i hi => (hb.cell (cell_lt (h i hi))).trans (h i hi)
theorem Made.grown {w : World} (h : Made w) (x : GrownW w) : Made x.val := h.up x.prop
theorem Made.pos {w : World} (h : Made w) : 0 < w.heap.size := cell_lt (h 0 (by decide))
end Go.Proofs.YtcgagkaalbljmaaDoor
/- Package gen: May, and the matrix of powers: the walks. -/
namespace Go.Proofs.YtcgagkaalbljmaaDoor
open Go.RowKit
set_option linter.unusedVariables false
set_option linter.unusedSimpArgs false
attribute [local go_sem ↓] Go.wp_at_zero Go.wp_at_succ
theorem Made.at {w : World} (h : Made w) (o : Obj) : ∀ i, i < 12 → ∀ x : Subtype (Below (w.heap.size + 1) (w.alloc o)), x.val.cell? ⟨0, i, none⟩ = some (.bool true) := fun i hi =>
  kept_cell ((h.up (below_alloc w o)) i hi) (by have := h.pos; show 0 < _; omega)
set_option maxRecDepth 100000 in
set_option maxHeartbeats 2000000 in
theorem genMay_yes (d p : Int) (w : World) (h : ShpMay d p) (hm : Made w) : Calls Tryd.prog 27 #[.agg #[.int .i64 d, .int .i64 p]] w fun e w' => e = .returned (.bool true) ∧ Below w.heap.size w w' := by
  obtain ⟨h1, h2, h3, h4⟩ := h
  have hd : d = 1 ∨ d = 2 ∨ d = 3 ∨ d = 4 := by omega
  have hp : p = 0 ∨ p = 1 ∨ p = 2 := by omega
  have hg := hide (hm.at (.cells #[.int .i64 d, .int .i64 p] 23))
  obtain ⟨q0, q1⟩ := box_two (heap_alloc_new w (.cells #[.int .i64 d, .int .i64 p] 23))
  have k0 := kept_cell (B := w.heap.size + 1) q0 (by show w.heap.size < _; omega)
  have k1 := kept_cell (B := w.heap.size + 1) q1 (by show w.heap.size < _; omega)
  clear h1 h2 h3 h4 hm q0 q1
  rcases hd with rfl | rfl | rfl | rfl <;> rcases hp with rfl | rfl | rfl
  all_goals
    have v0 : IntKind.wrap .i64 0 = 0 := rfl
    have v1 : IntKind.wrap .i64 1 = 1 := rfl
    have v2 : IntKind.wrap .i64 2 = 2 := rfl
    have v3 : IntKind.wrap .i64 3 = 3 := rfl
    have m0 := unhide hg 0 (by decide)
    have m1 := unhide hg 1 (by decide)
    have m2 := unhide hg 2 (by decide)
    have m3 := unhide hg 3 (by decide)
    have m4 := unhide hg 4 (by decide)
    have m5 := unhide hg 5 (by decide)
    have m6 := unhide hg 6 (by decide)
    have m7 := unhide hg 7 (by decide)
    have m8 := unhide hg 8 (by decide)
    have m9 := unhide hg 9 (by decide)
    have m10 := unhide hg 10 (by decide)
    have m11 := unhide hg 11 (by decide)
    go_enter Tryd.func27, Tryd.ntmps27
    go_wp2
    refine wp_region_ord (S := Below (w.heap.size + 1) (w.alloc (.cells #[.int .i64 _, .int .i64 _] 23))) [(true, 0), (true, 1), (true, 2), (true, 3), (true, 4), (true, 5), (true, 6), (true, 7), (true, 8)] (by kernel_rfl) (by kernel_rfl) (by kernel_rfl) (by kernel_rfl) ((Below.refl _ _).drew) ?_
    simp only [withOps, List.map_cons, List.map_nil, List.getElem?_cons_succ, List.getElem?_cons_zero]
    repeat (refine walkH_read (by rfl) (by (intro gx; go_simp; try (with_reducible rfl))) ?_; try simp only [Act.put, List.setIfInBounds_toArray, List.set_cons_zero, List.set_cons_succ])
    refine (show walkH _ _ _ _ [] _ _ from NoPanic.normal ?_)
    go_wp2
    go_ret
    exact ⟨rfl, by go_grown⟩
set_option maxRecDepth 100000 in
theorem genMay_no (d p : Int) (w : World) (h : ¬ ShpMay d p) : Calls Tryd.prog 27 #[.agg #[.int .i64 d, .int .i64 p]] w fun e w' => e = .returned (.bool false) ∧ Below w.heap.size w w' := by
  unfold ShpMay at h
  by_cases h1 : 1 ≤ d
  · by_cases h2 : d ≤ 4
    · by_cases h3 : 0 ≤ p
      · have h4 : ¬ p ≤ 2 := fun h4 => h ⟨h1, h2, h3, h4⟩
        clear h
        go_enter Tryd.func27, Tryd.ntmps27
        go_wp2
        go_ret
        exact ⟨rfl, by go_grown⟩
      · clear h
        go_enter Tryd.func27, Tryd.ntmps27
        go_wp2
        go_ret
        exact ⟨rfl, by go_grown⟩
    · clear h
      go_enter Tryd.func27, Tryd.ntmps27
      go_wp2
      go_ret
      exact ⟨rfl, by go_grown⟩
  · clear h
    go_enter Tryd.func27, Tryd.ntmps27
    go_wp2
    go_ret
    exact ⟨rfl, by go_grown⟩
theorem genMay_fun (d p : Int) (w : World) (hm : Made w) : Calls Tryd.prog 27 #[.agg #[.int .i64 d, .int .i64 p]] w fun e w' => e = .returned (.bool (decide (ShpMay d p))) ∧ Below w.heap.size w w' := by
  by_cases h : ShpMay d p
  · rw [decide_eq_true h]; exact genMay_yes d p w h hm
  · rw [decide_eq_false h]; exact genMay_no d p w h
theorem gbox_0 (w : World) (a b c d : Obj) : ((((w.alloc a).alloc b).alloc c).alloc d).heap[w.heap.size]? = some a := by
  rw [heap_alloc_old _ _ (by simp; omega), three_old]
theorem gbox_1 (w : World) (a b c d : Obj) : ((((w.alloc a).alloc b).alloc c).alloc d).heap[w.heap.size + 1]? = some b := by
  rw [heap_alloc_old _ _ (by simp), three_mid]
theorem gbox_3 (w : World) (a b c d : Obj) : ((((w.alloc a).alloc b).alloc c).alloc d).heap[w.heap.size + 3]? = some d := by
  have := heap_alloc_new (((w.alloc a).alloc b).alloc c) d
  simpa using this
set_option maxRecDepth 100000 in
set_option maxHeartbeats 4000000 in
theorem genPowers_any (d p : Nat) (w : World) (h1 : 1 ≤ d) (h2 : d ≤ 4) (h3 : p ≤ 2) :
    Calls Tryd.prog 37 #[.agg #[.int .i64 d, .int .i64 p]] w fun e w' => ∃ u, e = .returned (.agg #[u]) ∧ OwnM w' w.heap.size 36 3 u (vanM (d + p) d) ∧ Below w.heap.size w w' := by
  obtain ⟨R, eR⟩ : ∃ R : Nat, R = d + p := ⟨_, rfl⟩
  have ed : ((d : Int) + (p : Int)) = (R : Int) := by omega
  have hR1 : 1 ≤ R := by omega
  have hR : R ≤ 12 := by omega
  have hmkR := fun w => run_make_row' (P := Tryd.prog) 50 36 (.slice none 0 0) 24 Tryd.underlying50 Tryd.infoRow rfl .i64 .i64 R (by omega) (by omega) w
  have hmkC := fun w => run_make_row' (P := Tryd.prog) 36 3 (.int .i64 0) 8 Tryd.underlying36 Tryd.infoInt rfl .i64 .i64 d (by omega) (by omega) w
  rw [← eR]
  have ER := hide eR
  clear eR
  go_enter Tryd.func37, Tryd.ntmps37
  go_wp2
  go_loopw [16] (fun iv wr => ∃ i : Nat, i ≤ R ∧ iv = .int .i64 i ∧ wr.heap[w.heap.size]? = some (.cells #[.int .i64 d, .int .i64 p] 23 (0, 0)) ∧ wr.heap[w.heap.size + 1]? = some (.cells #[.slice none 0 0] 52 (0, 0)) ∧ wr.heap[w.heap.size + 3]? = some (.cells #[.slice (some ⟨w.heap.size + 2, 0, none⟩) R R] 52 (0, 0)) ∧ Hid (∃ us, RowsO wr (w.heap.size + 2) 36 3 (.slice (some ⟨w.heap.size + 2, 0, none⟩) R R) us (outF R d Gf.pw i)) ∧ Hid (Below w.heap.size w wr) ∧ w.heap.size + 4 ≤ wr.heap.size) (fun iv _ => R - (intOf iv).toNat)
  case atStart =>
    refine ⟨0, by omega, rfl, gbox_0 _ _ _ _ _, gbox_1 _ _ _ _ _, gbox_3 _ _ _ _ _, hide ⟨List.replicate R (.slice none 0 0), ?_⟩, hide (by go_grown), by simp⟩
    rw [outF_start]
    have h := rowsO_made ((w.alloc (.cells #[.int .i64 d, .int .i64 p] 23)).alloc (.cells #[.slice none 0 0] 52)) (w.heap.size + 2) R 36 3 (by simp) (by unfold maxLen; omega)
    have e : ((w.alloc (.cells #[.int .i64 d, .int .i64 p] 23)).alloc (.cells #[.slice none 0 0] 52)).heap.size = w.heap.size + 2 := by simp
    rw [e] at h
    exact h.below (below_alloc _ _)
  case round =>
    obtain ⟨i, hi, rfl, hb0, hb1, hb3, HR, HB, hsz⟩ := hrel
    obtain ⟨c0, c0'⟩ := box_two hb0
    have c3 := cell_of_one hb3
    by_cases hlt : i < R
    · have hlt' : (i : Int) < R := by omega
      obtain ⟨us, hR0⟩ := unhide HR
      have g0 := kept_cell (B := wr.heap.size) c0 (cell_lt c0)
      have g3 := kept_cell (B := wr.heap.size) c3 (cell_lt c3)
      have HRR := hide hR0
      clear hR0 HR c0 c0' c3
      go_wp2
      refine wp_region_ord_then (S := Below wr.heap.size wr) [(true, 0), (true, 1), (true, 2), (true, 3), (true, 4), (false, 5), (true, 6)] (List.cons_ne_nil _ _) (by kernel_rfl) (by kernel_rfl) (by kernel_rfl) (by kernel_rfl) (by kernel_rfl) ((Below.refl _ _).drew) ?_
      simp only [List.dropLast_cons_cons, List.dropLast_singleton, List.getLast_cons_cons, List.getLast_singleton, withOps, List.map_cons, List.map_nil, List.getElem?_cons_succ, List.getElem?_cons_zero]
      repeat (refine walkH_read (by rfl) (by (intro gx; go_simp; try (with_reducible rfl))) ?_; try simp only [Act.put, List.setIfInBounds_toArray, List.set_cons_zero, List.set_cons_succ])
      refine walkH_do rfl (fun K hK => ?_)
      go_simp
      have hbA : Below wr.heap.size wr (wr.alloc (.cells (madeCells #[.int .i64 0] d) 3)).drew := by go_grown
      have hoA := (own_made wr (w.heap.size + 2) d 3 (by omega) (by unfold maxLen; omega)).below (w' := (wr.alloc (.cells (madeCells #[.int .i64 0] d) 3)).drew) (by go_grown)
      have hsA : wr.heap.size < (wr.alloc (.cells (madeCells #[.int .i64 0] d) 3)).drew.heap.size := by simp
      refine hK _ _ hbA ?_
      clear hK K
      try simp only [Act.put, List.setIfInBounds_toArray, List.set_cons_zero, List.set_cons_succ]
      have HBA := hide hbA
      have HOA := hide hoA
      clear hbA hoA
      generalize (wr.alloc (.cells (madeCells #[.int .i64 0] d) 3)).drew = wA at *
      have hRA := (unhide HRR).below (unhide HBA)
      have f1 := own_free hRA.outer i
      obtain ⟨u0, hu0⟩ : ∃ u0, us[i]? = some u0 := ⟨_, List.getElem?_eq_getElem (by rw [hRA.len, outF, rowsF_len]; exact hlt)⟩
      have c1 : wA.cell? ⟨w.heap.size + 2, i, none⟩ = some u0 := by
        obtain ⟨g, cap, e, _, hc⟩ := hRA.form (by rw [outF, rowsF_len]; omega)
        simp only [Value.slice.injEq, Option.some.injEq, Addr.mk.injEq, and_true, true_and] at e
        rw [e.1]
        exact hc i u0 hu0
      have HN := RowsO.put hRA (by decide) (i := i) (unhide HOA) (fun j x hx => apt_new ((unhide HRR).row j x hx) rfl (Nat.le_refl _))
      rw [outF_in R d Gf.pw i hlt] at HN
      replace HN := hide HN
      have hB0 := hide (((unhide HBA).block _ (lt_of_block hb0)).trans hb0)
      have hB1 := hide (((unhide HBA).block _ (lt_of_block hb1)).trans hb1)
      have hB3 := hide (((unhide HBA).block _ (lt_of_block hb3)).trans hb3)
      have hsw := (unhide HBA).size
      clear hRA hu0 hb0 hb1 hb3
      repeat (refine walkH_read (by rfl) (by (intro gx; go_simp; try (with_reducible rfl))) ?_; try simp only [Act.put, List.setIfInBounds_toArray, List.set_cons_zero, List.set_cons_succ])
      refine lastPost_of_list ?_
      simp only [List.cons_append, List.nil_append]
      go_wp2_with fail
      refine NoPanic.normal ?_
      obtain ⟨gr, hgr⟩ : ∃ gr, gr = wr.heap.size := ⟨_, rfl⟩
      rw [← hgr] at HN ⊢
      have hgs : w.heap.size + 4 ≤ gr := by omega
      have b0 : (wA.setCell ⟨w.heap.size + 2, i, none⟩ (.slice (some ⟨gr, 0, none⟩) d d)).heap[w.heap.size]? = _ := (Below.heap_setCell _ _ _ _ (by show w.heap.size ≠ w.heap.size + 2; omega)).trans (unhide hB0)
      have b1 : (wA.setCell ⟨w.heap.size + 2, i, none⟩ (.slice (some ⟨gr, 0, none⟩) d d)).heap[w.heap.size + 1]? = _ := (Below.heap_setCell _ _ _ _ (by show w.heap.size + 1 ≠ w.heap.size + 2; omega)).trans (unhide hB1)
      have b3 : (wA.setCell ⟨w.heap.size + 2, i, none⟩ (.slice (some ⟨gr, 0, none⟩) d d)).heap[w.heap.size + 3]? = _ := (Below.heap_setCell _ _ _ _ (by show w.heap.size + 3 ≠ w.heap.size + 2; omega)).trans (unhide hB3)
      have HW : Hid (Below w.heap.size w (wA.setCell ⟨w.heap.size + 2, i, none⟩ (.slice (some ⟨gr, 0, none⟩) d d))) := hide (((unhide HB).trans ((unhide HBA).mono (by omega))).setCell (by show _ ≤ w.heap.size + 2; omega) _)
      have hsB : w.heap.size + 4 ≤ (wA.setCell ⟨w.heap.size + 2, i, none⟩ (.slice (some ⟨gr, 0, none⟩) d d)).heap.size := by simp; omega
      have hlu : i < us.length := by rw [(unhide HRR).len, outF, rowsF_len]; exact hlt
      have hui : (us.set i (.slice (some ⟨gr, 0, none⟩) d d))[i]? = some (.slice (some ⟨gr, 0, none⟩) d d) := by simp [hlu]
      generalize (us.set i (.slice (some ⟨gr, 0, none⟩) d d)) = us2 at *
      clear HBA HOA HRR hsA hB0 hB1 hB3 f1 c1 g0 g3 hgr hsw HB hlu
      generalize (wA.setCell ⟨w.heap.size + 2, i, none⟩ (.slice (some ⟨gr, 0, none⟩) d d)) = wB at *
      have c3 := cell_of_one b3
      have cO : wB.cell? ⟨w.heap.size + 2, i, none⟩ = some (.slice (some ⟨gr, 0, none⟩) d d) := by
        obtain ⟨g, cap, e, _, hc⟩ := (unhide HN).form (by rw [inF, rowsF_len]; omega)
        simp only [Value.slice.injEq, Option.some.injEq, Addr.mk.injEq, and_true, true_and] at e
        rw [e.1]
        exact hc i _ hui
      have HU := hide hui
      clear hui
      go_wp2
      go_loopw [32] (fun jv wr => ∃ j : Nat, j ≤ d ∧ jv = .int .i64 j ∧ wr.heap[w.heap.size]? = some (.cells #[.int .i64 d, .int .i64 p] 23 (0, 0)) ∧ wr.heap[w.heap.size + 1]? = some (.cells #[.slice none 0 0] 52 (0, 0)) ∧ wr.heap[w.heap.size + 3]? = some (.cells #[.slice (some ⟨w.heap.size + 2, 0, none⟩) R R] 52 (0, 0)) ∧ Hid (RowsO wr (w.heap.size + 2) 36 3 (.slice (some ⟨w.heap.size + 2, 0, none⟩) R R) us2 (inF R d Gf.pw i j)) ∧ Hid (Below w.heap.size w wr) ∧ w.heap.size + 4 ≤ wr.heap.size) (fun jv _ => d - (intOf jv).toNat)
      case atStart => exact ⟨0, by omega, rfl, b0, b1, b3, HN, HW, hsB⟩
      case round =>
        obtain ⟨j, hj, rfl, hb0, hb1, hb3, HR, HB', hsz'⟩ := hrel
        have c3 := cell_of_one hb3
        by_cases hltj : j < d
        · have hltj' : (j : Int) < d := by omega
          have hu := unhide HU
          have hR0 := unhide HR
          have cO : wr.cell? ⟨w.heap.size + 2, i, none⟩ = some (.slice (some ⟨gr, 0, none⟩) d d) := by
            obtain ⟨g, cap, e, _, hc⟩ := hR0.form (by rw [inF, rowsF_len]; omega)
            simp only [Value.slice.injEq, Option.some.injEq, Addr.mk.injEq, and_true, true_and] at e
            rw [e.1]
            exact hc i _ hu
          have q3 := kept_cell (B := gr) c3 (by show w.heap.size + 3 < gr; omega)
          have qO := kept_cell (B := gr) cO (by show w.heap.size + 2 < gr; omega)
          have hgl : gr ≤ wr.heap.size := Nat.le_of_lt ((hR0.row i _ hu).lt rfl).2
          clear hu hR0 c3 cO
          go_wp2
          refine wp_region_ord (S := Below gr wr) [(true, 0), (true, 1), (true, 2), (true, 3), (true, 4), (true, 5), (true, 6), (true, 7), (false, 8), (true, 9), (true, 10), (true, 11), (true, 12), (false, 13)] (by kernel_rfl) (by kernel_rfl) (by kernel_rfl) (by kernel_rfl) ((Below.refl _ _).drew) ?_
          simp only [withOps, List.map_cons, List.map_nil, List.getElem?_cons_succ, List.getElem?_cons_zero]
          repeat (refine walkH_read (by rfl) (by (intro gx; go_simp; try (with_reducible rfl))) ?_; try simp only [Act.put, List.setIfInBounds_toArray, List.set_cons_zero, List.set_cons_succ])
          refine walkH_do rfl (fun K hK => ?_)
          go_simp
          refine (gfPow_yes i j _ (by omega) (by omega)).mono ?_
          rintro e w4 ⟨rfl, hw4⟩
          have hb4' : Below wr.heap.size wr w4 := by rw [hw4]; exact (Below.refl _ _).drew
          clear hw4
          refine hK _ _ (hb4'.mono hgl) ?_
          clear hK K
          try simp only [Act.put, List.setIfInBounds_toArray, List.set_cons_zero, List.set_cons_succ]
          have hR4 := (unhide HR).below hb4'
          have hrow := hR4.row i _ (unhide HU)
          have cr := own_cell hrow j (by rw [inF_row R d Gf.pw i j hlt]; exact hltj)
          have fr := own_free hrow j
          obtain ⟨y, ey⟩ : ∃ y, y = ((inF R d Gf.pw i j).getD i []).getD j 0 := ⟨_, rfl⟩
          rw [← ey] at cr
          clear ey
          obtain ⟨hR5, hbl⟩ := hR4.store (by decide) (unhide HU) (c := j) ((Gf.pw i j : Nat) : Int)
          rw [inF_step R d Gf.pw i j hlt hltj] at hR5
          have e0 := (hb4'.block _ (lt_of_block hb0)).trans hb0
          have e1 := (hb4'.block _ (lt_of_block hb1)).trans hb1
          have e3 := (hb4'.block _ (lt_of_block hb3)).trans hb3
          have B0 := hide ((hbl _ (lt_of_block e0) (by omega)).trans e0)
          have B1 := hide ((hbl _ (lt_of_block e1) (by omega)).trans e1)
          have B3 := hide ((hbl _ (lt_of_block e3) (by omega)).trans e3)
          have H5 := hide hR5
          have HB4 := hide (((unhide HB').trans (hb4'.mono (by omega))).setCell (p := ⟨gr, j, none⟩) (by show w.heap.size ≤ gr; omega) (.int .i64 ((Gf.pw i j : Nat) : Int)))
          have hS := (hb4'.mono hgl).setCell (p := ⟨gr, j, none⟩) (Nat.le_refl _) (.int .i64 ((Gf.pw i j : Nat) : Int))
          have hs4 := hb4'.size
          clear hR4 hrow hR5 hbl e0 e1 e3 hb4' hb0 hb1 hb3
          repeat (refine walkH_read (by rfl) (by (intro gx; go_simp; try (with_reducible rfl))) ?_; try simp only [Act.put, List.setIfInBounds_toArray, List.set_cons_zero, List.set_cons_succ])
          refine walkH_do rfl (fun K hK => ?_)
          go_simp
          refine hK _ _ hS ?_
          clear hK K hS
          refine (show walkH _ _ _ _ [] _ _ from NoPanic.normal ?_)
          go_wp2
          go_roundw
          case rel => exact ⟨j + 1, by omega, by go_num, unhide B0, unhide B1, unhide B3, H5, HB4, by simp; omega⟩
          case measure => simp [intOf]; omega
        · have hltj' : ¬ (j : Int) < d := by omega
          obtain rfl : j = d := by omega
          have hR0 := unhide HR
          rw [inF_end] at hR0
          have HRR := hide hR0
          clear hR0
          go_wp2
          go_roundw
          case rel => exact ⟨i + 1, by omega, by go_num, hb0, hb1, hb3, hide ⟨us2, unhide HRR⟩, HB', hsz'⟩
          case measure => simp [intOf]; omega
    · have hlt' : ¬ (i : Int) < R := by omega
      obtain rfl : i = R := by omega
      obtain ⟨us, hR0⟩ := unhide HR
      have HRR := hide hR0
      clear hR0
      have c1 := cell_of_one hb1
      have f1 := free_of_one hb1
      go_wp2
      have cr := cell_of_one (one_setCell (u := .slice (some ⟨w.heap.size + 2, 0, none⟩) i i) hb1)
      refine bodyPost_ret (v := .agg #[.slice (some ⟨w.heap.size + 2, 0, none⟩) i i]) (by simp [results, Tryd.results37, go_sem, cr]) rfl ⟨_, rfl, ⟨us, ?_⟩, (unhide HB).setCell (by show _ ≤ w.heap.size + 1; omega) _⟩
      have e : vanM i d = outF i d Gf.pw i := (outF_end i d Gf.pw).symm
      rw [e]
      exact ((unhide HRR).setBelow (by show w.heap.size + 1 < _; omega) _).mono (by omega)
end Go.Proofs.YtcgagkaalbljmaaDoor
/- Package gen: the code's matrix: the walk. -/
namespace Go.Proofs.YtcgagkaalbljmaaDoor
open Go.RowKit
set_option linter.unusedVariables false
set_option linter.unusedSimpArgs false
attribute [local go_sem ↓] Go.wp_at_zero Go.wp_at_succ
set_option maxRecDepth 100000 in
set_option maxHeartbeats 4000000 in
theorem genSys_any (d p R gu cu : Nat) (w : World) (h1 : 1 ≤ d) (h2 : d ≤ 4) (h3 : p ≤ 2) (eR : R = d + p) (hcu : R ≤ cu) (hcu2 : cu ≤ maxLen) (hV : RowsV w (some ⟨gu, 0, none⟩) R cu (vanM R d)) :
    Calls Tryd.prog 36 #[.agg #[.slice (some ⟨gu, 0, none⟩) R cu], .int .i64 d] w fun e w' => ∃ u, e = .returned (.agg #[u]) ∧ OwnM w' w.heap.size 36 3 u (genM d p) ∧ Below w.heap.size w w' := by
  unfold maxLen at hcu2
  have hRd : d ≤ R := by omega
  have hdc : (d : Int) ≤ cu := by omega
  have hVd : RowsV w (some ⟨gu, 0, none⟩) d cu (vanM d d) := by
    have := hV.take hRd h1
    rwa [vanM, matF_take _ _ _ _ hRd] at this
  have HV := hide (show MatV w (.agg #[.slice (some ⟨gu, 0, none⟩) R cu]) (vanM R d) from ⟨_, _, _, rfl, hV⟩)
  have HVd := hide (show MatV w (.agg #[.slice (some ⟨gu, 0, none⟩) d cu]) (vanM d d) from ⟨_, _, _, rfl, hVd⟩)
  have ER := hide eR
  clear hV hVd eR
  go_enter Tryd.func36, Tryd.ntmps36
  have gb := below_two w (.cells #[.slice (some ⟨gu, 0, none⟩) R cu] 52) (.cells #[.slice none 0 0] 52)
  go_wp2_with fail
  have B0 := hide (two_old w (.cells #[.slice (some ⟨gu, 0, none⟩) R cu] 52) (.cells #[.slice none 0 0] 52))
  have B1 := hide (two_new w (.cells #[.slice (some ⟨gu, 0, none⟩) R cu] 52) (.cells #[.slice none 0 0] 52))
  have HB := hide gb
  have HV1 := hide ((unhide HV).below gb)
  have HVd1 := hide ((unhide HVd).below gb)
  clear gb HV HVd
  generalize ((w.alloc (.cells #[.slice (some ⟨gu, 0, none⟩) R cu] 52)).alloc (.cells #[.slice none 0 0] 52)) = W at *
  refine (invInvert_any _ (vanM d d) W (unhide HVd1)).mono ?_
  rintro e w3 ⟨u3, r3, hr3, rfl, hO3, gb⟩
  obtain rfl := top_inv h1 h2 hr3
  obtain ⟨p3, n3, c3, rfl, hn3⟩ := hO3.form
  have MT := hide (hO3.matV (rows_le (topI_inv d (by omega) h1).1))
  replace B0 := hide ((gb.block _ (lt_of_block (unhide B0))).trans (unhide B0))
  replace B1 := hide ((gb.block _ (lt_of_block (unhide B1))).trans (unhide B1))
  replace HV1 := hide ((unhide HV1).below gb)
  replace HB := hide (bt (unhide HB) gb)
  clear gb hr3 hO3 hn3 HVd1
  have c0 := cell_of_one (unhide B0)
  have d0 := fun o => ((below_alloc w3 o).cell (cell_lt c0)).trans c0
  go_wp2_with fail
  have gb := below_alloc w3 (.cells #[.slice p3 n3 c3] 52)
  replace B0 := hide ((gb.block _ (lt_of_block (unhide B0))).trans (unhide B0))
  replace B1 := hide ((gb.block _ (lt_of_block (unhide B1))).trans (unhide B1))
  replace HV1 := hide ((unhide HV1).below gb)
  replace MT := hide ((unhide MT).below gb)
  replace HB := hide (bt (unhide HB) gb)
  clear c0 d0 gb
  generalize (w3.alloc (.cells #[.slice p3 n3 c3] 52)) = w4 at *
  refine (matMul_fun _ _ _ _ w4 (unhide HV1) (unhide MT)).mono ?_
  rintro e w5 ⟨u5, rfl, hO5, gb⟩
  have eM : mulF (vanM R d) (topI d, (0 : Int)).1 = (genM d p, 0) := by rw [unhide ER]; exact top_mul h1 h2 h3
  rw [eM] at hO5 ⊢
  have hsw4 := lt_of_block (unhide B1)
  obtain ⟨p5, n5, c5, rfl, hn5⟩ := hO5.form
  replace B0 := hide ((gb.block _ (lt_of_block (unhide B0))).trans (unhide B0))
  replace B1 := hide ((gb.block _ (lt_of_block (unhide B1))).trans (unhide B1))
  replace HB := hide (bt (unhide HB) gb)
  have HO := hide hO5
  have hs5 := gb.size
  clear gb hn5 hO5 eM
  have c1 := cell_of_one (unhide B1)
  have f1 := free_of_one (unhide B1)
  have d1 := fun o => ((below_alloc w5 o).cell (cell_lt c1)).trans c1
  have e1 := fun o => ((below_alloc w5 o).frozen (p := ⟨w.heap.size + 1, 0, none⟩) (cell_lt c1)).trans f1
  clear c1 f1
  go_wp2
  have B5 := (heap_alloc_old w5 (.cells #[.slice p5 n5 c5] 52) (lt_of_block (unhide B1))).trans (unhide B1)
  have cr := cell_of_one (one_setCell (u := .slice p5 n5 c5) B5)
  have hB := bt (unhide HB) (below_alloc w5 (.cells #[.slice p5 n5 c5] 52))
  refine bodyPost_ret (v := .agg #[.slice p5 n5 c5]) (by simp [results, Tryd.results36, go_sem, cr]) rfl ⟨_, rfl, ?_, hB.setCell (by show _ ≤ w.heap.size + 1; omega) _⟩
  exact (((unhide HO).below (below_alloc _ _)).setBelow (by show w.heap.size + 1 < _; omega) _).mono (by omega)
theorem own_slice {w : World} {B : Nat} {T E : TypeId} {u : Value} {M : List (List Int)} (h : OwnM w B T E u M) (hM : 0 < M.length) (hl : M.length ≤ maxLen) (hr : ∀ j, (M.getD j []).length ≤ maxLen) : ∃ g cap, u = .slice (some ⟨g, 0, none⟩) M.length cap ∧ M.length ≤ cap ∧ cap ≤ maxLen ∧ RowsV w (some ⟨g, 0, none⟩) M.length cap M := by
  obtain ⟨a, cap, e, hv⟩ := h.rows hl hr
  obtain ⟨us, hR⟩ := h
  obtain ⟨g, cap', e', hg, hle, hle2, _⟩ := own_form (n := us.length) hR.outer (by rw [hR.len]; exact hM)
  rw [hR.len] at e' hle
  rw [e] at e'
  simp only [Value.slice.injEq, true_and] at e'
  obtain ⟨rfl, rfl⟩ := e'
  exact ⟨g, cap, e, hle, hle2, hv⟩
set_option maxRecDepth 100000 in
set_option maxHeartbeats 4000000 in
theorem genMatrix_yes (d p : Nat) (w : World) (h1 : 1 ≤ d) (h2 : d ≤ 4) (h3 : p ≤ 2) (hm : Made w) :
    Calls Tryd.prog 21 #[.agg #[.int .i64 d, .int .i64 p]] w fun e w' => ∃ u, e = .returned (.tuple #[.agg #[u], .int .i64 0]) ∧ OwnM w' w.heap.size 36 3 u (genM d p) ∧ Below w.heap.size w w' := by
  have hsh : ShpMay d p := by unfold ShpMay; omega
  have HS := hide hsh
  have MD := hide hm
  clear hsh hm
  go_enter Tryd.func21, Tryd.ntmps21
  go_wp2_with fail
  have B0 := hide (two_old w (.cells #[.int .i64 d, .int .i64 p] 23) (.cells #[.slice none 0 0] 52))
  have B1 := hide (two_new w (.cells #[.int .i64 d, .int .i64 p] 23) (.cells #[.slice none 0 0] 52))
  have HB := hide (below_two w (.cells #[.int .i64 d, .int .i64 p] 23) (.cells #[.slice none 0 0] 52))
  generalize ((w.alloc (.cells #[.int .i64 d, .int .i64 p] 23)).alloc (.cells #[.slice none 0 0] 52)) = W at *
  refine (genMay_yes d p W (unhide HS) ((unhide MD).up (unhide HB))).mono ?_
  rintro e w1 ⟨rfl, gb⟩
  replace B0 := hide ((gb.block _ (lt_of_block (unhide B0))).trans (unhide B0))
  replace B1 := hide ((gb.block _ (lt_of_block (unhide B1))).trans (unhide B1))
  replace HB := hide (bt (unhide HB) gb)
  have hs1 := gb.size
  clear gb
  obtain ⟨c0, c0'⟩ := box_two (unhide B0)
  have k0 := kept_cell (B := w.heap.size + 1) c0 (by show w.heap.size < _; omega)
  have k0' := kept_cell (B := w.heap.size + 1) c0' (by show w.heap.size < _; omega)
  have hsw := lt_of_block (unhide B1)
  clear c0 c0'
  go_wp2
  refine wp_region_ord_then (S := Below (w.heap.size + 1) w1) [(true, 0), (true, 2), (true, 3), (false, 1), (false, 4), (false, 5)] (List.cons_ne_nil _ _) (by kernel_rfl) (by kernel_rfl) (by kernel_rfl) (by kernel_rfl) (by kernel_rfl) ((Below.refl _ _).drew) ?_
  simp only [List.dropLast_cons_cons, List.dropLast_singleton, List.getLast_cons_cons, List.getLast_singleton, withOps, List.map_cons, List.map_nil, List.getElem?_cons_succ, List.getElem?_cons_zero]
  repeat (refine walkH_read (by rfl) (by (intro gx; go_simp; try (with_reducible rfl))) ?_; try simp only [Act.put, List.setIfInBounds_toArray, List.set_cons_zero, List.set_cons_succ])
  refine walkH_do rfl (fun K hK => ?_)
  go_simp
  refine (genPowers_any d p _ h1 h2 h3).mono ?_
  rintro e w2 ⟨u2, rfl, hO2, b2⟩
  have hb2 : Below w1.heap.size w1 w2 := ((Below.refl _ _).drew).trans b2
  refine hK _ _ (hb2.mono (by omega)) ?_
  clear hK K
  try simp only [Act.put, List.setIfInBounds_toArray, List.set_cons_zero, List.set_cons_succ]
  obtain ⟨R, eR⟩ : ∃ R : Nat, R = d + p := ⟨_, rfl⟩
  rw [← eR] at hO2
  have hlen : (vanM R d).length = R := by rw [vanM, matF_len]
  obtain ⟨g2, c2, rfl, hc2, hc2', hV2⟩ := own_slice hO2 (by omega) (by rw [hlen]; unfold maxLen; omega) (fun j => Nat.le_trans (mrow_le (van_may (by omega) (by omega) h1 (by omega)) j) (by decide))
  rw [hlen] at hc2 hV2 ⊢
  have HV2 := hide hV2
  have ER := hide eR
  clear hV2 hO2 eR
  repeat (refine walkH_read (by rfl) (by (intro gx; go_simp; try (with_reducible rfl))) ?_; try simp only [Act.put, List.setIfInBounds_toArray, List.set_cons_zero, List.set_cons_succ])
  refine walkH_do rfl (fun K hK => ?_)
  go_simp
  refine (genSys_any d p R g2 c2 w2 h1 h2 h3 (unhide ER) hc2 hc2' (unhide HV2)).mono ?_
  rintro e w3 ⟨u3, rfl, hO3, b3⟩
  have hb3 : Below w1.heap.size w1 w3 := bt hb2 b3
  refine hK _ _ (hb3.mono (by omega)) ?_
  clear hK K
  try simp only [Act.put, List.setIfInBounds_toArray, List.set_cons_zero, List.set_cons_succ]
  obtain ⟨p3, n3, c3, rfl, hn3⟩ := hO3.form
  have hs2 := b2.size
  have hs12 := hb2.size
  have hS := (hb3.mono (show w.heap.size + 1 ≤ w1.heap.size by omega)).setCell (p := ⟨w.heap.size + 1, 0, none⟩) (Nat.le_refl _) (.slice p3 n3 c3)
  have hO3' := hide (hO3.mono (B' := w.heap.size + 2) (by omega))
  replace B0 := hide ((hb3.block _ (lt_of_block (unhide B0))).trans (unhide B0))
  replace B1 := hide ((hb3.block _ (lt_of_block (unhide B1))).trans (unhide B1))
  replace HB := hide (bt (unhide HB) hb3)
  clear hb3 b3 hb2 b2 hO3 hn3 hc2 hc2' HV2 k0 k0'
  have c1 := cell_of_one (unhide B1)
  have f1 := free_of_one (unhide B1)
  repeat (refine walkH_read (by rfl) (by (intro gx; go_simp; try (with_reducible rfl))) ?_; try simp only [Act.put, List.setIfInBounds_toArray, List.set_cons_zero, List.set_cons_succ])
  refine walkH_do rfl (fun K hK => ?_)
  go_simp
  refine hK _ _ hS ?_
  clear hK K hS
  try simp only [Act.put, List.setIfInBounds_toArray, List.set_cons_zero, List.set_cons_succ]
  refine lastPost_of_list ?_
  simp only [List.cons_append, List.nil_append]
  go_wp2
  refine NoPanic.normal ?_
  go_wp2
  have cr := cell_of_one (one_setCell (u := .slice p3 n3 c3) (unhide B1))
  refine bodyPost_ret (v := .tuple #[.agg #[.slice p3 n3 c3], .int .i64 0]) (by simp [results, Tryd.results21, go_sem, cr]) rfl ⟨_, rfl, ?_, (unhide HB).setCell (by show _ ≤ w.heap.size + 1; omega) _⟩
  exact ((unhide hO3').setBelow (by show w.heap.size + 1 < _; omega) _).mono (by omega)
set_option maxRecDepth 100000 in
set_option maxHeartbeats 1000000 in
theorem genMatrix_no (d p : Int) (w : World) (h : ¬ ShpMay d p) : Calls Tryd.prog 21 #[.agg #[.int .i64 d, .int .i64 p]] w fun e w' => e = .returned (.tuple #[.agg #[.slice none 0 0], .int .i64 500]) ∧ Below w.heap.size w w' := by
  have H := hide h
  clear h
  go_enter Tryd.func21, Tryd.ntmps21
  go_wp2_with fail
  have k2 := hide (two_new w (.cells #[.int .i64 d, .int .i64 p] 23) (.cells #[.slice none 0 0] 52))
  have k3 := hide (below_two w (.cells #[.int .i64 d, .int .i64 p] 23) (.cells #[.slice none 0 0] 52))
  generalize ((w.alloc (.cells #[.int .i64 d, .int .i64 p] 23)).alloc (.cells #[.slice none 0 0] 52)) = W at *
  refine (genMay_no d p W (unhide H)).mono ?_
  rintro e w1 ⟨rfl, gb⟩
  replace k2 := hide ((gb.block _ (lt_of_block (unhide k2))).trans (unhide k2))
  replace k3 := hide (bt (unhide k3) gb)
  clear gb
  have c1 := cell_of_one (unhide k2)
  have f1 := free_of_one (unhide k2)
  go_wp2
  have cr := cell_of_one (one_setCell (u := .slice none 0 0) (unhide k2))
  refine bodyPost_ret (v := .tuple #[.agg #[.slice none 0 0], .int .i64 500]) (by simp [results, Tryd.results21, go_sem, cr]) rfl ⟨rfl, (unhide k3).setCell (by show _ ≤ w.heap.size + 1; omega) _⟩
theorem genMatrix_fun (d p : Int) (w : World) (hm : Made w) :
    Calls Tryd.prog 21 #[.agg #[.int .i64 d, .int .i64 p]] w fun e w' => ∃ u, e = .returned (.tuple #[.agg #[u], .int .i64 (genF d p).2]) ∧ OwnM w' w.heap.size 36 3 u (genF d p).1 ∧ Below w.heap.size w w' := by
  by_cases h : ShpMay d p
  · have h' := h
    unfold ShpMay at h'
    obtain ⟨n, rfl⟩ : ∃ n : Nat, d = n := ⟨d.toNat, by omega⟩
    obtain ⟨m, rfl⟩ : ∃ m : Nat, p = m := ⟨p.toNat, by omega⟩
    refine (genMatrix_yes n m w (by omega) (by omega) (by omega) hm).mono ?_
    rintro e w' ⟨u, rfl, ho, hB⟩
    simp only [genF, if_pos h, Int.toNat_natCast]
    exact ⟨u, rfl, ho, hB⟩
  · refine (genMatrix_no d p w h).mono ?_
    rintro e w' ⟨rfl, hB⟩
    simp only [genF, if_neg h]
    exact ⟨_, rfl, OwnM.nil _ _ _ _, hB⟩
end Go.Proofs.YtcgagkaalbljmaaDoor
