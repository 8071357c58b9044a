/- Texts one behind the other: GenMath, GenRef, GenRef2, Made, GenW1, GenWalk. -/
import Derived.Test.YtmphbajnadbggabKInvRef
import Derived.Test.YtmphbajnadbggabKMatRef
import Derived.Test.YtmphbajnadbggabKCore
import Derived.Test.YtmphbajnadbggabKRegs
import Derived.Test.YtmphbajnadbggabKMat
import Derived.Test.YtmphbajnadbggabKInv
/- The code's matrices: the twelve shapes; any choice of Data rows can be inverted. Tables, checked. -/
namespace Go.Proofs.Ytmphbajnadbggab
open Go.RowKit
set_option linter.unusedVariables false
set_option linter.unusedSimpArgs false
/-- V: in row i, column j the power i to the j -/
def vanM (R d : Nat) : List (List Int) := matF R d (fun i j => Gf.pw i j)
/-- the inverse of V's first d rows -/
def topI : Nat → List (List Int)
  | 1 => [[1]]
  | 2 => [[1, 0], [1, 1]]
  | 3 => [[1, 0, 0], [143, 245, 122], [142, 244, 122]]
  | 4 => [[1, 0, 0, 0], [123, 1, 142, 244], [0, 122, 244, 142], [122, 122, 122, 122]]
  | _ => []
/-- the code's rows, with all parity -/
def gTab : Nat → List (List Int)
  | 1 => [[1], [1], [1]]
  | 2 => [[1, 0], [0, 1], [3, 2], [2, 3]]
  | 3 => [[1, 0, 0], [0, 1, 0], [0, 0, 1], [1, 1, 1], [15, 8, 6]]
  | 4 => [[1, 0, 0, 0], [0, 1, 0, 0], [0, 0, 1, 0], [0, 0, 0, 1], [27, 28, 18, 20], [28, 27, 20, 18]]
  | _ => []
/-- the code's matrix of a shape -/
def genM (d p : Nat) : List (List Int) := (gTab d).take (d + p)
/-- choices of d rows, and the inverse of each -/
def choices : Nat → List (List Nat × List (List Int))
  | 1 => [
      ([0], [[1]]),
      ([1], [[1]]),
      ([2], [[1]])]
  | 2 => [
      ([0, 1], [[1, 0], [0, 1]]),
      ([0, 2], [[1, 0], [143, 142]]),
      ([0, 3], [[1, 0], [245, 244]]),
      ([1, 0], [[0, 1], [1, 0]]),
      ([1, 2], [[245, 244], [1, 0]]),
      ([1, 3], [[143, 142], [1, 0]]),
      ([2, 0], [[0, 1], [142, 143]]),
      ([2, 3], [[3, 2], [2, 3]]),
      ([3, 0], [[0, 1], [244, 245]])]
  | 3 => [
      ([0, 1, 2], [[1, 0, 0], [0, 1, 0], [0, 0, 1]]),
      ([0, 1, 3], [[1, 0, 0], [0, 1, 0], [1, 1, 1]]),
      ([0, 1, 4], [[1, 0, 0], [0, 1, 0], [140, 247, 122]]),
      ([0, 2, 1], [[1, 0, 0], [0, 0, 1], [0, 1, 0]]),
      ([0, 2, 3], [[1, 0, 0], [1, 1, 1], [0, 1, 0]]),
      ([0, 2, 4], [[1, 0, 0], [101, 201, 173], [0, 1, 0]]),
      ([0, 3, 1], [[1, 0, 0], [0, 0, 1], [1, 1, 1]]),
      ([0, 3, 4], [[1, 0, 0], [143, 211, 93], [142, 210, 93]]),
      ([0, 4, 1], [[1, 0, 0], [0, 0, 1], [140, 122, 247]]),
      ([1, 0, 2], [[0, 1, 0], [1, 0, 0], [0, 0, 1]]),
      ([1, 2, 0], [[0, 0, 1], [1, 0, 0], [0, 1, 0]]),
      ([1, 2, 3], [[1, 1, 1], [1, 0, 0], [0, 1, 0]]),
      ([1, 2, 4], [[196, 83, 150], [1, 0, 0], [0, 1, 0]]),
      ([1, 3, 0], [[0, 0, 1], [1, 0, 0], [1, 1, 1]]),
      ([1, 3, 4], [[245, 105, 157], [1, 0, 0], [244, 104, 157]]),
      ([1, 4, 0], [[0, 0, 1], [1, 0, 0], [247, 122, 140]]),
      ([2, 0, 1], [[0, 1, 0], [0, 0, 1], [1, 0, 0]]),
      ([2, 3, 0], [[0, 0, 1], [1, 1, 1], [1, 0, 0]]),
      ([2, 3, 4], [[2, 185, 186], [3, 184, 186], [1, 0, 0]]),
      ([2, 4, 0], [[0, 0, 1], [201, 173, 101], [1, 0, 0]]),
      ([3, 0, 1], [[0, 1, 0], [0, 0, 1], [1, 1, 1]]),
      ([3, 4, 0], [[0, 0, 1], [211, 93, 143], [210, 93, 142]]),
      ([4, 0, 1], [[0, 1, 0], [0, 0, 1], [122, 140, 247]])]
  | 4 => [
      ([0, 1, 2, 3], [[1, 0, 0, 0], [0, 1, 0, 0], [0, 0, 1, 0], [0, 0, 0, 1]]),
      ([0, 1, 2, 4], [[1, 0, 0, 0], [0, 1, 0, 0], [0, 0, 1, 0], [200, 82, 123, 224]]),
      ([0, 1, 2, 5], [[1, 0, 0, 0], [0, 1, 0, 0], [0, 0, 1, 0], [245, 143, 187, 192]]),
      ([0, 1, 3, 2], [[1, 0, 0, 0], [0, 1, 0, 0], [0, 0, 0, 1], [0, 0, 1, 0]]),
      ([0, 1, 3, 4], [[1, 0, 0, 0], [0, 1, 0, 0], [143, 245, 187, 192], [0, 0, 1, 0]]),
      ([0, 1, 3, 5], [[1, 0, 0, 0], [0, 1, 0, 0], [82, 200, 123, 224], [0, 0, 1, 0]]),
      ([0, 1, 4, 2], [[1, 0, 0, 0], [0, 1, 0, 0], [0, 0, 0, 1], [200, 82, 224, 123]]),
      ([0, 1, 4, 5], [[1, 0, 0, 0], [0, 1, 0, 0], [141, 246, 123, 1], [246, 141, 1, 123]]),
      ([0, 1, 5, 2], [[1, 0, 0, 0], [0, 1, 0, 0], [0, 0, 0, 1], [245, 143, 192, 187]]),
      ([0, 2, 1, 3], [[1, 0, 0, 0], [0, 0, 1, 0], [0, 1, 0, 0], [0, 0, 0, 1]]),
      ([0, 2, 3, 1], [[1, 0, 0, 0], [0, 0, 0, 1], [0, 1, 0, 0], [0, 0, 1, 0]]),
      ([0, 2, 3, 4], [[1, 0, 0, 0], [70, 143, 104, 160], [0, 1, 0, 0], [0, 0, 1, 0]]),
      ([0, 2, 3, 5], [[1, 0, 0, 0], [166, 210, 245, 128], [0, 1, 0, 0], [0, 0, 1, 0]]),
      ([0, 2, 4, 1], [[1, 0, 0, 0], [0, 0, 0, 1], [0, 1, 0, 0], [200, 123, 224, 82]]),
      ([0, 2, 4, 5], [[1, 0, 0, 0], [143, 211, 142, 211], [0, 1, 0, 0], [179, 143, 201, 244]]),
      ([0, 2, 5, 1], [[1, 0, 0, 0], [0, 0, 0, 1], [0, 1, 0, 0], [245, 187, 192, 143]]),
      ([0, 3, 1, 2], [[1, 0, 0, 0], [0, 0, 1, 0], [0, 0, 0, 1], [0, 1, 0, 0]]),
      ([0, 3, 4, 1], [[1, 0, 0, 0], [0, 0, 0, 1], [143, 187, 192, 245], [0, 1, 0, 0]]),
      ([0, 3, 4, 5], [[1, 0, 0, 0], [245, 105, 105, 244], [41, 245, 142, 83], [0, 1, 0, 0]]),
      ([0, 3, 5, 1], [[1, 0, 0, 0], [0, 0, 0, 1], [82, 123, 224, 200], [0, 1, 0, 0]]),
      ([0, 4, 1, 2], [[1, 0, 0, 0], [0, 0, 1, 0], [0, 0, 0, 1], [200, 224, 82, 123]]),
      ([0, 4, 5, 1], [[1, 0, 0, 0], [0, 0, 0, 1], [141, 123, 1, 246], [246, 1, 123, 141]]),
      ([0, 5, 1, 2], [[1, 0, 0, 0], [0, 0, 1, 0], [0, 0, 0, 1], [245, 192, 143, 187]]),
      ([1, 0, 2, 3], [[0, 1, 0, 0], [1, 0, 0, 0], [0, 0, 1, 0], [0, 0, 0, 1]]),
      ([1, 2, 0, 3], [[0, 0, 1, 0], [1, 0, 0, 0], [0, 1, 0, 0], [0, 0, 0, 1]]),
      ([1, 2, 3, 0], [[0, 0, 0, 1], [1, 0, 0, 0], [0, 1, 0, 0], [0, 0, 1, 0]]),
      ([1, 2, 3, 4], [[166, 245, 210, 128], [1, 0, 0, 0], [0, 1, 0, 0], [0, 0, 1, 0]]),
      ([1, 2, 3, 5], [[70, 104, 143, 160], [1, 0, 0, 0], [0, 1, 0, 0], [0, 0, 1, 0]]),
      ([1, 2, 4, 0], [[0, 0, 0, 1], [1, 0, 0, 0], [0, 1, 0, 0], [82, 123, 224, 200]]),
      ([1, 2, 4, 5], [[245, 105, 244, 105], [1, 0, 0, 0], [0, 1, 0, 0], [41, 245, 83, 142]]),
      ([1, 2, 5, 0], [[0, 0, 0, 1], [1, 0, 0, 0], [0, 1, 0, 0], [143, 187, 192, 245]]),
      ([1, 3, 0, 2], [[0, 0, 1, 0], [1, 0, 0, 0], [0, 0, 0, 1], [0, 1, 0, 0]]),
      ([1, 3, 4, 0], [[0, 0, 0, 1], [1, 0, 0, 0], [245, 187, 192, 143], [0, 1, 0, 0]]),
      ([1, 3, 4, 5], [[143, 211, 211, 142], [1, 0, 0, 0], [179, 143, 244, 201], [0, 1, 0, 0]]),
      ([1, 3, 5, 0], [[0, 0, 0, 1], [1, 0, 0, 0], [200, 123, 224, 82], [0, 1, 0, 0]]),
      ([1, 4, 0, 2], [[0, 0, 1, 0], [1, 0, 0, 0], [0, 0, 0, 1], [82, 224, 200, 123]]),
      ([1, 4, 5, 0], [[0, 0, 0, 1], [1, 0, 0, 0], [246, 123, 1, 141], [141, 1, 123, 246]]),
      ([1, 5, 0, 2], [[0, 0, 1, 0], [1, 0, 0, 0], [0, 0, 0, 1], [143, 192, 245, 187]]),
      ([2, 0, 1, 3], [[0, 1, 0, 0], [0, 0, 1, 0], [1, 0, 0, 0], [0, 0, 0, 1]]),
      ([2, 3, 0, 1], [[0, 0, 1, 0], [0, 0, 0, 1], [1, 0, 0, 0], [0, 1, 0, 0]]),
      ([2, 3, 4, 0], [[0, 0, 0, 1], [143, 104, 160, 70], [1, 0, 0, 0], [0, 1, 0, 0]]),
      ([2, 3, 4, 5], [[208, 107, 104, 210], [107, 208, 210, 104], [1, 0, 0, 0], [0, 1, 0, 0]]),
      ([2, 3, 5, 0], [[0, 0, 0, 1], [210, 245, 128, 166], [1, 0, 0, 0], [0, 1, 0, 0]]),
      ([2, 4, 0, 1], [[0, 0, 1, 0], [0, 0, 0, 1], [1, 0, 0, 0], [123, 224, 200, 82]]),
      ([2, 4, 5, 0], [[0, 0, 0, 1], [211, 142, 211, 143], [1, 0, 0, 0], [143, 201, 244, 179]]),
      ([2, 5, 0, 1], [[0, 0, 1, 0], [0, 0, 0, 1], [1, 0, 0, 0], [187, 192, 245, 143]]),
      ([3, 0, 1, 2], [[0, 1, 0, 0], [0, 0, 1, 0], [0, 0, 0, 1], [1, 0, 0, 0]]),
      ([3, 4, 0, 1], [[0, 0, 1, 0], [0, 0, 0, 1], [187, 192, 143, 245], [1, 0, 0, 0]]),
      ([3, 4, 5, 0], [[0, 0, 0, 1], [105, 105, 244, 245], [245, 142, 83, 41], [1, 0, 0, 0]]),
      ([3, 5, 0, 1], [[0, 0, 1, 0], [0, 0, 0, 1], [123, 224, 82, 200], [1, 0, 0, 0]]),
      ([4, 0, 1, 2], [[0, 1, 0, 0], [0, 0, 1, 0], [0, 0, 0, 1], [224, 200, 82, 123]]),
      ([4, 5, 0, 1], [[0, 0, 1, 0], [0, 0, 0, 1], [123, 1, 141, 246], [1, 123, 246, 141]]),
      ([5, 0, 1, 2], [[0, 1, 0, 0], [0, 0, 1, 0], [0, 0, 0, 1], [192, 245, 143, 187]])]
  | _ => []
instance invOfDec (M N : List (List Int)) : Decidable (InvOf M N) := by unfold InvOf; exact inferInstance
def ofNats (l : List Nat) : List Int := l.map Int.ofNat
theorem choices_inv : ∀ d, d < 5 → ∀ x ∈ choices d, InvOf (pickM (gTab d) (ofNats x.1)) x.2 := by decide +kernel
/-- d rows: first those that b names, in their order, then those that it doesn't -/
def rowsOf (b : Nat → Bool) (d k : Nat) : List Nat :=
  ((List.range k).filter b).take d ++ ((List.range k).filter (fun i => !b i)).take (d - (((List.range k).filter b).take d).length)
theorem rowsOf_choice : ∀ d, d < 5 → ∀ p, p < 3 → ∀ m, m < 64 → (d == 0 || ((choices d).map Prod.fst).contains (rowsOf (fun i => m.testBit i) d (d + p))) = true := by decide +kernel
theorem topI_inv : ∀ d, d < 5 → 0 < d → InvOf (vanM d d) (topI d) := by decide +kernel
theorem genM_mul : ∀ d, d < 5 → ∀ p, p < 3 → 0 < d → mulM (vanM (d + p) d) (topI d) = genM d p := by decide +kernel
theorem genM_may : ∀ d, d < 5 → ∀ p, p < 3 → 0 < d → MMay (genM d p) ∧ (genM d p).length = d + p ∧ ((genM d p).getD 0 []).length = d := by decide +kernel
theorem genM_top : ∀ d, d < 5 → ∀ p, p < 3 → 0 < d → (genM d p).take d = idM d := by decide +kernel
end Go.Proofs.Ytmphbajnadbggab
/- The document's own shapes and the code's matrix (ossuaryref1.ShapeMay, Gen): contracts. -/
namespace Go.Proofs.Ytmphbajnadbggab
open Go.RowKit
set_option linter.unusedVariables false
set_option linter.unusedSimpArgs false
def ShpMay (d p : Int) : Prop := 1 ≤ d ∧ d ≤ 4 ∧ 0 ≤ p ∧ p ≤ 2
instance shpDec (d p : Int) : Decidable (ShpMay d p) := by unfold ShpMay; exact inferInstance
/-- the code's matrix, the error's number -/
def genF (d p : Int) : List (List Int) × Int := if ShpMay d p then (genM d.toNat p.toNat, 0) else ([], 500)
/-- V as far as the loops are come -/
def vanTo (i j r c : Nat) : Nat := if r < i ∨ (r = i ∧ c < j) then Gf.pw r c else 0
theorem vanTo_start (R d : Nat) : zeroM R d = matF R d (vanTo 0 0) := by
  rw [← matF_zero]
  exact matF_congr fun r c _ _ => by unfold vanTo; rw [if_neg (by omega)]
theorem vanTo_step (R d i j : Nat) (hi : i < R) (hj : j < d) : (matF R d (vanTo i j)).set i (((matF R d (vanTo i j)).getD i []).set j ((Gf.pw i j : Nat) : Int)) = matF R d (vanTo i (j + 1)) := by
  rw [matF_set R d _ i j _ hi hj]
  refine matF_congr fun r c hr hc => ?_
  unfold vanTo
  by_cases h : r = i ∧ c = j
  · rw [if_pos h, h.1, h.2, if_pos (by omega)]
  · rw [if_neg h]
    by_cases h2 : r < i ∨ (r = i ∧ c < j)
    · rw [if_pos h2, if_pos (by omega)]
    · rw [if_neg h2, if_neg (by omega)]
theorem vanTo_row (R d i : Nat) : matF R d (vanTo i d) = matF R d (vanTo (i + 1) 0) := by
  refine matF_congr fun r c hr hc => ?_
  unfold vanTo
  by_cases h : r < i ∨ (r = i ∧ c < d)
  · rw [if_pos h, if_pos (by omega)]
  · rw [if_neg h, if_neg (by omega)]
theorem vanTo_end (R d : Nat) : matF R d (vanTo R 0) = vanM R d := by
  refine matF_congr fun r c hr hc => ?_
  unfold vanTo
  rw [if_pos (by omega)]
theorem matF_take (R k C : Nat) (f : Nat → Nat → Nat) (h : k ≤ R) : (matF R C f).take k = matF k C f := by
  unfold matF
  rw [← List.map_take, List.take_range, Nat.min_eq_left h]
/-- the first rows of a matrix that can be read -/
theorem RowsV.take {w : World} {a : Option Addr} {n cap : Nat} {M : List (List Int)} (h : RowsV w a n cap M) {k : Nat} (hk : k ≤ n) (h0 : 0 < k) : RowsV w a k cap (M.take k) := by
  obtain ⟨f, hl, hn, hr, hv⟩ := h
  refine ⟨f, by simp; omega, by omega, ?_, fun i hi => ?_⟩
  · rcases hr with ⟨_, h1, _⟩ | ⟨h1, _⟩ | ⟨h1, h2, b, off, e, hc⟩
    · omega
    · omega
    · exact .inr (.inr ⟨h0, by omega, b, off, e, fun i hi => hc i (by omega)⟩)
  · have e : (M.take k).getD i [] = M.getD i [] := by simp [List.getD, List.getElem?_take, hi]
    rw [e]
    exact hv i (by omega)
end Go.Proofs.Ytmphbajnadbggab
/- The code's matrix by the document (ossuaryref1.Gen), where the shape may be. -/
namespace Go.Proofs.Ytmphbajnadbggab
open Go.RowKit
set_option linter.unusedVariables false
set_option linter.unusedSimpArgs false
/-- two cells of a box -/
theorem box_two {w : World} {b : Nat} {x y : Value} {T : TypeId} (h : w.heap[b]? = some (.cells #[x, y] T (0, 0))) : w.cell? ⟨b, 0, none⟩ = some x ∧ w.cell? ⟨b, 1, none⟩ = some y :=
  ⟨by rw [cell_of_row _ _ 0 _ _ _ h]; rfl, by rw [cell_of_row _ _ 1 _ _ _ h]; rfl⟩
theorem van_may {R d : Nat} (h1 : 1 ≤ R) (h2 : R ≤ 12) (h3 : 1 ≤ d) (h4 : d ≤ 12) : MMay (vanM R d) := matF_may h1 h2 h3 h4 (fun r c _ _ => Gf.pw_lt r c)
theorem van_sq {d : Nat} (h1 : 1 ≤ d) (h2 : d ≤ 4) : SqMay (vanM d d) := sq_matF h1 (by omega) (fun r c _ _ => Gf.pw_lt r c)
theorem top_mul {d p : Nat} (h1 : 1 ≤ d) (h2 : d ≤ 4) (h3 : p ≤ 2) : mulF (vanM (d + p) d) (topI d) = (genM d p, 0) := by
  have hi := topI_inv d (by omega) h1
  have hl : (topI d).length = d := by rw [hi.2.1]; exact matF_len _ _ _
  have hm : MulMay (vanM (d + p) d) (topI d) := ⟨van_may (by omega) (by omega) h1 (by omega), hi.1, by rw [hl]; exact matF_head (by omega)⟩
  unfold mulF
  rw [if_pos hm, genM_mul d (by omega) p (by omega) h1]
theorem top_inv {d : Nat} (h1 : 1 ≤ d) (h2 : d ≤ 4) {r : List (List Int) × Int} (h : invR (vanM d d) r) : r = (topI d, 0) :=
  invR_one h (.inr (.inl ⟨van_sq h1 h2, topI d, topI_inv d (by omega) h1, rfl⟩))
theorem genF_le (d p : Int) : (genF d p).1.length ≤ maxLen ∧ ∀ j, ((genF d p).1.getD j []).length ≤ maxLen := by
  unfold genF
  split
  · next h => unfold ShpMay at h; exact rows_le (genM_may _ (by omega) _ (by omega) (by omega)).1
  · exact nil_le
end Go.Proofs.Ytmphbajnadbggab
/- The variable of package gen, as the program's text lays it: every shape within the limits has its matrix. -/
namespace Go.Proofs.Ytmphbajnadbggab
open Go.RowKit
def Made (w : World) : Prop := ∀ i, i < 12 → w.cell? ⟨0, i, none⟩ = some (.bool true)
theorem Made.up {w w' : World} (h : Made w) (hb : Below w.heap.size w w') : Made w' := fun i hi => (hb.cell (cell_lt (h i hi))).trans (h i hi)
theorem Made.grown {w : World} (h : Made w) (x : GrownW w) : Made x.val := h.up x.prop
theorem Made.pos {w : World} (h : Made w) : 0 < w.heap.size := cell_lt (h 0 (by decide))
end Go.Proofs.Ytmphbajnadbggab
/- Package gen: May, and the matrix of powers: the walks. -/
namespace Go.Proofs.Ytmphbajnadbggab
open Go.RowKit
set_option linter.unusedVariables false
set_option linter.unusedSimpArgs false
attribute [local go_sem ↓] Go.wp_at_zero Go.wp_at_succ
theorem Made.at {w : World} (h : Made w) (o : Obj) : ∀ i, i < 12 → ∀ x : Subtype (Below (w.heap.size + 1) (w.alloc o)), x.val.cell? ⟨0, i, none⟩ = some (.bool true) := fun i hi =>
  kept_cell ((h.up (below_alloc w o)) i hi) (by have := h.pos; show 0 < _; omega)
theorem gbox_0 (w : World) (a b c d : Obj) : ((((w.alloc a).alloc b).alloc c).alloc d).heap[w.heap.size]? = some a := by
  rw [heap_alloc_old _ _ (by simp; omega), three_old]
theorem gbox_1 (w : World) (a b c d : Obj) : ((((w.alloc a).alloc b).alloc c).alloc d).heap[w.heap.size + 1]? = some b := by
  rw [heap_alloc_old _ _ (by simp), three_mid]
theorem gbox_3 (w : World) (a b c d : Obj) : ((((w.alloc a).alloc b).alloc c).alloc d).heap[w.heap.size + 3]? = some d := by
  have := heap_alloc_new (((w.alloc a).alloc b).alloc c) d
  simpa using this
end Go.Proofs.Ytmphbajnadbggab
/- Package gen: the code's matrix: the walk. -/
namespace Go.Proofs.Ytmphbajnadbggab
open Go.RowKit
set_option linter.unusedVariables false
set_option linter.unusedSimpArgs false
attribute [local go_sem ↓] Go.wp_at_zero Go.wp_at_succ
theorem own_slice {w : World} {B : Nat} {T E : TypeId} {u : Value} {M : List (List Int)} (h : OwnM w B T E u M) (hM : 0 < M.length) (hl : M.length ≤ maxLen) (hr : ∀ j, (M.getD j []).length ≤ maxLen) : ∃ g cap, u = .slice (some ⟨g, 0, none⟩) M.length cap ∧ M.length ≤ cap ∧ cap ≤ maxLen ∧ RowsV w (some ⟨g, 0, none⟩) M.length cap M := by
  obtain ⟨a, cap, e, hv⟩ := h.rows hl hr
  obtain ⟨us, hR⟩ := h
  obtain ⟨g, cap', e', hg, hle, hle2, _⟩ := own_form (n := us.length) hR.outer (by rw [hR.len]; exact hM)
  rw [hR.len] at e' hle
  rw [e] at e'
  simp only [Value.slice.injEq, true_and] at e'
  obtain ⟨rfl, rfl⟩ := e'
  exact ⟨g, cap, e, hle, hle2, hv⟩
end Go.Proofs.Ytmphbajnadbggab
