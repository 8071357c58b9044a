/- Texts one behind the other: SpoilT, EncRef, EncRef2, EncW1, EncW2, EncWalk. -/
import Derived.Test.YtmphbajnadbggabProg
import Derived.Test.YtmphbajnadbggabKCore
import Derived.Test.YtmphbajnadbggabKRegs
import Derived.Test.YtmphbajnadbggabKMatRef
import Derived.Test.YtmphbajnadbggabKGen
import Derived.Test.YtmphbajnadbggabKVec
import Derived.Test.YtmphbajnadbggabKMat
/- Lists of texts of the call's own; texts that are spoiled. -/
namespace Go.Proofs.Ytmphbajnadbggab
open Go.RowKit
set_option linter.unusedVariables false
set_option linter.unusedSimpArgs false
theorem Try.infoText : (Try.prog.info? 9).map (fun i => (i.zero, i.size, i.bytes)) = some (some (.string ByteArray.empty), 1, 16) := by kernel_rfl
theorem own_scell {w : World} {B E g n cap : Nat} {xs : List ByteArray} (h : OwnL w B E (.slice (some ⟨g, 0, none⟩) n cap) (xs.map Value.string)) (k : Nat) (hk : k < xs.length) : w.cell? ⟨g, k, none⟩ = some (.string (xs.getD k ByteArray.empty)) := by
  obtain ⟨g1, cap1, e, hb, _, _, hc⟩ := own_form (n := (xs.map Value.string).length) h (by simp; omega)
  simp only [Value.slice.injEq, Option.some.injEq, Addr.mk.injEq, and_true, true_and] at e
  obtain ⟨rfl, _⟩ := e
  exact hc k _ (str_at rfl k hk)
end Go.Proofs.Ytmphbajnadbggab
/- Parity by the document (ossuaryref1.Encode): a contract; texts that are spoiled. -/
namespace Go.Proofs.Ytmphbajnadbggab
open Go.RowKit
set_option linter.unusedVariables false
set_option linter.unusedSimpArgs false
open Vec (alikeTo numsTo May)
def EncMay (d p : Int) (ss : List ByteArray) : Prop := ShpMay d p ∧ (ss.length : Int) = d ∧ alikeTo ss ss.length
instance alikeDec (ss : List ByteArray) (n : Nat) : Decidable (alikeTo ss n) := by unfold alikeTo; exact inferInstance
instance encDec (d p : Int) (ss : List ByteArray) : Decidable (EncMay d p ss) := by unfold EncMay; exact inferInstance
/-- the first k parities -/
def encTo (d p : Nat) (ss : List ByteArray) (k : Nat) : List ByteArray := (List.range k).map fun i => Vec.out ((genM d p).getD (d + i) []) ss
/-- the parities, the error's number -/
def encF (d p : Int) (ss : List ByteArray) : List ByteArray × Int := if EncMay d p ss then (encTo d.toNat p.toNat ss p.toNat, 0) else ([], 600)
theorem encTo_len (d p : Nat) (ss : List ByteArray) (k : Nat) : (encTo d p ss k).length = k := by simp [encTo]
theorem encTo_snoc (d p : Nat) (ss : List ByteArray) (k : Nat) : encTo d p ss (k + 1) = encTo d p ss k ++ [Vec.out ((genM d p).getD (d + k) []) ss] := by
  unfold encTo
  rw [List.range_succ, List.map_append]
  rfl
theorem encF_len (d p : Int) (ss : List ByteArray) : (encF d p ss).1.length ≤ 2 := by
  unfold encF
  split
  · next h => rw [encTo_len]; have := h.1; unfold ShpMay at this; omega
  · exact Nat.zero_le _
theorem gen_row {d p : Nat} (h1 : 1 ≤ d) (h2 : d ≤ 4) (h3 : p ≤ 2) {r : Nat} (hr : r < d + p) : ((genM d p).getD r []).length = d ∧ numsTo ((genM d p).getD r []) ((genM d p).getD r []).length := by
  obtain ⟨hm, hl, hh⟩ := genM_may d (by omega) p (by omega) h1
  obtain ⟨e1, e2⟩ := hm.2.2.2.2 r (by omega)
  rw [hh] at e1 e2
  refine ⟨e1, fun i hi => ?_⟩
  rw [e1] at hi
  have := e2 i hi
  unfold byteI at this
  exact this
theorem gen_comb {d p : Nat} (h1 : 1 ≤ d) (h2 : d ≤ 4) (h3 : p ≤ 2) {r : Nat} (hr : r < d + p) {ss : List ByteArray} (hl : ss.length = d) (ha : alikeTo ss ss.length) {x : ByteArray × Int} (h : combR ((genM d p).getD r []) ss x) : x = (Vec.out ((genM d p).getD r []) ss, 0) := by
  obtain ⟨e1, e2⟩ := gen_row h1 h2 h3 hr
  have hm : May ((genM d p).getD r []) ss := ⟨by omega, by omega, by omega, ha, e2⟩
  rcases h with ⟨_, h⟩ | ⟨h, _⟩
  · exact h
  · exact absurd hm h
theorem out_len (cs : List Int) (ss : List ByteArray) : (Vec.out cs ss).size = (ss.getD 0 ByteArray.empty).size := by
  unfold Vec.out; rw [strOfNums_size]; simp [Vec.nums]
theorem encF_size (d p : Int) (ss : List ByteArray) : ∀ i, ((encF d p ss).1.getD i ByteArray.empty).size ≤ 140737488355328 := by
  intro i
  unfold encF
  split
  · next h =>
    obtain ⟨h1, h2, h3⟩ := h
    unfold ShpMay at h1
    have h0 := (h3 0 (by omega)).2
    by_cases hi : i < p.toNat
    · have e : (encTo d.toNat p.toNat ss p.toNat).getD i ByteArray.empty = Vec.out ((genM d.toNat p.toNat).getD (d.toNat + i) []) ss := by
        simp [encTo, List.getD, hi]
      rw [e, out_len]
      omega
    · have e : (encTo d.toNat p.toNat ss p.toNat).getD i ByteArray.empty = ByteArray.empty := by
        simp [encTo, List.getD, hi]
      rw [e]
      decide
  · simp
end Go.Proofs.Ytmphbajnadbggab
/- Parity by the document (ossuaryref1.Encode): the walk. -/
namespace Go.Proofs.Ytmphbajnadbggab
open Go.RowKit
set_option linter.unusedVariables false
set_option linter.unusedSimpArgs false
open Vec (alikeTo numsTo May)
theorem below_drews {w w' : World} {B : Nat} (h : ∃ m, w' = w.drewN m) : Below B w w' := by obtain ⟨m, rfl⟩ := h; exact below_drewN _ _ _
end Go.Proofs.Ytmphbajnadbggab
/- Package encode: the function handed to slices.ContainsFunc, and that call: the walks. -/
namespace Go.Proofs.Ytmphbajnadbggab
open Go.RowKit
set_option linter.unusedVariables false
set_option linter.unusedSimpArgs false
attribute [local go_sem ↓] Go.wp_at_zero Go.wp_at_succ
end Go.Proofs.Ytmphbajnadbggab
/- Package encode: haveForm, Encode: the walks. -/
namespace Go.Proofs.Ytmphbajnadbggab
open Go.RowKit
set_option linter.unusedVariables false
set_option linter.unusedSimpArgs false
attribute [local go_sem ↓] Go.wp_at_zero Go.wp_at_succ
open Vec (alikeTo numsTo May)
theorem alike_of_any {ss : List ByteArray} {n : Nat} (hl : ss.length = n) (h0 : (ss.getD 0 ByteArray.empty).size ≤ 4096) : (!(ss.any fun t => ((t.size : Int) != ((ss.getD 0 ByteArray.empty).size : Int)))) = decide (alikeTo ss n) := by
  rw [Bool.eq_iff_iff]
  simp only [Bool.not_eq_true', List.any_eq_false, decide_eq_true_eq]
  constructor
  · intro h i hi
    have hx : ss.getD i ByteArray.empty ∈ ss := by rw [List.getD, List.getElem?_eq_getElem (by omega)]; exact List.getElem_mem _
    have := h _ hx
    simp at this
    exact ⟨by simp only [List.getD] at this ⊢; omega, by simp only [List.getD] at this h0 ⊢; omega⟩
  · intro h x hx
    obtain ⟨j, hj, rfl⟩ := List.getElem_of_mem hx
    have := (h j (by omega)).1
    rw [List.getD, List.getElem?_eq_getElem hj] at this
    simp only [Option.getD_some] at this
    simp [this]
end Go.Proofs.Ytmphbajnadbggab
/- Package encode: Encode: the walk. -/
namespace Go.Proofs.Ytmphbajnadbggab
open Go.RowKit
set_option linter.unusedVariables false
set_option linter.unusedSimpArgs false
attribute [local go_sem ↓] Go.wp_at_zero Go.wp_at_succ
open Vec (alikeTo numsTo May)
/-- the texts of parity, the first k of them made -/
def encAt (d p : Nat) (ss : List ByteArray) (k : Nat) : List ByteArray := encTo d p ss k ++ List.replicate (p - k) ByteArray.empty
theorem encAt_len (d p : Nat) (ss : List ByteArray) (k : Nat) (h : k ≤ p) : (encAt d p ss k).length = p := by simp [encAt, encTo_len]; omega
theorem encAt_start (d p : Nat) (ss : List ByteArray) : encAt d p ss 0 = List.replicate p ByteArray.empty := by simp [encAt, encTo]
theorem encAt_end (d p : Nat) (ss : List ByteArray) : encAt d p ss p = encTo d p ss p := by simp [encAt]
theorem encAt_set (d p : Nat) (ss : List ByteArray) (k : Nat) (h : k < p) : (encAt d p ss k).set k (Vec.out ((genM d p).getD (d + k) []) ss) = encAt d p ss (k + 1) := by
  unfold encAt
  rw [encTo_snoc, List.set_append_right _ _ (by rw [encTo_len]; exact Nat.le_refl _), encTo_len, Nat.sub_self]
  obtain ⟨m, hm⟩ : ∃ m, p - k = m + 1 := ⟨p - k - 1, by omega⟩
  rw [hm, show p - (k + 1) = m by omega, List.replicate_succ, List.set_cons_zero]
  simp
theorem own_madeT (w : World) (B n : Nat) (E : TypeId) (h : B ≤ w.heap.size) (hn : n ≤ maxLen) : OwnL (w.alloc (.cells (madeCells #[.string ByteArray.empty] n) E)) B E (.slice (some ⟨w.heap.size, 0, none⟩) n n) ((List.replicate n ByteArray.empty).map Value.string) := by
  have := World.ownsRow_lit (e := E) (size := 1) w (madeCells #[.string ByteArray.empty] n) n h hn (by rw [size_madeCells]; omega)
  rw [toList_madeCells_one] at this
  unfold OwnL
  simpa using this
theorem own_madeT_at (w : World) (B n : Nat) (E : TypeId) (H : Nat) (hH : w.heap.size = H) (h : B ≤ w.heap.size) (hn : n ≤ maxLen) : OwnL (w.alloc (.cells (madeCells #[.string ByteArray.empty] n) E)) B E (.slice (some ⟨H, 0, none⟩) n n) ((List.replicate n ByteArray.empty).map Value.string) := by subst hH; exact own_madeT w B n E h hn
theorem own_cellT {w : World} {B E g n cap : Nat} {xs : List ByteArray} (h : OwnL w B E (.slice (some ⟨g, 0, none⟩) n cap) (xs.map Value.string)) (k : Nat) (hk : k < xs.length) : w.cell? ⟨g, k, none⟩ = some (.string (xs.getD k ByteArray.empty)) := by
  obtain ⟨g1, cap1, e, hb, _, _, hc⟩ := own_form (n := (xs.map Value.string).length) h (by simp; omega)
  simp only [Value.slice.injEq, Option.some.injEq, Addr.mk.injEq, and_true, true_and] at e
  obtain ⟨rfl, _⟩ := e
  exact hc k _ (by simp [List.getElem?_eq_getElem hk])
end Go.Proofs.Ytmphbajnadbggab
