/- Data back: what Decode answers, in plain lists. -/
import Derived.Test.YtcgagkaalbljmaaDoorGenMath2
import Derived.Test.YtcgagkaalbljmaaDoorKEnc
namespace Go.Proofs.YtcgagkaalbljmaaDoor
open Go.RowKit
set_option linter.unusedVariables false
set_option linter.unusedSimpArgs false
open Vec (alikeTo numsTo May)
theorem ofNats_snoc' (l : List Nat) (k : Nat) : ofNats (l ++ [k]) = ofNats l ++ [(k : Int)] := by
  unfold ofNats
  rw [List.map_append]
  rfl
/-- one has the shard of number i -/
def hasB (bs : List Bool) (i : Nat) : Bool := bs.getD i false
/-- the numbers below k that one has -/
def rowsL (bs : List Bool) (k : Nat) : List Nat := (List.range k).filter (hasB bs)
/-- their shards -/
def hadL (bs : List Bool) (ss : List ByteArray) (k : Nat) : List ByteArray := (rowsL bs k).map fun i => ss.getD i ByteArray.empty
theorem rowsL_yes {bs : List Bool} {k : Nat} (h : hasB bs k = true) : rowsL bs (k + 1) = rowsL bs k ++ [k] := by
  unfold rowsL
  rw [List.range_succ, List.filter_append]
  simp [h]
theorem rowsL_no {bs : List Bool} {k : Nat} (h : hasB bs k = false) : rowsL bs (k + 1) = rowsL bs k := by
  unfold rowsL
  rw [List.range_succ, List.filter_append]
  simp [h]
theorem hadL_yes {bs : List Bool} {ss : List ByteArray} {k : Nat} (h : hasB bs k = true) : hadL bs ss (k + 1) = hadL bs ss k ++ [ss.getD k ByteArray.empty] := by
  unfold hadL
  rw [rowsL_yes h, List.map_append]
  rfl
theorem hadL_no {bs : List Bool} {ss : List ByteArray} {k : Nat} (h : hasB bs k = false) : hadL bs ss (k + 1) = hadL bs ss k := by
  unfold hadL
  rw [rowsL_no h]
theorem hadL_len (bs : List Bool) (ss : List ByteArray) (k : Nat) : (hadL bs ss k).length = (rowsL bs k).length := by simp [hadL]
theorem rowsL_le (bs : List Bool) (k : Nat) : (rowsL bs k).length ≤ k := by
  have := List.length_filter_le (hasB bs) (List.range k)
  simpa [rowsL] using this
/-- with enough of them the first d are a choice of d rows -/
theorem rowsL_take {bs : List Bool} {d k : Nat} (h : d ≤ (rowsL bs k).length) : (rowsL bs k).take d = rowsOf (hasB bs) d k := by
  unfold rowsOf
  have e : (((List.range k).filter (hasB bs)).take d).length = d := by
    rw [List.length_take]
    exact Nat.min_eq_left h
  rw [e, Nat.sub_self, List.take_zero, List.append_nil]
  rfl
def DecForm (d p : Int) (ss : List ByteArray) (bs : List Bool) : Prop := ShpMay d p ∧ (ss.length : Int) = d + p ∧ bs.length = ss.length ∧ alikeTo (hadL bs ss bs.length) (hadL bs ss bs.length).length
/-- of the rows of an inverse, the first k texts -/
def backTo (N : List (List Int)) (hs : List ByteArray) (k : Nat) : List ByteArray := (List.range k).map fun i => Vec.out (N.getD i []) hs
theorem backTo_len (N : List (List Int)) (hs : List ByteArray) (k : Nat) : (backTo N hs k).length = k := by simp [backTo]
theorem backTo_snoc (N : List (List Int)) (hs : List ByteArray) (k : Nat) : backTo N hs (k + 1) = backTo N hs k ++ [Vec.out (N.getD k []) hs] := by
  unfold backTo
  rw [List.range_succ, List.map_append]
  rfl
/-- the rows that decide -/
def firstM (d p : Nat) (bs : List Bool) : List (List Int) := pickM (genM d p) (ofNats ((rowsL bs bs.length).take d))
/-- what Decode answers: the data, the error's number -/
def decR (d p : Int) (ss : List ByteArray) (bs : List Bool) (r : List ByteArray × Int) : Prop :=
  (¬ DecForm d p ss bs ∧ r = ([], 700)) ∨ (DecForm d p ss bs ∧ ((rowsL bs bs.length).length : Int) < d ∧ r = ([], 701)) ∨
  (DecForm d p ss bs ∧ ¬ ((rowsL bs bs.length).length : Int) < d ∧ ∃ N, InvOf (firstM d.toNat p.toNat bs) N ∧ r = (backTo N ((hadL bs ss bs.length).take d.toNat) d.toNat, 0))
theorem firstM_eq {d p : Nat} {bs : List Bool} (h : d ≤ (rowsL bs bs.length).length) (hl : bs.length = d + p) : firstM d p bs = pickM (genM d p) (ofNats (rowsOf (hasB bs) d (d + p))) := by
  unfold firstM
  rw [rowsL_take h, hl]
theorem firstM_sq {d p : Nat} {bs : List Bool} (h1 : 1 ≤ d) (h2 : d ≤ 4) (h3 : p ≤ 2) (h : d ≤ (rowsL bs bs.length).length) (hl : bs.length = d + p) : SqMay (firstM d p bs) := by
  rw [firstM_eq h hl]; exact pick_sq _ h1 h2 h3
theorem firstM_inv {d p : Nat} {bs : List Bool} (h1 : 1 ≤ d) (h2 : d ≤ 4) (h3 : p ≤ 2) (h : d ≤ (rowsL bs bs.length).length) (hl : bs.length = d + p) : ∃ N, InvOf (firstM d p bs) N := by
  rw [firstM_eq h hl]; exact rowsOf_inv _ h1 h2 h3
theorem firstM_pick {d p : Nat} {bs : List Bool} (h1 : 1 ≤ d) (h2 : d ≤ 4) (h3 : p ≤ 2) (h : d ≤ (rowsL bs bs.length).length) (hl : bs.length = d + p) : pickF (genM d p) (ofNats ((rowsL bs bs.length).take d)) = (firstM d p bs, 0) := by
  unfold pickF
  rw [if_pos (by rw [rowsL_take h, hl]; exact rowsOf_pick _ h1 h2 h3)]
  rfl
theorem firstM_len {d p : Nat} {bs : List Bool} (h : d ≤ (rowsL bs bs.length).length) : (firstM d p bs).length = d := by
  unfold firstM
  rw [pickM_len, ofNats_len, List.length_take, Nat.min_eq_left h]
theorem decR_one {d p : Int} {ss : List ByteArray} {bs : List Bool} {r r' : List ByteArray × Int} (h : decR d p ss bs r) (h' : decR d p ss bs r') : r = r' := by
  rcases h with ⟨h1, h2⟩ | ⟨h1, h2, h3⟩ | ⟨h1, h2, N, hN, h3⟩
  · rcases h' with ⟨g1, g2⟩ | ⟨g1, _⟩ | ⟨g1, _⟩
    · rw [h2, g2]
    · exact absurd g1 h1
    · exact absurd g1 h1
  · rcases h' with ⟨g1, _⟩ | ⟨g1, g2, g3⟩ | ⟨g1, g2, _⟩
    · exact absurd h1 g1
    · rw [h3, g3]
    · exact absurd h2 g2
  · rcases h' with ⟨g1, _⟩ | ⟨g1, g2, _⟩ | ⟨g1, g2, N', hN', g3⟩
    · exact absurd h1 g1
    · exact absurd g2 h2
    · have hf := h1.1
      have hl := h1.2.1
      have hb := h1.2.2.1
      unfold ShpMay at hf
      have hsq : SqMay (firstM d.toNat p.toNat bs) := firstM_sq (by omega) (by omega) (by omega) (by omega) (by omega)
      rw [h3, g3, InvOf.one hsq hN hN']
/-- the rows of an inverse can be combined with what one has -/
theorem back_may {d p : Nat} {ss : List ByteArray} {bs : List Bool} {N : List (List Int)} (h1 : 1 ≤ d) (h2 : d ≤ 4) (h : d ≤ (rowsL bs bs.length).length) (ha : alikeTo (hadL bs ss bs.length) (hadL bs ss bs.length).length) (hN : InvOf (firstM d p bs) N) {i : Nat} (hi : i < d) :
    (N.getD i []).length = d ∧ May (N.getD i []) ((hadL bs ss bs.length).take d) := by
  have hl := firstM_len (p := p) h
  obtain ⟨hm, e1, e2, _⟩ := hN
  rw [hl] at e1 e2
  obtain ⟨f1, f2⟩ := hm.2.2.2.2 i (by omega)
  rw [e2] at f1 f2
  have hd : ((hadL bs ss bs.length).take d).length = d := by rw [List.length_take, hadL_len]; exact Nat.min_eq_left h
  refine ⟨f1, by omega, by omega, by rw [hd, f1], fun j hj => ?_, fun j hj => ?_⟩
  · rw [hd] at hj
    have g := ha j (by rw [hadL_len]; omega)
    have eJ : ∀ t, t < d → ((hadL bs ss bs.length).take d).getD t ByteArray.empty = (hadL bs ss bs.length).getD t ByteArray.empty := fun t ht => by simp [List.getD, List.getElem?_take, ht]
    rw [eJ j hj, eJ 0 (by omega)]
    exact g
  · rw [f1] at hj
    have := f2 j hj
    unfold byteI at this
    exact this
theorem back_comb {d p : Nat} {ss : List ByteArray} {bs : List Bool} {N : List (List Int)} (h1 : 1 ≤ d) (h2 : d ≤ 4) (h : d ≤ (rowsL bs bs.length).length) (ha : alikeTo (hadL bs ss bs.length) (hadL bs ss bs.length).length) (hN : InvOf (firstM d p bs) N) {i : Nat} (hi : i < d) {x : ByteArray × Int} (hx : combR (N.getD i []) ((hadL bs ss bs.length).take d) x) :
    x = (Vec.out (N.getD i []) ((hadL bs ss bs.length).take d), 0) := by
  have hm := (back_may h1 h2 h ha hN hi).2
  rcases hx with ⟨_, h⟩ | ⟨h, _⟩
  · exact h
  · exact absurd hm h
end Go.Proofs.YtcgagkaalbljmaaDoor
