/- Any choice of Data rows of the code's matrix can be inverted. -/
import Derived.Test.YtcgagkaalbljmaaDoorKGen
namespace Go.Proofs.YtcgagkaalbljmaaDoor
open Go.RowKit
set_option linter.unusedVariables false
set_option linter.unusedSimpArgs false
def maskOf (b0 b1 b2 b3 b4 b5 : Bool) : Nat := b0.toNat + 2 * b1.toNat + 4 * b2.toNat + 8 * b3.toNat + 16 * b4.toNat + 32 * b5.toNat
theorem mask_bits : ∀ b0 b1 b2 b3 b4 b5 : Bool, maskOf b0 b1 b2 b3 b4 b5 < 64 ∧ (maskOf b0 b1 b2 b3 b4 b5).testBit 0 = b0 ∧ (maskOf b0 b1 b2 b3 b4 b5).testBit 1 = b1 ∧ (maskOf b0 b1 b2 b3 b4 b5).testBit 2 = b2 ∧ (maskOf b0 b1 b2 b3 b4 b5).testBit 3 = b3 ∧ (maskOf b0 b1 b2 b3 b4 b5).testBit 4 = b4 ∧ (maskOf b0 b1 b2 b3 b4 b5).testBit 5 = b5 := by decide +kernel
theorem mask_of (b : Nat → Bool) : ∃ m, m < 64 ∧ ∀ i, i < 6 → m.testBit i = b i := by
  obtain ⟨h, h0, h1, h2, h3, h4, h5⟩ := mask_bits (b 0) (b 1) (b 2) (b 3) (b 4) (b 5)
  refine ⟨_, h, fun i hi => ?_⟩
  have : i = 0 ∨ i = 1 ∨ i = 2 ∨ i = 3 ∨ i = 4 ∨ i = 5 := by omega
  rcases this with rfl | rfl | rfl | rfl | rfl | rfl
  · exact h0
  · exact h1
  · exact h2
  · exact h3
  · exact h4
  · exact h5
theorem rowsOf_congr {b b' : Nat → Bool} {d k : Nat} (h : ∀ i, i < k → b i = b' i) : rowsOf b d k = rowsOf b' d k := by
  have e1 : (List.range k).filter b = (List.range k).filter b' := List.filter_congr fun i hi => h i (List.mem_range.1 hi)
  have e2 : (List.range k).filter (fun i => !b i) = (List.range k).filter (fun i => !b' i) := List.filter_congr fun i hi => by rw [h i (List.mem_range.1 hi)]
  unfold rowsOf
  rw [e1, e2]
theorem rowsOf_lt {b : Nat → Bool} {d k x : Nat} (h : x ∈ rowsOf b d k) : x < k := by
  unfold rowsOf at h
  rcases List.mem_append.1 h with h | h
  · exact List.mem_range.1 (List.mem_filter.1 (List.mem_of_mem_take h)).1
  · exact List.mem_range.1 (List.mem_filter.1 (List.mem_of_mem_take h)).1
theorem filter_two (b : Nat → Bool) (l : List Nat) : (l.filter b).length + (l.filter (fun i => !b i)).length = l.length := by
  induction l with
  | nil => rfl
  | cons x l ih => cases h : b x <;> simp [h] <;> omega
theorem rowsOf_len {b : Nat → Bool} {d k : Nat} (h : d ≤ k) : (rowsOf b d k).length = d := by
  have := filter_two b (List.range k)
  rw [List.length_range] at this
  unfold rowsOf
  simp only [List.length_append, List.length_take]
  omega
theorem ofNats_len (l : List Nat) : (ofNats l).length = l.length := by simp [ofNats]
theorem ofNats_at (l : List Nat) (i : Nat) : (ofNats l).getD i 0 = ((l.getD i 0 : Nat) : Int) := by
  unfold ofNats
  simp only [List.getD, List.getElem?_map]
  cases l[i]? <;> rfl
theorem pickM_take {M : List (List Int)} {l : List Nat} {k : Nat} (h : ∀ x ∈ l, x < k) : pickM (M.take k) (ofNats l) = pickM M (ofNats l) := by
  unfold pickM ofNats
  rw [List.map_map, List.map_map]
  apply List.map_congr_left
  intro x hx
  have hx := h x hx
  simp only [Function.comp, Int.ofNat_eq_natCast, Int.toNat_natCast]
  simp [List.getD, List.getElem?_take, hx]
/-- any choice of d rows can be inverted -/
theorem rowsOf_inv (b : Nat → Bool) {d p : Nat} (h1 : 1 ≤ d) (h2 : d ≤ 4) (h3 : p ≤ 2) : ∃ N, InvOf (pickM (genM d p) (ofNats (rowsOf b d (d + p)))) N := by
  obtain ⟨m, hm, hb⟩ := mask_of b
  rw [← rowsOf_congr (b := fun i => m.testBit i) (fun i hi => hb i (by omega))]
  have hc := rowsOf_choice d (by omega) p (by omega) m hm
  have hd : (d == 0) = false := by simp; omega
  rw [hd, Bool.false_or, List.contains_iff_mem] at hc
  obtain ⟨x, hx, ex⟩ := List.mem_map.1 hc
  refine ⟨x.2, ?_⟩
  unfold genM
  rw [pickM_take (fun y hy => rowsOf_lt hy), ← ex]
  exact choices_inv d (by omega) x hx
theorem rowsOf_pick (b : Nat → Bool) {d p : Nat} (h1 : 1 ≤ d) (h2 : d ≤ 4) (h3 : p ≤ 2) : PickMay (genM d p) (ofNats (rowsOf b d (d + p))) := by
  obtain ⟨hm, hl, _⟩ := genM_may d (by omega) p (by omega) h1
  refine ⟨hm, ?_, ?_, fun i hi => ?_⟩
  · rw [ofNats_len, rowsOf_len (by omega)]; exact h1
  · rw [ofNats_len, rowsOf_len (by omega)]; omega
  · rw [ofNats_len] at hi
    rw [ofNats_at, hl]
    have : (rowsOf b d (d + p)).getD i 0 < d + p := rowsOf_lt (b := b) (d := d) (by
      have : (rowsOf b d (d + p)).getD i 0 = (rowsOf b d (d + p))[i] := by simp [List.getD, List.getElem?_eq_getElem hi]
      rw [this]; exact List.getElem_mem hi)
    omega
theorem pick_sq (b : Nat → Bool) {d p : Nat} (h1 : 1 ≤ d) (h2 : d ≤ 4) (h3 : p ≤ 2) : SqMay (pickM (genM d p) (ofNats (rowsOf b d (d + p)))) := by
  have hp := rowsOf_pick b h1 h2 h3
  have hm := pickM_may hp
  obtain ⟨_, hl, hh⟩ := genM_may d (by omega) p (by omega) h1
  refine ⟨hm, ?_⟩
  rw [pickM_len, ofNats_len, rowsOf_len (by omega)]
  have h0 : 0 < (ofNats (rowsOf b d (d + p))).length := by rw [ofNats_len, rowsOf_len (by omega)]; exact h1
  rw [pickM_row h0]
  have := (hp.2.2.2 0 h0)
  have e := (hp.1.2.2.2.2 ((ofNats (rowsOf b d (d + p))).getD 0 0).toNat (by omega)).1
  rw [e, hh]
end Go.Proofs.YtcgagkaalbljmaaDoor
