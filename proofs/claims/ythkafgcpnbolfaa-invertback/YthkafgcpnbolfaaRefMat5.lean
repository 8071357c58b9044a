/- The document's own product of matrices (ossuaryref1.MulMatrix), where there is one. -/
import Derived.Test.YthkafgcpnbolfaaRefMat4
import Derived.Deep.RegionHeld
namespace Go.Proofs.Ythkafgcpnbolfaa
open Go.RowKit
set_option linter.unusedVariables false
set_option linter.unusedSimpArgs false
/-- a matrix that may be one, in memory: its cells -/
theorem mat_at {p : Option Addr} {n c : Nat} {M : List (List Int)} {w : World} (h : MatV w (.agg #[.slice p n c]) M) (hm : MMay M) :
    M.length = n ∧ 1 ≤ n ∧ n ≤ 12 ∧ ∃ k b o, (M.getD 0 []).length = k ∧ 1 ≤ k ∧ k ≤ 12 ∧ p = some ⟨b, o, none⟩ ∧ ∀ i, i < n → ∃ g og cap, w.cell? ⟨b, o + i, none⟩ = some (.slice (some ⟨g, og, none⟩) k cap) ∧ ∀ j, j < k → w.cell? ⟨g, og + j, none⟩ = some (.int .i64 ((entry M i j : Nat) : Int)) ∧ entry M i j < 256 := by
  obtain ⟨a, n', c', e, R⟩ := h
  simp only [Value.agg.injEq, Array.mk.injEq, List.cons.injEq, Value.slice.injEq, and_true] at e
  obtain ⟨rfl, rfl, rfl⟩ := e
  have hl : M.length = n := by obtain ⟨_, h, _⟩ := R; exact h
  have h1 := hm.1
  have h2 := hm.2.1
  refine ⟨hl, by omega, by omega, ?_⟩
  rcases R.two with h0 | ⟨b, off, rfl, hc⟩
  · omega
  · refine ⟨(M.getD 0 []).length, b, off, rfl, hm.2.2.1, hm.2.2.2.1, rfl, fun i hi => ?_⟩
    obtain ⟨u, hu, x, m, q, rfl, hn, hx⟩ := hc i hi
    have hk : (M.getD i []).length = (M.getD 0 []).length := (hm.2.2.2.2 i (by omega)).1
    have hxl := hx.1
    rcases hx.2.two with h0 | ⟨g, og, rfl, hcell⟩
    · have := hm.2.2.1; omega
    · refine ⟨g, og, q, by rw [hu, ← hxl, hk], fun j hj => ?_⟩
      obtain ⟨e1, e2⟩ := mmay_at hm (r := i) (c := j) (by omega) hj
      exact ⟨by rw [hcell j (by omega), e1], e2⟩
theorem part_start (A B : List (List Int)) (R C K : Nat) : matF R C (part A B K 0 0 0) = zeroM R C := by
  rw [← matF_zero]
  apply matF_congr
  intro r c hr hc
  unfold part
  by_cases h : r = 0
  · subst h
    by_cases h2 : c = 0
    · subst h2; simp [dot]
    · simp [h2]
  · simp [h]
theorem part_col (A B : List (List Int)) (R C K i j : Nat) : matF R C (part A B K i j K) = matF R C (part A B K i (j + 1) 0) := by
  apply matF_congr
  intro r c hr hc
  unfold part
  by_cases h : r < i
  · simp [h]
  · by_cases h2 : r = i
    · subst h2
      by_cases h3 : c < j
      · simp [h3, show c < j + 1 by omega]
      · by_cases h4 : c = j
        · subst h4; simp
        · by_cases h5 : c = j + 1
          · subst h5; simp [dot, h3, h4]
          · simp [h3, h4, h5, show ¬ c < j + 1 by omega]
    · simp [h, h2]
theorem part_row (A B : List (List Int)) (R C K i : Nat) : matF R C (part A B K i C 0) = matF R C (part A B K (i + 1) 0 0) := by
  apply matF_congr
  intro r c hr hc
  unfold part
  by_cases h : r < i
  · simp [h, show r < i + 1 by omega]
  · by_cases h2 : r = i
    · subst h2; simp [hc]
    · by_cases h3 : r = i + 1
      · subst h3
        by_cases h4 : c = 0
        · subst h4; simp [dot, h]
        · simp [h4, h]
      · simp [h, h2, h3, show ¬ r < i + 1 by omega]
theorem part_end (A B : List (List Int)) (R C K : Nat) : matF R C (part A B K R 0 0) = matF R C (fun r c => dot A B r c K) := by
  apply matF_congr
  intro r c hr hc
  simp [part, hr]
theorem part_step (A B : List (List Int)) (R C K i j k : Nat) (hi : i < R) (hj : j < C) :
    (matF R C (part A B K i j k)).set i (((matF R C (part A B K i j k)).getD i []).set j ((dot A B i j (k + 1) : Nat) : Int)) = matF R C (part A B K i j (k + 1)) := by
  rw [matF_set _ _ _ _ _ _ hi hj]
  apply matF_congr
  intro r c hr hc
  unfold part
  by_cases h : r = i ∧ c = j
  · obtain ⟨rfl, rfl⟩ := h; simp
  · rw [if_neg h]
    by_cases h1 : r < i
    · simp [h1]
    · by_cases h2 : r = i
      · subst h2
        have h3 : c ≠ j := fun e => h ⟨rfl, e⟩
        simp [h3]
      · simp [h1, h2]
theorem part_here (A B : List (List Int)) (K i j k : Nat) : part A B K i j k i j = dot A B i j k := by simp [part]
theorem own_row_at {w : World} {B : Nat} {T E : TypeId} {gu na cu kb : Nat} {us : List Value} {f : Nat → Nat → Nat} (h : RowsO w B T E (.slice (some ⟨gu, 0, none⟩) na cu) us (matF na kb f)) {i : Nat} (hi : i < na) (hk : 1 ≤ kb) :
    ∃ g cap, us[i]? = some (.slice (some ⟨g, 0, none⟩) kb cap) ∧ w.cell? ⟨gu, i, none⟩ = some (.slice (some ⟨g, 0, none⟩) kb cap) := by
  obtain ⟨g, cap, hg, _, _, _⟩ := h.at (i := i) (by rw [matF_len]; exact hi) (by rw [matF_rowlen _ _ _ _ hi]; omega)
  rw [matF_rowlen _ _ _ _ hi] at hg
  obtain ⟨gu', cu', eu, _, hcu⟩ := h.form (by rw [matF_len]; omega)
  simp only [Value.slice.injEq, Option.some.injEq, Addr.mk.injEq, and_true, true_and] at eu
  obtain ⟨rfl, _, rfl⟩ := eu
  exact ⟨g, cap, hg, hcu i _ hg⟩
theorem own_cell_at {w : World} {B : Nat} {T E : TypeId} {gu na cu kb : Nat} {us : List Value} {f : Nat → Nat → Nat} (h : RowsO w B T E (.slice (some ⟨gu, 0, none⟩) na cu) us (matF na kb f)) {i j g cap : Nat} (hi : i < na) (hj : j < kb) (hg : us[i]? = some (.slice (some ⟨g, 0, none⟩) kb cap)) :
    w.cell? ⟨gu, i, none⟩ = some (.slice (some ⟨g, 0, none⟩) kb cap) ∧ w.cell? ⟨g, j, none⟩ = some (.int .i64 ((f i j : Nat) : Int)) ∧ w.frozen? ⟨g, j, none⟩ = false ∧ B ≤ g := by
  obtain ⟨g', cap', hg', hB, hcell, hfr⟩ := h.at (i := i) (by rw [matF_len]; exact hi) (by rw [matF_rowlen _ _ _ _ hi]; omega)
  rw [matF_rowlen _ _ _ _ hi] at hg' hcell
  rw [hg] at hg'
  simp only [Option.some.injEq, Value.slice.injEq, Addr.mk.injEq, and_true, true_and] at hg'
  obtain ⟨rfl, rfl⟩ := hg'
  obtain ⟨gu', cu', eu, _, hcu⟩ := h.form (by rw [matF_len]; omega)
  simp only [Value.slice.injEq, Option.some.injEq, Addr.mk.injEq, and_true, true_and] at eu
  obtain ⟨rfl, _, rfl⟩ := eu
  exact ⟨hcu i _ hg, by rw [hcell j hj, matF_at _ _ _ _ _ hi hj], hfr j, hB⟩
attribute [local go_sem ↓] Go.wp_at_zero Go.wp_at_succ
/-- may these be multiplied? -/
def MulMay (A B : List (List Int)) : Prop := MMay A ∧ MMay B ∧ (A.getD 0 []).length = B.length
end Go.Proofs.Ythkafgcpnbolfaa
