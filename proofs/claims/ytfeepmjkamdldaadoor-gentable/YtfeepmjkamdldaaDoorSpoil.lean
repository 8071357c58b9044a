/- Writing over what a call has made: SpoilInts, SpoilMatrix (ossuarylaw0): contracts. -/
import Derived.Test.YtfeepmjkamdldaaDoorRefMat2
import Derived.Test.YtfeepmjkamdldaaDoorHoist
namespace Go.Proofs.YtfeepmjkamdldaaDoor
open Go.RowKit
set_option linter.unusedVariables false
set_option linter.unusedSimpArgs false
attribute [local go_sem ↓] Go.wp_at_zero Go.wp_at_succ
theorem OwnL.keep {w w' : World} {B : Nat} {e : TypeId} {v : Value} {xs : List Value} (h : OwnL w B e v xs) (hk : ∀ g, v.ownBlock = some g → w'.heap[g]? = w.heap[g]?) : OwnL w' B e v xs := by
  refine ⟨h.1, ?_⟩
  rcases h.2 with h | ⟨g, cap, cur, rfl, hb, hh, r⟩
  · exact .inl h
  · exact .inr ⟨g, cap, cur, rfl, hb, (hk g rfl).trans hh, r⟩
theorem RowsO.keep {w w' : World} {B : Nat} {T E : TypeId} {u : Value} {us : List Value} {M : List (List Int)} (h : RowsO w B T E u us M) (hk : ∀ k, B ≤ k → k < w.heap.size → w'.heap[k]? = w.heap[k]?) : RowsO w' B T E u us M :=
  ⟨h.len, h.outer.keep (fun g hg => hk g (h.outer.lt hg).1 (h.outer.lt hg).2), fun j v hv => (h.row j v hv).keep (fun g hg => hk g ((h.row j v hv).lt hg).1 ((h.row j v hv).lt hg).2), h.apart⟩
theorem OwnM.keep {w w' : World} {B : Nat} {T E : TypeId} {u : Value} {M : List (List Int)} (h : OwnM w B T E u M) (hk : ∀ k, B ≤ k → k < w.heap.size → w'.heap[k]? = w.heap[k]?) : OwnM w' B T E u M := by
  obtain ⟨us, h⟩ := h; exact ⟨us, h.keep hk⟩
theorem own_len {w : World} {B E g n cap : Nat} {xs : List Value} (h : OwnL w B E (.slice (some ⟨g, 0, none⟩) n cap) xs) : xs.length = n := by
  rcases h.2 with ⟨h1, _⟩ | ⟨g1, c1, cur, h1, _⟩
  · simp at h1
  · simp only [Value.slice.injEq] at h1
    exact h1.2.1.symm
theorem own_row' {w : World} {B E g n cap : Nat} {xs : List Value} (h : OwnL w B E (.slice (some ⟨g, 0, none⟩) n cap) xs) : w.ownsRow B E 1 (.slice (some ⟨g, 0, none⟩) n cap) n xs := by
  have := own_len h
  unfold OwnL at h
  rwa [this] at h
theorem own_cell {w : World} {B E g n cap : Nat} {xs : List Int} (h : OwnL w B E (.slice (some ⟨g, 0, none⟩) n cap) (xs.map (Value.int .i64))) (k : Nat) (hk : k < xs.length) : w.cell? ⟨g, k, none⟩ = some (.int .i64 (xs.getD k 0)) := by
  obtain ⟨g1, cap1, e, hb, _, _, hc⟩ := own_form (n := (xs.map (Value.int .i64)).length) h (by simp; omega)
  simp only [Value.slice.injEq, Option.some.injEq, Addr.mk.injEq, and_true, true_and] at e
  obtain ⟨rfl, _⟩ := e
  exact hc k _ (int_at rfl k hk)
theorem own_free {w : World} {B E g n cap : Nat} {xs : List Value} (h : OwnL w B E (.slice (some ⟨g, 0, none⟩) n cap) xs) (k : Nat) : w.frozen? ⟨g, k, none⟩ = false := World.ownsRow.frozenAt (own_row' h) k
theorem own_put {w : World} {B E g n cap : Nat} {xs : List Value} (h : OwnL w B E (.slice (some ⟨g, 0, none⟩) n cap) xs) (k : Nat) (x : Value) : OwnL (w.setCell ⟨g, k, none⟩ x) B E (.slice (some ⟨g, 0, none⟩) n cap) (xs.set k x) := by
  have := (World.ownsRow.stored (own_row' h) k x).1
  unfold OwnL
  rw [List.length_set, own_len h]
  exact this
set_option maxRecDepth 100000 in
set_option maxHeartbeats 1000000 in
theorem spoilInts_none (a : Option Addr) (cap : Nat) (w : World) : Calls Tryd.prog 32 #[.slice a 0 cap] w fun e w' => e = .returned (.tuple #[]) ∧ w' = w := by
  go_enter Tryd.func32, Tryd.ntmps32
  go_wp2
  go_rounds 1
  exact bodyPost_end (v := .tuple #[]) (by simp [results, Tryd.results32, go_sem]) rfl ⟨rfl, rfl⟩
set_option maxRecDepth 100000 in
set_option maxHeartbeats 1000000 in
theorem spoilInts_own (B E g n cap : Nat) (xs : List Int) (w : World) (h : OwnL w B E (.slice (some ⟨g, 0, none⟩) n cap) (xs.map (Value.int .i64))) (hn : n ≤ maxLen) (hg : B ≤ g) :
    Calls Tryd.prog 32 #[.slice (some ⟨g, 0, none⟩) n cap] w fun e w' => e = .returned (.tuple #[]) ∧ (∃ ys : List Int, ys.length = xs.length ∧ OwnL w' B E (.slice (some ⟨g, 0, none⟩) n cap) (ys.map (Value.int .i64))) ∧ (∀ k, k ≠ g → k < w.heap.size → w'.heap[k]? = w.heap[k]?) ∧ Below B w w' := by
  have hl : xs.length = n := by
    have := own_len h
    simpa using this
  have HH := hide h
  unfold maxLen at hn
  clear h
  go_enter Tryd.func32, Tryd.ntmps32
  go_wp2
  go_loopw [2] (fun iv wr => ∃ k : Nat, k ≤ n ∧ iv = .int .i64 k ∧ Hid (∃ ys : List Int, ys.length = xs.length ∧ OwnL wr B E (.slice (some ⟨g, 0, none⟩) n cap) (ys.map (Value.int .i64))) ∧ Hid (∀ k, k ≠ g → k < w.heap.size → wr.heap[k]? = w.heap[k]?) ∧ Hid (Below B w wr)) (fun iv _ => n - (intOf iv).toNat)
  case atStart => exact ⟨0, by omega, rfl, hide ⟨xs, rfl, unhide HH⟩, hide (fun _ _ _ => rfl), hide (Below.refl _ _)⟩
  case round =>
    obtain ⟨k, hk, rfl, HO, HF, HB⟩ := hrel
    by_cases hlt : k < n
    · have hlt' : (k : Int) < n := by omega
      obtain ⟨ys, hys, ho⟩ := unhide HO
      have c1 := own_cell ho k (by omega)
      have f1 := own_free ho k
      obtain ⟨y, ey⟩ : ∃ y, y = ys.getD k 0 := ⟨_, rfl⟩
      rw [← ey] at c1
      clear ey
      have HO' := hide ho
      clear ho
      go_wp2
      go_roundw
      case rel =>
        have hst := own_put (unhide HO') k (.int .i64 (wrap64 (-9 - y)))
        refine ⟨k + 1, by omega, by go_num, hide ⟨ys.set k (wrap64 (-9 - y)), by simpa using hys, ?_⟩, hide (fun j hj hjs => ?_), hide ((unhide HB).setCell hg _)⟩
        · rw [List.map_set]
          exact hst
        · exact (Below.heap_setCell wr ⟨g, k, none⟩ _ j hj).trans (unhide HF j hj hjs)
      case measure => simp [intOf]; omega
    · have hlt' : ¬ (k : Int) < n := by omega
      obtain rfl : k = n := by omega
      go_wp2
      exact bodyPost_end (v := .tuple #[]) (by simp [results, Tryd.results32, go_sem]) rfl ⟨rfl, (by obtain ⟨ys, hys, ho⟩ := unhide HO; exact ⟨ys, by omega, ho⟩), unhide HF, unhide HB⟩
theorem spoilInts_any (B E : Nat) (v : Value) (xs : List Int) (w : World) (h : OwnL w B E v (xs.map (Value.int .i64))) (hn : xs.length ≤ maxLen) :
    Calls Tryd.prog 32 #[v] w fun e w' => e = .returned (.tuple #[]) ∧ (∃ ys : List Int, ys.length = xs.length ∧ OwnL w' B E v (ys.map (Value.int .i64))) ∧ (∀ k, v.ownBlock ≠ some k → k < w.heap.size → w'.heap[k]? = w.heap[k]?) ∧ Below B w w' := by
  rcases h.2 with ⟨rfl, h0⟩ | ⟨g, cap, cur, rfl, hb, _⟩
  · refine (spoilInts_none none 0 w).mono ?_
    rintro e w' ⟨rfl, rfl⟩
    exact ⟨rfl, ⟨xs, rfl, h⟩, fun _ _ _ => rfl, Below.refl _ _⟩
  · simp only [List.length_map] at h ⊢
    refine (spoilInts_own B E g _ cap xs w h hn hb).mono ?_
    rintro e w' ⟨rfl, h1, h2, h3⟩
    exact ⟨rfl, h1, fun k hk hs => h2 k (fun e => hk (by rw [e]; rfl)) hs, h3⟩
/-- the rows are of the call's own, whatever they hold -/
def SpoilR (w : World) (B : Nat) (T E : TypeId) (u : Value) (us : List Value) (ns : List Nat) : Prop := ∃ M : List (List Int), M.map List.length = ns ∧ RowsO w B T E u us M
theorem set_same {l : List Nat} {k x : Nat} (h : l.getD k 0 = x) : l.set k x = l := by
  apply List.ext_getElem?
  intro i
  rw [List.getElem?_set]
  by_cases hk : k = i
  · subst hk
    by_cases hl : k < l.length
    · simp [hl, List.getD] at h ⊢; exact h.symm
    · simp [hl]
  · simp [hk]
theorem RowsO.setRow {w w' : World} {B : Nat} {T E : TypeId} {u v : Value} {us : List Value} {M : List (List Int)} {k : Nat} {ys : List Int} (h : RowsO w B T E u us M) (hne : T ≠ E) (hv : us[k]? = some v) (hy : OwnL w' B E v (ys.map (Value.int .i64)))
    (hf : ∀ k, v.ownBlock ≠ some k → k < w.heap.size → w'.heap[k]? = w.heap[k]?) : RowsO w' B T E u us (M.set k ys) := by
  have hrow := h.row k v hv
  refine ⟨by simp [h.len], h.outer.keep (fun g hg => hf g (fun e => apt_types hrow h.outer (Ne.symm hne) g e hg) (h.outer.lt hg).2), fun j x hx => ?_, h.apart⟩
  by_cases hjk : j = k
  · subst hjk
    rw [hv] at hx
    cases hx
    have hlt : j < M.length := by rw [← h.len]; exact (List.getElem?_eq_some_iff.1 hv).1
    have e : (M.set j ys).getD j [] = ys := by simp [List.getD, hlt]
    rw [e]; exact hy
  · have e : (M.set k ys).getD j [] = M.getD j [] := by simp [List.getD, List.getElem?_set, Ne.symm hjk]
    rw [e]
    exact (h.row j x hx).keep (fun g hg => hf g (fun e => h.apart k j v x hv hx (Ne.symm hjk) g e hg) ((h.row j x hx).lt hg).2)
theorem getD_len (M : List (List Int)) (k : Nat) : (M.map List.length).getD k 0 = (M.getD k []).length := by
  simp [List.getD]
  cases M[k]? <;> rfl
set_option maxRecDepth 100000 in
set_option maxHeartbeats 1000000 in
theorem spoilMatrix_none (a : Option Addr) (cap : Nat) (w : World) : Calls Tryd.prog 15 #[.agg #[.slice a 0 cap]] w fun e w' => e = .returned (.tuple #[]) ∧ Below w.heap.size w w' := by
  go_enter Tryd.func15, Tryd.ntmps15
  go_wp2
  go_rounds 1
  exact bodyPost_end (v := .tuple #[]) (by simp [results, Tryd.results15, go_sem]) rfl ⟨rfl, by go_grown⟩
set_option maxRecDepth 100000 in
set_option maxHeartbeats 1000000 in
theorem spoilMatrix_some (B H gu n cu : Nat) (us : List Value) (M : List (List Int)) (w : World) (h : RowsO w B 38 3 (.slice (some ⟨gu, 0, none⟩) n cu) us M) (hn : n ≤ maxLen) (hr : ∀ i, (M.getD i []).length ≤ maxLen) (hB : B ≤ w.heap.size)
    (hH : ∀ (j : Nat) v g, us[j]? = some v → v.ownBlock = some g → g < H) :
    Calls Tryd.prog 15 #[.agg #[.slice (some ⟨gu, 0, none⟩) n cu]] w fun e w' => e = .returned (.tuple #[]) ∧ (∀ k, H ≤ k → k < w.heap.size → w'.heap[k]? = w.heap[k]?) ∧ Below B w w' := by
  have HH := hide h
  have HL : Hid (us.length = n) := hide (by have := own_len h.outer; exact this)
  have HML : Hid (M.length = n) := hide (by rw [← h.len]; exact unhide HL)
  have HR := hide hr
  have Hh := hide hH
  unfold maxLen at hn
  clear h hr hH
  go_enter Tryd.func15, Tryd.ntmps15
  go_wp2
  go_loopw [2] (fun iv wr => ∃ k : Nat, k ≤ n ∧ iv = .int .i64 k ∧ wr.heap[w.heap.size]? = some (.cells #[.slice (some ⟨gu, 0, none⟩) n cu] 26 (0, 0)) ∧ Hid (SpoilR wr B 38 3 (.slice (some ⟨gu, 0, none⟩) n cu) us (M.map List.length)) ∧ Hid (∀ k, H ≤ k → k < w.heap.size → wr.heap[k]? = w.heap[k]?) ∧ Hid (Below B w wr)) (fun iv _ => n - (intOf iv).toNat)
  case atStart => exact ⟨0, by omega, rfl, heap_alloc_new _ _, hide ⟨M, rfl, (unhide HH).below (below_alloc _ _)⟩, hide (fun k _ hk => (heap_alloc_old _ _ hk)), hide ((Below.refl _ _).alloc hB _)⟩
  case round =>
    obtain ⟨k, hk, rfl, hbx, HO, HF, HB⟩ := hrel
    have cx := cell_of_one hbx
    by_cases hlt : k < n
    · have hlt' : (k : Int) < n := by omega
      obtain ⟨N, hN, hR⟩ := unhide HO
      have hNl : N.length = M.length := by have := congrArg List.length hN; simpa using this
      have hNk : (N.getD k []).length ≤ maxLen := by
        have e1 : (N.getD k []).length = (M.getD k []).length := by
          have := congrArg (fun l => l.getD k 0) hN
          rwa [getD_len, getD_len] at this
        rw [e1]; exact unhide HR k
      obtain ⟨v, hv⟩ : ∃ v, us[k]? = some v := ⟨us[k]'(by rw [unhide HL]; exact hlt), by simp⟩
      obtain ⟨gu', cu', eu, _, hcell⟩ := hR.form (by rw [hNl, unhide HML]; omega)
      simp only [Value.slice.injEq, Option.some.injEq, Addr.mk.injEq, and_true, true_and] at eu
      obtain ⟨rfl, hnn, rfl⟩ := eu
      clear hnn
      have c1 := hcell k v hv
      have hsp := spoilInts_any B 3 v (N.getD k []) wr (hR.row k v hv) hNk
      have HSP := hide hsp
      have HV := hide hv
      have HRR := hide hR
      have HNN := hide hN
      have HNL := hide hNl
      clear hsp hR hcell hN hNl hNk hv
      go_wp2_with fail
      refine (unhide HSP).mono ?_
      rintro e w1 ⟨rfl, hys, hfr, hb⟩
      have HYS := hide hys
      have HFR := hide hfr
      have HB1 := hide hb
      clear hys hfr hb
      go_wp2
      go_roundw
      case rel =>
        have hvg : ∀ g, v.ownBlock = some g → g < w.heap.size := fun g hg => (((unhide HH).row k v (unhide HV)).lt hg).2
        obtain ⟨ys, hyl, hyo⟩ := unhide HYS
        refine ⟨k + 1, by omega, by go_num, ?_, hide ⟨N.set k ys, ?_, (unhide HRR).setRow (by decide) (unhide HV) hyo (unhide HFR)⟩, hide (fun j hj hjs => ?_), hide ((unhide HB).trans (unhide HB1))⟩
        · exact (unhide HFR _ (fun e => by have := hvg _ e; omega) (lt_of_block hbx)).trans hbx
        · rw [← unhide HNN, List.map_set]
          refine set_same ?_
          rw [getD_len, hyl]
        · refine (unhide HFR j (fun e => by have := unhide Hh k v j (unhide HV) e; omega) (Nat.lt_of_lt_of_le hjs (unhide HB).size)).trans (unhide HF j hj hjs)
      case measure => simp [intOf]; omega
    · have hlt' : ¬ (k : Int) < n := by omega
      obtain rfl : k = n := by omega
      go_wp2
      exact bodyPost_end (v := .tuple #[]) (by simp [results, Tryd.results15, go_sem]) rfl ⟨rfl, unhide HF, unhide HB⟩
theorem spoilMatrix_any (B H : Nat) (u : Value) (M : List (List Int)) (w0 w : World) (h0 : OwnM w0 B 38 3 u M) (hw0 : w0.heap.size ≤ H) (hk : ∀ k, B ≤ k → k < w0.heap.size → w.heap[k]? = w0.heap[k]?) (hn : M.length ≤ maxLen) (hr : ∀ i, (M.getD i []).length ≤ maxLen) (hB : B ≤ w.heap.size) :
    Calls Tryd.prog 15 #[.agg #[u]] w fun e w' => e = .returned (.tuple #[]) ∧ (∀ k, H ≤ k → k < w.heap.size → w'.heap[k]? = w.heap[k]?) ∧ Below B w w' := by
  obtain ⟨us, hR0⟩ := h0
  have hR := hR0.keep hk
  rcases hR.outer.2 with ⟨rfl, _⟩ | ⟨g, cap, cur, rfl, _⟩
  · refine (spoilMatrix_none none 0 w).mono ?_
    rintro e w' ⟨rfl, hb⟩
    exact ⟨rfl, fun k _ hk => hb.block k hk, hb.mono hB⟩
  · rw [hR.len] at hR ⊢
    exact spoilMatrix_some B H g _ cap us M w hR hn hr hB (fun j v g hv hg => Nat.lt_of_lt_of_le ((hR0.row j v hv).lt hg).2 hw0)
end Go.Proofs.YtfeepmjkamdldaaDoor
