/- The document's own steps of Gauss and Jordan (ossuaryref1: times, less, swap), on rows of the call's own. -/
import Derived.Test.YtfeepmjkamdldaaDoorMatFun
import Derived.Test.YtfeepmjkamdldaaDoorInvMath
import Derived.Test.YtfeepmjkamdldaaDoorRefGfWalks
namespace Go.Proofs.YtfeepmjkamdldaaDoor
open Go.RowKit
set_option linter.unusedVariables false
set_option linter.unusedSimpArgs false
attribute [local go_sem ↓] Go.wp_at_zero Go.wp_at_succ
/-- a row by its numbers -/
def rowF (k : Nat) (g : Nat → Nat) : List Int := (List.range k).map fun c => ((g c : Nat) : Int)
theorem rowF_len (k : Nat) (g : Nat → Nat) : (rowF k g).length = k := by simp [rowF]
theorem rowF_at {k : Nat} {g : Nat → Nat} {c : Nat} (h : c < k) : (rowF k g).getD c 0 = ((g c : Nat) : Int) := by simp [rowF, List.getD, h]
theorem rowF_congr {k : Nat} {g g' : Nat → Nat} (h : ∀ c, c < k → g c = g' c) : rowF k g = rowF k g' := by
  unfold rowF
  exact List.map_congr_left (fun c hc => by rw [h c (by simpa using hc)])
theorem rowF_set {k : Nat} {g : Nat → Nat} {i x : Nat} (hi : i < k) : (rowF k g).set i (x : Int) = rowF k (fun c => if c = i then x else g c) := by
  apply List.ext_getElem
  · simp [rowF]
  · intro c h1 h2
    simp [rowF] at h1 h2 ⊢
    rw [List.getElem_set]
    by_cases h : i = c
    · subst h; simp
    · simp [h, Ne.symm h]
theorem matF_rowF (k : Nat) (f : Nat → Nat → Nat) (r : Nat) (h : r < k) : (matF k k f).getD r [] = rowF k (f r) := matF_row k k f r h
theorem refmul_any' (a b : Nat) (w : World) (h : a < 256) : Calls Tryd.prog 49 #[.int .i64 a, .int .i64 b] w fun e w' => e = .returned (.int .i64 (Gf.mul a b : Nat)) ∧ w' = w := refmul_any a b w h
set_option maxRecDepth 100000 in
set_option maxHeartbeats 1000000 in
theorem times_own (B E g k cap x : Nat) (f : Nat → Nat) (w : World) (h : OwnL w B E (.slice (some ⟨g, 0, none⟩) k cap) ((rowF k f).map (Value.int .i64))) (hk : k ≤ 12) (hg : B ≤ g) (hf : ∀ c, c < k → f c < 256) :
    Calls Tryd.prog 54 #[.slice (some ⟨g, 0, none⟩) k cap, .int .i64 x] w fun e w' => e = .returned (.tuple #[]) ∧ OwnL w' B E (.slice (some ⟨g, 0, none⟩) k cap) ((rowF k (fun c => Gf.mul (f c) x)).map (Value.int .i64)) ∧ (∀ j, j ≠ g → j < w.heap.size → w'.heap[j]? = w.heap[j]?) ∧ Below B w w' := by
  have HH := hide h
  have HF := hide hf
  clear h hf
  go_enter Tryd.func54, Tryd.ntmps54
  go_wp2
  go_loopw [4] (fun iv wr => ∃ i : Nat, i ≤ k ∧ iv = .int .i64 i ∧ Hid (OwnL wr B E (.slice (some ⟨g, 0, none⟩) k cap) ((rowF k (fun c => if c < i then Gf.mul (f c) x else f c)).map (Value.int .i64))) ∧ Hid (∀ j, j ≠ g → j < w.heap.size → wr.heap[j]? = w.heap[j]?) ∧ Hid (Below B w wr)) (fun iv _ => k - (intOf iv).toNat)
  case atStart => exact ⟨0, by omega, rfl, hide (by simpa using unhide HH), hide (fun _ _ _ => rfl), hide (Below.refl _ _)⟩
  case round =>
    obtain ⟨i, hi, rfl, HO, HFR, HB⟩ := hrel
    by_cases hlt : i < k
    · have hlt' : (i : Int) < k := by omega
      have c1 := own_cell (unhide HO) i (by rw [rowF_len]; exact hlt)
      rw [rowF_at hlt, if_neg (Nat.lt_irrefl _)] at c1
      have f1 := own_free (unhide HO) i
      have hy := unhide HF i hlt
      obtain ⟨y, ey⟩ : ∃ y, y = f i := ⟨_, rfl⟩
      rw [← ey] at c1 hy
      have EY := hide ey
      clear ey
      go_wp2_with (go_at_call 49; refine (refmul_any y x _ hy).mono ?_; rintro e w' ⟨rfl, rfl⟩)
      go_roundw
      case rel =>
        have hst := own_put (unhide HO) i (.int .i64 ((Gf.mul y x : Nat) : Int))
        rw [← List.map_set, rowF_set hlt] at hst
        refine ⟨i + 1, by omega, by go_num, hide ?_, hide (fun j hj hjs => (Below.heap_setCell _ ⟨g, i, none⟩ _ j hj).trans (unhide HFR j hj hjs)), hide ((unhide HB).setCell hg _)⟩
        rw [rowF_congr (g' := fun c => if c < i + 1 then Gf.mul (f c) x else f c) (fun c hc => ?_)] at hst
        · exact hst
        · by_cases h1 : c = i
          · subst h1; simp [← unhide EY]
          · by_cases h2 : c < i
            · simp [h1, h2, show c < i + 1 by omega]
            · simp [h1, h2, show ¬ c < i + 1 by omega]
      case measure => simp [intOf]; omega
    · have hlt' : ¬ (i : Int) < k := by omega
      obtain rfl : i = k := by omega
      go_wp2
      refine bodyPost_end (v := .tuple #[]) (by simp [results, Tryd.results54, go_sem]) rfl ⟨rfl, ?_, unhide HFR, unhide HB⟩
      rw [rowF_congr (g' := fun c => if c < i then Gf.mul (f c) x else f c) (fun c hc => by simp [hc])]
      exact unhide HO
set_option maxRecDepth 100000 in
set_option maxHeartbeats 1000000 in
theorem less_own (B E g k cap gs cs x : Nat) (f f' : Nat → Nat) (w : World) (h : OwnL w B E (.slice (some ⟨g, 0, none⟩) k cap) ((rowF k f).map (Value.int .i64))) (h' : OwnL w B E (.slice (some ⟨gs, 0, none⟩) k cs) ((rowF k f').map (Value.int .i64))) (hne : gs ≠ g) (hk : k ≤ 12) (hg : B ≤ g) (hf : ∀ c, c < k → f c < 256) (hf' : ∀ c, c < k → f' c < 256) :
    Calls Tryd.prog 55 #[.slice (some ⟨g, 0, none⟩) k cap, .slice (some ⟨gs, 0, none⟩) k cs, .int .i64 x] w fun e w' => e = .returned (.tuple #[]) ∧ OwnL w' B E (.slice (some ⟨g, 0, none⟩) k cap) ((rowF k (fun c => f c ^^^ Gf.mul (f' c) x)).map (Value.int .i64)) ∧ (∀ j, j ≠ g → j < w.heap.size → w'.heap[j]? = w.heap[j]?) ∧ Below B w w' := by
  have HH := hide h
  have HH' := hide h'
  have HF := hide hf
  have HF' := hide hf'
  clear h h' hf hf'
  go_enter Tryd.func55, Tryd.ntmps55
  go_wp2
  go_loopw [6] (fun iv wr => ∃ i : Nat, i ≤ k ∧ iv = .int .i64 i ∧ Hid (OwnL wr B E (.slice (some ⟨g, 0, none⟩) k cap) ((rowF k (fun c => if c < i then f c ^^^ Gf.mul (f' c) x else f c)).map (Value.int .i64))) ∧ Hid (∀ j, j ≠ g → j < w.heap.size → wr.heap[j]? = w.heap[j]?) ∧ Hid (Below B w wr)) (fun iv _ => k - (intOf iv).toNat)
  case atStart => exact ⟨0, by omega, rfl, hide (by simpa using unhide HH), hide (fun _ _ _ => rfl), hide (Below.refl _ _)⟩
  case round =>
    obtain ⟨i, hi, rfl, HO, HFR, HB⟩ := hrel
    by_cases hlt : i < k
    · have hlt' : (i : Int) < k := by omega
      have c1 := own_cell (unhide HO) i (by rw [rowF_len]; exact hlt)
      rw [rowF_at hlt, if_neg (Nat.lt_irrefl _)] at c1
      have f1 := own_free (unhide HO) i
      have hs := (unhide HH').keep (w' := wr) (fun q hq => by
        simp [Value.ownBlock] at hq
        subst hq
        exact unhide HFR _ hne (((unhide HH').lt rfl).2))
      have c2 := own_cell hs i (by rw [rowF_len]; exact hlt)
      rw [rowF_at hlt] at c2
      clear hs
      have hy := unhide HF i hlt
      have hz := unhide HF' i hlt
      obtain ⟨y, ey⟩ : ∃ y, y = f i := ⟨_, rfl⟩
      obtain ⟨z, ez⟩ : ∃ z, z = f' i := ⟨_, rfl⟩
      rw [← ey] at c1 hy
      rw [← ez] at c2 hz
      have EY := hide ey
      have EZ := hide ez
      clear ey ez
      have hx1 := xor_small y (Gf.mul z x) hy (Gf.mul_lt _ _)
      go_wp2
      refine wp_region_quiet_then (List.cons_ne_nil _ _) ?_ ?_ ?_ ?_
      · kernel_rfl
      · kernel_rfl
      · kernel_rfl
      simp only [List.dropLast_cons_cons, List.dropLast_singleton, List.getLast_cons_cons, List.getLast_singleton]
      repeat (first | go_big_quiet_step ((go_at_call 49; exact Calls.quiet_of_same (refmul_any z x _ hz))) | quiet_step ((go_at_call 49; exact Calls.quiet_of_same (refmul_any z x _ hz))))
      refine wpQuiet_nil ?_
      intro _ hw'
      obtain ⟨nq, hw''⟩ := hw'
      subst hw''
      simp only [List.cons_append, List.nil_append]
      go_wp2
      go_roundw
      case rel =>
        have hst := own_put ((unhide HO).below (below_drewN wr wr.heap.size nq)) i (.int .i64 ((y ^^^ Gf.mul z x : Nat) : Int))
        rw [← List.map_set, rowF_set hlt] at hst
        refine ⟨i + 1, by omega, by go_num, hide ?_, hide (fun j hj hjs => (Below.heap_setCell _ ⟨g, i, none⟩ _ j hj).trans (unhide HFR j hj hjs)), hide (((unhide HB).trans (below_drewN _ _ nq)).setCell hg _)⟩
        rw [rowF_congr (g' := fun c => if c < i + 1 then f c ^^^ Gf.mul (f' c) x else f c) (fun c hc => ?_)] at hst
        · exact hst
        · by_cases h1 : c = i
          · subst h1; simp [← unhide EY, ← unhide EZ]
          · by_cases h2 : c < i
            · simp [h1, h2, show c < i + 1 by omega]
            · simp [h1, h2, show ¬ c < i + 1 by omega]
      case measure => simp [intOf]; omega
    · have hlt' : ¬ (i : Int) < k := by omega
      obtain rfl : i = k := by omega
      go_wp2
      refine bodyPost_end (v := .tuple #[]) (by simp [results, Tryd.results55, go_sem]) rfl ⟨rfl, ?_, unhide HFR, unhide HB⟩
      rw [rowF_congr (g' := fun c => if c < i then f c ^^^ Gf.mul (f' c) x else f c) (fun c hc => by simp [hc])]
      exact unhide HO
/-- two rows have changed places -/
def swapL {α : Type} (l : List α) (i j : Nat) (d : α) : List α := (l.set i (l.getD j d)).set j (l.getD i d)
theorem swapL_len {α : Type} (l : List α) (i j : Nat) (d : α) : (swapL l i j d).length = l.length := by simp [swapL]
theorem swapL_at {α : Type} (l : List α) (i j : Nat) (d : α) (hi : i < l.length) (hj : j < l.length) (r : Nat) : (swapL l i j d)[r]? = l[sw i j r]? := by
  unfold swapL sw
  rw [List.getElem?_set, List.getElem?_set]
  by_cases h1 : j = r
  · subst h1
    by_cases h2 : j = i
    · subst h2
      simp [hi, List.getD, List.getElem?_eq_getElem hi]
    · simp [h2, hj, List.getD, List.getElem?_eq_getElem hi]
  · by_cases h2 : i = r
    · subst h2
      simp [h1, hi, List.getD, List.getElem?_eq_getElem hj]
    · simp [h1, h2, Ne.symm h1, Ne.symm h2]
theorem RowsO.swapped {w w' : World} {B : Nat} {T E : TypeId} {u : Value} {us : List Value} {M : List (List Int)} {i j : Nat} (h : RowsO w B T E u us M) (hne : T ≠ E) (hi : i < M.length) (hj : j < M.length) (ho : OwnL w' B T u (swapL us i j undef)) (hf : ∀ k, u.ownBlock ≠ some k → k < w.heap.size → w'.heap[k]? = w.heap[k]?) :
    RowsO w' B T E u (swapL us i j undef) (swapL M i j []) := by
  have hiu : i < us.length := by rw [h.len]; exact hi
  have hju : j < us.length := by rw [h.len]; exact hj
  have hM : ∀ r, (swapL M i j []).getD r [] = M.getD (sw i j r) [] := fun r => by simp only [List.getD]; rw [swapL_at M i j [] hi hj]
  refine ⟨by rw [swapL_len, swapL_len]; exact h.len, ho, fun r v hv => ?_, fun r s x y hx hy hrs => ?_⟩
  · rw [swapL_at us i j undef hiu hju] at hv
    rw [hM]
    refine (h.row _ v hv).keep (fun g hg => hf g (fun e => ?_) ((h.row _ v hv).lt hg).2)
    exact apt_types h.outer (h.row _ v hv) hne g e hg
  · rw [swapL_at us i j undef hiu hju] at hx hy
    exact h.apart _ _ x y hx hy (fun e => hrs (by have := congrArg (sw i j) e; rwa [sw_sw, sw_sw] at this))
theorem matF_swap {k : Nat} {f : Nat → Nat → Nat} {i j : Nat} (hi : i < k) (hj : j < k) : swapL (matF k k f) i j [] = matF k k (fun r c => f (sw i j r) c) := by
  apply List.ext_getElem?
  intro r
  rw [swapL_at _ i j [] (by rw [matF_len]; exact hi) (by rw [matF_len]; exact hj)]
  by_cases hr : r < k
  · have hs := sw_lt hi hj hr
    simp [matF, hr, hs]
  · have hs : ¬ sw i j r < k := by unfold sw; simp [show r ≠ i by omega, show r ≠ j by omega]; omega
    simp [matF, hr, hs]
set_option maxRecDepth 100000 in
set_option maxHeartbeats 1000000 in
theorem swap_own (B gu n cu i j : Nat) (us : List Value) (M : List (List Int)) (w : World) (h : RowsO w B 38 3 (.slice (some ⟨gu, 0, none⟩) n cu) us M) (hM : M.length = n) (hi : i < n) (hj : j < n) (hn : n ≤ 12) (hB : B ≤ gu) (hsB : B ≤ w.heap.size) :
    Calls Tryd.prog 52 #[.agg #[.slice (some ⟨gu, 0, none⟩) n cu], .int .i64 i, .int .i64 j] w fun e w' => e = .returned (.tuple #[]) ∧ RowsO w' B 38 3 (.slice (some ⟨gu, 0, none⟩) n cu) (swapL us i j undef) (swapL M i j []) ∧ (∀ k, k ≠ gu → k < w.heap.size → w'.heap[k]? = w.heap[k]?) ∧ Below B w w' := by
  have hil : i < us.length := by rw [h.len, hM]; exact hi
  have hjl : j < us.length := by rw [h.len, hM]; exact hj
  obtain ⟨vi, hvi⟩ : ∃ v, us[i]? = some v := ⟨us[i], by simp [hil]⟩
  obtain ⟨vj, hvj⟩ : ∃ v, us[j]? = some v := ⟨us[j], by simp [hjl]⟩
  obtain ⟨ai, ci, ei⟩ := (h.row i vi hvi).form
  obtain ⟨aj, cj, ej⟩ := (h.row j vj hvj).form
  have hb := below_alloc w (.cells #[.slice (some ⟨gu, 0, none⟩) n cu] 26)
  have ho1 := h.outer.below hb
  have hgi := own_row' ho1
  have ci1 : (w.alloc (.cells #[.slice (some ⟨gu, 0, none⟩) n cu] 26)).cell? ⟨gu, i, none⟩ = some vi := by
    obtain ⟨g', c', e', _, hc⟩ := h.form (by omega)
    simp only [Value.slice.injEq, Option.some.injEq, Addr.mk.injEq, and_true, true_and] at e'
    obtain ⟨rfl, _, _⟩ := e'
    exact (hb.cell (cell_lt (hc i vi hvi))).trans (hc i vi hvi)
  have cj1 : (w.alloc (.cells #[.slice (some ⟨gu, 0, none⟩) n cu] 26)).cell? ⟨gu, j, none⟩ = some vj := by
    obtain ⟨g', c', e', _, hc⟩ := h.form (by omega)
    simp only [Value.slice.injEq, Option.some.injEq, Addr.mk.injEq, and_true, true_and] at e'
    obtain ⟨rfl, _, _⟩ := e'
    exact (hb.cell (cell_lt (hc j vj hvj))).trans (hc j vj hvj)
  have fi := own_free ho1 i
  have BX := heap_alloc_new w (.cells #[.slice (some ⟨gu, 0, none⟩) n cu] 26)
  have hgw : gu < w.heap.size := (h.outer.lt rfl).2
  have HH := hide h
  have HO1 := hide ho1
  generalize ((M.getD j []).map (Value.int .i64)).length = lj at ej
  generalize ((M.getD i []).map (Value.int .i64)).length = li at ei
  subst ei ej
  have hi' : (i : Int) < n := by omega
  have hj' : (j : Int) < n := by omega
  clear h ho1 hgi
  go_enter Tryd.func52, Tryd.ntmps52
  go_wp2
  generalize w.alloc (.cells #[.slice (some ⟨gu, 0, none⟩) n cu] 26) = W at *
  have cbx := cell_of_one BX
  refine wp_region_quiet_then (List.cons_ne_nil _ _) ?_ ?_ ?_ ?_
  · kernel_rfl
  · kernel_rfl
  · kernel_rfl
  simp only [List.dropLast_cons_cons, List.dropLast_singleton, List.getLast_cons_cons, List.getLast_singleton]
  repeat (first | go_big_quiet_step (fail) | quiet_step (fail))
  refine wpQuiet_nil ?_
  intro _ hw'
  obtain ⟨nq, hw''⟩ := hw'
  subst hw''
  have hO2 := own_put ((unhide HO1).below (below_drewN W W.heap.size nq)) i (.slice aj lj cj)
  have hbx2 : ((W.drewN nq).setCell ⟨gu, i, none⟩ (.slice aj lj cj)).heap[w.heap.size]? = some (.cells #[.slice (some ⟨gu, 0, none⟩) n cu] 26 (0, 0)) := (Below.heap_setCell (W.drewN nq) ⟨gu, i, none⟩ _ w.heap.size (by show w.heap.size ≠ gu; omega)).trans BX
  have cb2 := cell_of_one hbx2
  have f2 := own_free hO2 j
  obtain ⟨q2, hq2⟩ : ∃ q, (us.set i (.slice aj lj cj))[j]? = some q := ⟨_, List.getElem?_eq_getElem (by simpa using hjl)⟩
  have c2 : ((W.drewN nq).setCell ⟨gu, i, none⟩ (.slice aj lj cj)).cell? ⟨gu, j, none⟩ = some q2 := by
    obtain ⟨g', c', e', _, _, _, hc⟩ := own_form (n := (us.set i (.slice aj lj cj)).length) hO2 (by simp; omega)
    simp only [Value.slice.injEq, Option.some.injEq, Addr.mk.injEq, and_true, true_and] at e'
    obtain ⟨rfl, _, _⟩ := e'
    exact hc j q2 hq2
  have HO2 := hide hO2
  have HV1 := hide hvi
  have HV2 := hide hvj
  clear hO2 hq2 hvi hvj
  simp only [List.cons_append, List.nil_append]
  go_wp2
  have hO3 := own_put (unhide HO2) j (.slice ai li ci)
  have e1 : us.getD i undef = .slice ai li ci := by simp [List.getD, unhide HV1]
  have e2 : us.getD j undef = .slice aj lj cj := by simp [List.getD, unhide HV2]
  have hfr : ∀ k, k ≠ gu → k < w.heap.size → (((W.drewN nq).setCell ⟨gu, i, none⟩ (.slice aj lj cj)).setCell ⟨gu, j, none⟩ (.slice ai li ci)).heap[k]? = w.heap[k]? := fun k hk hks =>
    ((Below.heap_setCell _ ⟨gu, j, none⟩ _ k hk).trans (Below.heap_setCell (W.drewN nq) ⟨gu, i, none⟩ _ k hk)).trans (hb.block k hks)
  refine bodyPost_end (v := .tuple #[]) (by simp [results, Tryd.results52, go_sem]) rfl ⟨rfl, ?_, hfr, ?_⟩
  · refine (unhide HH).swapped (by decide) (by rw [hM]; exact hi) (by rw [hM]; exact hj) ?_ (fun k hk hks => hfr k (fun e => hk (by rw [e]; rfl)) hks)
    unfold swapL
    rw [e1, e2]
    exact hO3
  · exact ((((hb.mono hsB).trans (below_drewN _ _ nq)).setCell hB _).setCell hB _)
end Go.Proofs.YtfeepmjkamdldaaDoor
