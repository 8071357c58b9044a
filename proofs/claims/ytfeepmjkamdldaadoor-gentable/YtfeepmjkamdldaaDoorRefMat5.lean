/- The document's own product of matrices (ossuaryref1.MulMatrix), where there is one. -/
import Derived.Test.YtfeepmjkamdldaaDoorRefMat4
import Derived.Deep.RegionHeld
namespace Go.Proofs.YtfeepmjkamdldaaDoor
open Go.RowKit
set_option linter.unusedVariables false
set_option linter.unusedSimpArgs false
/-- a matrix that may be one, in memory: its cells -/
theorem mat_at {p : Option Addr} {n c : Nat} {M : List (List Int)} {w : World} (h : MatV w (.agg #[.slice p n c]) M) (hm : MMay M) :
    M.length = n ∧ 1 ≤ n ∧ n ≤ 12 ∧ ∃ k b o, (M.getD 0 []).length = k ∧ 1 ≤ k ∧ k ≤ 12 ∧ p = some ⟨b, o, none⟩ ∧ ∀ i, i < n → ∃ g og cap, w.cell? ⟨b, o + i, none⟩ = some (.slice (some ⟨g, og, none⟩) k cap) ∧ ∀ j, j < k → w.cell? ⟨g, og + j, none⟩ = some (.int .i64 ((entry M i j : Nat) : Int)) ∧ entry M i j < 256 := by
  obtain ⟨a, n', c', e, R⟩ := h
  simp only [Value.agg.injEq, Array.mk.injEq, List.cons.injEq, Value.slice.injEq, and_true] at e
  obtain ⟨rfl, rfl, rfl⟩ := e
  have hl : M.length = n := by obtain ⟨_, h, _⟩ := R; exact h
  have h1 := hm.1
  have h2 := hm.2.1
  refine ⟨hl, by omega, by omega, ?_⟩
  rcases R.two with h0 | ⟨b, off, rfl, hc⟩
  · omega
  · refine ⟨(M.getD 0 []).length, b, off, rfl, hm.2.2.1, hm.2.2.2.1, rfl, fun i hi => ?_⟩
    obtain ⟨u, hu, x, m, q, rfl, hn, hx⟩ := hc i hi
    have hk : (M.getD i []).length = (M.getD 0 []).length := (hm.2.2.2.2 i (by omega)).1
    have hxl := hx.1
    rcases hx.2.two with h0 | ⟨g, og, rfl, hcell⟩
    · have := hm.2.2.1; omega
    · refine ⟨g, og, q, by rw [hu, ← hxl, hk], fun j hj => ?_⟩
      obtain ⟨e1, e2⟩ := mmay_at hm (r := i) (c := j) (by omega) hj
      exact ⟨by rw [hcell j (by omega), e1], e2⟩
theorem part_start (A B : List (List Int)) (R C K : Nat) : matF R C (part A B K 0 0 0) = zeroM R C := by
  rw [← matF_zero]
  apply matF_congr
  intro r c hr hc
  unfold part
  by_cases h : r = 0
  · subst h
    by_cases h2 : c = 0
    · subst h2; simp [dot]
    · simp [h2]
  · simp [h]
theorem part_col (A B : List (List Int)) (R C K i j : Nat) : matF R C (part A B K i j K) = matF R C (part A B K i (j + 1) 0) := by
  apply matF_congr
  intro r c hr hc
  unfold part
  by_cases h : r < i
  · simp [h]
  · by_cases h2 : r = i
    · subst h2
      by_cases h3 : c < j
      · simp [h3, show c < j + 1 by omega]
      · by_cases h4 : c = j
        · subst h4; simp
        · by_cases h5 : c = j + 1
          · subst h5; simp [dot, h3, h4]
          · simp [h3, h4, h5, show ¬ c < j + 1 by omega]
    · simp [h, h2]
theorem part_row (A B : List (List Int)) (R C K i : Nat) : matF R C (part A B K i C 0) = matF R C (part A B K (i + 1) 0 0) := by
  apply matF_congr
  intro r c hr hc
  unfold part
  by_cases h : r < i
  · simp [h, show r < i + 1 by omega]
  · by_cases h2 : r = i
    · subst h2; simp [hc]
    · by_cases h3 : r = i + 1
      · subst h3
        by_cases h4 : c = 0
        · subst h4; simp [dot, h]
        · simp [h4, h]
      · simp [h, h2, h3, show ¬ r < i + 1 by omega]
theorem part_end (A B : List (List Int)) (R C K : Nat) : matF R C (part A B K R 0 0) = matF R C (fun r c => dot A B r c K) := by
  apply matF_congr
  intro r c hr hc
  simp [part, hr]
theorem part_step (A B : List (List Int)) (R C K i j k : Nat) (hi : i < R) (hj : j < C) :
    (matF R C (part A B K i j k)).set i (((matF R C (part A B K i j k)).getD i []).set j ((dot A B i j (k + 1) : Nat) : Int)) = matF R C (part A B K i j (k + 1)) := by
  rw [matF_set _ _ _ _ _ _ hi hj]
  apply matF_congr
  intro r c hr hc
  unfold part
  by_cases h : r = i ∧ c = j
  · obtain ⟨rfl, rfl⟩ := h; simp
  · rw [if_neg h]
    by_cases h1 : r < i
    · simp [h1]
    · by_cases h2 : r = i
      · subst h2
        have h3 : c ≠ j := fun e => h ⟨rfl, e⟩
        simp [h3]
      · simp [h1, h2]
theorem part_here (A B : List (List Int)) (K i j k : Nat) : part A B K i j k i j = dot A B i j k := by simp [part]
theorem own_row_at {w : World} {B : Nat} {T E : TypeId} {gu na cu kb : Nat} {us : List Value} {f : Nat → Nat → Nat} (h : RowsO w B T E (.slice (some ⟨gu, 0, none⟩) na cu) us (matF na kb f)) {i : Nat} (hi : i < na) (hk : 1 ≤ kb) :
    ∃ g cap, us[i]? = some (.slice (some ⟨g, 0, none⟩) kb cap) ∧ w.cell? ⟨gu, i, none⟩ = some (.slice (some ⟨g, 0, none⟩) kb cap) := by
  obtain ⟨g, cap, hg, _, _, _⟩ := h.at (i := i) (by rw [matF_len]; exact hi) (by rw [matF_rowlen _ _ _ _ hi]; omega)
  rw [matF_rowlen _ _ _ _ hi] at hg
  obtain ⟨gu', cu', eu, _, hcu⟩ := h.form (by rw [matF_len]; omega)
  simp only [Value.slice.injEq, Option.some.injEq, Addr.mk.injEq, and_true, true_and] at eu
  obtain ⟨rfl, _, rfl⟩ := eu
  exact ⟨g, cap, hg, hcu i _ hg⟩
theorem own_cell_at {w : World} {B : Nat} {T E : TypeId} {gu na cu kb : Nat} {us : List Value} {f : Nat → Nat → Nat} (h : RowsO w B T E (.slice (some ⟨gu, 0, none⟩) na cu) us (matF na kb f)) {i j g cap : Nat} (hi : i < na) (hj : j < kb) (hg : us[i]? = some (.slice (some ⟨g, 0, none⟩) kb cap)) :
    w.cell? ⟨gu, i, none⟩ = some (.slice (some ⟨g, 0, none⟩) kb cap) ∧ w.cell? ⟨g, j, none⟩ = some (.int .i64 ((f i j : Nat) : Int)) ∧ w.frozen? ⟨g, j, none⟩ = false ∧ B ≤ g := by
  obtain ⟨g', cap', hg', hB, hcell, hfr⟩ := h.at (i := i) (by rw [matF_len]; exact hi) (by rw [matF_rowlen _ _ _ _ hi]; omega)
  rw [matF_rowlen _ _ _ _ hi] at hg' hcell
  rw [hg] at hg'
  simp only [Option.some.injEq, Value.slice.injEq, Addr.mk.injEq, and_true, true_and] at hg'
  obtain ⟨rfl, rfl⟩ := hg'
  obtain ⟨gu', cu', eu, _, hcu⟩ := h.form (by rw [matF_len]; omega)
  simp only [Value.slice.injEq, Option.some.injEq, Addr.mk.injEq, and_true, true_and] at eu
  obtain ⟨rfl, _, rfl⟩ := eu
  exact ⟨hcu i _ hg, by rw [hcell j hj, matF_at _ _ _ _ _ hi hj], hfr j, hB⟩
attribute [local go_sem ↓] Go.wp_at_zero Go.wp_at_succ
set_option maxRecDepth 100000 in
set_option maxHeartbeats 4000000 in
theorem refMulMatrix_yes (pa pb : Option Addr) (na ca nb cb : Nat) (A B : List (List Int)) (w : World) (ha : MatV w (.agg #[.slice pa na ca]) A) (hb : MatV w (.agg #[.slice pb nb cb]) B) (hmA : MMay A) (hmB : MMay B) (heq : (A.getD 0 []).length = B.length) :
    Calls Tryd.prog 30 #[.agg #[.slice pa na ca], .agg #[.slice pb nb cb]] w fun e w' => (∃ u, e = .returned (.tuple #[.agg #[u], .int .i64 0]) ∧ OwnM w' w.heap.size 38 3 u (mulM A B)) ∧ Below w.heap.size w w' := by
  obtain ⟨hlA, na1, na2, ka, ba, oa, eka, ka1, ka2, rfl, hcA⟩ := mat_at ha hmA
  obtain ⟨hlB, nb1, nb2, kb, bb, ob, ekb, kb1, kb2, rfl, hcB⟩ := mat_at hb hmB
  obtain rfl : ka = nb := by omega
  have HA := hide ha
  have HB := hide hb
  have HCA := hide hcA
  have HCB := hide hcB
  obtain ⟨ga, oga, qa, hrowA, _⟩ := hcA 0 na1
  obtain ⟨gb0, ogb, qb, hrowB, _⟩ := hcB 0 nb1
  simp only [Nat.add_zero] at hrowA hrowB
  have EKB := hide ekb
  have ELA := hide hlA
  have ELB := hide hlB
  clear ha hb hcA hcB eka ekb hlA hlB heq
  go_enter Tryd.func30, Tryd.ntmps30
  go_wp2_with fail
  have k0 := hide (three_old w (.cells #[.slice (some ⟨ba, oa, none⟩) na ca] 26) (.cells #[.slice (some ⟨bb, ob, none⟩) ka cb] 26) (.cells #[.slice none 0 0] 26))
  have k1 := hide (three_mid w (.cells #[.slice (some ⟨ba, oa, none⟩) na ca] 26) (.cells #[.slice (some ⟨bb, ob, none⟩) ka cb] 26) (.cells #[.slice none 0 0] 26))
  have k2 := hide (three_new w (.cells #[.slice (some ⟨ba, oa, none⟩) na ca] 26) (.cells #[.slice (some ⟨bb, ob, none⟩) ka cb] 26) (.cells #[.slice none 0 0] 26))
  have k3 : Hid (Below w.heap.size w (((w.alloc (.cells #[.slice (some ⟨ba, oa, none⟩) na ca] 26)).alloc (.cells #[.slice (some ⟨bb, ob, none⟩) ka cb] 26)).alloc (.cells #[.slice none 0 0] 26))) := hide (by go_grown)
  have k4 : (((w.alloc (.cells #[.slice (some ⟨ba, oa, none⟩) na ca] 26)).alloc (.cells #[.slice (some ⟨bb, ob, none⟩) ka cb] 26)).alloc (.cells #[.slice none 0 0] 26)).heap.size = w.heap.size + 3 := by simp
  generalize (((w.alloc (.cells #[.slice (some ⟨ba, oa, none⟩) na ca] 26)).alloc (.cells #[.slice (some ⟨bb, ob, none⟩) ka cb] 26)).alloc (.cells #[.slice none 0 0] 26)) = W at k0 k1 k2 k3 k4 ⊢
  have c0 := cell_of_one (unhide k0)
  have c1 := cell_of_one (unhide k1)
  have c3 := ((unhide k3).cell (cell_lt hrowA)).trans hrowA
  have c4 := ((unhide k3).cell (cell_lt hrowB)).trans hrowB
  have p1 : (0 : Int) < na := by omega
  have p2 : (0 : Int) < ka := by omega
  have t1 : ((ka : Int) != (ka : Int)) = false := by simp
  have C0 := hide c0
  have C1 := hide c1
  have C3 := hide c3
  have C4 := hide c4
  have g3 := grown_cell c3
  have g0 := grown_cell c0
  have g1 := grown_cell c1
  clear hrowA hrowB
  refine wp_region_grows (by kernel_rfl) (by kernel_rfl) ?_
  repeat (first | go_big_quiet_step ((first
    | (go_at_call 50; exact Calls.grows (refMay_yes _ A _ (((unhide HA).below (unhide k3)).below (GrownW.prop _)) hmA))
    | (go_at_call 50; exact Calls.grows (refMay_yes _ B _ (((unhide HB).below (unhide k3)).below (GrownW.prop _)) hmB)))) | quiet_step ((first
    | (go_at_call 50; exact Calls.grows (refMay_yes _ A _ (((unhide HA).below (unhide k3)).below (GrownW.prop _)) hmA))
    | (go_at_call 50; exact Calls.grows (refMay_yes _ B _ (((unhide HB).below (unhide k3)).below (GrownW.prop _)) hmB)))))
  refine wpQuiet_nil ?_
  intro gw hw'
  have gb := grown_below hw'
  clear hw'
  clear g0 g1 g3 c0 c1 c3 c4
  have c0 := (gb.cell (cell_lt (unhide C0))).trans (unhide C0)
  have c1 := (gb.cell (cell_lt (unhide C1))).trans (unhide C1)
  have c4 := (gb.cell (cell_lt (unhide C4))).trans (unhide C4)
  have GB := hide gb
  clear gb
  have SK : Hid (∀ w', Below gw.heap.size gw w' → (Below gw.heap.size gw w' ∧ w'.cell? ⟨w.heap.size, 0, none⟩ = some (.slice (some ⟨ba, oa, none⟩) na ca) ∧ w'.cell? ⟨w.heap.size + 1, 0, none⟩ = some (.slice (some ⟨bb, ob, none⟩) ka cb) ∧ w'.cell? ⟨bb, ob, none⟩ = some (.slice (some ⟨gb0, ogb, none⟩) kb qb))) := hide (fun w' q => ⟨q, (q.cell (cell_lt c0)).trans c0, (q.cell (cell_lt c1)).trans c1, (q.cell (cell_lt c4)).trans c4⟩)
  have hz : (zeroM na kb).length = na := by simp [zeroM]
  have HZ := hide hz
  clear hz
  go_wp2
  refine' (fun (H : Later _) => ?main) (Later.mk ?prf)
  case main =>
    go_region_held (fun w' => Below gw.heap.size gw w' ∧ w'.cell? ⟨w.heap.size, 0, none⟩ = some (.slice (some ⟨ba, oa, none⟩) na ca) ∧ w'.cell? ⟨w.heap.size + 1, 0, none⟩ = some (.slice (some ⟨bb, ob, none⟩) ka cb) ∧ w'.cell? ⟨bb, ob, none⟩ = some (.slice (some ⟨gb0, ogb, none⟩) kb qb))
      ((refine unhide SK _ ?_; first
         | exact (Below.refl _ _).drew
         | exact And.left (by assumption : Below gw.heap.size gw _ ∧ _)
         | exact bt (And.left (by assumption : Below gw.heap.size gw _ ∧ _)) hbc
         | exact bt (And.left (by assumption : Below gw.heap.size gw _ ∧ _)) (below_alloc _ _)
         | exact bt (bt (Below.refl _ _).drew hbc) (below_alloc _ _)
         | exact (And.left (by assumption : Below gw.heap.size gw _ ∧ _)).setCell (by have := hbc.size; simp at this ⊢; try omega) _))
      ((go_at_call 27; refine (blank_any na kb _ na2 kb2).mono ?_; rintro e w2 ⟨u, rfl, ⟨us, hR⟩, hbc⟩; obtain ⟨gu, cu, eu, -, -⟩ := hR.form (by rw [unhide HZ]; omega); rw [unhide HZ] at eu; subst eu; have HR0 := hide hR; clear hR; try (have r9 : w2.heap[gw.heap.size]? = some (.cells #[.slice none 0 0] 26 (0, 0)) := (hbc.block gw.heap.size (by simp)).trans (heap_alloc_new gw _); have c9 := cell_of_one r9; have f9 := free_of_one r9; have R9 := hide r9; clear r9)))
    all_goals
      first
        | (have rx : (w2.alloc (.cells #[.slice (some ⟨gu, 0, none⟩) na cu] 26)).heap[w2.heap.size]? = some (.cells #[.slice (some ⟨gu, 0, none⟩) na cu] 26 (0, 0)) := heap_alloc_new _ _; have hR3 := ((unhide HR0).below (below_alloc _ (.cells #[.slice (some ⟨gu, 0, none⟩) na cu] 26))).mono (B' := W.heap.size) (by have := (unhide GB).size; simp; omega); have hB3 : Below W.heap.size W (w2.alloc (.cells #[.slice (some ⟨gu, 0, none⟩) na cu] 26)) := bt (unhide GB) (And.left (by assumption : Below gw.heap.size gw _ ∧ _)); generalize (w2.alloc (.cells #[.slice (some ⟨gu, 0, none⟩) na cu] 26)) = W3 at rx hR3 hB3 ⊢; generalize w2.heap.size = gm at rx ⊢; have RX := hide rx; have HR3 := hide hR3; have HB3 := hide hB3)
        | (have rx : (w2.setCell ⟨gw.heap.size, 0, none⟩ (.slice (some ⟨gu, 0, none⟩) na cu)).heap[gw.heap.size]? = some (.cells #[.slice (some ⟨gu, 0, none⟩) na cu] 26 (0, 0)) := one_setCell (unhide R9); have hR3 := ((unhide HR0).setBelow (a := ⟨gw.heap.size, 0, none⟩) (by simp; omega) (.slice (some ⟨gu, 0, none⟩) na cu)).mono (B' := W.heap.size) (by have := (unhide GB).size; simp; omega); have hB3 : Below W.heap.size W (w2.setCell ⟨gw.heap.size, 0, none⟩ (.slice (some ⟨gu, 0, none⟩) na cu)) := bt (unhide GB) (And.left (by assumption : Below gw.heap.size gw _ ∧ _)); generalize (w2.setCell ⟨gw.heap.size, 0, none⟩ (.slice (some ⟨gu, 0, none⟩) na cu)) = W3 at rx hR3 hB3 ⊢; generalize gw.heap.size = gm at rx ⊢; have RX := hide rx; have HR3 := hide hR3; have HB3 := hide hB3)
      clear rx hR3 hB3 hbc HR0
      try clear R9 c9 f9
      rename (Below gw.heap.size gw _ ∧ _) => hh
      clear hh w2
      revert RX HR3 HB3
      revert W3
      revert gm
      revert us cu
      revert gu
      exact H.get
  case prf =>
    intro gu us cu gm W3 RX HR3 HB3
    go_wp2
    go_loopw [7] (fun iv wr => ∃ i : Nat, i ≤ na ∧ iv = .int .i64 i ∧ wr.heap[gm]? = some (.cells #[.slice (some ⟨gu, 0, none⟩) na cu] 26 (0, 0)) ∧ Hid (RowsO wr W.heap.size 38 3 (.slice (some ⟨gu, 0, none⟩) na cu) us (matF na kb (part A B ka i 0 0))) ∧ Hid (Below W.heap.size W wr)) (fun iv _ => na - (intOf iv).toNat)
    case atStart => exact ⟨0, by omega, rfl, unhide RX, by rw [part_start]; exact HR3, HB3⟩
    case round =>
      obtain ⟨i, hi, rfl, hbx, HR, HBr⟩ := hrel
      have cx := cell_of_one hbx
      by_cases hlt : i < na
      · have hlt' : (i : Int) < na := by omega
        go_wp2
        go_loopw [8] (fun jv wr => ∃ j : Nat, j ≤ kb ∧ jv = .int .i64 j ∧ wr.heap[gm]? = some (.cells #[.slice (some ⟨gu, 0, none⟩) na cu] 26 (0, 0)) ∧ Hid (RowsO wr W.heap.size 38 3 (.slice (some ⟨gu, 0, none⟩) na cu) us (matF na kb (part A B ka i j 0))) ∧ Hid (Below W.heap.size W wr)) (fun jv _ => kb - (intOf jv).toNat)
        case atStart => exact ⟨0, by omega, rfl, hbx, HR, HBr⟩
        case round =>
          obtain ⟨j, hj, rfl, hbx, HR, HBr⟩ := hrel
          have cx := cell_of_one hbx
          obtain ⟨g, cap, hg, c5⟩ : ∃ g cap, us[i]? = some (.slice (some ⟨g, 0, none⟩) kb cap) ∧ wr.cell? ⟨gu, i, none⟩ = some (.slice (some ⟨g, 0, none⟩) kb cap) := own_row_at (unhide HR) hlt kb1
          by_cases hltj : j < kb
          · have hltj' : (j : Int) < kb := by omega
            go_wp2
            go_loopw [9] (fun kv wr => ∃ k : Nat, k ≤ ka ∧ kv = .int .i64 k ∧ wr.heap[gm]? = some (.cells #[.slice (some ⟨gu, 0, none⟩) na cu] 26 (0, 0)) ∧ Hid (RowsO wr W.heap.size 38 3 (.slice (some ⟨gu, 0, none⟩) na cu) us (matF na kb (part A B ka i j k))) ∧ Hid (Below W.heap.size W wr)) (fun kv _ => ka - (intOf kv).toNat)
            case atStart => exact ⟨0, by omega, rfl, hbx, HR, HBr⟩
            case round =>
              obtain ⟨k, hk, rfl, hbx, HR, HBr⟩ := hrel
              have cx := cell_of_one hbx
              have cb1 := ((unhide HBr).cell (cell_lt (unhide C1))).trans (unhide C1)
              by_cases hltk : k < ka
              · have hltk' : (k : Int) < ka := by omega
                have hR := unhide HR
                obtain ⟨c6, c7, f7, hBg⟩ := own_cell_at hR hlt hltj hg
                rw [part_here] at c7
                have ca0 := ((unhide HBr).cell (cell_lt (unhide C0))).trans (unhide C0)
                obtain ⟨gA, oA, qA, hA1, hA2⟩ := unhide HCA i hlt
                obtain ⟨hA3, hx⟩ := hA2 k hltk
                obtain ⟨gB, oB, qB, hB1, hB2⟩ := unhide HCB k hltk
                obtain ⟨hB4, hy⟩ := hB2 j hltj
                have hWr := bt (unhide k3) (unhide HBr)
                have a1 := (hWr.cell (cell_lt hA1)).trans hA1
                have a2 := (hWr.cell (cell_lt hA3)).trans hA3
                have b1 := (hWr.cell (cell_lt hB1)).trans hB1
                have b2 := (hWr.cell (cell_lt hB4)).trans hB4
                obtain ⟨x, ex⟩ : ∃ x, x = entry A i k := ⟨_, rfl⟩
                obtain ⟨y, ey⟩ : ∃ y, y = entry B k j := ⟨_, rfl⟩
                obtain ⟨o, eo⟩ : ∃ o, o = dot A B i j k := ⟨_, rfl⟩
                rw [← ex] at a2 hx
                rw [← ey] at b2
                rw [← eo] at c7
                have EX := hide ex
                have EY := hide ey
                have EO := hide eo
                have n1 := own_ne (hR.row i _ hg) hbx (by decide)
                have HBX := hide hbx
                clear hR hA1 hA2 hA3 hB1 hB2 hB4 hWr ex ey eo hy
                go_wp2
                refine wp_region_quiet_then (List.cons_ne_nil _ _) ?_ ?_ ?_ ?_
                · kernel_rfl
                · kernel_rfl
                · kernel_rfl
                simp only [List.dropLast_cons_cons, List.dropLast_singleton, List.getLast_cons_cons, List.getLast_singleton]
                repeat (first | go_big_quiet_step ((go_at_call 49; exact Calls.quiet_of_same (refmul_any x y _ hx))) | quiet_step ((go_at_call 49; exact Calls.quiet_of_same (refmul_any x y _ hx))))
                refine wpQuiet_nil ?_
                intro _ hw'
                obtain ⟨nq, hw''⟩ := hw'
                subst hw''
                simp only [List.cons_append, List.nil_append]
                go_wp2
                go_roundw
                case rel =>
                  have hbits : bits .xor .i64 ((o : Nat) : Int) ((Gf.mul x y : Nat) : Int) = ((dot A B i j (k + 1) : Nat) : Int) := by
                    have h1 : o < 256 := by rw [unhide EO]; exact dot_lt _ _ _ _ _
                    have h2 := Gf.mul_lt x y
                    rw [xor_i64 _ _ (by omega) (by omega), unhide EO, unhide EX, unhide EY]
                    rfl
                  have hS := RowsO.store ((unhide HR).below (below_drewN wr _ nq)) (by decide) hg (c := j) ((dot A B i j (k + 1) : Nat) : Int)
                  rw [part_step A B na kb ka i j k hlt hltj] at hS
                  rw [hbits]
                  exact ⟨k + 1, by omega, by go_num, (hS.2 _ (lt_of_block (unhide HBX)) n1).trans (unhide HBX), hide hS.1, hide (((unhide HBr).trans (below_drewN _ _ nq)).setCell hBg _)⟩
                case measure => simp [intOf]; omega
              · have hltk' : ¬ (k : Int) < ka := by omega
                obtain rfl : k = ka := by omega
                go_wp2
                go_roundw
                case rel => exact ⟨j + 1, by omega, by go_num, hbx, by rw [← part_col]; exact HR, HBr⟩
                case measure => simp [intOf]; omega
          · have hltj' : ¬ (j : Int) < kb := by omega
            obtain rfl : j = kb := by omega
            go_wp2
            go_roundw
            case rel => exact ⟨i + 1, by omega, by go_num, hbx, by rw [← part_row]; exact HR, HBr⟩
            case measure => simp [intOf]; omega
      · have hlt' : ¬ (i : Int) < na := by omega
        obtain rfl : i = na := by omega
        have r2 := ((unhide HBr).block _ (by omega)).trans (unhide k2)
        have c2 := cell_of_one r2
        have f2 := free_of_one r2
        go_wp2
        have cr := cell_of_one (one_setCell (u := .slice (some ⟨gu, 0, none⟩) i cu) r2)
        refine bodyPost_ret (v := .tuple #[.agg #[.slice (some ⟨gu, 0, none⟩) i cu], .int .i64 0]) (by simp [results, Tryd.results30, go_sem, cr]) rfl ⟨⟨_, rfl, ⟨us, ?_⟩⟩, ?_⟩
        · have h1 := ((unhide HR).setBelow (a := ⟨w.heap.size + 1 + 1, 0, none⟩) (by show w.heap.size + 1 + 1 < _; omega) (.slice (some ⟨gu, 0, none⟩) i cu)).mono (B' := w.heap.size) (by omega)
          rw [part_end] at h1
          unfold mulM
          rw [unhide ELA, unhide ELB, unhide EKB]
          exact h1
        · exact (bt (unhide k3) (unhide HBr)).setCell (by show _ ≤ w.heap.size + 1 + 1; omega) _
/-- may these be multiplied? -/
def MulMay (A B : List (List Int)) : Prop := MMay A ∧ MMay B ∧ (A.getD 0 []).length = B.length
theorem refMulMatrix_any (a b : Value) (A B : List (List Int)) (w : World) (ha : MatV w a A) (hb : MatV w b B) :
    Calls Tryd.prog 30 #[a, b] w fun e w' => ((MulMay A B ∧ ∃ u, e = .returned (.tuple #[.agg #[u], .int .i64 0]) ∧ OwnM w' w.heap.size 38 3 u (mulM A B)) ∨ (¬ MulMay A B ∧ e = .returned (.tuple #[.agg #[.slice none 0 0], .int .i64 300]))) ∧ Below w.heap.size w w' := by
  have ha' := ha
  have hb' := hb
  obtain ⟨pa, na, ca, rfl, _⟩ := ha
  obtain ⟨pb, nb, cb, rfl, _⟩ := hb
  by_cases h1 : MMay A
  · by_cases h2 : MMay B
    · by_cases h3 : (A.getD 0 []).length = B.length
      · exact (refMulMatrix_yes pa pb na ca nb cb A B w ha' hb' h1 h2 h3).mono fun e w' ⟨he, hB⟩ => ⟨.inl ⟨⟨h1, h2, h3⟩, he⟩, hB⟩
      · exact (refMulMatrix_noLen pa pb na ca nb cb A B w ha' hb' h1 h2 h3).mono fun e w' ⟨he, hB⟩ => ⟨.inr ⟨fun h => h3 h.2.2, he⟩, hB⟩
    · exact (refMulMatrix_noB pa pb na ca nb cb A B w ha' hb' h1 h2).mono fun e w' ⟨he, hB⟩ => ⟨.inr ⟨fun h => h2 h.2.1, he⟩, hB⟩
  · exact (refMulMatrix_noA pa pb na ca nb cb A B w ha' hb' h1).mono fun e w' ⟨he, hB⟩ => ⟨.inr ⟨fun h => h1 h.1, he⟩, hB⟩
end Go.Proofs.YtfeepmjkamdldaaDoor
