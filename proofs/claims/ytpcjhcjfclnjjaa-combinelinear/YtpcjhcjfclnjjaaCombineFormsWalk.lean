/- The Go text of the statement CombineForms returns true, whatever the numbers. -/
import Derived.Test.YtpcjhcjfclnjjaaAwake2
import Derived.Test.YtpcjhcjfclnjjaaRegion
import Derived.Test.YtpcjhcjfclnjjaaMemOpen
import Derived.Test.YtpcjhcjfclnjjaaCombinesWalk
namespace Go.Proofs.Ytpcjhcjfclnjjaa
open Go.RowKit
set_option linter.unusedVariables false
set_option linter.unusedSimpArgs false
def StrsV (w : World) (v : Value) (ss : List ByteArray) : Prop := ∃ a n cap, v = .slice a n cap ∧ Strs w a n cap ss
def IntsV (w : World) (v : Value) (xs : List Int) : Prop := ∃ a n cap, v = .slice a n cap ∧ Ints w a n cap xs
theorem StrsV.below {w w' : World} {v : Value} {ss : List ByteArray} (h : StrsV w v ss) (hb : Below w.heap.size w w') : StrsV w' v ss := by
  obtain ⟨a, n, cap, e, h⟩ := h; exact ⟨a, n, cap, e, h.below hb⟩
theorem IntsV.below {w w' : World} {v : Value} {ss : List Int} (h : IntsV w v ss) (hb : Below w.heap.size w w') : IntsV w' v ss := by
  obtain ⟨a, n, cap, e, h⟩ := h; exact ⟨a, n, cap, e, h.below hb⟩
def txtA : ByteArray := ⟨#[97]⟩
def txtAB : ByteArray := ⟨#[97, 98]⟩
def rtab (s : ByteArray) : List (List ByteArray) := [[], [txtA], [txtA], [txtA], [txtA, txtAB], List.replicate 13 ByteArray.empty, [s]]
def ctab (d : Int) : List (List Int) := [[], [1, 2], [255 + d], [-d], [1, 1], List.replicate 13 0, [1]]
/-- a slice of slices of strings -/
def TabS (w : World) (v : Value) (t : List (List ByteArray)) : Prop := ∃ g, v = .slice (some ⟨g, 0, none⟩) t.length t.length ∧ ∀ k, k < t.length → ∃ u, w.cell? ⟨g, k, none⟩ = some u ∧ StrsV w u (t.getD k [])
def TabI (w : World) (v : Value) (t : List (List Int)) : Prop := ∃ g, v = .slice (some ⟨g, 0, none⟩) t.length t.length ∧ ∀ k, k < t.length → ∃ u, w.cell? ⟨g, k, none⟩ = some u ∧ IntsV w u (t.getD k [])
theorem TabS.below {w w' : World} {v : Value} {t : List (List ByteArray)} (h : TabS w v t) (hb : Below w.heap.size w w') : TabS w' v t := by
  obtain ⟨g, e, h⟩ := h
  refine ⟨g, e, fun k hk => ?_⟩
  obtain ⟨u, hu, hs⟩ := h k hk
  exact ⟨u, (hb.cell (cell_lt hu)).trans hu, hs.below hb⟩
theorem TabI.below {w w' : World} {v : Value} {t : List (List Int)} (h : TabI w v t) (hb : Below w.heap.size w w') : TabI w' v t := by
  obtain ⟨g, e, h⟩ := h
  refine ⟨g, e, fun k hk => ?_⟩
  obtain ⟨u, hu, hs⟩ := h k hk
  exact ⟨u, (hb.cell (cell_lt hu)).trans hu, hs.below hb⟩
/-- what each operation of the region of rows leaves -/
def predF (d : Nat) : Nat → Value → World → Prop
  | 0, v, w => StrsV w v [txtA]
  | 1, v, w => StrsV w v [txtA]
  | 2, v, w => StrsV w v [txtA]
  | 3, v, w => StrsV w v [txtA, txtAB]
  | 4, v, w => StrsV w v (List.replicate 13 ByteArray.empty)
  | 5, v, _ => v = .int .i64 (1 + (d : Int))
  | 6, v, _ => v = .int .i64 (4096 + (1 + (d : Int)))
  | 7, v, w => ∃ g, v = .slice (some ⟨g, 0, none⟩) (4097 + d) (4097 + d) ∧ ∀ i, i < 4097 + d → w.cell? ⟨g, 0 + i, none⟩ = some (.int .u8 ((List.replicate (4097 + d) (0 : Int)).getD i 0))
  | 8, v, _ => ∃ s : ByteArray, v = .string s ∧ s.size = 4097 + d
  | 9, v, w => ∃ s : ByteArray, s.size = 4097 + d ∧ StrsV w v [s]
  | 10, v, w => ∃ s : ByteArray, s.size = 4097 + d ∧ TabS w v (rtab s)
  | 11, v, w => ∃ s : ByteArray, s.size = 4097 + d ∧ TabS w v (rtab s)
  | _, _, _ => True
theorem predF_stable (d : Nat) : ∀ i v w w', predF d i v w → Below w.heap.size w w' → predF d i v w' := by
  intro i v w w' h hb
  match i with
  | 0 => exact StrsV.below h hb
  | 1 => exact StrsV.below h hb
  | 2 => exact StrsV.below h hb
  | 3 => exact StrsV.below h hb
  | 4 => exact StrsV.below h hb
  | 5 => exact h
  | 6 => exact h
  | 7 => obtain ⟨g, e, h⟩ := h; exact ⟨g, e, fun i hi => (hb.cell (cell_lt (h i hi))).trans (h i hi)⟩
  | 8 => exact h
  | 9 => obtain ⟨s, hs, h⟩ := h; exact ⟨s, hs, h.below hb⟩
  | 10 => obtain ⟨s, hs, h⟩ := h; exact ⟨s, hs, h.below hb⟩
  | 11 => obtain ⟨s, hs, h⟩ := h; exact ⟨s, hs, h.below hb⟩
  | n + 12 => trivial
theorem ints_lit_at (w : World) (xs : List Int) (T : TypeId) (H n : Nat) (C : Array Value) (hH : w.heap.size = H) (hn : xs.length = n) (hC : (xs.map (Value.int .i64)).toArray = C) : Ints (w.alloc (.cells C T)) (some ⟨H, 0, none⟩) n n xs := by
  subst hH hn hC; exact ints_lit w xs T
theorem strs_lit_at' (w : World) (xs : List ByteArray) (T : TypeId) (H n : Nat) (C : Array Value) (hH : w.heap.size = H) (hn : xs.length = n) (hC : (xs.map Value.string).toArray = C) : Strs (w.alloc (.cells C T)) (some ⟨H, 0, none⟩) n n xs := by
  subst hH hn hC; exact strs_lit w xs T
theorem ints_made_at (w : World) (n : Nat) (T : TypeId) (H : Nat) (hH : w.heap.size = H) : Ints (w.alloc (.cells (madeCells #[.int .i64 0] n) T)) (some ⟨H, 0, none⟩) n n (List.replicate n 0) := by
  subst hH
  have hr := World.rowIs_made w (.int .i64 0) n T
  refine ⟨by simp, ?_⟩
  by_cases h : n = 0
  · exact .inr (.inl ⟨h, _, rfl⟩)
  · refine .inr (.inr ⟨by omega, Nat.le_refl _, _, _, rfl, fun i hi => ?_⟩)
    rw [Nat.zero_add, hr.cell hi]
    simp [List.getD, hi]
theorem strs_made_at (w : World) (n : Nat) (T : TypeId) (H : Nat) (hH : w.heap.size = H) : Strs (w.alloc (.cells (madeCells #[.string ByteArray.empty] n) T)) (some ⟨H, 0, none⟩) n n (List.replicate n ByteArray.empty) := by
  subst hH
  have hr := World.rowIs_made w (.string ByteArray.empty) n T
  refine ⟨by simp, ?_⟩
  by_cases h : n = 0
  · exact .inr (.inl ⟨h, _, rfl⟩)
  · refine .inr (.inr ⟨by omega, Nat.le_refl _, _, _, rfl, fun i hi => ?_⟩)
    rw [Nat.zero_add, hr.cell hi]
    simp [List.getD, hi]
theorem wp_with {P : Program} {c : Code} {Q : Exit → Act → World → Prop} {a : Act} {w : World} (F : World → Prop) (hF : F w) (h : ∀ W, F W → c.wp P Q a W) : c.wp P Q a w := h w hF
/-- a table that was just written down: its cells -/
theorem tab_cells (w : World) (C : Array Value) (T : TypeId) (H k : Nat) (u : Value) (hH : w.heap.size = H) (hk : C[k]? = some u) : (w.alloc (.cells C T)).cell? ⟨H, k, none⟩ = some u := by
  subst hH; rw [cell_of_row _ _ k C T (0, 0) (heap_alloc_new w _)]; exact hk
theorem made_bytes (w : World) (n : Nat) (T : TypeId) : ∀ i, i < n → (w.alloc (.cells (madeCells #[.int .u8 0] n) T)).cell? ⟨w.heap.size, 0 + i, none⟩ = some (.int .u8 ((List.replicate n (0 : Int)).getD i 0)) := by
  intro i hi
  rw [Nat.zero_add, (World.rowIs_made w (.int .u8 0) n T).cell hi]
  simp [List.getD, hi]
theorem tab7 {w : World} {v0 v1 v2 v3 v4 v9 : Value} {s : ByteArray} {T : TypeId} (p0 : StrsV w v0 [txtA]) (p1 : StrsV w v1 [txtA]) (p2 : StrsV w v2 [txtA]) (p3 : StrsV w v3 [txtA, txtAB]) (p4 : StrsV w v4 (List.replicate 13 ByteArray.empty)) (p9 : StrsV w v9 [s]) :
    TabS (w.alloc (.cells #[.slice none 0 0, v0, v1, v2, v3, v4, v9] T)) (.slice (some ⟨w.heap.size, 0, none⟩) 7 7) (rtab s) := by
  refine ⟨_, rfl, fun j hj => ?_⟩
  have hj' : j = 0 ∨ j = 1 ∨ j = 2 ∨ j = 3 ∨ j = 4 ∨ j = 5 ∨ j = 6 := by simp [rtab] at hj; omega
  rcases hj' with rfl | rfl | rfl | rfl | rfl | rfl | rfl
  · exact ⟨_, tab_cells _ _ _ _ _ _ rfl rfl, none, 0, 0, rfl, strs_nil _⟩
  · exact ⟨_, tab_cells _ _ _ _ _ _ rfl rfl, p0.below (below_alloc _ _)⟩
  · exact ⟨_, tab_cells _ _ _ _ _ _ rfl rfl, p1.below (below_alloc _ _)⟩
  · exact ⟨_, tab_cells _ _ _ _ _ _ rfl rfl, p2.below (below_alloc _ _)⟩
  · exact ⟨_, tab_cells _ _ _ _ _ _ rfl rfl, p3.below (below_alloc _ _)⟩
  · exact ⟨_, tab_cells _ _ _ _ _ _ rfl rfl, p4.below (below_alloc _ _)⟩
  · exact ⟨_, tab_cells _ _ _ _ _ _ rfl rfl, p9.below (below_alloc _ _)⟩
theorem ctab_len (d : Int) (k : Nat) : ((ctab d).getD k []).length ≤ 13 := by
  match k with
  | 0 | 1 | 2 | 3 | 4 | 5 | 6 => simp [ctab]
  | n + 7 => simp [ctab]
theorem alike_here {ss : List ByteArray} (h : ∀ s ∈ ss, s.size = 0) : Vec.alikeTo ss ss.length := by
  intro i hi
  have h1 : (ss.getD i ByteArray.empty).size = 0 := by
    rw [List.getD, List.getElem?_eq_getElem hi]; exact h _ (List.getElem_mem hi)
  have h0 : (ss.getD 0 ByteArray.empty).size = 0 := by
    rw [List.getD, List.getElem?_eq_getElem (by omega)]; exact h _ (List.getElem_mem _)
  omega
theorem rep_getD (n i : Nat) : (List.replicate n (0 : Int)).getD i 0 = 0 := by
  by_cases h : i < n
  · simp [List.getD, h]
  · simp [List.getD, h]
theorem zeros_comb {r : ByteArray × Int} (h : combR (List.replicate 12 0) (List.replicate 12 ByteArray.empty) r) : r = (ByteArray.empty, 0) := by
  rcases h with ⟨_, rfl⟩ | ⟨h, _⟩
  · rfl
  · exfalso
    refine h ⟨by decide, by decide, rfl, alike_here (fun s hs => by rw [List.eq_of_mem_replicate hs]; rfl), fun i hi => ?_⟩
    rw [rep_getD]; decide
/-- none of the seven may be combined -/
theorem forms_no {d k : Nat} {s : ByteArray} {r : ByteArray × Int} (hk : k < 7) (hs : s.size = 4097 + d) (h : combR ((ctab (1 + (d : Int))).getD k []) ((rtab s).getD k []) r) : r = (ByteArray.empty, 200) := by
  rcases h with ⟨⟨h1, h2, h3, h4, h5⟩, _⟩ | ⟨_, rfl⟩
  · exfalso
    match k, hk with
    | 0, _ => simp [ctab] at h1
    | 1, _ => simp [ctab, rtab] at h3
    | 2, _ => have := (h5 0 (by simp [ctab])).2; simp [ctab] at this; omega
    | 3, _ => have := (h5 0 (by simp [ctab])).1; simp [ctab] at this; omega
    | 4, _ => have := (h4 1 (by simp [rtab])).1; simp [rtab, txtA, txtAB] at this; exact absurd this (by decide)
    | 5, _ => simp [ctab] at h2
    | 6, _ => have := (h4 0 (by simp [rtab])).2; simp [rtab] at this; omega
  · rfl
def predG : Nat → Value → World → Prop
  | 0, v, w => IntsV w v (List.replicate 12 0)
  | 1, v, w => StrsV w v (List.replicate 12 ByteArray.empty)
  | 2, v, _ => v = .tuple #[.string ByteArray.empty, .int .i64 0]
  | 3, v, _ => v = .tuple #[.string ByteArray.empty, .int .i64 0]
  | 4, v, _ => v = .string ByteArray.empty
  | 5, v, _ => v = .int .i64 0
  | 6, v, _ => v = .string ByteArray.empty
  | 7, v, _ => v = .int .i64 0
  | _, _, _ => True
theorem predG_stable : ∀ i v w w', predG i v w → Below w.heap.size w w' → predG i v w' := by
  intro i v w w' h hb
  match i with
  | 0 => exact IntsV.below h hb
  | 1 => exact StrsV.below h hb
  | 2 | 3 | 4 | 5 | 6 | 7 => exact h
  | n + 8 => trivial
theorem list8 {α : Type} {vs : List α} (h : vs.length = 8) : ∃ v0 v1 v2 v3 v4 v5 v6 v7, vs = [v0, v1, v2, v3, v4, v5, v6, v7] := by
  match vs, h with
  | [v0, v1, v2, v3, v4, v5, v6, v7], _ => exact ⟨_, _, _, _, _, _, _, _, rfl⟩
theorem mod7 (a : Int) : ∃ i : Nat, i < 7 ∧ wrap64 ((IntKind.u64.wrap a).tmod 7) = (i : Int) := by
  have h0 : 0 ≤ IntKind.u64.wrap a := wrap_u64_nonneg a
  refine ⟨(IntKind.u64.wrap a % 7).toNat, by omega, ?_⟩
  rw [Int.tmod_eq_emod_of_nonneg h0]
  unfold wrap64
  omega
theorem list12 {α : Type} {vs : List α} (h : vs.length = 12) : ∃ v0 v1 v2 v3 v4 v5 v6 v7 v8 v9 v10 v11, vs = [v0, v1, v2, v3, v4, v5, v6, v7, v8, v9, v10, v11] := by
  match vs, h with
  | [v0, v1, v2, v3, v4, v5, v6, v7, v8, v9, v10, v11], _ => exact ⟨_, _, _, _, _, _, _, _, _, _, _, _, rfl⟩
set_option maxRecDepth 100000 in
set_option maxHeartbeats 4000000 in
theorem CombineForms_walk {w : World} (a0 : Int) (w0 : (Lit.int .i64 a0).wf = true) (a1 : Int) (w1 : (Lit.int .i64 a1).wf = true) :
    Calls Try.prog 5 #[.int .i64 a0, .int .i64 a1] w fun e w' => e = .returned (.bool true) ∧ Below w.heap.size w w' := by
  have hx : ∃ d : Nat, d < 1024 ∧ bits .and .i64 a1 1023 = (d : Int) := by
    refine ⟨(a1 % 1024).toNat, by omega, ?_⟩
    rw [and_1023]; omega
  obtain ⟨d, hd, hx⟩ := hx
  obtain ⟨k, hk, ek⟩ := mod7 a0
  have hmk1 : ∀ w, (Instr.makeSlice 22 (.int .i64 13) (.int .i64 13)).run Try.prog w = .ok (.slice (some ⟨w.heap.size, 0, none⟩) 13 13) (w.alloc (.cells (madeCells #[.int .i64 0] 13) 3)) := fun w => run_make_row' (P := Try.prog) 22 3 (.int .i64 0) 8 Try.underlying22 Try.infoInt rfl .i64 .i64 13 (by omega) (by omega) w
  have hmk2 : ∀ w, (Instr.makeSlice 23 (.int .i64 13) (.int .i64 13)).run Try.prog w = .ok (.slice (some ⟨w.heap.size, 0, none⟩) 13 13) (w.alloc (.cells (madeCells #[.string ByteArray.empty] 13) 9)) := fun w => run_make_row' (P := Try.prog) 23 9 (.string ByteArray.empty) 16 Try.underlying23 Try.infoStr rfl .i64 .i64 13 (by omega) (by omega) w
  have hmk3 : ∀ w, (Instr.makeSlice 38 (.int .i64 (4096 + (1 + (d : Int)))) (.int .i64 (4096 + (1 + (d : Int))))).run Try.prog w = .ok (.slice (some ⟨w.heap.size, 0, none⟩) (4097 + d) (4097 + d)) (w.alloc (.cells (madeCells #[.int .u8 0] (4097 + d)) 5)) := fun w => by
    have := run_make_row' (P := Try.prog) 38 5 (.int .u8 0) 1 Try.underlying38 Try.infoByte rfl .i64 .i64 (4097 + d) (by omega) (by omega) w
    rw [show ((4097 + d : Nat) : Int) = 4096 + (1 + (d : Int)) by omega] at this
    exact this
  have hmk4 : ∀ w, (Instr.makeSlice 22 (.int .i64 12) (.int .i64 12)).run Try.prog w = .ok (.slice (some ⟨w.heap.size, 0, none⟩) 12 12) (w.alloc (.cells (madeCells #[.int .i64 0] 12) 3)) := fun w => run_make_row' (P := Try.prog) 22 3 (.int .i64 0) 8 Try.underlying22 Try.infoInt rfl .i64 .i64 12 (by omega) (by omega) w
  have hmk5 : ∀ w, (Instr.makeSlice 23 (.int .i64 12) (.int .i64 12)).run Try.prog w = .ok (.slice (some ⟨w.heap.size, 0, none⟩) 12 12) (w.alloc (.cells (madeCells #[.string ByteArray.empty] 12) 9)) := fun w => run_make_row' (P := Try.prog) 23 9 (.string ByteArray.empty) 16 Try.underlying23 Try.infoStr rfl .i64 .i64 12 (by omega) (by omega) w
  go_enter Try.func5, Try.ntmps5
  go_wp2_with (go_at_call 13; refine (awake2_any _).mono ?_; rintro e w1 ⟨rfl, hb1⟩)
  refine wp_with (fun W => TabI W (.slice (some ⟨w1.heap.size + 1 + 1 + 1 + 1 + 1 + 1, 0, none⟩) 7 7) (ctab (1 + (d : Int))) ∧ Below w1.heap.size w1 W) ?_ ?_
  · refine ⟨⟨_, rfl, fun j hj => ?_⟩, ?_⟩
    · have hj' : j = 0 ∨ j = 1 ∨ j = 2 ∨ j = 3 ∨ j = 4 ∨ j = 5 ∨ j = 6 := by simp [ctab] at hj; omega
      rcases hj' with rfl | rfl | rfl | rfl | rfl | rfl | rfl
      · exact ⟨_, tab_cells _ _ _ _ _ _ (by simp) rfl, none, 0, 0, rfl, ints_nil _⟩
      · refine ⟨_, tab_cells _ _ _ _ _ _ (by simp) rfl, _, _, _, rfl, ?_⟩
        iterate 6 refine Ints.below ?_ (below_alloc _ _)
        exact ints_lit_at _ _ _ _ _ _ (by simp) rfl rfl
      · refine ⟨_, tab_cells _ _ _ _ _ _ (by simp) rfl, _, _, _, rfl, ?_⟩
        iterate 5 refine Ints.below ?_ (below_alloc _ _)
        exact ints_lit_at _ _ _ _ _ _ (by simp) rfl rfl
      · refine ⟨_, tab_cells _ _ _ _ _ _ (by simp) rfl, _, _, _, rfl, ?_⟩
        iterate 4 refine Ints.below ?_ (below_alloc _ _)
        exact ints_lit_at _ _ _ _ _ _ (by simp) rfl rfl
      · refine ⟨_, tab_cells _ _ _ _ _ _ (by simp) rfl, _, _, _, rfl, ?_⟩
        iterate 3 refine Ints.below ?_ (below_alloc _ _)
        exact ints_lit_at _ _ _ _ _ _ (by simp) rfl rfl
      · refine ⟨_, tab_cells _ _ _ _ _ _ (by simp) rfl, _, _, _, rfl, ?_⟩
        iterate 2 refine Ints.below ?_ (below_alloc _ _)
        exact ints_made_at _ _ _ _ (by simp)
      · refine ⟨_, tab_cells _ _ _ _ _ _ (by simp) rfl, _, _, _, rfl, ?_⟩
        refine Ints.below ?_ (below_alloc _ _)
        exact ints_lit_at _ _ _ _ _ _ (by simp) rfl rfl
    · iterate 7 refine Below.alloc ?_ (by simp; try omega) _
      exact Below.refl _ _
  · rintro W ⟨hT, hbW⟩
    have HT := hide hT
    have hb2 := hide (bt hb1 hbW)
    clear hT
    refine wp_region_each (by kernel_rfl) [29, 30, 31, 32, 33, 34, 35, 36, 37, 38, 39, 7] (predF d) rfl ?_ (by kernel_rfl) (predF_stable d) ?_ ?_
    · refine ⟨[undef, undef, undef, undef, undef, undef, undef, undef, undef, undef, undef, undef], rfl, ?_⟩
      kernel_rfl
    · intro i o vs w' ho hlen hb hdep
      obtain ⟨v0, v1, v2, v3, v4, v5, v6, v7, v8, v9, v10, v11, rfl⟩ := list12 hlen
      match i with
      | 0 =>
        refine wpOp_of_list rfl ?_
        simp only [putAll]
        go_wp2
        exact ⟨.slice (some ⟨w'.heap.size, 0, none⟩) 1 1, by kernel_rfl, ⟨_, _, _, rfl, strs_lit_at' w' [txtA] 9 _ 1 _ rfl rfl rfl⟩, below_alloc _ _⟩
      | 1 =>
        refine wpOp_of_list rfl ?_
        simp only [putAll]
        go_wp2
        exact ⟨.slice (some ⟨w'.heap.size, 0, none⟩) 1 1, by kernel_rfl, ⟨_, _, _, rfl, strs_lit_at' w' [txtA] 9 _ 1 _ rfl rfl rfl⟩, below_alloc _ _⟩
      | 2 =>
        refine wpOp_of_list rfl ?_
        simp only [putAll]
        go_wp2
        exact ⟨.slice (some ⟨w'.heap.size, 0, none⟩) 1 1, by kernel_rfl, ⟨_, _, _, rfl, strs_lit_at' w' [txtA] 9 _ 1 _ rfl rfl rfl⟩, below_alloc _ _⟩
      | 3 =>
        refine wpOp_of_list rfl ?_
        simp only [putAll]
        go_wp2
        exact ⟨.slice (some ⟨w'.heap.size, 0, none⟩) 2 2, by kernel_rfl, ⟨_, _, _, rfl, strs_lit_at' w' [txtA, txtAB] 9 _ 2 _ rfl rfl rfl⟩, below_alloc _ _⟩
      | 4 =>
        refine wpOp_of_list rfl ?_
        simp only [putAll]
        go_wp2
        exact ⟨.slice (some ⟨w'.heap.size, 0, none⟩) 13 13, by kernel_rfl, ⟨_, _, _, rfl, strs_made_at w' 13 9 _ rfl⟩, below_alloc _ _⟩
      | 5 =>
        refine wpOp_of_list rfl ?_
        simp only [putAll]
        go_wp2
        exact ⟨.int .i64 (1 + (d : Int)), by kernel_rfl, rfl, Below.refl _ _⟩
      | 6 =>
        obtain rfl : v5 = _ := hdep ⟨5, .data⟩ (by cases ho; simp) rfl
        refine wpOp_of_list rfl ?_
        simp only [putAll]
        go_wp2
        exact ⟨.int .i64 (4096 + (1 + (d : Int))), by kernel_rfl, rfl, Below.refl _ _⟩
      | 7 =>
        obtain rfl : v6 = _ := hdep ⟨6, .data⟩ (by cases ho; simp) rfl
        refine wpOp_of_list rfl ?_
        simp only [putAll]
        go_wp2
        exact ⟨.slice (some ⟨w'.heap.size, 0, none⟩) (4097 + d) (4097 + d), by kernel_rfl, ⟨_, rfl, made_bytes w' (4097 + d) 5⟩, below_alloc _ _⟩
      | 8 =>
        obtain ⟨g, hv, hcell⟩ : ∃ g, v7 = .slice (some ⟨g, 0, none⟩) (4097 + d) (4097 + d) ∧ ∀ i, i < 4097 + d → w'.cell? ⟨g, 0 + i, none⟩ = some (.int .u8 ((List.replicate (4097 + d) (0 : Int)).getD i 0)) := hdep ⟨7, .data⟩ (by cases ho; simp) rfl
        subst hv
        have hcv := run_convert_bytes_arg (P := Try.prog) w' 38 5 Try.underlying38 Try.underlying5 g 0 (4097 + d) (4097 + d) (List.replicate (4097 + d) (0 : Int)) (by simp) hcell 9 Try.underlying9
        clear hcell
        refine wpOp_of_list rfl ?_
        simp only [putAll]
        go_wp2
        exact ⟨.string (strOfNums (List.replicate (4097 + d) (0 : Int))), by kernel_rfl, ⟨_, rfl, by rw [strOfNums_size]; simp⟩, Below.refl _ _⟩
      | 9 =>
        obtain ⟨s, rfl, hs⟩ : ∃ s : ByteArray, v8 = .string s ∧ s.size = 4097 + d := hdep ⟨8, .data⟩ (by cases ho; simp) rfl
        refine wpOp_of_list rfl ?_
        simp only [putAll]
        go_wp2
        exact ⟨.slice (some ⟨w'.heap.size, 0, none⟩) 1 1, by kernel_rfl, ⟨s, hs, _, _, _, rfl, strs_lit_at' w' [s] 9 _ 1 _ rfl rfl rfl⟩, below_alloc _ _⟩
      | 10 =>
        have p0 : StrsV w' v0 [txtA] := hdep ⟨0, .data⟩ (by cases ho; simp) rfl
        have p1 : StrsV w' v1 [txtA] := hdep ⟨1, .data⟩ (by cases ho; simp) rfl
        have p2 : StrsV w' v2 [txtA] := hdep ⟨2, .data⟩ (by cases ho; simp) rfl
        have p3 : StrsV w' v3 [txtA, txtAB] := hdep ⟨3, .data⟩ (by cases ho; simp) rfl
        have p4 : StrsV w' v4 (List.replicate 13 ByteArray.empty) := hdep ⟨4, .data⟩ (by cases ho; simp) rfl
        obtain ⟨s, hs, p9⟩ : ∃ s : ByteArray, s.size = 4097 + d ∧ StrsV w' v9 [s] := hdep ⟨9, .data⟩ (by cases ho; simp) rfl
        have T := hide (tab7 (T := 23) p0 p1 p2 p3 p4 p9)
        obtain ⟨a0', n0', c0', e0', p0⟩ := p0
        obtain ⟨a1', n1', c1', e1', p1⟩ := p1
        obtain ⟨a2', n2', c2', e2', p2⟩ := p2
        obtain ⟨a3', n3', c3', e3', p3⟩ := p3
        obtain ⟨a4', n4', c4', e4', p4⟩ := p4
        obtain ⟨a9', n9', c9', e9', p9⟩ := p9
        clear p0 p1 p2 p3 p4 p9
        subst e0' e1' e2' e3' e4' e9'
        refine wpOp_of_list rfl ?_
        simp only [putAll]
        go_wp2
        exact ⟨.slice (some ⟨w'.heap.size, 0, none⟩) 7 7, by kernel_rfl, ⟨s, hs, unhide T⟩, below_alloc _ _⟩
      | 11 =>
        obtain ⟨s, hs, T⟩ : ∃ s : ByteArray, s.size = 4097 + d ∧ TabS w' v10 (rtab s) := hdep ⟨10, .data⟩ (by cases ho; simp) rfl
        have HT := hide T
        obtain ⟨g, e, _⟩ := T
        subst e
        refine wpOp_of_list rfl ?_
        simp only [putAll]
        go_wp2
        exact ⟨_, by kernel_rfl, ⟨s, hs, unhide HT⟩, Below.refl _ _⟩
      | n + 12 => simp at ho
    · intro vs w' hlen hb hp
      obtain ⟨v0, v1, v2, v3, v4, v5, v6, v7, v8, v9, v10, v11, rfl⟩ := list12 hlen
      obtain ⟨s, hs, T⟩ : ∃ s : ByteArray, s.size = 4097 + d ∧ TabS w' v11 (rtab s) := hp 11 (by simp)
      obtain ⟨gc, ec, hcs⟩ := (unhide HT).below hb
      obtain rfl : gc = w1.heap.size + 1 + 1 + 1 + 1 + 1 + 1 := by have := ec; simp at this; exact this.1.symm
      obtain ⟨gr, er, hrs⟩ := T
      have er' : v11 = .slice (some ⟨gr, 0, none⟩) 7 7 := er
      subst er'
      clear er
      obtain ⟨u, hu, hI⟩ := hcs k hk
      obtain ⟨u', hu', hS⟩ := hrs k hk
      obtain ⟨au, nu, cu, rfl, hI⟩ := hI
      obtain ⟨au', nu', cu', rfl, hS⟩ := hS
      have hb3 := hide (bt (unhide hb2) hb)
      have HI := hide hI
      have HS := hide hS
      clear hcs hrs hp hb hbW hb1 hb2 ec hI hS HT
      have hk' : (k : Int) < 7 := by omega
      have hnu : nu ≤ 140737488355328 := by rw [← (unhide HI).1]; exact Nat.le_trans (ctab_len _ k) (by omega)
      simp only [putAll]
      go_wp2_with fail
      simp only [ek]
      clear ek
      go_region_held3 (fun wx => wx.cell? ⟨w1.heap.size + 1 + 1 + 1 + 1 + 1 + 1, k, none⟩ = some (.slice au nu cu) ∧ wx.cell? ⟨gr, k, none⟩ = some (.slice au' nu' cu')) (first | go_keep | (exact ⟨(hb4.cell (cell_lt hu)).trans hu, (hb4.cell (cell_lt hu')).trans hu'⟩))
        (first | (go_at_call 8; refine (vecCombine_any _ _ _ _ _ _ ((ctab (1 + (d : Int))).getD k []) ((rtab s).getD k []) _ ((unhide HI).below (below_drewN _ _ 1)) ((unhide HS).below (below_drewN _ _ 1)) (hnu)).mono ?_; rintro e w4 ⟨r, hr, rfl, hb4⟩))
      obtain rfl := forms_no hk hs hr
      have hb5 := hide (bt (bt (unhide hb3) (below_drewN _ _ 1)) hb4)
      clear hr hb4 hb3 HI HS hu hu' hnu
      go_wp2
      refine wp_region_each (by kernel_rfl) [57, 58, 59, 56, 60, 61, 11, 12] predG rfl ?_ (by kernel_rfl) predG_stable ?_ ?_
      · refine ⟨[undef, undef, undef, undef, undef, undef, undef, undef], rfl, ?_⟩
        kernel_rfl
      · intro i o vs w' ho hlen hb hdep
        obtain ⟨x0, x1, x2, x3, x4, x5, x6, x7, rfl⟩ := list8 hlen
        match i with
        | 0 =>
          refine wpOp_of_list rfl ?_
          simp only [putAll]
          go_wp2
          exact ⟨.slice (some ⟨w'.heap.size, 0, none⟩) 12 12, by kernel_rfl, ⟨_, _, _, rfl, ints_made_at w' 12 3 _ rfl⟩, below_alloc _ _⟩
        | 1 =>
          refine wpOp_of_list rfl ?_
          simp only [putAll]
          go_wp2
          exact ⟨.slice (some ⟨w'.heap.size, 0, none⟩) 12 12, by kernel_rfl, ⟨_, _, _, rfl, strs_made_at w' 12 9 _ rfl⟩, below_alloc _ _⟩
        | 2 =>
          have p0 : IntsV w' x0 (List.replicate 12 0) := hdep ⟨0, .data⟩ (by cases ho; simp) rfl
          have p1 : StrsV w' x1 (List.replicate 12 ByteArray.empty) := hdep ⟨1, .data⟩ (by cases ho; simp) rfl
          obtain ⟨y0, n0, c0, rfl, p0⟩ := p0
          obtain ⟨y1, n1, c1, rfl, p1⟩ := p1
          have P0 := hide p0
          have P1 := hide p1
          clear p0 p1
          refine wpOp_of_list rfl ?_
          simp only [putAll]
          go_wp2_with (go_at_call 8; refine (vecCombine_any _ _ _ _ _ _ (List.replicate 12 0) (List.replicate 12 ByteArray.empty) _ (unhide P0) (unhide P1) (by rw [← (unhide P0).1]; decide)).mono ?_; rintro e w6 ⟨r, hr, rfl, hb6⟩; obtain rfl := zeros_comb hr)
          exact ⟨.tuple #[.string ByteArray.empty, .int .i64 0], by kernel_rfl, rfl, hb6⟩
        | 3 =>
          obtain rfl : x2 = _ := hdep ⟨2, .data⟩ (by cases ho; simp) rfl
          refine wpOp_of_list rfl ?_
          simp only [putAll]
          go_wp2
          exact ⟨.tuple #[.string ByteArray.empty, .int .i64 0], by kernel_rfl, rfl, Below.refl _ _⟩
        | 4 =>
          obtain rfl : x3 = _ := hdep ⟨3, .data⟩ (by cases ho; simp) rfl
          refine wpOp_of_list rfl ?_
          simp only [putAll]
          go_wp2
          exact ⟨.string ByteArray.empty, by kernel_rfl, rfl, Below.refl _ _⟩
        | 5 =>
          obtain rfl : x3 = _ := hdep ⟨3, .data⟩ (by cases ho; simp) rfl
          refine wpOp_of_list rfl ?_
          simp only [putAll]
          go_wp2
          exact ⟨.int .i64 0, by kernel_rfl, rfl, Below.refl _ _⟩
        | 6 =>
          obtain rfl : x4 = _ := hdep ⟨4, .data⟩ (by cases ho; simp) rfl
          refine wpOp_of_list rfl ?_
          simp only [putAll]
          go_wp2
          exact ⟨.string ByteArray.empty, by kernel_rfl, rfl, Below.refl _ _⟩
        | 7 =>
          obtain rfl : x5 = _ := hdep ⟨5, .data⟩ (by cases ho; simp) rfl
          refine wpOp_of_list rfl ?_
          simp only [putAll]
          go_wp2
          exact ⟨.int .i64 0, by kernel_rfl, rfl, Below.refl _ _⟩
        | n + 8 => simp at ho
      · intro vs w' hlen hb hp
        obtain ⟨x0, x1, x2, x3, x4, x5, x6, x7, rfl⟩ := list8 hlen
        obtain rfl : x6 = .string ByteArray.empty := hp 6 (by simp)
        obtain rfl : x7 = .int .i64 0 := hp 7 (by simp)
        have hb7 := hide (bt (unhide hb5) hb)
        clear hb hp hb5
        simp only [putAll]
        go_wp2_with (go_at_call 10; refine (num_any _ _).mono ?_; rintro e w' ⟨rfl, rfl⟩)
        go_ret
        exact ⟨rfl, unhide hb7⟩
end Go.Proofs.Ytpcjhcjfclnjjaa
