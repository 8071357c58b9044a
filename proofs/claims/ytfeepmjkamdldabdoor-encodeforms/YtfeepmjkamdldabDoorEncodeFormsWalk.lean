/- EncodeForms: shapes, data that are none. -/
import Derived.Test.YtfeepmjkamdldabDoorAwake6
import Derived.Test.YtfeepmjkamdldabDoorFormsT
import Derived.Test.YtfeepmjkamdldabDoorKRegs
import Derived.Test.YtfeepmjkamdldabDoorKCore
namespace Go.Proofs.YtfeepmjkamdldabDoor
open Go.RowKit
set_option linter.unusedVariables false
set_option linter.unusedSimpArgs false
def etab (d : Nat) (s : ByteArray) : List (List ByteArray) := [[], [txtA, txtB], [txtA], [txtA, ByteArray.empty], [s], List.replicate (5 + d) ByteArray.empty]
def eshp (d : Nat) (k : Nat) : Int × Int := [((0 : Int), (0 : Int)), (2, 3), (2, 1), (2, 1), (1, 1), (4 + (1 + (d : Int)), 0)].getD k (0, 0)
def predE (d : Nat) : Nat → Value → World → Prop
  | 0, v, w => StrsV w v [txtA, txtB]
  | 1, v, w => StrsV w v [txtA]
  | 2, v, w => StrsV w v [txtA, ByteArray.empty]
  | 3, v, _ => v = .int .i64 (1 + (d : Int))
  | 4, v, _ => v = .int .i64 (4096 + (1 + (d : Int)))
  | 5, v, w => ∃ g, v = .slice (some ⟨g, 0, none⟩) (4097 + d) (4097 + d) ∧ ∀ i, i < 4097 + d → w.cell? ⟨g, 0 + i, none⟩ = some (.int .u8 ((List.replicate (4097 + d) (0 : Int)).getD i 0))
  | 6, v, _ => ∃ s : ByteArray, v = .string s ∧ s.size = 4097 + d
  | 7, v, w => ∃ s : ByteArray, s.size = 4097 + d ∧ StrsV w v [s]
  | 8, v, _ => v = .int .i64 (1 + (d : Int))
  | 9, v, _ => v = .int .i64 (4 + (1 + (d : Int)))
  | 10, v, w => StrsV w v (List.replicate (5 + d) ByteArray.empty)
  | 11, v, w => ∃ s : ByteArray, s.size = 4097 + d ∧ TabS w v (etab d s)
  | 12, v, w => ∃ s : ByteArray, s.size = 4097 + d ∧ TabS w v (etab d s)
  | _, _, _ => True
theorem predE_stable (d : Nat) : ∀ i v w w', predE d i v w → Below w.heap.size w w' → predE d i v w' := by
  intro i v w w' h hb
  match i with
  | 0 => exact StrsV.below h hb
  | 1 => exact StrsV.below h hb
  | 2 => exact StrsV.below h hb
  | 3 => exact h
  | 4 => exact h
  | 5 => obtain ⟨g, e, h⟩ := h; exact ⟨g, e, fun i hi => (hb.cell (cell_lt (h i hi))).trans (h i hi)⟩
  | 6 => exact h
  | 7 => obtain ⟨s, hs, h⟩ := h; exact ⟨s, hs, h.below hb⟩
  | 8 => exact h
  | 9 => exact h
  | 10 => exact StrsV.below h hb
  | 11 => obtain ⟨s, hs, h⟩ := h; exact ⟨s, hs, h.below hb⟩
  | 12 => obtain ⟨s, hs, h⟩ := h; exact ⟨s, hs, h.below hb⟩
  | n + 13 => trivial
theorem tab6 {w : World} {v0 v1 v2 v7 v10 : Value} {d : Nat} {s : ByteArray} {T : TypeId} (p0 : StrsV w v0 [txtA, txtB]) (p1 : StrsV w v1 [txtA]) (p2 : StrsV w v2 [txtA, ByteArray.empty]) (p7 : StrsV w v7 [s]) (p10 : StrsV w v10 (List.replicate (5 + d) ByteArray.empty)) :
    TabS (w.alloc (.cells #[.slice none 0 0, v0, v1, v2, v7, v10] T)) (.slice (some ⟨w.heap.size, 0, none⟩) 6 6) (etab d s) := by
  refine ⟨_, rfl, fun j hj => ?_⟩
  have hj' : j = 0 ∨ j = 1 ∨ j = 2 ∨ j = 3 ∨ j = 4 ∨ j = 5 := by simp [etab] at hj; omega
  rcases hj' with rfl | rfl | rfl | rfl | rfl | rfl
  · exact ⟨_, tab_cells _ _ _ _ _ _ rfl rfl, none, 0, 0, rfl, rfl, .inl ⟨rfl, rfl, rfl⟩⟩
  · exact ⟨_, tab_cells _ _ _ _ _ _ rfl rfl, p0.below (below_alloc _ _)⟩
  · exact ⟨_, tab_cells _ _ _ _ _ _ rfl rfl, p1.below (below_alloc _ _)⟩
  · exact ⟨_, tab_cells _ _ _ _ _ _ rfl rfl, p2.below (below_alloc _ _)⟩
  · exact ⟨_, tab_cells _ _ _ _ _ _ rfl rfl, p7.below (below_alloc _ _)⟩
  · exact ⟨_, tab_cells _ _ _ _ _ _ rfl rfl, p10.below (below_alloc _ _)⟩
theorem enc_none {d k : Nat} {s : ByteArray} (hk : k < 6) (hs : s.size = 4097 + d) : encF (eshp d k).1 (eshp d k).2 ((etab d s).getD k []) = ([], 600) := by
  unfold encF
  rw [if_neg]
  rintro ⟨h1, h2, h3⟩
  unfold ShpMay at h1
  match k, hk with
  | 0, _ => simp [eshp] at h1
  | 1, _ => simp [eshp] at h1
  | 2, _ => simp [eshp, etab] at h2
  | 3, _ => have := (h3 1 (by simp [etab])).1; simp [etab, txtA] at this; exact absurd this (by decide)
  | 4, _ => have := (h3 0 (by simp [etab])).2; simp [etab] at this; omega
  | 5, _ => simp [eshp] at h1; omega
theorem etab_len (d k : Nat) (s : ByteArray) (hd : d < 1024) : ((etab d s).getD k []).length ≤ 2000 := by
  match k with
  | 0 | 1 | 2 | 3 | 4 => simp [etab]
  | 5 => simp [etab]; omega
  | n + 6 => simp [etab]
theorem list13 {α : Type} {vs : List α} (h : vs.length = 13) : ∃ v0 v1 v2 v3 v4 v5 v6 v7 v8 v9 v10 v11 v12, vs = [v0, v1, v2, v3, v4, v5, v6, v7, v8, v9, v10, v11, v12] := by
  match vs, h with
  | [v0, v1, v2, v3, v4, v5, v6, v7, v8, v9, v10, v11, v12], _ => exact ⟨_, _, _, _, _, _, _, _, _, _, _, _, _, rfl⟩
theorem shp_cells {w : World} {g : Nat} {T : TypeId} {d : Nat} (h : w.heap[g]? = some (.cells #[.int .i64 0, .int .i64 0, .int .i64 2, .int .i64 3, .int .i64 2, .int .i64 1, .int .i64 2, .int .i64 1, .int .i64 1, .int .i64 1, .int .i64 (4 + (1 + (d : Int))), .int .i64 0] T (0, 0))) {k : Nat} (hk : k < 6) :
    w.cell? ⟨g, k * 2, none⟩ = some (.int .i64 (eshp d k).1) ∧ w.cell? ⟨g, k * 2 + 1, none⟩ = some (.int .i64 (eshp d k).2) := by
  have hj : k = 0 ∨ k = 1 ∨ k = 2 ∨ k = 3 ∨ k = 4 ∨ k = 5 := by omega
  rcases hj with rfl | rfl | rfl | rfl | rfl | rfl <;> exact ⟨by rw [cell_of_row _ _ _ _ _ _ h]; rfl, by rw [cell_of_row _ _ _ _ _ _ h]; rfl⟩
set_option maxRecDepth 100000 in
set_option maxHeartbeats 4000000 in
theorem EncodeForms_walk {w : World} (hm : Made w) (a0 : Int) (w0 : (Lit.int .i64 a0).wf = true) (a1 : Int) (w1 : (Lit.int .i64 a1).wf = true) :
    Calls Tryd.prog 3 #[.int .i64 a0, .int .i64 a1] w fun e w' => e = .returned (.bool true) ∧ Below w.heap.size w w' := by
  have MD := hide hm
  clear hm
  have hx : ∃ d : Nat, d < 1024 ∧ bits .and .i64 a1 1023 = (d : Int) := by
    refine ⟨(a1 % 1024).toNat, by omega, ?_⟩
    rw [and_1023]; omega
  obtain ⟨d, hd, hx⟩ := hx
  obtain ⟨k, hk0, ek⟩ := modK a0 6 (by decide) (by decide)
  have hk : k < 6 := by omega
  have hmk3 : ∀ w, (Instr.makeSlice 27 (.int .i64 (4096 + (1 + (d : Int)))) (.int .i64 (4096 + (1 + (d : Int))))).run Tryd.prog w = .ok (.slice (some ⟨w.heap.size, 0, none⟩) (4097 + d) (4097 + d)) (w.alloc (.cells (madeCells #[.int .u8 0] (4097 + d)) 5)) := fun w => by
    have := run_make_row' (P := Tryd.prog) 27 5 (.int .u8 0) 1 Tryd.underlying27 Tryd.infoByte rfl .i64 .i64 (4097 + d) (by omega) (by omega) w
    rw [show ((4097 + d : Nat) : Int) = 4096 + (1 + (d : Int)) by omega] at this
    exact this
  have hmk2 : ∀ w, (Instr.makeSlice 26 (.int .i64 (4 + (1 + (d : Int)))) (.int .i64 (4 + (1 + (d : Int))))).run Tryd.prog w = .ok (.slice (some ⟨w.heap.size, 0, none⟩) (5 + d) (5 + d)) (w.alloc (.cells (madeCells #[.string ByteArray.empty] (5 + d)) 9)) := fun w => by
    have := run_make_row' (P := Tryd.prog) 26 9 (.string ByteArray.empty) 16 Tryd.underlying26 Tryd.infoText rfl .i64 .i64 (5 + d) (by omega) (by omega) w
    rw [show ((5 + d : Nat) : Int) = 4 + (1 + (d : Int)) by omega] at this
    exact this
  go_enter Tryd.func3, Tryd.ntmps3
  go_wp2_with (go_at_call 4; refine (awake6_any _ (unhide MD)).mono ?_; rintro e w1 ⟨rfl, hb1⟩)
  refine wp_with (fun W => W.heap[w1.heap.size]? = some (.cells #[.int .i64 0, .int .i64 0, .int .i64 2, .int .i64 3, .int .i64 2, .int .i64 1, .int .i64 2, .int .i64 1, .int .i64 1, .int .i64 1, .int .i64 (4 + (1 + (d : Int))), .int .i64 0] 24 (0, 0)) ∧ Below w1.heap.size w1 W) ?_ ?_
  · exact ⟨heap_alloc_new _ _, below_alloc _ _⟩
  · rintro W ⟨hT, hbW⟩
    have HT := hide hT
    have hb2 := hide (bt hb1 hbW)
    clear hT hb1 hbW
    refine wp_region_each (by kernel_rfl) [25, 26, 27, 28, 29, 30, 31, 32, 33, 34, 35, 36, 7] (predE d) rfl ?_ (by kernel_rfl) (predE_stable d) ?_ ?_
    · refine ⟨[undef, undef, undef, undef, undef, undef, undef, undef, undef, undef, undef, undef, undef], rfl, ?_⟩
      kernel_rfl
    · intro i o vs w' ho hlen hb hdep
      obtain ⟨v0, v1, v2, v3, v4, v5, v6, v7, v8, v9, v10, v11, v12, rfl⟩ := list13 hlen
      match i with
      | 0 =>
        refine wpOp_of_list rfl ?_
        simp only [putAll]
        go_wp2
        exact ⟨.slice (some ⟨w'.heap.size, 0, none⟩) 2 2, by kernel_rfl, strsV_lit w' [txtA, txtB] 9 2 _ rfl rfl, below_alloc _ _⟩
      | 1 =>
        refine wpOp_of_list rfl ?_
        simp only [putAll]
        go_wp2
        exact ⟨.slice (some ⟨w'.heap.size, 0, none⟩) 1 1, by kernel_rfl, strsV_lit w' [txtA] 9 1 _ rfl rfl, below_alloc _ _⟩
      | 2 =>
        refine wpOp_of_list rfl ?_
        simp only [putAll]
        go_wp2
        exact ⟨.slice (some ⟨w'.heap.size, 0, none⟩) 2 2, by kernel_rfl, strsV_lit w' [txtA, ByteArray.empty] 9 2 _ rfl rfl, below_alloc _ _⟩
      | 3 =>
        refine wpOp_of_list rfl ?_
        simp only [putAll]
        go_wp2
        exact ⟨.int .i64 (1 + (d : Int)), by kernel_rfl, rfl, Below.refl _ _⟩
      | 4 =>
        obtain rfl : v3 = _ := hdep ⟨3, .data⟩ (by cases ho; simp) rfl
        refine wpOp_of_list rfl ?_
        simp only [putAll]
        go_wp2
        exact ⟨.int .i64 (4096 + (1 + (d : Int))), by kernel_rfl, rfl, Below.refl _ _⟩
      | 5 =>
        obtain rfl : v4 = _ := hdep ⟨4, .data⟩ (by cases ho; simp) rfl
        refine wpOp_of_list rfl ?_
        simp only [putAll]
        go_wp2
        exact ⟨.slice (some ⟨w'.heap.size, 0, none⟩) (4097 + d) (4097 + d), by kernel_rfl, ⟨_, rfl, made_bytes w' (4097 + d) 5⟩, below_alloc _ _⟩
      | 6 =>
        obtain ⟨g, hv, hcell⟩ : ∃ g, v5 = .slice (some ⟨g, 0, none⟩) (4097 + d) (4097 + d) ∧ ∀ i, i < 4097 + d → w'.cell? ⟨g, 0 + i, none⟩ = some (.int .u8 ((List.replicate (4097 + d) (0 : Int)).getD i 0)) := hdep ⟨5, .data⟩ (by cases ho; simp) rfl
        subst hv
        have hcv := run_convert_bytes_arg (P := Tryd.prog) w' 27 5 Tryd.underlying27 Tryd.underlying5 g 0 (4097 + d) (4097 + d) (List.replicate (4097 + d) (0 : Int)) (by simp) hcell 9 Tryd.underlying9
        clear hcell
        refine wpOp_of_list rfl ?_
        simp only [putAll]
        go_wp2
        exact ⟨.string (strOfNums (List.replicate (4097 + d) (0 : Int))), by kernel_rfl, ⟨_, rfl, by rw [strOfNums_size]; simp⟩, Below.refl _ _⟩
      | 7 =>
        obtain ⟨s, rfl, hs⟩ : ∃ s : ByteArray, v6 = .string s ∧ s.size = 4097 + d := hdep ⟨6, .data⟩ (by cases ho; simp) rfl
        refine wpOp_of_list rfl ?_
        simp only [putAll]
        go_wp2
        exact ⟨.slice (some ⟨w'.heap.size, 0, none⟩) 1 1, by kernel_rfl, ⟨s, hs, strsV_lit w' [s] 9 1 _ rfl rfl⟩, below_alloc _ _⟩
      | 8 =>
        refine wpOp_of_list rfl ?_
        simp only [putAll]
        go_wp2
        exact ⟨.int .i64 (1 + (d : Int)), by kernel_rfl, rfl, Below.refl _ _⟩
      | 9 =>
        obtain rfl : v8 = _ := hdep ⟨8, .data⟩ (by cases ho; simp) rfl
        refine wpOp_of_list rfl ?_
        simp only [putAll]
        go_wp2
        exact ⟨.int .i64 (4 + (1 + (d : Int))), by kernel_rfl, rfl, Below.refl _ _⟩
      | 10 =>
        obtain rfl : v9 = _ := hdep ⟨9, .data⟩ (by cases ho; simp) rfl
        refine wpOp_of_list rfl ?_
        simp only [putAll]
        go_wp2
        exact ⟨.slice (some ⟨w'.heap.size, 0, none⟩) (5 + d) (5 + d), by kernel_rfl, ⟨_, _, _, rfl, strs_made_at w' (5 + d) 9 _ rfl⟩, below_alloc _ _⟩
      | 11 =>
        have p0 : StrsV w' v0 [txtA, txtB] := hdep ⟨0, .data⟩ (by cases ho; simp) rfl
        have p1 : StrsV w' v1 [txtA] := hdep ⟨1, .data⟩ (by cases ho; simp) rfl
        have p2 : StrsV w' v2 [txtA, ByteArray.empty] := hdep ⟨2, .data⟩ (by cases ho; simp) rfl
        obtain ⟨s, hs, p7⟩ : ∃ s : ByteArray, s.size = 4097 + d ∧ StrsV w' v7 [s] := hdep ⟨7, .data⟩ (by cases ho; simp) rfl
        have p10 : StrsV w' v10 (List.replicate (5 + d) ByteArray.empty) := hdep ⟨10, .data⟩ (by cases ho; simp) rfl
        have T := hide (tab6 (T := 26) p0 p1 p2 p7 p10)
        obtain ⟨a0', n0', c0', e0', p0⟩ := p0
        obtain ⟨a1', n1', c1', e1', p1⟩ := p1
        obtain ⟨a2', n2', c2', e2', p2⟩ := p2
        obtain ⟨a7', n7', c7', e7', p7⟩ := p7
        obtain ⟨a10', n10', c10', e10', p10⟩ := p10
        clear p0 p1 p2 p7 p10
        subst e0' e1' e2' e7' e10'
        refine wpOp_of_list rfl ?_
        simp only [putAll]
        go_wp2
        exact ⟨.slice (some ⟨w'.heap.size, 0, none⟩) 6 6, by kernel_rfl, ⟨s, hs, unhide T⟩, below_alloc _ _⟩
      | 12 =>
        obtain ⟨s, hs, T⟩ : ∃ s : ByteArray, s.size = 4097 + d ∧ TabS w' v11 (etab d s) := hdep ⟨11, .data⟩ (by cases ho; simp) rfl
        have HTT := hide T
        obtain ⟨g, e, _⟩ := T
        subst e
        refine wpOp_of_list rfl ?_
        simp only [putAll]
        go_wp2
        exact ⟨_, by kernel_rfl, ⟨s, hs, unhide HTT⟩, Below.refl _ _⟩
      | n + 13 => simp at ho
    · intro vs w' hlen hb hp
      obtain ⟨v0, v1, v2, v3, v4, v5, v6, v7, v8, v9, v10, v11, v12, rfl⟩ := list13 hlen
      obtain ⟨s, hs, T⟩ : ∃ s : ByteArray, s.size = 4097 + d ∧ TabS w' v12 (etab d s) := hp 12 (by simp)
      have hT := (hb.block _ (lt_of_block (unhide HT))).trans (unhide HT)
      obtain ⟨c0, c1⟩ := shp_cells hT hk
      obtain ⟨gr, er, hrs⟩ := T
      have er' : v12 = .slice (some ⟨gr, 0, none⟩) 6 6 := er
      subst er'
      obtain ⟨u', hu', a', n', c', rfl, hS⟩ := hrs k hk
      have hn' : n' ≤ 2000 := by rw [← hS.1]; exact etab_len d k s hd
      have hb3 := hide (bt (unhide hb2) hb)
      have HS := hide hS
      have eE := enc_none (d := d) hk hs
      obtain ⟨X, eX⟩ : ∃ X, X = (eshp d k).1 := ⟨_, rfl⟩
      obtain ⟨Y, eY⟩ : ∃ Y, Y = (eshp d k).2 := ⟨_, rfl⟩
      rw [← eX] at c0 eE
      rw [← eY] at c1 eE
      have EE := hide eE
      clear hrs hp hb hb2 hS HT hT er eX eY eE
      have hk' : (k : Int) < 6 := by omega
      have g0 := kept_cell (B := w'.heap.size) c0 (cell_lt c0)
      have g1 := kept_cell (B := w'.heap.size) c1 (cell_lt c1)
      have g2 := kept_cell (B := w'.heap.size) hu' (cell_lt hu')
      clear c0 c1 hu'
      simp only [putAll]
      go_wp2_with fail
      simp only [ek]
      refine wp_region_ord_then (S := Below w'.heap.size w') [(true, 0), (true, 1), (true, 2), (true, 3), (true, 4), (true, 5), (true, 6), (true, 7), (false, 8), (true, 9), (true, 10), (true, 11), (true, 12)] (List.cons_ne_nil _ _) (by kernel_rfl) (by kernel_rfl) (by kernel_rfl) (by kernel_rfl) (by kernel_rfl) ((Below.refl _ _).drew) ?_
      simp only [List.dropLast_cons_cons, List.dropLast_singleton, List.getLast_cons_cons, List.getLast_singleton, withOps, List.map_cons, List.map_nil, List.getElem?_cons_succ, List.getElem?_cons_zero]
      repeat (refine walkH_read (by rfl) (by (intro gx; go_simp; try (with_reducible rfl))) ?_; try simp only [Act.put, List.setIfInBounds_toArray, List.set_cons_zero, List.set_cons_succ])
      refine walkH_do rfl (fun K hK => ?_)
      go_simp
      refine (encEncode_fun X Y _ _ _ ((etab d s).getD k []) _ ((unhide HS).below (below_drewN _ _ 1)) (by omega) (((unhide MD).up (unhide hb3)).up (below_drewN _ _ 1))).mono ?_
      rintro e w4 ⟨v4, he, O4, b4⟩
      rw [unhide EE] at he O4
      subst he
      obtain ⟨p4, c4, rfl, S4⟩ := O4.strs
      have hb4 : Below w'.heap.size w' w4 := ((Below.refl _ _).drew).trans b4
      refine hK _ _ hb4 ?_
      clear hK K
      try simp only [Act.put, List.setIfInBounds_toArray, List.set_cons_zero, List.set_cons_succ]
      replace hb3 := hide (bt (unhide hb3) hb4)
      clear b4 hb4 O4 S4
      repeat (refine walkH_read (by rfl) (by (intro gx; go_simp; try (with_reducible rfl))) ?_; try simp only [Act.put, List.setIfInBounds_toArray, List.set_cons_zero, List.set_cons_succ])
      refine lastPost_of_list ?_
      simp only [List.cons_append, List.nil_append]
      go_wp2
      refine NoPanic.normal ?_
      go_wp2_with (go_at_call 6; refine (num_any _ _).mono ?_; rintro e w5 ⟨rfl, rfl⟩)
      go_ret
      exact ⟨rfl, unhide hb3⟩
end Go.Proofs.YtfeepmjkamdldabDoor
