/- Texts of one proof, one behind the other: GenWalk, Awake3, Awake5, GenFormsWalk, Same, Allocs, GenTableWalk, MemOpen, Laid. -/
import Derived.Test.YtfeepmjkamdldaaDoorGenW1
import Derived.Test.YtfeepmjkamdldaaDoorInvWalk
import Derived.Test.YtfeepmjkamdldaaDoorMatWalk
import Derived.Test.YtfeepmjkamdldaaDoorBits
import Derived.Test.YtfeepmjkamdldaaDoorGrow
import Derived.Test.YtfeepmjkamdldaaDoorLaw0M
import Derived.Test.YtfeepmjkamdldaaDoorMem
import Derived.Test.YtfeepmjkamdldaaDoorRows
import Derived.Test.YtfeepmjkamdldaaDoorMade
import Derived.ProofKit
import Derived.LaidMore
import Derived.OpenShut
import Derived.Stop.Joined
/- Package gen: the code's matrix: the walk. -/
namespace Go.Proofs.YtfeepmjkamdldaaDoor
open Go.RowKit
set_option linter.unusedVariables false
set_option linter.unusedSimpArgs false
attribute [local go_sem ↓] Go.wp_at_zero Go.wp_at_succ
set_option maxRecDepth 100000 in
set_option maxHeartbeats 4000000 in
theorem genSys_any (d p R gu cu : Nat) (w : World) (h1 : 1 ≤ d) (h2 : d ≤ 4) (h3 : p ≤ 2) (eR : R = d + p) (hcu : R ≤ cu) (hcu2 : cu ≤ maxLen) (hV : RowsV w (some ⟨gu, 0, none⟩) R cu (vanM R d)) :
    Calls Tryd.prog 25 #[.agg #[.slice (some ⟨gu, 0, none⟩) R cu], .int .i64 d] w fun e w' => ∃ u, e = .returned (.agg #[u]) ∧ OwnM w' w.heap.size 38 3 u (genM d p) ∧ Below w.heap.size w w' := by
  unfold maxLen at hcu2
  have hRd : d ≤ R := by omega
  have hdc : (d : Int) ≤ cu := by omega
  have hVd : RowsV w (some ⟨gu, 0, none⟩) d cu (vanM d d) := by
    have := hV.take hRd h1
    rwa [vanM, matF_take _ _ _ _ hRd] at this
  have HV := hide (show MatV w (.agg #[.slice (some ⟨gu, 0, none⟩) R cu]) (vanM R d) from ⟨_, _, _, rfl, hV⟩)
  have HVd := hide (show MatV w (.agg #[.slice (some ⟨gu, 0, none⟩) d cu]) (vanM d d) from ⟨_, _, _, rfl, hVd⟩)
  have ER := hide eR
  clear hV hVd eR
  go_enter Tryd.func25, Tryd.ntmps25
  have gb := below_two w (.cells #[.slice (some ⟨gu, 0, none⟩) R cu] 26) (.cells #[.slice none 0 0] 26)
  go_wp2_with fail
  have B0 := hide (two_old w (.cells #[.slice (some ⟨gu, 0, none⟩) R cu] 26) (.cells #[.slice none 0 0] 26))
  have B1 := hide (two_new w (.cells #[.slice (some ⟨gu, 0, none⟩) R cu] 26) (.cells #[.slice none 0 0] 26))
  have HB := hide gb
  have HV1 := hide ((unhide HV).below gb)
  have HVd1 := hide ((unhide HVd).below gb)
  clear gb HV HVd
  generalize ((w.alloc (.cells #[.slice (some ⟨gu, 0, none⟩) R cu] 26)).alloc (.cells #[.slice none 0 0] 26)) = W at *
  refine (invInvert_any _ (vanM d d) W (unhide HVd1)).mono ?_
  rintro e w3 ⟨u3, r3, hr3, rfl, hO3, gb⟩
  obtain rfl := top_inv h1 h2 hr3
  obtain ⟨p3, n3, c3, rfl, hn3⟩ := hO3.form
  have MT := hide (hO3.matV (rows_le (topI_inv d (by omega) h1).1))
  replace B0 := hide ((gb.block _ (lt_of_block (unhide B0))).trans (unhide B0))
  replace B1 := hide ((gb.block _ (lt_of_block (unhide B1))).trans (unhide B1))
  replace HV1 := hide ((unhide HV1).below gb)
  replace HB := hide (bt (unhide HB) gb)
  clear gb hr3 hO3 hn3 HVd1
  have c0 := cell_of_one (unhide B0)
  have d0 := fun o => ((below_alloc w3 o).cell (cell_lt c0)).trans c0
  go_wp2_with fail
  have gb := below_alloc w3 (.cells #[.slice p3 n3 c3] 26)
  replace B0 := hide ((gb.block _ (lt_of_block (unhide B0))).trans (unhide B0))
  replace B1 := hide ((gb.block _ (lt_of_block (unhide B1))).trans (unhide B1))
  replace HV1 := hide ((unhide HV1).below gb)
  replace MT := hide ((unhide MT).below gb)
  replace HB := hide (bt (unhide HB) gb)
  clear c0 d0 gb
  generalize (w3.alloc (.cells #[.slice p3 n3 c3] 26)) = w4 at *
  refine (matMul_fun _ _ _ _ w4 (unhide HV1) (unhide MT)).mono ?_
  rintro e w5 ⟨u5, rfl, hO5, gb⟩
  have eM : mulF (vanM R d) (topI d, (0 : Int)).1 = (genM d p, 0) := by rw [unhide ER]; exact top_mul h1 h2 h3
  rw [eM] at hO5 ⊢
  have hsw4 := lt_of_block (unhide B1)
  obtain ⟨p5, n5, c5, rfl, hn5⟩ := hO5.form
  replace B0 := hide ((gb.block _ (lt_of_block (unhide B0))).trans (unhide B0))
  replace B1 := hide ((gb.block _ (lt_of_block (unhide B1))).trans (unhide B1))
  replace HB := hide (bt (unhide HB) gb)
  have HO := hide hO5
  have hs5 := gb.size
  clear gb hn5 hO5 eM
  have c1 := cell_of_one (unhide B1)
  have f1 := free_of_one (unhide B1)
  have d1 := fun o => ((below_alloc w5 o).cell (cell_lt c1)).trans c1
  have e1 := fun o => ((below_alloc w5 o).frozen (p := ⟨w.heap.size + 1, 0, none⟩) (cell_lt c1)).trans f1
  clear c1 f1
  go_wp2
  have B5 := (heap_alloc_old w5 (.cells #[.slice p5 n5 c5] 26) (lt_of_block (unhide B1))).trans (unhide B1)
  have cr := cell_of_one (one_setCell (u := .slice p5 n5 c5) B5)
  have hB := bt (unhide HB) (below_alloc w5 (.cells #[.slice p5 n5 c5] 26))
  refine bodyPost_ret (v := .agg #[.slice p5 n5 c5]) (by simp [results, Tryd.results25, go_sem, cr]) rfl ⟨_, rfl, ?_, hB.setCell (by show _ ≤ w.heap.size + 1; omega) _⟩
  exact (((unhide HO).below (below_alloc _ _)).setBelow (by show w.heap.size + 1 < _; omega) _).mono (by omega)
theorem own_slice {w : World} {B : Nat} {T E : TypeId} {u : Value} {M : List (List Int)} (h : OwnM w B T E u M) (hM : 0 < M.length) (hl : M.length ≤ maxLen) (hr : ∀ j, (M.getD j []).length ≤ maxLen) : ∃ g cap, u = .slice (some ⟨g, 0, none⟩) M.length cap ∧ M.length ≤ cap ∧ cap ≤ maxLen ∧ RowsV w (some ⟨g, 0, none⟩) M.length cap M := by
  obtain ⟨a, cap, e, hv⟩ := h.rows hl hr
  obtain ⟨us, hR⟩ := h
  obtain ⟨g, cap', e', hg, hle, hle2, _⟩ := own_form (n := us.length) hR.outer (by rw [hR.len]; exact hM)
  rw [hR.len] at e' hle
  rw [e] at e'
  simp only [Value.slice.injEq, true_and] at e'
  obtain ⟨rfl, rfl⟩ := e'
  exact ⟨g, cap, e, hle, hle2, hv⟩
set_option maxRecDepth 100000 in
set_option maxHeartbeats 4000000 in
theorem genMatrix_yes (d p : Nat) (w : World) (h1 : 1 ≤ d) (h2 : d ≤ 4) (h3 : p ≤ 2) (hm : Made w) :
    Calls Tryd.prog 9 #[.agg #[.int .i64 d, .int .i64 p]] w fun e w' => ∃ u, e = .returned (.tuple #[.agg #[u], .int .i64 0]) ∧ OwnM w' w.heap.size 38 3 u (genM d p) ∧ Below w.heap.size w w' := by
  have hsh : ShpMay d p := by unfold ShpMay; omega
  have HS := hide hsh
  have MD := hide hm
  clear hsh hm
  go_enter Tryd.func9, Tryd.ntmps9
  go_wp2_with fail
  have B0 := hide (two_old w (.cells #[.int .i64 d, .int .i64 p] 23) (.cells #[.slice none 0 0] 26))
  have B1 := hide (two_new w (.cells #[.int .i64 d, .int .i64 p] 23) (.cells #[.slice none 0 0] 26))
  have HB := hide (below_two w (.cells #[.int .i64 d, .int .i64 p] 23) (.cells #[.slice none 0 0] 26))
  generalize ((w.alloc (.cells #[.int .i64 d, .int .i64 p] 23)).alloc (.cells #[.slice none 0 0] 26)) = W at *
  refine (genMay_yes d p W (unhide HS) ((unhide MD).up (unhide HB))).mono ?_
  rintro e w1 ⟨rfl, gb⟩
  replace B0 := hide ((gb.block _ (lt_of_block (unhide B0))).trans (unhide B0))
  replace B1 := hide ((gb.block _ (lt_of_block (unhide B1))).trans (unhide B1))
  replace HB := hide (bt (unhide HB) gb)
  have hs1 := gb.size
  clear gb
  obtain ⟨c0, c0'⟩ := box_two (unhide B0)
  have k0 := kept_cell (B := w.heap.size + 1) c0 (by show w.heap.size < _; omega)
  have k0' := kept_cell (B := w.heap.size + 1) c0' (by show w.heap.size < _; omega)
  have hsw := lt_of_block (unhide B1)
  clear c0 c0'
  go_wp2
  refine wp_region_ord_then (S := Below (w.heap.size + 1) w1) [(true, 0), (true, 2), (true, 3), (false, 1), (false, 4), (false, 5)] (List.cons_ne_nil _ _) (by kernel_rfl) (by kernel_rfl) (by kernel_rfl) (by kernel_rfl) (by kernel_rfl) ((Below.refl _ _).drew) ?_
  simp only [List.dropLast_cons_cons, List.dropLast_singleton, List.getLast_cons_cons, List.getLast_singleton, withOps, List.map_cons, List.map_nil, List.getElem?_cons_succ, List.getElem?_cons_zero]
  repeat (refine walkH_read (by rfl) (by (intro gx; go_simp; try (with_reducible rfl))) ?_; try simp only [Act.put, List.setIfInBounds_toArray, List.set_cons_zero, List.set_cons_succ])
  refine walkH_do rfl (fun K hK => ?_)
  go_simp
  refine (genPowers_any d p _ h1 h2 h3).mono ?_
  rintro e w2 ⟨u2, rfl, hO2, b2⟩
  have hb2 : Below w1.heap.size w1 w2 := ((Below.refl _ _).drew).trans b2
  refine hK _ _ (hb2.mono (by omega)) ?_
  clear hK K
  try simp only [Act.put, List.setIfInBounds_toArray, List.set_cons_zero, List.set_cons_succ]
  obtain ⟨R, eR⟩ : ∃ R : Nat, R = d + p := ⟨_, rfl⟩
  rw [← eR] at hO2
  have hlen : (vanM R d).length = R := by rw [vanM, matF_len]
  obtain ⟨g2, c2, rfl, hc2, hc2', hV2⟩ := own_slice hO2 (by omega) (by rw [hlen]; unfold maxLen; omega) (fun j => Nat.le_trans (mrow_le (van_may (by omega) (by omega) h1 (by omega)) j) (by decide))
  rw [hlen] at hc2 hV2 ⊢
  have HV2 := hide hV2
  have ER := hide eR
  clear hV2 hO2 eR
  repeat (refine walkH_read (by rfl) (by (intro gx; go_simp; try (with_reducible rfl))) ?_; try simp only [Act.put, List.setIfInBounds_toArray, List.set_cons_zero, List.set_cons_succ])
  refine walkH_do rfl (fun K hK => ?_)
  go_simp
  refine (genSys_any d p R g2 c2 w2 h1 h2 h3 (unhide ER) hc2 hc2' (unhide HV2)).mono ?_
  rintro e w3 ⟨u3, rfl, hO3, b3⟩
  have hb3 : Below w1.heap.size w1 w3 := bt hb2 b3
  refine hK _ _ (hb3.mono (by omega)) ?_
  clear hK K
  try simp only [Act.put, List.setIfInBounds_toArray, List.set_cons_zero, List.set_cons_succ]
  obtain ⟨p3, n3, c3, rfl, hn3⟩ := hO3.form
  have hs2 := b2.size
  have hs12 := hb2.size
  have hS := (hb3.mono (show w.heap.size + 1 ≤ w1.heap.size by omega)).setCell (p := ⟨w.heap.size + 1, 0, none⟩) (Nat.le_refl _) (.slice p3 n3 c3)
  have hO3' := hide (hO3.mono (B' := w.heap.size + 2) (by omega))
  replace B0 := hide ((hb3.block _ (lt_of_block (unhide B0))).trans (unhide B0))
  replace B1 := hide ((hb3.block _ (lt_of_block (unhide B1))).trans (unhide B1))
  replace HB := hide (bt (unhide HB) hb3)
  clear hb3 b3 hb2 b2 hO3 hn3 hc2 hc2' HV2 k0 k0'
  have c1 := cell_of_one (unhide B1)
  have f1 := free_of_one (unhide B1)
  repeat (refine walkH_read (by rfl) (by (intro gx; go_simp; try (with_reducible rfl))) ?_; try simp only [Act.put, List.setIfInBounds_toArray, List.set_cons_zero, List.set_cons_succ])
  refine walkH_do rfl (fun K hK => ?_)
  go_simp
  refine hK _ _ hS ?_
  clear hK K hS
  try simp only [Act.put, List.setIfInBounds_toArray, List.set_cons_zero, List.set_cons_succ]
  refine lastPost_of_list ?_
  simp only [List.cons_append, List.nil_append]
  go_wp2
  refine NoPanic.normal ?_
  go_wp2
  have cr := cell_of_one (one_setCell (u := .slice p3 n3 c3) (unhide B1))
  refine bodyPost_ret (v := .tuple #[.agg #[.slice p3 n3 c3], .int .i64 0]) (by simp [results, Tryd.results9, go_sem, cr]) rfl ⟨_, rfl, ?_, (unhide HB).setCell (by show _ ≤ w.heap.size + 1; omega) _⟩
  exact ((unhide hO3').setBelow (by show w.heap.size + 1 < _; omega) _).mono (by omega)
set_option maxRecDepth 100000 in
set_option maxHeartbeats 1000000 in
theorem genMatrix_no (d p : Int) (w : World) (h : ¬ ShpMay d p) : Calls Tryd.prog 9 #[.agg #[.int .i64 d, .int .i64 p]] w fun e w' => e = .returned (.tuple #[.agg #[.slice none 0 0], .int .i64 500]) ∧ Below w.heap.size w w' := by
  have H := hide h
  clear h
  go_enter Tryd.func9, Tryd.ntmps9
  go_wp2_with fail
  have k2 := hide (two_new w (.cells #[.int .i64 d, .int .i64 p] 23) (.cells #[.slice none 0 0] 26))
  have k3 := hide (below_two w (.cells #[.int .i64 d, .int .i64 p] 23) (.cells #[.slice none 0 0] 26))
  generalize ((w.alloc (.cells #[.int .i64 d, .int .i64 p] 23)).alloc (.cells #[.slice none 0 0] 26)) = W at *
  refine (genMay_no d p W (unhide H)).mono ?_
  rintro e w1 ⟨rfl, gb⟩
  replace k2 := hide ((gb.block _ (lt_of_block (unhide k2))).trans (unhide k2))
  replace k3 := hide (bt (unhide k3) gb)
  clear gb
  have c1 := cell_of_one (unhide k2)
  have f1 := free_of_one (unhide k2)
  go_wp2
  have cr := cell_of_one (one_setCell (u := .slice none 0 0) (unhide k2))
  refine bodyPost_ret (v := .tuple #[.agg #[.slice none 0 0], .int .i64 500]) (by simp [results, Tryd.results9, go_sem, cr]) rfl ⟨rfl, (unhide k3).setCell (by show _ ≤ w.heap.size + 1; omega) _⟩
theorem genMatrix_fun (d p : Int) (w : World) (hm : Made w) :
    Calls Tryd.prog 9 #[.agg #[.int .i64 d, .int .i64 p]] w fun e w' => ∃ u, e = .returned (.tuple #[.agg #[u], .int .i64 (genF d p).2]) ∧ OwnM w' w.heap.size 38 3 u (genF d p).1 ∧ Below w.heap.size w w' := by
  by_cases h : ShpMay d p
  · have h' := h
    unfold ShpMay at h'
    obtain ⟨n, rfl⟩ : ∃ n : Nat, d = n := ⟨d.toNat, by omega⟩
    obtain ⟨m, rfl⟩ : ∃ m : Nat, p = m := ⟨p.toNat, by omega⟩
    refine (genMatrix_yes n m w (by omega) (by omega) (by omega) hm).mono ?_
    rintro e w' ⟨u, rfl, ho, hB⟩
    simp only [genF, if_pos h, Int.toNat_natCast]
    exact ⟨u, rfl, ho, hB⟩
  · refine (genMatrix_no d p w h).mono ?_
    rintro e w' ⟨rfl, hB⟩
    simp only [genF, if_neg h]
    exact ⟨_, rfl, OwnM.nil _ _ _ _, hB⟩
end Go.Proofs.YtfeepmjkamdldaaDoor
/- 'awake' of the statements over package matrix returns true. -/
namespace Go.Proofs.YtfeepmjkamdldaaDoor
open Go.RowKit
set_option linter.unusedVariables false
set_option linter.unusedSimpArgs false
theorem rows_of_cells {w : World} {b off n cap : Nat} {M : List (List Int)} (hl : M.length = n) (h1 : 1 ≤ n) (hc : n ≤ cap) (hn : n ≤ maxLen) (h : ∀ i, i < n → ∃ u, w.cell? ⟨b, off + i, none⟩ = some u ∧ RowV w u (M.getD i [])) : RowsV w (some ⟨b, off, none⟩) n cap M := by
  refine ⟨fun i => if h' : i < n then (h i h').choose else undef, hl, hn, .inr (.inr ⟨h1, hc, b, off, rfl, fun i hi => ?_⟩), fun i hi => ?_⟩
  · simp only [dif_pos hi]; exact (h i hi).choose_spec.1
  · simp only [dif_pos hi]; exact (h i hi).choose_spec.2
theorem ints_block {w : World} {b n : Nat} {xs : List Int} {T : TypeId} {m : Nat × Nat} {C : Array Value} (h : w.heap[b]? = some (.cells C T m)) (hC : C = (xs.map (Value.int .i64)).toArray) (hl : xs.length = n) : Ints w (some ⟨b, 0, none⟩) n n xs := by
  subst hl hC
  refine ⟨rfl, ?_⟩
  by_cases h0 : xs.length = 0
  · exact .inr (.inl ⟨h0, _, rfl⟩)
  · refine .inr (.inr ⟨by omega, Nat.le_refl _, _, _, rfl, fun i hi => ?_⟩)
    rw [Nat.zero_add, cell_of_row _ _ i _ T m h]
    simp [List.getElem?_eq_getElem hi]
theorem row_block {w : World} {b n : Nat} {xs : List Int} {T : TypeId} {m : Nat × Nat} {C : Array Value} (h : w.heap[b]? = some (.cells C T m)) (hC : C = (xs.map (Value.int .i64)).toArray) (hl : xs.length = n) (hn : n ≤ maxLen) : RowV w (.slice (some ⟨b, 0, none⟩) n n) xs :=
  ⟨_, _, _, rfl, hn, ints_block h hC hl⟩
theorem mat2_lit (w : World) (T S : TypeId) (x y z t : Int) : MatV (((w.alloc (.cells #[.int .i64 x, .int .i64 y] T)).alloc (.cells #[.int .i64 z, .int .i64 t] T)).alloc (.cells #[.slice (some ⟨w.heap.size, 0, none⟩) 2 2, .slice (some ⟨w.heap.size + 1, 0, none⟩) 2 2] S)) (.agg #[.slice (some ⟨w.heap.size + 1 + 1, 0, none⟩) 2 2]) [[x, y], [z, t]] := by
  refine ⟨_, _, _, rfl, rows_of_cells rfl (by decide) (Nat.le_refl _) (by decide) (fun i hi => ?_)⟩
  have hi' : i = 0 ∨ i = 1 := by omega
  rcases hi' with rfl | rfl
  · exact ⟨_, cell_of_row _ _ 0 _ S (0, 0) (three_new _ _ _ _), row_block (three_old _ _ _ _) rfl rfl (by decide)⟩
  · exact ⟨_, cell_of_row _ _ 1 _ S (0, 0) (three_new _ _ _ _), row_block (three_mid _ _ _ _) rfl rfl (by decide)⟩
theorem four_0 (w : World) (o o' o'' o3 : Obj) : ((((w.alloc o).alloc o').alloc o'').alloc o3).heap[w.heap.size]? = some o := by
  rw [heap_alloc_old _ _ (by simp; omega), three_old]
theorem four_1 (w : World) (o o' o'' o3 : Obj) : ((((w.alloc o).alloc o').alloc o'').alloc o3).heap[w.heap.size + 1]? = some o' := by
  rw [heap_alloc_old _ _ (by simp <;> omega), three_mid]
theorem four_2 (w : World) (o o' o'' o3 : Obj) : ((((w.alloc o).alloc o').alloc o'').alloc o3).heap[w.heap.size + 1 + 1]? = some o'' := by
  rw [heap_alloc_old _ _ (by simp), three_new]
theorem four_3 (w : World) (o o' o'' o3 : Obj) : ((((w.alloc o).alloc o').alloc o'').alloc o3).heap[w.heap.size + 1 + 1 + 1]? = some o3 := by
  have := heap_alloc_new (((w.alloc o).alloc o').alloc o'') o3
  simpa using this
theorem mat3_lit (w : World) (T S : TypeId) (x y z t r s : Int) : MatV ((((w.alloc (.cells #[.int .i64 x, .int .i64 y] T)).alloc (.cells #[.int .i64 z, .int .i64 t] T)).alloc (.cells #[.int .i64 r, .int .i64 s] T)).alloc (.cells #[.slice (some ⟨w.heap.size, 0, none⟩) 2 2, .slice (some ⟨w.heap.size + 1, 0, none⟩) 2 2, .slice (some ⟨w.heap.size + 1 + 1, 0, none⟩) 2 2] S)) (.agg #[.slice (some ⟨w.heap.size + 1 + 1 + 1, 0, none⟩) 3 3]) [[x, y], [z, t], [r, s]] := by
  refine ⟨_, _, _, rfl, rows_of_cells rfl (by decide) (Nat.le_refl _) (by decide) (fun i hi => ?_)⟩
  have hi' : i = 0 ∨ i = 1 ∨ i = 2 := by omega
  rcases hi' with rfl | rfl | rfl
  · exact ⟨_, cell_of_row _ _ 0 _ S (0, 0) (four_3 _ _ _ _ _), row_block (four_0 _ _ _ _ _) rfl rfl (by decide)⟩
  · exact ⟨_, cell_of_row _ _ 1 _ S (0, 0) (four_3 _ _ _ _ _), row_block (four_1 _ _ _ _ _) rfl rfl (by decide)⟩
  · exact ⟨_, cell_of_row _ _ 2 _ S (0, 0) (four_3 _ _ _ _ _), row_block (four_2 _ _ _ _ _) rfl rfl (by decide)⟩
theorem matV_nil (w : World) : MatV w (.agg #[.slice none 0 0]) [] := ⟨_, _, _, rfl, fun _ => undef, rfl, by decide, .inl ⟨rfl, rfl, rfl⟩, fun i hi => by omega⟩
theorem id2 : idF 2 = ([[1, 0], [0, 1]], 0) := by decide +kernel
theorem mul2 : mulF [[1, 2], [3, 4]] [[1, 0], [0, 1]] = ([[1, 2], [3, 4]], 0) := by decide +kernel
theorem pick2 : pickF [[1, 2], [3, 4]] [1, 1, 0] = ([[3, 4], [3, 4], [1, 2]], 0) := by decide +kernel
theorem pick2' : pickF [[1, 2], [3, 4]] [2] = ([], 300) := by decide +kernel
theorem mul2' : mulF [[1, 2], [3, 4]] [[3, 4], [3, 4], [1, 2]] = ([], 300) := by decide +kernel
theorem may2 : decide (MMay [[1, 2], [3, 4]]) = true := by decide +kernel
theorem may0 : decide (MMay []) = false := by decide +kernel
theorem small2 {x y z t : Int} : [[x, y], [z, t]].length ≤ maxLen ∧ ∀ j, ([[x, y], [z, t]].getD j []).length ≤ maxLen := by
  refine ⟨by show 2 ≤ maxLen; decide, fun j => ?_⟩
  match j with
  | 0 => show 2 ≤ maxLen; decide
  | 1 => show 2 ≤ maxLen; decide
  | j + 2 => simp
theorem small3 {a b c d e f : Int} : [[a, b], [c, d], [e, f]].length ≤ maxLen ∧ ∀ j, ([[a, b], [c, d], [e, f]].getD j []).length ≤ maxLen := by
  refine ⟨by show 3 ≤ maxLen; decide, fun j => ?_⟩
  match j with
  | 0 => show 2 ≤ maxLen; decide
  | 1 => show 2 ≤ maxLen; decide
  | 2 => show 2 ≤ maxLen; decide
  | j + 3 => simp
theorem ints_new (w : World) (o : Obj) (xs : List Int) (T : TypeId) (C : Array Value) (n : Nat) (hC : C = (xs.map (Value.int .i64)).toArray) (hl : xs.length = n) : Ints ((w.alloc o).alloc (.cells C T)) (some ⟨w.heap.size + 1, 0, none⟩) n n xs :=
  ints_block (two_new w o (.cells C T)) hC hl
theorem ints_new0 (w : World) (xs : List Int) (T : TypeId) (C : Array Value) (n : Nat) (hC : C = (xs.map (Value.int .i64)).toArray) (hl : xs.length = n) : Ints (w.alloc (.cells C T)) (some ⟨w.heap.size, 0, none⟩) n n xs :=
  ints_block (heap_alloc_new w (.cells C T)) hC hl
end Go.Proofs.YtfeepmjkamdldaaDoor
/- 'awake' of the statements over package gen returns true. -/
namespace Go.Proofs.YtfeepmjkamdldaaDoor
open Go.RowKit
set_option linter.unusedVariables false
set_option linter.unusedSimpArgs false
theorem gen21 : genF 2 1 = ([[1, 0], [0, 1], [3, 2]], 0) := by decide +kernel
theorem gen00 : genF 0 0 = ([], 500) := by decide +kernel
theorem shp10 : decide (ShpMay 1 0) = true := by decide +kernel
theorem shp50 : decide (ShpMay 5 0) = false := by decide +kernel
theorem mat3_at (w : World) (T S : TypeId) (x y z t r s : Int) (H : Nat) (hH : w.heap.size = H) : MatV ((((w.alloc (.cells #[.int .i64 x, .int .i64 y] T)).alloc (.cells #[.int .i64 z, .int .i64 t] T)).alloc (.cells #[.int .i64 r, .int .i64 s] T)).alloc (.cells #[.slice (some ⟨H, 0, none⟩) 2 2, .slice (some ⟨H + 1, 0, none⟩) 2 2, .slice (some ⟨H + 1 + 1, 0, none⟩) 2 2] S)) (.agg #[.slice (some ⟨H + 1 + 1 + 1, 0, none⟩) 3 3]) [[x, y], [z, t], [r, s]] := by
  subst hH; exact mat3_lit w T S x y z t r s
set_option maxRecDepth 100000 in
set_option maxHeartbeats 1000000 in
theorem awake5_any (w : World) (hm : Made w) : Calls Tryd.prog 16 #[] w fun e w' => e = .returned (.bool true) ∧ Below w.heap.size w w' := by
  have MD := hide hm
  clear hm
  go_enter Tryd.func16, Tryd.ntmps16
  go_wp2_with fail
  refine (genMatrix_fun 2 1 _ (unhide MD)).mono ?_
  rintro e w1 ⟨u1, he, O1, b1⟩
  rw [gen21] at he O1
  subst he
  obtain ⟨p1, n1, c1, rfl, e1⟩ := O1.form
  have M1 := hide (O1.matV small3)
  have HB := hide b1
  clear O1 b1 e1
  go_wp2_with fail
  have BA := hide (heap_alloc_new w1 (.cells #[.slice p1 n1 c1] 26))
  have hx := below_alloc w1 (.cells #[.slice p1 n1 c1] 26)
  generalize (w1.alloc (.cells #[.slice p1 n1 c1] 26)) = W1 at *
  replace M1 := hide ((unhide M1).below hx)
  replace HB := hide (bt (unhide HB) hx)
  clear hx
  refine (genMatrix_fun 0 0 _ ((unhide MD).up (unhide HB))).mono ?_
  rintro e w2 ⟨u2, he, O2, b2⟩
  rw [gen00] at he O2
  subst he
  obtain ⟨p2, n2, c2, rfl, e2⟩ := O2.form
  replace BA := hide ((b2.block _ (lt_of_block (unhide BA))).trans (unhide BA))
  replace M1 := hide ((unhide M1).below b2)
  replace HB := hide (bt (unhide HB) b2)
  clear O2 b2 e2
  have cBA := cell_of_one (unhide BA)
  have dBA := fun o => ((below_alloc w2 o).cell (cell_lt cBA)).trans cBA
  go_wp2_with fail
  have m4 := mat3_at (w2.alloc (.cells #[.slice p2 n2 c2] 26)) 3 38 1 0 0 1 3 2 (w2.heap.size + 1) (by simp)
  refine (sameMatrix_any _ _ [[1, 0], [0, 1], [3, 2]] [[1, 0], [0, 1], [3, 2]] _ ((unhide M1).below (by go_grown)) m4).mono ?_
  rintro e w4 ⟨he, b4⟩
  rw [beq_self_eq_true] at he
  subst he
  replace b4 : Below w2.heap.size w2 w4 := bt (by go_grown) b4
  replace HB := hide (bt (unhide HB) b4)
  clear b4 m4 cBA dBA
  go_wp2_with (go_at_call 12; refine (num_any _ _).mono ?_; rintro e w' ⟨rfl, rfl⟩)
  refine (genMay_fun 1 0 _ ((unhide MD).up (unhide HB))).mono ?_
  rintro e w5 ⟨he, b5⟩
  rw [shp10] at he
  subst he
  replace HB := hide (bt (unhide HB) b5)
  clear b5
  go_wp2_with fail
  refine (genMay_fun 5 0 _ ((unhide MD).up (unhide HB))).mono ?_
  rintro e w6 ⟨he, b6⟩
  rw [shp50] at he
  subst he
  replace HB := hide (bt (unhide HB) b6)
  clear b6
  go_wp2
  go_ret
  exact ⟨rfl, unhide HB⟩
end Go.Proofs.YtfeepmjkamdldaaDoor
/- GenForms: shapes that may not be. -/
namespace Go.Proofs.YtfeepmjkamdldaaDoor
open Go.RowKit
set_option linter.unusedVariables false
set_option linter.unusedSimpArgs false
theorem mod5 (a : Int) : ∃ i : Nat, i < 5 ∧ wrap64 ((IntKind.u64.wrap a).tmod 5) = (i : Int) := by
  have h0 : IntKind.u64.wrap a = a % 18446744073709551616 := IntKind.wrap_u64 a
  have : 0 ≤ a % 18446744073709551616 := Int.emod_nonneg _ (by decide)
  rw [h0, Int.tmod_eq_emod_of_nonneg (by omega)]
  exact ⟨(a % 18446744073709551616 % 5).toNat, by omega, by unfold wrap64; omega⟩
theorem genF_no {d p : Int} (h : ¬ ShpMay d p) : genF d p = ([], 500) := by unfold genF; rw [if_neg h]
theorem forms_cells (T : TypeId) (d i : Nat) (hi : i < 5) : ∃ X Y : Int, ¬ ShpMay X Y ∧ ∀ w : World,
    (w.alloc (.cells #[.int .i64 0, .int .i64 1, .int .i64 (-(1 + (d : Int))), .int .i64 0, .int .i64 (4 + (1 + (d : Int))), .int .i64 0, .int .i64 1, .int .i64 (-(1 + (d : Int))), .int .i64 1, .int .i64 (2 + (1 + (d : Int)))] T)).cell? ⟨w.heap.size, i * 2, none⟩ = some (.int .i64 X) ∧
    (w.alloc (.cells #[.int .i64 0, .int .i64 1, .int .i64 (-(1 + (d : Int))), .int .i64 0, .int .i64 (4 + (1 + (d : Int))), .int .i64 0, .int .i64 1, .int .i64 (-(1 + (d : Int))), .int .i64 1, .int .i64 (2 + (1 + (d : Int)))] T)).cell? ⟨w.heap.size, i * 2 + 1, none⟩ = some (.int .i64 Y) := by
  have h : i = 0 ∨ i = 1 ∨ i = 2 ∨ i = 3 ∨ i = 4 := by omega
  rcases h with rfl | rfl | rfl | rfl | rfl
  · exact ⟨0, 1, by unfold ShpMay; omega, fun w => ⟨by rw [cell_of_row _ _ _ _ _ _ (heap_alloc_new w _)]; rfl, by rw [cell_of_row _ _ _ _ _ _ (heap_alloc_new w _)]; rfl⟩⟩
  · exact ⟨-(1 + (d : Int)), 0, by unfold ShpMay; omega, fun w => ⟨by rw [cell_of_row _ _ _ _ _ _ (heap_alloc_new w _)]; rfl, by rw [cell_of_row _ _ _ _ _ _ (heap_alloc_new w _)]; rfl⟩⟩
  · exact ⟨4 + (1 + (d : Int)), 0, by unfold ShpMay; omega, fun w => ⟨by rw [cell_of_row _ _ _ _ _ _ (heap_alloc_new w _)]; rfl, by rw [cell_of_row _ _ _ _ _ _ (heap_alloc_new w _)]; rfl⟩⟩
  · exact ⟨1, -(1 + (d : Int)), by unfold ShpMay; omega, fun w => ⟨by rw [cell_of_row _ _ _ _ _ _ (heap_alloc_new w _)]; rfl, by rw [cell_of_row _ _ _ _ _ _ (heap_alloc_new w _)]; rfl⟩⟩
  · exact ⟨1, 2 + (1 + (d : Int)), by unfold ShpMay; omega, fun w => ⟨by rw [cell_of_row _ _ _ _ _ _ (heap_alloc_new w _)]; rfl, by rw [cell_of_row _ _ _ _ _ _ (heap_alloc_new w _)]; rfl⟩⟩
set_option maxRecDepth 100000 in
set_option maxHeartbeats 2000000 in
theorem GenForms_walk {w : World} (hm : Made w) (a0 : Int) (w0 : (Lit.int .i64 a0).wf = true) (a1 : Int) (w1 : (Lit.int .i64 a1).wf = true) : Calls Tryd.prog 6 #[.int .i64 a0, .int .i64 a1] w fun e w' => e = .returned (.bool true) ∧ Below w.heap.size w w' := by
  have MD := hide hm
  clear hm
  obtain ⟨i, hi, ei⟩ := mod5 a0
  have hx : ∃ d : Nat, d < 1024 ∧ bits .and .i64 a1 1023 = (d : Int) := by
    refine ⟨(a1 % 1024).toNat, by omega, ?_⟩
    rw [and_1023]; omega
  obtain ⟨d, hd, ed⟩ := hx
  obtain ⟨X, Y, hno, hc⟩ := forms_cells 23 d i hi
  have HN := hide hno
  have HC := hide hc
  clear hno hc
  go_enter Tryd.func6, Tryd.ntmps6
  go_wp2_with fail
  refine (awake5_any _ (unhide MD)).mono ?_
  rintro e w2 ⟨rfl, b2⟩
  have HB := hide b2
  clear b2
  obtain ⟨c0, c1⟩ := unhide HC w2
  go_wp2_with fail
  have hx := below_two w2 (.cells #[.int .i64 0, .int .i64 1, .int .i64 (-(1 + (d : Int))), .int .i64 0, .int .i64 (4 + (1 + (d : Int))), .int .i64 0, .int .i64 1, .int .i64 (-(1 + (d : Int))), .int .i64 1, .int .i64 (2 + (1 + (d : Int)))] 23) (.cells #[.int .i64 X, .int .i64 Y] 23)
  have BS := hide (two_new w2 (.cells #[.int .i64 0, .int .i64 1, .int .i64 (-(1 + (d : Int))), .int .i64 0, .int .i64 (4 + (1 + (d : Int))), .int .i64 0, .int .i64 1, .int .i64 (-(1 + (d : Int))), .int .i64 1, .int .i64 (2 + (1 + (d : Int)))] 23) (.cells #[.int .i64 X, .int .i64 Y] 23))
  generalize ((w2.alloc (.cells #[.int .i64 0, .int .i64 1, .int .i64 (-(1 + (d : Int))), .int .i64 0, .int .i64 (4 + (1 + (d : Int))), .int .i64 0, .int .i64 1, .int .i64 (-(1 + (d : Int))), .int .i64 1, .int .i64 (2 + (1 + (d : Int)))] 23)).alloc (.cells #[.int .i64 X, .int .i64 Y] 23)) = W2 at *
  replace HB := hide (bt (unhide HB) hx)
  clear hx c0 c1
  refine (genMatrix_fun X Y _ ((unhide MD).up (unhide HB))).mono ?_
  rintro e w3 ⟨u3, he, O3, b3⟩
  rw [genF_no (unhide HN)] at he O3
  subst he
  obtain ⟨p3, n3, c3, rfl, e3⟩ := O3.form
  obtain rfl : n3 = 0 := e3
  replace BS := hide ((b3.block _ (lt_of_block (unhide BS))).trans (unhide BS))
  replace HB := hide (bt (unhide HB) b3)
  clear O3 b3
  obtain ⟨cs0, cs1⟩ := box_two (unhide BS)
  have ds0 := fun o => ((below_alloc w3 o).cell (cell_lt cs0)).trans cs0
  have ds1 := fun o => ((below_alloc w3 o).cell (cell_lt cs1)).trans cs1
  go_wp2_with fail
  have BA := hide (heap_alloc_new w3 (.cells #[.slice p3 0 c3] 26))
  have hx := below_alloc w3 (.cells #[.slice p3 0 c3] 26)
  generalize (w3.alloc (.cells #[.slice p3 0 c3] 26)) = W3 at *
  replace HB := hide (bt (unhide HB) hx)
  clear hx cs0 cs1 ds0 ds1
  refine (genMay_fun X Y _ ((unhide MD).up (unhide HB))).mono ?_
  rintro e w4 ⟨he, b4⟩
  rw [decide_eq_false (unhide HN)] at he
  subst he
  replace BA := hide ((b4.block _ (lt_of_block (unhide BA))).trans (unhide BA))
  replace HB := hide (bt (unhide HB) b4)
  clear b4
  have cA := cell_of_one (unhide BA)
  go_wp2_with (go_at_call 12; refine (num_any _ _).mono ?_; rintro e w' ⟨rfl, rfl⟩)
  go_ret
  exact ⟨rfl, unhide HB⟩
end Go.Proofs.YtfeepmjkamdldaaDoor
/- The statements' own means, inside a region that leaves its order open. -/
namespace Go.Proofs.YtfeepmjkamdldaaDoor
open Go.RowKit
set_option linter.unusedVariables false
theorem sameT {W : World} (x : GrownW W) {v v' : Value} {M : List (List Int)} (h : MatV W v M) (h' : MatV W v' M) : Calls Tryd.prog 11 #[v, v'] x.val fun e w' => e = .returned (.bool true) ∧ Below x.val.heap.size x.val w' := by
  refine (sameMatrix_any v v' M M x.val (h.below x.prop) (h'.below x.prop)).mono ?_
  rintro e w' ⟨he, hb⟩
  rw [beq_self_eq_true] at he
  exact ⟨he, hb⟩
theorem numG {W : World} (x : GrownW W) (n : Int) : Calls Tryd.prog 12 #[.int .i64 n] x.val fun e w' => e = .returned (.int .i64 n) ∧ Below x.val.heap.size x.val w' := by
  refine (num_any n x.val).mono ?_
  rintro e w' ⟨he, rfl⟩
  exact ⟨he, Below.refl _ _⟩
end Go.Proofs.YtfeepmjkamdldaaDoor
/- A row of blocks that were laid one behind the other. -/
namespace Go.Proofs.YtfeepmjkamdldaaDoor
open Go.RowKit
set_option linter.unusedVariables false
def allocs (w : World) : List Obj → World
  | [] => w
  | o :: r => allocs (w.alloc o) r
theorem allocs_size (w : World) (os : List Obj) : (allocs w os).heap.size = w.heap.size + os.length := by
  induction os generalizing w with
  | nil => rfl
  | cons o r ih =>
    show (allocs (w.alloc o) r).heap.size = _
    rw [ih]
    simp; omega
theorem allocs_below (w : World) (os : List Obj) : Below w.heap.size w (allocs w os) := by
  induction os generalizing w with
  | nil => exact Below.refl _ _
  | cons o r ih => exact bt (below_alloc w o) (ih _)
theorem allocs_heap (w : World) (os : List Obj) (j : Nat) (o : Obj) (h : os[j]? = some o) : (allocs w os).heap[w.heap.size + j]? = some o := by
  induction os generalizing w j with
  | nil => simp at h
  | cons x r ih =>
    cases j with
    | zero =>
      simp only [List.getElem?_cons_zero, Option.some.injEq] at h
      subst h
      exact ((allocs_below (w.alloc x) r).block _ (by simp)).trans (heap_alloc_new w x)
    | succ j =>
      have := ih (w.alloc x) j (by simpa using h)
      have e : (w.alloc x).heap.size + j = w.heap.size + (j + 1) := by simp; omega
      rw [e] at this
      exact this
end Go.Proofs.YtfeepmjkamdldaaDoor
/- GenTable: matrices by hand. -/
namespace Go.Proofs.YtfeepmjkamdldaaDoor
open Go.RowKit
set_option linter.unusedVariables false
set_option linter.unusedSimpArgs false
def tabObjs (S I R M : TypeId) (H : Nat) : List Obj := [
  .cells #[.int .i64 1, .int .i64 0, .int .i64 1, .int .i64 2, .int .i64 2, .int .i64 0, .int .i64 2, .int .i64 2, .int .i64 3, .int .i64 1] S,
  .cells #[.int .i64 1] I,
  .cells #[.slice (some ⟨H + 1, 0, none⟩) 1 1] R,
  .cells #[.int .i64 1] I, .cells #[.int .i64 1] I, .cells #[.int .i64 1] I,
  .cells #[.slice (some ⟨H + 3, 0, none⟩) 1 1, .slice (some ⟨H + 4, 0, none⟩) 1 1, .slice (some ⟨H + 5, 0, none⟩) 1 1] R,
  .cells #[.int .i64 1, .int .i64 0] I, .cells #[.int .i64 0, .int .i64 1] I,
  .cells #[.slice (some ⟨H + 7, 0, none⟩) 2 2, .slice (some ⟨H + 8, 0, none⟩) 2 2] R,
  .cells #[.int .i64 1, .int .i64 0] I, .cells #[.int .i64 0, .int .i64 1] I, .cells #[.int .i64 3, .int .i64 2] I, .cells #[.int .i64 2, .int .i64 3] I,
  .cells #[.slice (some ⟨H + 10, 0, none⟩) 2 2, .slice (some ⟨H + 11, 0, none⟩) 2 2, .slice (some ⟨H + 12, 0, none⟩) 2 2, .slice (some ⟨H + 13, 0, none⟩) 2 2] R,
  .cells #[.int .i64 1, .int .i64 0, .int .i64 0] I, .cells #[.int .i64 0, .int .i64 1, .int .i64 0] I, .cells #[.int .i64 0, .int .i64 0, .int .i64 1] I, .cells #[.int .i64 1, .int .i64 1, .int .i64 1] I,
  .cells #[.slice (some ⟨H + 15, 0, none⟩) 3 3, .slice (some ⟨H + 16, 0, none⟩) 3 3, .slice (some ⟨H + 17, 0, none⟩) 3 3, .slice (some ⟨H + 18, 0, none⟩) 3 3] R,
  .cells #[.slice (some ⟨H + 2, 0, none⟩) 1 1, .slice (some ⟨H + 6, 0, none⟩) 3 3, .slice (some ⟨H + 9, 0, none⟩) 2 2, .slice (some ⟨H + 14, 0, none⟩) 4 4, .slice (some ⟨H + 19, 0, none⟩) 4 4] M]
/-- the five shapes -/
def tabS (i : Nat) : Int × Int := [((1 : Int), (0 : Int)), (1, 2), (2, 0), (2, 2), (3, 1)].getD i (0, 0)
theorem tab_mat {S I R M : TypeId} {w : World} {H : Nat} (hb : ∀ j o, (tabObjs S I R M H)[j]? = some o → w.heap[H + j]? = some o) {i : Nat} (hi : i < 5) :
    ∃ ad n, w.cell? ⟨H + 20, i, none⟩ = some (.slice ad n n) ∧ MatV w (.agg #[.slice ad n n]) (genF (tabS i).1 (tabS i).2).1 := by
  have h : i = 0 ∨ i = 1 ∨ i = 2 ∨ i = 3 ∨ i = 4 := by omega
  rcases h with rfl | rfl | rfl | rfl | rfl
  · rw [show (genF (tabS 0).1 (tabS 0).2).1 = [[1]] by decide +kernel]
    refine ⟨some ⟨H + 2, 0, none⟩, 1, by rw [cell_of_row _ _ _ _ _ _ (hb 20 _ rfl)]; rfl, _, _, _, rfl, rows_of_cells rfl (by decide) (Nat.le_refl _) (by decide) (fun j hj => ?_)⟩
    obtain rfl : j = 0 := by omega
    exact ⟨_, by rw [cell_of_row _ _ _ _ _ _ (hb 2 _ rfl)]; rfl, row_block (hb 1 _ rfl) rfl rfl (by decide)⟩
  · rw [show (genF (tabS 1).1 (tabS 1).2).1 = [[1], [1], [1]] by decide +kernel]
    refine ⟨some ⟨H + 6, 0, none⟩, 3, by rw [cell_of_row _ _ _ _ _ _ (hb 20 _ rfl)]; rfl, _, _, _, rfl, rows_of_cells rfl (by decide) (Nat.le_refl _) (by decide) (fun j hj => ?_)⟩
    have hj' : j = 0 ∨ j = 1 ∨ j = 2 := by omega
    rcases hj' with rfl | rfl | rfl
    · exact ⟨_, by rw [cell_of_row _ _ _ _ _ _ (hb 6 _ rfl)]; rfl, row_block (hb 3 _ rfl) rfl rfl (by decide)⟩
    · exact ⟨_, by rw [cell_of_row _ _ _ _ _ _ (hb 6 _ rfl)]; rfl, row_block (hb 4 _ rfl) rfl rfl (by decide)⟩
    · exact ⟨_, by rw [cell_of_row _ _ _ _ _ _ (hb 6 _ rfl)]; rfl, row_block (hb 5 _ rfl) rfl rfl (by decide)⟩
  · rw [show (genF (tabS 2).1 (tabS 2).2).1 = [[1, 0], [0, 1]] by decide +kernel]
    refine ⟨some ⟨H + 9, 0, none⟩, 2, by rw [cell_of_row _ _ _ _ _ _ (hb 20 _ rfl)]; rfl, _, _, _, rfl, rows_of_cells rfl (by decide) (Nat.le_refl _) (by decide) (fun j hj => ?_)⟩
    have hj' : j = 0 ∨ j = 1 := by omega
    rcases hj' with rfl | rfl
    · exact ⟨_, by rw [cell_of_row _ _ _ _ _ _ (hb 9 _ rfl)]; rfl, row_block (hb 7 _ rfl) rfl rfl (by decide)⟩
    · exact ⟨_, by rw [cell_of_row _ _ _ _ _ _ (hb 9 _ rfl)]; rfl, row_block (hb 8 _ rfl) rfl rfl (by decide)⟩
  · rw [show (genF (tabS 3).1 (tabS 3).2).1 = [[1, 0], [0, 1], [3, 2], [2, 3]] by decide +kernel]
    refine ⟨some ⟨H + 14, 0, none⟩, 4, by rw [cell_of_row _ _ _ _ _ _ (hb 20 _ rfl)]; rfl, _, _, _, rfl, rows_of_cells rfl (by decide) (Nat.le_refl _) (by decide) (fun j hj => ?_)⟩
    have hj' : j = 0 ∨ j = 1 ∨ j = 2 ∨ j = 3 := by omega
    rcases hj' with rfl | rfl | rfl | rfl
    · exact ⟨_, by rw [cell_of_row _ _ _ _ _ _ (hb 14 _ rfl)]; rfl, row_block (hb 10 _ rfl) rfl rfl (by decide)⟩
    · exact ⟨_, by rw [cell_of_row _ _ _ _ _ _ (hb 14 _ rfl)]; rfl, row_block (hb 11 _ rfl) rfl rfl (by decide)⟩
    · exact ⟨_, by rw [cell_of_row _ _ _ _ _ _ (hb 14 _ rfl)]; rfl, row_block (hb 12 _ rfl) rfl rfl (by decide)⟩
    · exact ⟨_, by rw [cell_of_row _ _ _ _ _ _ (hb 14 _ rfl)]; rfl, row_block (hb 13 _ rfl) rfl rfl (by decide)⟩
  · rw [show (genF (tabS 4).1 (tabS 4).2).1 = [[1, 0, 0], [0, 1, 0], [0, 0, 1], [1, 1, 1]] by decide +kernel]
    refine ⟨some ⟨H + 19, 0, none⟩, 4, by rw [cell_of_row _ _ _ _ _ _ (hb 20 _ rfl)]; rfl, _, _, _, rfl, rows_of_cells rfl (by decide) (Nat.le_refl _) (by decide) (fun j hj => ?_)⟩
    have hj' : j = 0 ∨ j = 1 ∨ j = 2 ∨ j = 3 := by omega
    rcases hj' with rfl | rfl | rfl | rfl
    · exact ⟨_, by rw [cell_of_row _ _ _ _ _ _ (hb 19 _ rfl)]; rfl, row_block (hb 15 _ rfl) rfl rfl (by decide)⟩
    · exact ⟨_, by rw [cell_of_row _ _ _ _ _ _ (hb 19 _ rfl)]; rfl, row_block (hb 16 _ rfl) rfl rfl (by decide)⟩
    · exact ⟨_, by rw [cell_of_row _ _ _ _ _ _ (hb 19 _ rfl)]; rfl, row_block (hb 17 _ rfl) rfl rfl (by decide)⟩
    · exact ⟨_, by rw [cell_of_row _ _ _ _ _ _ (hb 19 _ rfl)]; rfl, row_block (hb 18 _ rfl) rfl rfl (by decide)⟩
theorem tab_ok : ∀ i, i < 5 → (genF (tabS i).1 (tabS i).2).2 = 0 := by decide +kernel
set_option maxRecDepth 100000 in
set_option maxHeartbeats 8000000 in
theorem GenTable_walk {w : World} (hm : Made w) (a0 : Int) (w0 : (Lit.int .i64 a0).wf = true) : Calls Tryd.prog 5 #[.int .i64 a0] w fun e w' => e = .returned (.bool true) ∧ Below w.heap.size w w' := by
  have MD := hide hm
  clear hm
  obtain ⟨i, hi, ei⟩ := mod5 a0
  go_enter Tryd.func5, Tryd.ntmps5
  go_wp2_with fail
  refine (awake5_any _ (unhide MD)).mono ?_
  rintro e w2 ⟨rfl, b2⟩
  have HB := hide b2
  clear b2
  have h : i = 0 ∨ i = 1 ∨ i = 2 ∨ i = 3 ∨ i = 4 := by omega
  rcases h with rfl | rfl | rfl | rfl | rfl
  · go_wp2_with fail
    refine (genMatrix_fun 1 0 _ ((unhide MD).up (bt (unhide HB) (allocs_below w2 (tabObjs 23 3 38 26 w2.heap.size))))).mono ?_
    rintro e w3 ⟨u3, he, O3, b3⟩
    replace b3 : Below (allocs w2 (tabObjs 23 3 38 26 w2.heap.size)).heap.size (allocs w2 (tabObjs 23 3 38 26 w2.heap.size)) w3 := b3
    have hb : ∀ j o, (tabObjs 23 3 38 26 w2.heap.size)[j]? = some o → w3.heap[w2.heap.size + j]? = some o := fun j o h => (b3.block _ (by rw [allocs_size]; have := (List.getElem?_eq_some_iff.1 h).1; omega)).trans (allocs_heap w2 _ j o h)
    obtain ⟨ad, n, cM, ML⟩ := tab_mat hb (i := 0) (by decide)
    replace HB := hide (bt (unhide HB) (bt (allocs_below w2 _) b3))
    have ML : MatV w3 (.agg #[.slice ad n n]) (genF 1 0).1 := ML
    have M3 := hide (O3.matV (genF_le 1 0))
    have BB := hide ML
    rw [show (genF 1 0).2 = 0 by decide +kernel] at he
    subst he
    obtain ⟨p3, n3, c3, rfl, e3⟩ := O3.form
    replace cM : w3.cell? ⟨w2.heap.size + 1 + 1 + 1 + 1 + 1 + 1 + 1 + 1 + 1 + 1 + 1 + 1 + 1 + 1 + 1 + 1 + 1 + 1 + 1 + 1, 0, none⟩ = some (.slice ad n n) := cM
    have HM := hide cM
    clear b3 hb O3 ML cM e3
    go_wp2_with fail
    have BA := hide (heap_alloc_new w3 (.cells #[.slice p3 n3 c3] 26))
    have hx := below_alloc w3 (.cells #[.slice p3 n3 c3] 26)
    have cM := (hx.cell (cell_lt (unhide HM))).trans (unhide HM)
    generalize (w3.alloc (.cells #[.slice p3 n3 c3] 26)) = W3 at *
    replace M3 := hide ((unhide M3).below hx)
    replace BB := hide ((unhide BB).below hx)
    replace HB := hide (bt (unhide HB) hx)
    clear hx
    have g1 := grown_cell (cell_of_one (unhide BA))
    have g2 := grown_cell cM
    clear cM
    refine wp_region_grows (by kernel_rfl) (by kernel_rfl) ?_
    repeat (first | go_big_quiet_step ((first | (go_at_call 11; exact Calls.grows (sameT _ (unhide M3) (unhide BB))) | (go_at_call 12; exact Calls.grows (numG _ _)))) | quiet_step ((first | (go_at_call 11; exact Calls.grows (sameT _ (unhide M3) (unhide BB))) | (go_at_call 12; exact Calls.grows (numG _ _)))))
    refine wpQuiet_nil ?_
    intro gw hw'
    have gb := grown_below hw'
    clear hw'
    replace HB := hide (bt (unhide HB) gb)
    clear gb g1 g2
    go_wp2
    go_ret
    exact ⟨rfl, unhide HB⟩
  · go_wp2_with fail
    refine (genMatrix_fun 1 2 _ ((unhide MD).up (bt (unhide HB) (allocs_below w2 (tabObjs 23 3 38 26 w2.heap.size))))).mono ?_
    rintro e w3 ⟨u3, he, O3, b3⟩
    replace b3 : Below (allocs w2 (tabObjs 23 3 38 26 w2.heap.size)).heap.size (allocs w2 (tabObjs 23 3 38 26 w2.heap.size)) w3 := b3
    have hb : ∀ j o, (tabObjs 23 3 38 26 w2.heap.size)[j]? = some o → w3.heap[w2.heap.size + j]? = some o := fun j o h => (b3.block _ (by rw [allocs_size]; have := (List.getElem?_eq_some_iff.1 h).1; omega)).trans (allocs_heap w2 _ j o h)
    obtain ⟨ad, n, cM, ML⟩ := tab_mat hb (i := 1) (by decide)
    replace HB := hide (bt (unhide HB) (bt (allocs_below w2 _) b3))
    have ML : MatV w3 (.agg #[.slice ad n n]) (genF 1 2).1 := ML
    have M3 := hide (O3.matV (genF_le 1 2))
    have BB := hide ML
    rw [show (genF 1 2).2 = 0 by decide +kernel] at he
    subst he
    obtain ⟨p3, n3, c3, rfl, e3⟩ := O3.form
    replace cM : w3.cell? ⟨w2.heap.size + 1 + 1 + 1 + 1 + 1 + 1 + 1 + 1 + 1 + 1 + 1 + 1 + 1 + 1 + 1 + 1 + 1 + 1 + 1 + 1, 1, none⟩ = some (.slice ad n n) := cM
    have HM := hide cM
    clear b3 hb O3 ML cM e3
    go_wp2_with fail
    have BA := hide (heap_alloc_new w3 (.cells #[.slice p3 n3 c3] 26))
    have hx := below_alloc w3 (.cells #[.slice p3 n3 c3] 26)
    have cM := (hx.cell (cell_lt (unhide HM))).trans (unhide HM)
    generalize (w3.alloc (.cells #[.slice p3 n3 c3] 26)) = W3 at *
    replace M3 := hide ((unhide M3).below hx)
    replace BB := hide ((unhide BB).below hx)
    replace HB := hide (bt (unhide HB) hx)
    clear hx
    have g1 := grown_cell (cell_of_one (unhide BA))
    have g2 := grown_cell cM
    clear cM
    refine wp_region_grows (by kernel_rfl) (by kernel_rfl) ?_
    repeat (first | go_big_quiet_step ((first | (go_at_call 11; exact Calls.grows (sameT _ (unhide M3) (unhide BB))) | (go_at_call 12; exact Calls.grows (numG _ _)))) | quiet_step ((first | (go_at_call 11; exact Calls.grows (sameT _ (unhide M3) (unhide BB))) | (go_at_call 12; exact Calls.grows (numG _ _)))))
    refine wpQuiet_nil ?_
    intro gw hw'
    have gb := grown_below hw'
    clear hw'
    replace HB := hide (bt (unhide HB) gb)
    clear gb g1 g2
    go_wp2
    go_ret
    exact ⟨rfl, unhide HB⟩
  · go_wp2_with fail
    refine (genMatrix_fun 2 0 _ ((unhide MD).up (bt (unhide HB) (allocs_below w2 (tabObjs 23 3 38 26 w2.heap.size))))).mono ?_
    rintro e w3 ⟨u3, he, O3, b3⟩
    replace b3 : Below (allocs w2 (tabObjs 23 3 38 26 w2.heap.size)).heap.size (allocs w2 (tabObjs 23 3 38 26 w2.heap.size)) w3 := b3
    have hb : ∀ j o, (tabObjs 23 3 38 26 w2.heap.size)[j]? = some o → w3.heap[w2.heap.size + j]? = some o := fun j o h => (b3.block _ (by rw [allocs_size]; have := (List.getElem?_eq_some_iff.1 h).1; omega)).trans (allocs_heap w2 _ j o h)
    obtain ⟨ad, n, cM, ML⟩ := tab_mat hb (i := 2) (by decide)
    replace HB := hide (bt (unhide HB) (bt (allocs_below w2 _) b3))
    have ML : MatV w3 (.agg #[.slice ad n n]) (genF 2 0).1 := ML
    have M3 := hide (O3.matV (genF_le 2 0))
    have BB := hide ML
    rw [show (genF 2 0).2 = 0 by decide +kernel] at he
    subst he
    obtain ⟨p3, n3, c3, rfl, e3⟩ := O3.form
    replace cM : w3.cell? ⟨w2.heap.size + 1 + 1 + 1 + 1 + 1 + 1 + 1 + 1 + 1 + 1 + 1 + 1 + 1 + 1 + 1 + 1 + 1 + 1 + 1 + 1, 2, none⟩ = some (.slice ad n n) := cM
    have HM := hide cM
    clear b3 hb O3 ML cM e3
    go_wp2_with fail
    have BA := hide (heap_alloc_new w3 (.cells #[.slice p3 n3 c3] 26))
    have hx := below_alloc w3 (.cells #[.slice p3 n3 c3] 26)
    have cM := (hx.cell (cell_lt (unhide HM))).trans (unhide HM)
    generalize (w3.alloc (.cells #[.slice p3 n3 c3] 26)) = W3 at *
    replace M3 := hide ((unhide M3).below hx)
    replace BB := hide ((unhide BB).below hx)
    replace HB := hide (bt (unhide HB) hx)
    clear hx
    have g1 := grown_cell (cell_of_one (unhide BA))
    have g2 := grown_cell cM
    clear cM
    refine wp_region_grows (by kernel_rfl) (by kernel_rfl) ?_
    repeat (first | go_big_quiet_step ((first | (go_at_call 11; exact Calls.grows (sameT _ (unhide M3) (unhide BB))) | (go_at_call 12; exact Calls.grows (numG _ _)))) | quiet_step ((first | (go_at_call 11; exact Calls.grows (sameT _ (unhide M3) (unhide BB))) | (go_at_call 12; exact Calls.grows (numG _ _)))))
    refine wpQuiet_nil ?_
    intro gw hw'
    have gb := grown_below hw'
    clear hw'
    replace HB := hide (bt (unhide HB) gb)
    clear gb g1 g2
    go_wp2
    go_ret
    exact ⟨rfl, unhide HB⟩
  · go_wp2_with fail
    refine (genMatrix_fun 2 2 _ ((unhide MD).up (bt (unhide HB) (allocs_below w2 (tabObjs 23 3 38 26 w2.heap.size))))).mono ?_
    rintro e w3 ⟨u3, he, O3, b3⟩
    replace b3 : Below (allocs w2 (tabObjs 23 3 38 26 w2.heap.size)).heap.size (allocs w2 (tabObjs 23 3 38 26 w2.heap.size)) w3 := b3
    have hb : ∀ j o, (tabObjs 23 3 38 26 w2.heap.size)[j]? = some o → w3.heap[w2.heap.size + j]? = some o := fun j o h => (b3.block _ (by rw [allocs_size]; have := (List.getElem?_eq_some_iff.1 h).1; omega)).trans (allocs_heap w2 _ j o h)
    obtain ⟨ad, n, cM, ML⟩ := tab_mat hb (i := 3) (by decide)
    replace HB := hide (bt (unhide HB) (bt (allocs_below w2 _) b3))
    have ML : MatV w3 (.agg #[.slice ad n n]) (genF 2 2).1 := ML
    have M3 := hide (O3.matV (genF_le 2 2))
    have BB := hide ML
    rw [show (genF 2 2).2 = 0 by decide +kernel] at he
    subst he
    obtain ⟨p3, n3, c3, rfl, e3⟩ := O3.form
    replace cM : w3.cell? ⟨w2.heap.size + 1 + 1 + 1 + 1 + 1 + 1 + 1 + 1 + 1 + 1 + 1 + 1 + 1 + 1 + 1 + 1 + 1 + 1 + 1 + 1, 3, none⟩ = some (.slice ad n n) := cM
    have HM := hide cM
    clear b3 hb O3 ML cM e3
    go_wp2_with fail
    have BA := hide (heap_alloc_new w3 (.cells #[.slice p3 n3 c3] 26))
    have hx := below_alloc w3 (.cells #[.slice p3 n3 c3] 26)
    have cM := (hx.cell (cell_lt (unhide HM))).trans (unhide HM)
    generalize (w3.alloc (.cells #[.slice p3 n3 c3] 26)) = W3 at *
    replace M3 := hide ((unhide M3).below hx)
    replace BB := hide ((unhide BB).below hx)
    replace HB := hide (bt (unhide HB) hx)
    clear hx
    have g1 := grown_cell (cell_of_one (unhide BA))
    have g2 := grown_cell cM
    clear cM
    refine wp_region_grows (by kernel_rfl) (by kernel_rfl) ?_
    repeat (first | go_big_quiet_step ((first | (go_at_call 11; exact Calls.grows (sameT _ (unhide M3) (unhide BB))) | (go_at_call 12; exact Calls.grows (numG _ _)))) | quiet_step ((first | (go_at_call 11; exact Calls.grows (sameT _ (unhide M3) (unhide BB))) | (go_at_call 12; exact Calls.grows (numG _ _)))))
    refine wpQuiet_nil ?_
    intro gw hw'
    have gb := grown_below hw'
    clear hw'
    replace HB := hide (bt (unhide HB) gb)
    clear gb g1 g2
    go_wp2
    go_ret
    exact ⟨rfl, unhide HB⟩
  · go_wp2_with fail
    refine (genMatrix_fun 3 1 _ ((unhide MD).up (bt (unhide HB) (allocs_below w2 (tabObjs 23 3 38 26 w2.heap.size))))).mono ?_
    rintro e w3 ⟨u3, he, O3, b3⟩
    replace b3 : Below (allocs w2 (tabObjs 23 3 38 26 w2.heap.size)).heap.size (allocs w2 (tabObjs 23 3 38 26 w2.heap.size)) w3 := b3
    have hb : ∀ j o, (tabObjs 23 3 38 26 w2.heap.size)[j]? = some o → w3.heap[w2.heap.size + j]? = some o := fun j o h => (b3.block _ (by rw [allocs_size]; have := (List.getElem?_eq_some_iff.1 h).1; omega)).trans (allocs_heap w2 _ j o h)
    obtain ⟨ad, n, cM, ML⟩ := tab_mat hb (i := 4) (by decide)
    replace HB := hide (bt (unhide HB) (bt (allocs_below w2 _) b3))
    have ML : MatV w3 (.agg #[.slice ad n n]) (genF 3 1).1 := ML
    have M3 := hide (O3.matV (genF_le 3 1))
    have BB := hide ML
    rw [show (genF 3 1).2 = 0 by decide +kernel] at he
    subst he
    obtain ⟨p3, n3, c3, rfl, e3⟩ := O3.form
    replace cM : w3.cell? ⟨w2.heap.size + 1 + 1 + 1 + 1 + 1 + 1 + 1 + 1 + 1 + 1 + 1 + 1 + 1 + 1 + 1 + 1 + 1 + 1 + 1 + 1, 4, none⟩ = some (.slice ad n n) := cM
    have HM := hide cM
    clear b3 hb O3 ML cM e3
    go_wp2_with fail
    have BA := hide (heap_alloc_new w3 (.cells #[.slice p3 n3 c3] 26))
    have hx := below_alloc w3 (.cells #[.slice p3 n3 c3] 26)
    have cM := (hx.cell (cell_lt (unhide HM))).trans (unhide HM)
    generalize (w3.alloc (.cells #[.slice p3 n3 c3] 26)) = W3 at *
    replace M3 := hide ((unhide M3).below hx)
    replace BB := hide ((unhide BB).below hx)
    replace HB := hide (bt (unhide HB) hx)
    clear hx
    have g1 := grown_cell (cell_of_one (unhide BA))
    have g2 := grown_cell cM
    clear cM
    refine wp_region_grows (by kernel_rfl) (by kernel_rfl) ?_
    repeat (first | go_big_quiet_step ((first | (go_at_call 11; exact Calls.grows (sameT _ (unhide M3) (unhide BB))) | (go_at_call 12; exact Calls.grows (numG _ _)))) | quiet_step ((first | (go_at_call 11; exact Calls.grows (sameT _ (unhide M3) (unhide BB))) | (go_at_call 12; exact Calls.grows (numG _ _)))))
    refine wpQuiet_nil ?_
    intro gw hw'
    have gb := grown_below hw'
    clear hw'
    replace HB := hide (bt (unhide HB) gb)
    clear gb g1 g2
    go_wp2
    go_ret
    exact ⟨rfl, unhide HB⟩
end Go.Proofs.YtfeepmjkamdldaaDoor
/- Plain facts on slices that came in. -/
namespace Go.Proofs.YtfeepmjkamdldaaDoor
open Go.RowKit
set_option linter.unusedVariables false
/-- a slice of bytes reads xs -/
def Bytes (w : World) (a : Option Addr) (n cap : Nat) (xs : List Int) : Prop := xs.length = n ∧ IsRow w a n cap (fun i => .int .u8 (xs.getD i 0))
theorem row_le {w : World} {a : Option Addr} {n cap : Nat} {f : Nat → Value} (h : IsRow w a n cap f) : n ≤ cap := by
  rcases h with h | h | h <;> omega
theorem getD_take {α : Type} {zs : List α} {n i : Nat} (d : α) (h : i < n) : (zs.take n).getD i d = zs.getD i d := by
  simp [List.getD, h]
theorem row_of_add {w : World} {x : Addr} {n cap : Nat} {f : Nat → Value} (hl : n ≤ cap) (hc : ∀ i, i < n → w.cell? (x.add i) = some (f i)) : IsRow w (some x) n cap f := by
  by_cases h0 : n = 0
  · exact .inr (.inl ⟨h0, x, rfl⟩)
  · obtain ⟨b, off, spot⟩ := x
    have h := hc 0 (by omega)
    have hs : spot = none := by simpa [Addr.add] using World.cell?_spot h
    subst hs
    refine .inr (.inr ⟨by omega, hl, b, off, rfl, fun i hi => ?_⟩)
    have := hc i hi
    have e : (⟨b, off, none⟩ : Addr).add i = ⟨b, off + i, none⟩ := by unfold Addr.add; split <;> simp_all
    rw [e] at this; exact this
end Go.Proofs.YtfeepmjkamdldaaDoor
/- What the statements' condition gives the walks: the twelve cells of package gen's variable. -/
namespace Go.Proofs.YtfeepmjkamdldaaDoor
open Go.ChangeShapes Go.WideShapes Go.ChangeAt Go.RowKit
set_option linter.unusedVariables false
abbrev laid1 : List (String × DataW Unit) := [("ossuary/gen.made", Rows.laid_ossuary_gen_made)]
theorem gMade : Tryd.prog.globalNamed "ossuary/gen.made" = some 0 := by kernel_rfl
theorem tMade : (Tryd.prog.globals[0]?).map (·.type) = some 64 := by kernel_rfl
theorem door_met (os : Os) (args : Array Value) : laidMetH Tryd.prog laid1 ((World.doorLaid Tryd.prog 400 os).forCall (fun _ _ => 0) ⟨#[], args, []⟩).memory :=
  laidMetH_of_parts3 (fuel := 8) (laidMet_of_run' 8 (by kernel_rfl) (by kernel_rfl)) (by kernel_rfl) (by kernel_rfl)
theorem at_of_one {l : List Value} {j : Nat} {x : Value} (h : (l.drop j).take 1 = [x]) : l[j]? = some x := by
  have := congrArg (·[0]?) h
  simpa [List.getElem?_take, List.getElem?_drop] using this
theorem made_of_laid {W : World} (h : laidMetH Tryd.prog laid1 W) : Made W := by
  rw [MakeChecks.laidMetH_plain _ _ _ (by kernel_rfl)] at h
  obtain ⟨ps, ⟨g0, t0, cs0, f0, p0, q0, hg0, ht0, hv0, hd0, _, _⟩, _, _⟩ := h
  obtain rfl := Option.some.inj (gMade.symm.trans hg0)
  obtain rfl := Option.some.inj (tMade.symm.trans ht0)
  have cT : Tryd.prog.cellsOf 63 = 3 := by kernel_rfl
  have cB : Tryd.prog.cellsOf 4 = 1 := by kernel_rfl
  obtain ⟨xs, m1, rfl, hx, hlen, hn, hel⟩ := DataW.trod_array Tryd.underlying64 hd0
  simp only [Prod.mk.injEq] at hx
  obtain ⟨hx, _⟩ := hx
  have hrow : ∀ i, i < 4 → ∃ q, xs[i]? = some (.agg [.lit (.bool true), .lit (.bool true), .lit (.bool true)], q) := by
    intro i hi
    obtain ⟨x, ex⟩ : ∃ x, xs[i]? = some x := ⟨_, List.getElem?_eq_getElem (by omega)⟩
    have hx' : (xs.map (·.1))[i]? = some x.1 := by simp [ex]
    have e : xs.map (·.1) = [.agg [.lit (.bool true), .lit (.bool true), .lit (.bool true)], .agg [.lit (.bool true), .lit (.bool true), .lit (.bool true)], .agg [.lit (.bool true), .lit (.bool true), .lit (.bool true)], .agg [.lit (.bool true), .lit (.bool true), .lit (.bool true)]] := by
      have := hx.symm
      simp only [Rows.laid_ossuary_gen_made, DataW.agg.injEq] at this
      exact this
    rw [e] at hx'
    refine ⟨x.2, ?_⟩
    rw [ex]
    have h4 : i = 0 ∨ i = 1 ∨ i = 2 ∨ i = 3 := by omega
    rcases h4 with rfl | rfl | rfl | rfl <;> (simp at hx'; rw [hx'])
  have hcell : ∀ i, i < 4 → ∀ j, j < 3 → cs0.toList[i * 3 + j]? = some (.bool true) := by
    intro i hi j hj
    obtain ⟨q, hq⟩ := hrow i hi
    have h1 := hel i hi
    rw [hq, cT] at h1
    obtain ⟨ys, m2, rfl, hy, _, hny, hel2⟩ := DataW.trod_array Tryd.underlying63 h1
    simp only [Prod.mk.injEq, DataW.agg.injEq] at hy
    obtain ⟨hy, _⟩ := hy
    obtain ⟨y, ey⟩ : ∃ y, ys[j]? = some y := ⟨_, List.getElem?_eq_getElem (by omega)⟩
    have hy' : (ys.map (·.1))[j]? = some y.1 := by simp [ey]
    rw [← hy] at hy'
    have h2 := hel2 j hj
    rw [ey, cB] at h2
    obtain ⟨b, hb, eb⟩ := DataW.trod_bool Tryd.underlying4 h2
    have hb1 : b = true := by
      rw [eb] at hy'
      have h3 : j = 0 ∨ j = 1 ∨ j = 2 := by omega
      rcases h3 with rfl | rfl | rfl <;> (simp at hy'; exact hy')
    subst hb1
    rw [Nat.mul_one] at hb
    have := at_of_one hb
    rw [List.getElem?_take, if_pos hj, List.getElem?_drop] at this
    exact this
  intro k hk
  rw [World.var?_cell hg0 hv0 k, ← Array.getElem?_toList]
  have := hcell (k / 3) (by omega) (k % 3) (by omega)
  rwa [show k / 3 * 3 + k % 3 = k by omega] at this
end Go.Proofs.YtfeepmjkamdldaaDoor
