/- Texts of one proof, one behind the other: GenWalk, Awake3, Awake5, GenFormsWalk, GenMath2, Same, GenMoreWalk, GenAnyWalk, MemOpen, Laid. -/
import Derived.Test.YtfeepmjkamdldaaDoorGenW1
import Derived.Test.YtfeepmjkamdldaaDoorInvWalk
import Derived.Test.YtfeepmjkamdldaaDoorMatWalk
import Derived.Test.YtfeepmjkamdldaaDoorBits
import Derived.Test.YtfeepmjkamdldaaDoorGenMath
import Derived.Test.YtfeepmjkamdldaaDoorGrow
import Derived.Test.YtfeepmjkamdldaaDoorLaw0M
import Derived.Test.YtfeepmjkamdldaaDoorInvLaws
import Derived.Test.YtfeepmjkamdldaaDoorMem
import Derived.Test.YtfeepmjkamdldaaDoorRows
import Derived.Test.YtfeepmjkamdldaaDoorMade
import Derived.ProofKit
import Derived.LaidMore
import Derived.OpenShut
import Derived.Stop.Joined
/- Package gen: the code's matrix: the walk. -/
namespace Go.Proofs.YtfeepmjkamdldaaDoor
open Go.RowKit
set_option linter.unusedVariables false
set_option linter.unusedSimpArgs false
attribute [local go_sem ↓] Go.wp_at_zero Go.wp_at_succ
set_option maxRecDepth 100000 in
set_option maxHeartbeats 4000000 in
theorem genSys_any (d p R gu cu : Nat) (w : World) (h1 : 1 ≤ d) (h2 : d ≤ 4) (h3 : p ≤ 2) (eR : R = d + p) (hcu : R ≤ cu) (hcu2 : cu ≤ maxLen) (hV : RowsV w (some ⟨gu, 0, none⟩) R cu (vanM R d)) :
    Calls Tryd.prog 25 #[.agg #[.slice (some ⟨gu, 0, none⟩) R cu], .int .i64 d] w fun e w' => ∃ u, e = .returned (.agg #[u]) ∧ OwnM w' w.heap.size 38 3 u (genM d p) ∧ Below w.heap.size w w' := by
  unfold maxLen at hcu2
  have hRd : d ≤ R := by omega
  have hdc : (d : Int) ≤ cu := by omega
  have hVd : RowsV w (some ⟨gu, 0, none⟩) d cu (vanM d d) := by
    have := hV.take hRd h1
    rwa [vanM, matF_take _ _ _ _ hRd] at this
  have HV := hide (show MatV w (.agg #[.slice (some ⟨gu, 0, none⟩) R cu]) (vanM R d) from ⟨_, _, _, rfl, hV⟩)
  have HVd := hide (show MatV w (.agg #[.slice (some ⟨gu, 0, none⟩) d cu]) (vanM d d) from ⟨_, _, _, rfl, hVd⟩)
  have ER := hide eR
  clear hV hVd eR
  go_enter Tryd.func25, Tryd.ntmps25
  have gb := below_two w (.cells #[.slice (some ⟨gu, 0, none⟩) R cu] 26) (.cells #[.slice none 0 0] 26)
  go_wp2_with fail
  have B0 := hide (two_old w (.cells #[.slice (some ⟨gu, 0, none⟩) R cu] 26) (.cells #[.slice none 0 0] 26))
  have B1 := hide (two_new w (.cells #[.slice (some ⟨gu, 0, none⟩) R cu] 26) (.cells #[.slice none 0 0] 26))
  have HB := hide gb
  have HV1 := hide ((unhide HV).below gb)
  have HVd1 := hide ((unhide HVd).below gb)
  clear gb HV HVd
  generalize ((w.alloc (.cells #[.slice (some ⟨gu, 0, none⟩) R cu] 26)).alloc (.cells #[.slice none 0 0] 26)) = W at *
  refine (invInvert_any _ (vanM d d) W (unhide HVd1)).mono ?_
  rintro e w3 ⟨u3, r3, hr3, rfl, hO3, gb⟩
  obtain rfl := top_inv h1 h2 hr3
  obtain ⟨p3, n3, c3, rfl, hn3⟩ := hO3.form
  have MT := hide (hO3.matV (rows_le (topI_inv d (by omega) h1).1))
  replace B0 := hide ((gb.block _ (lt_of_block (unhide B0))).trans (unhide B0))
  replace B1 := hide ((gb.block _ (lt_of_block (unhide B1))).trans (unhide B1))
  replace HV1 := hide ((unhide HV1).below gb)
  replace HB := hide (bt (unhide HB) gb)
  clear gb hr3 hO3 hn3 HVd1
  have c0 := cell_of_one (unhide B0)
  have d0 := fun o => ((below_alloc w3 o).cell (cell_lt c0)).trans c0
  go_wp2_with fail
  have gb := below_alloc w3 (.cells #[.slice p3 n3 c3] 26)
  replace B0 := hide ((gb.block _ (lt_of_block (unhide B0))).trans (unhide B0))
  replace B1 := hide ((gb.block _ (lt_of_block (unhide B1))).trans (unhide B1))
  replace HV1 := hide ((unhide HV1).below gb)
  replace MT := hide ((unhide MT).below gb)
  replace HB := hide (bt (unhide HB) gb)
  clear c0 d0 gb
  generalize (w3.alloc (.cells #[.slice p3 n3 c3] 26)) = w4 at *
  refine (matMul_fun _ _ _ _ w4 (unhide HV1) (unhide MT)).mono ?_
  rintro e w5 ⟨u5, rfl, hO5, gb⟩
  have eM : mulF (vanM R d) (topI d, (0 : Int)).1 = (genM d p, 0) := by rw [unhide ER]; exact top_mul h1 h2 h3
  rw [eM] at hO5 ⊢
  have hsw4 := lt_of_block (unhide B1)
  obtain ⟨p5, n5, c5, rfl, hn5⟩ := hO5.form
  replace B0 := hide ((gb.block _ (lt_of_block (unhide B0))).trans (unhide B0))
  replace B1 := hide ((gb.block _ (lt_of_block (unhide B1))).trans (unhide B1))
  replace HB := hide (bt (unhide HB) gb)
  have HO := hide hO5
  have hs5 := gb.size
  clear gb hn5 hO5 eM
  have c1 := cell_of_one (unhide B1)
  have f1 := free_of_one (unhide B1)
  have d1 := fun o => ((below_alloc w5 o).cell (cell_lt c1)).trans c1
  have e1 := fun o => ((below_alloc w5 o).frozen (p := ⟨w.heap.size + 1, 0, none⟩) (cell_lt c1)).trans f1
  clear c1 f1
  go_wp2
  have B5 := (heap_alloc_old w5 (.cells #[.slice p5 n5 c5] 26) (lt_of_block (unhide B1))).trans (unhide B1)
  have cr := cell_of_one (one_setCell (u := .slice p5 n5 c5) B5)
  have hB := bt (unhide HB) (below_alloc w5 (.cells #[.slice p5 n5 c5] 26))
  refine bodyPost_ret (v := .agg #[.slice p5 n5 c5]) (by simp [results, Tryd.results25, go_sem, cr]) rfl ⟨_, rfl, ?_, hB.setCell (by show _ ≤ w.heap.size + 1; omega) _⟩
  exact (((unhide HO).below (below_alloc _ _)).setBelow (by show w.heap.size + 1 < _; omega) _).mono (by omega)
theorem own_slice {w : World} {B : Nat} {T E : TypeId} {u : Value} {M : List (List Int)} (h : OwnM w B T E u M) (hM : 0 < M.length) (hl : M.length ≤ maxLen) (hr : ∀ j, (M.getD j []).length ≤ maxLen) : ∃ g cap, u = .slice (some ⟨g, 0, none⟩) M.length cap ∧ M.length ≤ cap ∧ cap ≤ maxLen ∧ RowsV w (some ⟨g, 0, none⟩) M.length cap M := by
  obtain ⟨a, cap, e, hv⟩ := h.rows hl hr
  obtain ⟨us, hR⟩ := h
  obtain ⟨g, cap', e', hg, hle, hle2, _⟩ := own_form (n := us.length) hR.outer (by rw [hR.len]; exact hM)
  rw [hR.len] at e' hle
  rw [e] at e'
  simp only [Value.slice.injEq, true_and] at e'
  obtain ⟨rfl, rfl⟩ := e'
  exact ⟨g, cap, e, hle, hle2, hv⟩
set_option maxRecDepth 100000 in
set_option maxHeartbeats 4000000 in
theorem genMatrix_yes (d p : Nat) (w : World) (h1 : 1 ≤ d) (h2 : d ≤ 4) (h3 : p ≤ 2) (hm : Made w) :
    Calls Tryd.prog 9 #[.agg #[.int .i64 d, .int .i64 p]] w fun e w' => ∃ u, e = .returned (.tuple #[.agg #[u], .int .i64 0]) ∧ OwnM w' w.heap.size 38 3 u (genM d p) ∧ Below w.heap.size w w' := by
  have hsh : ShpMay d p := by unfold ShpMay; omega
  have HS := hide hsh
  have MD := hide hm
  clear hsh hm
  go_enter Tryd.func9, Tryd.ntmps9
  go_wp2_with fail
  have B0 := hide (two_old w (.cells #[.int .i64 d, .int .i64 p] 23) (.cells #[.slice none 0 0] 26))
  have B1 := hide (two_new w (.cells #[.int .i64 d, .int .i64 p] 23) (.cells #[.slice none 0 0] 26))
  have HB := hide (below_two w (.cells #[.int .i64 d, .int .i64 p] 23) (.cells #[.slice none 0 0] 26))
  generalize ((w.alloc (.cells #[.int .i64 d, .int .i64 p] 23)).alloc (.cells #[.slice none 0 0] 26)) = W at *
  refine (genMay_yes d p W (unhide HS) ((unhide MD).up (unhide HB))).mono ?_
  rintro e w1 ⟨rfl, gb⟩
  replace B0 := hide ((gb.block _ (lt_of_block (unhide B0))).trans (unhide B0))
  replace B1 := hide ((gb.block _ (lt_of_block (unhide B1))).trans (unhide B1))
  replace HB := hide (bt (unhide HB) gb)
  have hs1 := gb.size
  clear gb
  obtain ⟨c0, c0'⟩ := box_two (unhide B0)
  have k0 := kept_cell (B := w.heap.size + 1) c0 (by show w.heap.size < _; omega)
  have k0' := kept_cell (B := w.heap.size + 1) c0' (by show w.heap.size < _; omega)
  have hsw := lt_of_block (unhide B1)
  clear c0 c0'
  go_wp2
  refine wp_region_ord_then (S := Below (w.heap.size + 1) w1) [(true, 0), (true, 2), (true, 3), (false, 1), (false, 4), (false, 5)] (List.cons_ne_nil _ _) (by kernel_rfl) (by kernel_rfl) (by kernel_rfl) (by kernel_rfl) (by kernel_rfl) ((Below.refl _ _).drew) ?_
  simp only [List.dropLast_cons_cons, List.dropLast_singleton, List.getLast_cons_cons, List.getLast_singleton, withOps, List.map_cons, List.map_nil, List.getElem?_cons_succ, List.getElem?_cons_zero]
  repeat (refine walkH_read (by rfl) (by (intro gx; go_simp; try (with_reducible rfl))) ?_; try simp only [Act.put, List.setIfInBounds_toArray, List.set_cons_zero, List.set_cons_succ])
  refine walkH_do rfl (fun K hK => ?_)
  go_simp
  refine (genPowers_any d p _ h1 h2 h3).mono ?_
  rintro e w2 ⟨u2, rfl, hO2, b2⟩
  have hb2 : Below w1.heap.size w1 w2 := ((Below.refl _ _).drew).trans b2
  refine hK _ _ (hb2.mono (by omega)) ?_
  clear hK K
  try simp only [Act.put, List.setIfInBounds_toArray, List.set_cons_zero, List.set_cons_succ]
  obtain ⟨R, eR⟩ : ∃ R : Nat, R = d + p := ⟨_, rfl⟩
  rw [← eR] at hO2
  have hlen : (vanM R d).length = R := by rw [vanM, matF_len]
  obtain ⟨g2, c2, rfl, hc2, hc2', hV2⟩ := own_slice hO2 (by omega) (by rw [hlen]; unfold maxLen; omega) (fun j => Nat.le_trans (mrow_le (van_may (by omega) (by omega) h1 (by omega)) j) (by decide))
  rw [hlen] at hc2 hV2 ⊢
  have HV2 := hide hV2
  have ER := hide eR
  clear hV2 hO2 eR
  repeat (refine walkH_read (by rfl) (by (intro gx; go_simp; try (with_reducible rfl))) ?_; try simp only [Act.put, List.setIfInBounds_toArray, List.set_cons_zero, List.set_cons_succ])
  refine walkH_do rfl (fun K hK => ?_)
  go_simp
  refine (genSys_any d p R g2 c2 w2 h1 h2 h3 (unhide ER) hc2 hc2' (unhide HV2)).mono ?_
  rintro e w3 ⟨u3, rfl, hO3, b3⟩
  have hb3 : Below w1.heap.size w1 w3 := bt hb2 b3
  refine hK _ _ (hb3.mono (by omega)) ?_
  clear hK K
  try simp only [Act.put, List.setIfInBounds_toArray, List.set_cons_zero, List.set_cons_succ]
  obtain ⟨p3, n3, c3, rfl, hn3⟩ := hO3.form
  have hs2 := b2.size
  have hs12 := hb2.size
  have hS := (hb3.mono (show w.heap.size + 1 ≤ w1.heap.size by omega)).setCell (p := ⟨w.heap.size + 1, 0, none⟩) (Nat.le_refl _) (.slice p3 n3 c3)
  have hO3' := hide (hO3.mono (B' := w.heap.size + 2) (by omega))
  replace B0 := hide ((hb3.block _ (lt_of_block (unhide B0))).trans (unhide B0))
  replace B1 := hide ((hb3.block _ (lt_of_block (unhide B1))).trans (unhide B1))
  replace HB := hide (bt (unhide HB) hb3)
  clear hb3 b3 hb2 b2 hO3 hn3 hc2 hc2' HV2 k0 k0'
  have c1 := cell_of_one (unhide B1)
  have f1 := free_of_one (unhide B1)
  repeat (refine walkH_read (by rfl) (by (intro gx; go_simp; try (with_reducible rfl))) ?_; try simp only [Act.put, List.setIfInBounds_toArray, List.set_cons_zero, List.set_cons_succ])
  refine walkH_do rfl (fun K hK => ?_)
  go_simp
  refine hK _ _ hS ?_
  clear hK K hS
  try simp only [Act.put, List.setIfInBounds_toArray, List.set_cons_zero, List.set_cons_succ]
  refine lastPost_of_list ?_
  simp only [List.cons_append, List.nil_append]
  go_wp2
  refine NoPanic.normal ?_
  go_wp2
  have cr := cell_of_one (one_setCell (u := .slice p3 n3 c3) (unhide B1))
  refine bodyPost_ret (v := .tuple #[.agg #[.slice p3 n3 c3], .int .i64 0]) (by simp [results, Tryd.results9, go_sem, cr]) rfl ⟨_, rfl, ?_, (unhide HB).setCell (by show _ ≤ w.heap.size + 1; omega) _⟩
  exact ((unhide hO3').setBelow (by show w.heap.size + 1 < _; omega) _).mono (by omega)
set_option maxRecDepth 100000 in
set_option maxHeartbeats 1000000 in
theorem genMatrix_no (d p : Int) (w : World) (h : ¬ ShpMay d p) : Calls Tryd.prog 9 #[.agg #[.int .i64 d, .int .i64 p]] w fun e w' => e = .returned (.tuple #[.agg #[.slice none 0 0], .int .i64 500]) ∧ Below w.heap.size w w' := by
  have H := hide h
  clear h
  go_enter Tryd.func9, Tryd.ntmps9
  go_wp2_with fail
  have k2 := hide (two_new w (.cells #[.int .i64 d, .int .i64 p] 23) (.cells #[.slice none 0 0] 26))
  have k3 := hide (below_two w (.cells #[.int .i64 d, .int .i64 p] 23) (.cells #[.slice none 0 0] 26))
  generalize ((w.alloc (.cells #[.int .i64 d, .int .i64 p] 23)).alloc (.cells #[.slice none 0 0] 26)) = W at *
  refine (genMay_no d p W (unhide H)).mono ?_
  rintro e w1 ⟨rfl, gb⟩
  replace k2 := hide ((gb.block _ (lt_of_block (unhide k2))).trans (unhide k2))
  replace k3 := hide (bt (unhide k3) gb)
  clear gb
  have c1 := cell_of_one (unhide k2)
  have f1 := free_of_one (unhide k2)
  go_wp2
  have cr := cell_of_one (one_setCell (u := .slice none 0 0) (unhide k2))
  refine bodyPost_ret (v := .tuple #[.agg #[.slice none 0 0], .int .i64 500]) (by simp [results, Tryd.results9, go_sem, cr]) rfl ⟨rfl, (unhide k3).setCell (by show _ ≤ w.heap.size + 1; omega) _⟩
theorem genMatrix_fun (d p : Int) (w : World) (hm : Made w) :
    Calls Tryd.prog 9 #[.agg #[.int .i64 d, .int .i64 p]] w fun e w' => ∃ u, e = .returned (.tuple #[.agg #[u], .int .i64 (genF d p).2]) ∧ OwnM w' w.heap.size 38 3 u (genF d p).1 ∧ Below w.heap.size w w' := by
  by_cases h : ShpMay d p
  · have h' := h
    unfold ShpMay at h'
    obtain ⟨n, rfl⟩ : ∃ n : Nat, d = n := ⟨d.toNat, by omega⟩
    obtain ⟨m, rfl⟩ : ∃ m : Nat, p = m := ⟨p.toNat, by omega⟩
    refine (genMatrix_yes n m w (by omega) (by omega) (by omega) hm).mono ?_
    rintro e w' ⟨u, rfl, ho, hB⟩
    simp only [genF, if_pos h, Int.toNat_natCast]
    exact ⟨u, rfl, ho, hB⟩
  · refine (genMatrix_no d p w h).mono ?_
    rintro e w' ⟨rfl, hB⟩
    simp only [genF, if_neg h]
    exact ⟨_, rfl, OwnM.nil _ _ _ _, hB⟩
end Go.Proofs.YtfeepmjkamdldaaDoor
/- 'awake' of the statements over package matrix returns true. -/
namespace Go.Proofs.YtfeepmjkamdldaaDoor
open Go.RowKit
set_option linter.unusedVariables false
set_option linter.unusedSimpArgs false
theorem rows_of_cells {w : World} {b off n cap : Nat} {M : List (List Int)} (hl : M.length = n) (h1 : 1 ≤ n) (hc : n ≤ cap) (hn : n ≤ maxLen) (h : ∀ i, i < n → ∃ u, w.cell? ⟨b, off + i, none⟩ = some u ∧ RowV w u (M.getD i [])) : RowsV w (some ⟨b, off, none⟩) n cap M := by
  refine ⟨fun i => if h' : i < n then (h i h').choose else undef, hl, hn, .inr (.inr ⟨h1, hc, b, off, rfl, fun i hi => ?_⟩), fun i hi => ?_⟩
  · simp only [dif_pos hi]; exact (h i hi).choose_spec.1
  · simp only [dif_pos hi]; exact (h i hi).choose_spec.2
theorem ints_block {w : World} {b n : Nat} {xs : List Int} {T : TypeId} {m : Nat × Nat} {C : Array Value} (h : w.heap[b]? = some (.cells C T m)) (hC : C = (xs.map (Value.int .i64)).toArray) (hl : xs.length = n) : Ints w (some ⟨b, 0, none⟩) n n xs := by
  subst hl hC
  refine ⟨rfl, ?_⟩
  by_cases h0 : xs.length = 0
  · exact .inr (.inl ⟨h0, _, rfl⟩)
  · refine .inr (.inr ⟨by omega, Nat.le_refl _, _, _, rfl, fun i hi => ?_⟩)
    rw [Nat.zero_add, cell_of_row _ _ i _ T m h]
    simp [List.getElem?_eq_getElem hi]
theorem row_block {w : World} {b n : Nat} {xs : List Int} {T : TypeId} {m : Nat × Nat} {C : Array Value} (h : w.heap[b]? = some (.cells C T m)) (hC : C = (xs.map (Value.int .i64)).toArray) (hl : xs.length = n) (hn : n ≤ maxLen) : RowV w (.slice (some ⟨b, 0, none⟩) n n) xs :=
  ⟨_, _, _, rfl, hn, ints_block h hC hl⟩
theorem mat2_lit (w : World) (T S : TypeId) (x y z t : Int) : MatV (((w.alloc (.cells #[.int .i64 x, .int .i64 y] T)).alloc (.cells #[.int .i64 z, .int .i64 t] T)).alloc (.cells #[.slice (some ⟨w.heap.size, 0, none⟩) 2 2, .slice (some ⟨w.heap.size + 1, 0, none⟩) 2 2] S)) (.agg #[.slice (some ⟨w.heap.size + 1 + 1, 0, none⟩) 2 2]) [[x, y], [z, t]] := by
  refine ⟨_, _, _, rfl, rows_of_cells rfl (by decide) (Nat.le_refl _) (by decide) (fun i hi => ?_)⟩
  have hi' : i = 0 ∨ i = 1 := by omega
  rcases hi' with rfl | rfl
  · exact ⟨_, cell_of_row _ _ 0 _ S (0, 0) (three_new _ _ _ _), row_block (three_old _ _ _ _) rfl rfl (by decide)⟩
  · exact ⟨_, cell_of_row _ _ 1 _ S (0, 0) (three_new _ _ _ _), row_block (three_mid _ _ _ _) rfl rfl (by decide)⟩
theorem four_0 (w : World) (o o' o'' o3 : Obj) : ((((w.alloc o).alloc o').alloc o'').alloc o3).heap[w.heap.size]? = some o := by
  rw [heap_alloc_old _ _ (by simp; omega), three_old]
theorem four_1 (w : World) (o o' o'' o3 : Obj) : ((((w.alloc o).alloc o').alloc o'').alloc o3).heap[w.heap.size + 1]? = some o' := by
  rw [heap_alloc_old _ _ (by simp <;> omega), three_mid]
theorem four_2 (w : World) (o o' o'' o3 : Obj) : ((((w.alloc o).alloc o').alloc o'').alloc o3).heap[w.heap.size + 1 + 1]? = some o'' := by
  rw [heap_alloc_old _ _ (by simp), three_new]
theorem four_3 (w : World) (o o' o'' o3 : Obj) : ((((w.alloc o).alloc o').alloc o'').alloc o3).heap[w.heap.size + 1 + 1 + 1]? = some o3 := by
  have := heap_alloc_new (((w.alloc o).alloc o').alloc o'') o3
  simpa using this
theorem mat3_lit (w : World) (T S : TypeId) (x y z t r s : Int) : MatV ((((w.alloc (.cells #[.int .i64 x, .int .i64 y] T)).alloc (.cells #[.int .i64 z, .int .i64 t] T)).alloc (.cells #[.int .i64 r, .int .i64 s] T)).alloc (.cells #[.slice (some ⟨w.heap.size, 0, none⟩) 2 2, .slice (some ⟨w.heap.size + 1, 0, none⟩) 2 2, .slice (some ⟨w.heap.size + 1 + 1, 0, none⟩) 2 2] S)) (.agg #[.slice (some ⟨w.heap.size + 1 + 1 + 1, 0, none⟩) 3 3]) [[x, y], [z, t], [r, s]] := by
  refine ⟨_, _, _, rfl, rows_of_cells rfl (by decide) (Nat.le_refl _) (by decide) (fun i hi => ?_)⟩
  have hi' : i = 0 ∨ i = 1 ∨ i = 2 := by omega
  rcases hi' with rfl | rfl | rfl
  · exact ⟨_, cell_of_row _ _ 0 _ S (0, 0) (four_3 _ _ _ _ _), row_block (four_0 _ _ _ _ _) rfl rfl (by decide)⟩
  · exact ⟨_, cell_of_row _ _ 1 _ S (0, 0) (four_3 _ _ _ _ _), row_block (four_1 _ _ _ _ _) rfl rfl (by decide)⟩
  · exact ⟨_, cell_of_row _ _ 2 _ S (0, 0) (four_3 _ _ _ _ _), row_block (four_2 _ _ _ _ _) rfl rfl (by decide)⟩
theorem matV_nil (w : World) : MatV w (.agg #[.slice none 0 0]) [] := ⟨_, _, _, rfl, fun _ => undef, rfl, by decide, .inl ⟨rfl, rfl, rfl⟩, fun i hi => by omega⟩
theorem id2 : idF 2 = ([[1, 0], [0, 1]], 0) := by decide +kernel
theorem mul2 : mulF [[1, 2], [3, 4]] [[1, 0], [0, 1]] = ([[1, 2], [3, 4]], 0) := by decide +kernel
theorem pick2 : pickF [[1, 2], [3, 4]] [1, 1, 0] = ([[3, 4], [3, 4], [1, 2]], 0) := by decide +kernel
theorem pick2' : pickF [[1, 2], [3, 4]] [2] = ([], 300) := by decide +kernel
theorem mul2' : mulF [[1, 2], [3, 4]] [[3, 4], [3, 4], [1, 2]] = ([], 300) := by decide +kernel
theorem may2 : decide (MMay [[1, 2], [3, 4]]) = true := by decide +kernel
theorem may0 : decide (MMay []) = false := by decide +kernel
theorem small2 {x y z t : Int} : [[x, y], [z, t]].length ≤ maxLen ∧ ∀ j, ([[x, y], [z, t]].getD j []).length ≤ maxLen := by
  refine ⟨by show 2 ≤ maxLen; decide, fun j => ?_⟩
  match j with
  | 0 => show 2 ≤ maxLen; decide
  | 1 => show 2 ≤ maxLen; decide
  | j + 2 => simp
theorem small3 {a b c d e f : Int} : [[a, b], [c, d], [e, f]].length ≤ maxLen ∧ ∀ j, ([[a, b], [c, d], [e, f]].getD j []).length ≤ maxLen := by
  refine ⟨by show 3 ≤ maxLen; decide, fun j => ?_⟩
  match j with
  | 0 => show 2 ≤ maxLen; decide
  | 1 => show 2 ≤ maxLen; decide
  | 2 => show 2 ≤ maxLen; decide
  | j + 3 => simp
theorem ints_new (w : World) (o : Obj) (xs : List Int) (T : TypeId) (C : Array Value) (n : Nat) (hC : C = (xs.map (Value.int .i64)).toArray) (hl : xs.length = n) : Ints ((w.alloc o).alloc (.cells C T)) (some ⟨w.heap.size + 1, 0, none⟩) n n xs :=
  ints_block (two_new w o (.cells C T)) hC hl
theorem ints_new0 (w : World) (xs : List Int) (T : TypeId) (C : Array Value) (n : Nat) (hC : C = (xs.map (Value.int .i64)).toArray) (hl : xs.length = n) : Ints (w.alloc (.cells C T)) (some ⟨w.heap.size, 0, none⟩) n n xs :=
  ints_block (heap_alloc_new w (.cells C T)) hC hl
end Go.Proofs.YtfeepmjkamdldaaDoor
/- 'awake' of the statements over package gen returns true. -/
namespace Go.Proofs.YtfeepmjkamdldaaDoor
open Go.RowKit
set_option linter.unusedVariables false
set_option linter.unusedSimpArgs false
theorem gen21 : genF 2 1 = ([[1, 0], [0, 1], [3, 2]], 0) := by decide +kernel
theorem gen00 : genF 0 0 = ([], 500) := by decide +kernel
theorem shp10 : decide (ShpMay 1 0) = true := by decide +kernel
theorem shp50 : decide (ShpMay 5 0) = false := by decide +kernel
theorem mat3_at (w : World) (T S : TypeId) (x y z t r s : Int) (H : Nat) (hH : w.heap.size = H) : MatV ((((w.alloc (.cells #[.int .i64 x, .int .i64 y] T)).alloc (.cells #[.int .i64 z, .int .i64 t] T)).alloc (.cells #[.int .i64 r, .int .i64 s] T)).alloc (.cells #[.slice (some ⟨H, 0, none⟩) 2 2, .slice (some ⟨H + 1, 0, none⟩) 2 2, .slice (some ⟨H + 1 + 1, 0, none⟩) 2 2] S)) (.agg #[.slice (some ⟨H + 1 + 1 + 1, 0, none⟩) 3 3]) [[x, y], [z, t], [r, s]] := by
  subst hH; exact mat3_lit w T S x y z t r s
set_option maxRecDepth 100000 in
set_option maxHeartbeats 1000000 in
theorem awake5_any (w : World) (hm : Made w) : Calls Tryd.prog 16 #[] w fun e w' => e = .returned (.bool true) ∧ Below w.heap.size w w' := by
  have MD := hide hm
  clear hm
  go_enter Tryd.func16, Tryd.ntmps16
  go_wp2_with fail
  refine (genMatrix_fun 2 1 _ (unhide MD)).mono ?_
  rintro e w1 ⟨u1, he, O1, b1⟩
  rw [gen21] at he O1
  subst he
  obtain ⟨p1, n1, c1, rfl, e1⟩ := O1.form
  have M1 := hide (O1.matV small3)
  have HB := hide b1
  clear O1 b1 e1
  go_wp2_with fail
  have BA := hide (heap_alloc_new w1 (.cells #[.slice p1 n1 c1] 26))
  have hx := below_alloc w1 (.cells #[.slice p1 n1 c1] 26)
  generalize (w1.alloc (.cells #[.slice p1 n1 c1] 26)) = W1 at *
  replace M1 := hide ((unhide M1).below hx)
  replace HB := hide (bt (unhide HB) hx)
  clear hx
  refine (genMatrix_fun 0 0 _ ((unhide MD).up (unhide HB))).mono ?_
  rintro e w2 ⟨u2, he, O2, b2⟩
  rw [gen00] at he O2
  subst he
  obtain ⟨p2, n2, c2, rfl, e2⟩ := O2.form
  replace BA := hide ((b2.block _ (lt_of_block (unhide BA))).trans (unhide BA))
  replace M1 := hide ((unhide M1).below b2)
  replace HB := hide (bt (unhide HB) b2)
  clear O2 b2 e2
  have cBA := cell_of_one (unhide BA)
  have dBA := fun o => ((below_alloc w2 o).cell (cell_lt cBA)).trans cBA
  go_wp2_with fail
  have m4 := mat3_at (w2.alloc (.cells #[.slice p2 n2 c2] 26)) 3 38 1 0 0 1 3 2 (w2.heap.size + 1) (by simp)
  refine (sameMatrix_any _ _ [[1, 0], [0, 1], [3, 2]] [[1, 0], [0, 1], [3, 2]] _ ((unhide M1).below (by go_grown)) m4).mono ?_
  rintro e w4 ⟨he, b4⟩
  rw [beq_self_eq_true] at he
  subst he
  replace b4 : Below w2.heap.size w2 w4 := bt (by go_grown) b4
  replace HB := hide (bt (unhide HB) b4)
  clear b4 m4 cBA dBA
  go_wp2_with (go_at_call 12; refine (num_any _ _).mono ?_; rintro e w' ⟨rfl, rfl⟩)
  refine (genMay_fun 1 0 _ ((unhide MD).up (unhide HB))).mono ?_
  rintro e w5 ⟨he, b5⟩
  rw [shp10] at he
  subst he
  replace HB := hide (bt (unhide HB) b5)
  clear b5
  go_wp2_with fail
  refine (genMay_fun 5 0 _ ((unhide MD).up (unhide HB))).mono ?_
  rintro e w6 ⟨he, b6⟩
  rw [shp50] at he
  subst he
  replace HB := hide (bt (unhide HB) b6)
  clear b6
  go_wp2
  go_ret
  exact ⟨rfl, unhide HB⟩
end Go.Proofs.YtfeepmjkamdldaaDoor
/- GenForms: shapes that may not be. -/
namespace Go.Proofs.YtfeepmjkamdldaaDoor
open Go.RowKit
set_option linter.unusedVariables false
set_option linter.unusedSimpArgs false
theorem mod5 (a : Int) : ∃ i : Nat, i < 5 ∧ wrap64 ((IntKind.u64.wrap a).tmod 5) = (i : Int) := by
  have h0 : IntKind.u64.wrap a = a % 18446744073709551616 := IntKind.wrap_u64 a
  have : 0 ≤ a % 18446744073709551616 := Int.emod_nonneg _ (by decide)
  rw [h0, Int.tmod_eq_emod_of_nonneg (by omega)]
  exact ⟨(a % 18446744073709551616 % 5).toNat, by omega, by unfold wrap64; omega⟩
theorem genF_no {d p : Int} (h : ¬ ShpMay d p) : genF d p = ([], 500) := by unfold genF; rw [if_neg h]
theorem forms_cells (T : TypeId) (d i : Nat) (hi : i < 5) : ∃ X Y : Int, ¬ ShpMay X Y ∧ ∀ w : World,
    (w.alloc (.cells #[.int .i64 0, .int .i64 1, .int .i64 (-(1 + (d : Int))), .int .i64 0, .int .i64 (4 + (1 + (d : Int))), .int .i64 0, .int .i64 1, .int .i64 (-(1 + (d : Int))), .int .i64 1, .int .i64 (2 + (1 + (d : Int)))] T)).cell? ⟨w.heap.size, i * 2, none⟩ = some (.int .i64 X) ∧
    (w.alloc (.cells #[.int .i64 0, .int .i64 1, .int .i64 (-(1 + (d : Int))), .int .i64 0, .int .i64 (4 + (1 + (d : Int))), .int .i64 0, .int .i64 1, .int .i64 (-(1 + (d : Int))), .int .i64 1, .int .i64 (2 + (1 + (d : Int)))] T)).cell? ⟨w.heap.size, i * 2 + 1, none⟩ = some (.int .i64 Y) := by
  have h : i = 0 ∨ i = 1 ∨ i = 2 ∨ i = 3 ∨ i = 4 := by omega
  rcases h with rfl | rfl | rfl | rfl | rfl
  · exact ⟨0, 1, by unfold ShpMay; omega, fun w => ⟨by rw [cell_of_row _ _ _ _ _ _ (heap_alloc_new w _)]; rfl, by rw [cell_of_row _ _ _ _ _ _ (heap_alloc_new w _)]; rfl⟩⟩
  · exact ⟨-(1 + (d : Int)), 0, by unfold ShpMay; omega, fun w => ⟨by rw [cell_of_row _ _ _ _ _ _ (heap_alloc_new w _)]; rfl, by rw [cell_of_row _ _ _ _ _ _ (heap_alloc_new w _)]; rfl⟩⟩
  · exact ⟨4 + (1 + (d : Int)), 0, by unfold ShpMay; omega, fun w => ⟨by rw [cell_of_row _ _ _ _ _ _ (heap_alloc_new w _)]; rfl, by rw [cell_of_row _ _ _ _ _ _ (heap_alloc_new w _)]; rfl⟩⟩
  · exact ⟨1, -(1 + (d : Int)), by unfold ShpMay; omega, fun w => ⟨by rw [cell_of_row _ _ _ _ _ _ (heap_alloc_new w _)]; rfl, by rw [cell_of_row _ _ _ _ _ _ (heap_alloc_new w _)]; rfl⟩⟩
  · exact ⟨1, 2 + (1 + (d : Int)), by unfold ShpMay; omega, fun w => ⟨by rw [cell_of_row _ _ _ _ _ _ (heap_alloc_new w _)]; rfl, by rw [cell_of_row _ _ _ _ _ _ (heap_alloc_new w _)]; rfl⟩⟩
set_option maxRecDepth 100000 in
set_option maxHeartbeats 2000000 in
theorem GenForms_walk {w : World} (hm : Made w) (a0 : Int) (w0 : (Lit.int .i64 a0).wf = true) (a1 : Int) (w1 : (Lit.int .i64 a1).wf = true) : Calls Tryd.prog 6 #[.int .i64 a0, .int .i64 a1] w fun e w' => e = .returned (.bool true) ∧ Below w.heap.size w w' := by
  have MD := hide hm
  clear hm
  obtain ⟨i, hi, ei⟩ := mod5 a0
  have hx : ∃ d : Nat, d < 1024 ∧ bits .and .i64 a1 1023 = (d : Int) := by
    refine ⟨(a1 % 1024).toNat, by omega, ?_⟩
    rw [and_1023]; omega
  obtain ⟨d, hd, ed⟩ := hx
  obtain ⟨X, Y, hno, hc⟩ := forms_cells 23 d i hi
  have HN := hide hno
  have HC := hide hc
  clear hno hc
  go_enter Tryd.func6, Tryd.ntmps6
  go_wp2_with fail
  refine (awake5_any _ (unhide MD)).mono ?_
  rintro e w2 ⟨rfl, b2⟩
  have HB := hide b2
  clear b2
  obtain ⟨c0, c1⟩ := unhide HC w2
  go_wp2_with fail
  have hx := below_two w2 (.cells #[.int .i64 0, .int .i64 1, .int .i64 (-(1 + (d : Int))), .int .i64 0, .int .i64 (4 + (1 + (d : Int))), .int .i64 0, .int .i64 1, .int .i64 (-(1 + (d : Int))), .int .i64 1, .int .i64 (2 + (1 + (d : Int)))] 23) (.cells #[.int .i64 X, .int .i64 Y] 23)
  have BS := hide (two_new w2 (.cells #[.int .i64 0, .int .i64 1, .int .i64 (-(1 + (d : Int))), .int .i64 0, .int .i64 (4 + (1 + (d : Int))), .int .i64 0, .int .i64 1, .int .i64 (-(1 + (d : Int))), .int .i64 1, .int .i64 (2 + (1 + (d : Int)))] 23) (.cells #[.int .i64 X, .int .i64 Y] 23))
  generalize ((w2.alloc (.cells #[.int .i64 0, .int .i64 1, .int .i64 (-(1 + (d : Int))), .int .i64 0, .int .i64 (4 + (1 + (d : Int))), .int .i64 0, .int .i64 1, .int .i64 (-(1 + (d : Int))), .int .i64 1, .int .i64 (2 + (1 + (d : Int)))] 23)).alloc (.cells #[.int .i64 X, .int .i64 Y] 23)) = W2 at *
  replace HB := hide (bt (unhide HB) hx)
  clear hx c0 c1
  refine (genMatrix_fun X Y _ ((unhide MD).up (unhide HB))).mono ?_
  rintro e w3 ⟨u3, he, O3, b3⟩
  rw [genF_no (unhide HN)] at he O3
  subst he
  obtain ⟨p3, n3, c3, rfl, e3⟩ := O3.form
  obtain rfl : n3 = 0 := e3
  replace BS := hide ((b3.block _ (lt_of_block (unhide BS))).trans (unhide BS))
  replace HB := hide (bt (unhide HB) b3)
  clear O3 b3
  obtain ⟨cs0, cs1⟩ := box_two (unhide BS)
  have ds0 := fun o => ((below_alloc w3 o).cell (cell_lt cs0)).trans cs0
  have ds1 := fun o => ((below_alloc w3 o).cell (cell_lt cs1)).trans cs1
  go_wp2_with fail
  have BA := hide (heap_alloc_new w3 (.cells #[.slice p3 0 c3] 26))
  have hx := below_alloc w3 (.cells #[.slice p3 0 c3] 26)
  generalize (w3.alloc (.cells #[.slice p3 0 c3] 26)) = W3 at *
  replace HB := hide (bt (unhide HB) hx)
  clear hx cs0 cs1 ds0 ds1
  refine (genMay_fun X Y _ ((unhide MD).up (unhide HB))).mono ?_
  rintro e w4 ⟨he, b4⟩
  rw [decide_eq_false (unhide HN)] at he
  subst he
  replace BA := hide ((b4.block _ (lt_of_block (unhide BA))).trans (unhide BA))
  replace HB := hide (bt (unhide HB) b4)
  clear b4
  have cA := cell_of_one (unhide BA)
  go_wp2_with (go_at_call 12; refine (num_any _ _).mono ?_; rintro e w' ⟨rfl, rfl⟩)
  go_ret
  exact ⟨rfl, unhide HB⟩
end Go.Proofs.YtfeepmjkamdldaaDoor
/- Any choice of Data rows of the code's matrix can be inverted. -/
namespace Go.Proofs.YtfeepmjkamdldaaDoor
open Go.RowKit
set_option linter.unusedVariables false
set_option linter.unusedSimpArgs false
def maskOf (b0 b1 b2 b3 b4 b5 : Bool) : Nat := b0.toNat + 2 * b1.toNat + 4 * b2.toNat + 8 * b3.toNat + 16 * b4.toNat + 32 * b5.toNat
theorem mask_bits : ∀ b0 b1 b2 b3 b4 b5 : Bool, maskOf b0 b1 b2 b3 b4 b5 < 64 ∧ (maskOf b0 b1 b2 b3 b4 b5).testBit 0 = b0 ∧ (maskOf b0 b1 b2 b3 b4 b5).testBit 1 = b1 ∧ (maskOf b0 b1 b2 b3 b4 b5).testBit 2 = b2 ∧ (maskOf b0 b1 b2 b3 b4 b5).testBit 3 = b3 ∧ (maskOf b0 b1 b2 b3 b4 b5).testBit 4 = b4 ∧ (maskOf b0 b1 b2 b3 b4 b5).testBit 5 = b5 := by decide +kernel
theorem mask_of (b : Nat → Bool) : ∃ m, m < 64 ∧ ∀ i, i < 6 → m.testBit i = b i := by
  obtain ⟨h, h0, h1, h2, h3, h4, h5⟩ := mask_bits (b 0) (b 1) (b 2) (b 3) (b 4) (b 5)
  refine ⟨_, h, fun i hi => ?_⟩
  have : i = 0 ∨ i = 1 ∨ i = 2 ∨ i = 3 ∨ i = 4 ∨ i = 5 := by omega
  rcases this with rfl | rfl | rfl | rfl | rfl | rfl
  · exact h0
  · exact h1
  · exact h2
  · exact h3
  · exact h4
  · exact h5
theorem rowsOf_congr {b b' : Nat → Bool} {d k : Nat} (h : ∀ i, i < k → b i = b' i) : rowsOf b d k = rowsOf b' d k := by
  have e1 : (List.range k).filter b = (List.range k).filter b' := List.filter_congr fun i hi => h i (List.mem_range.1 hi)
  have e2 : (List.range k).filter (fun i => !b i) = (List.range k).filter (fun i => !b' i) := List.filter_congr fun i hi => by rw [h i (List.mem_range.1 hi)]
  unfold rowsOf
  rw [e1, e2]
theorem rowsOf_lt {b : Nat → Bool} {d k x : Nat} (h : x ∈ rowsOf b d k) : x < k := by
  unfold rowsOf at h
  rcases List.mem_append.1 h with h | h
  · exact List.mem_range.1 (List.mem_filter.1 (List.mem_of_mem_take h)).1
  · exact List.mem_range.1 (List.mem_filter.1 (List.mem_of_mem_take h)).1
theorem filter_two (b : Nat → Bool) (l : List Nat) : (l.filter b).length + (l.filter (fun i => !b i)).length = l.length := by
  induction l with
  | nil => rfl
  | cons x l ih => cases h : b x <;> simp [h] <;> omega
theorem rowsOf_len {b : Nat → Bool} {d k : Nat} (h : d ≤ k) : (rowsOf b d k).length = d := by
  have := filter_two b (List.range k)
  rw [List.length_range] at this
  unfold rowsOf
  simp only [List.length_append, List.length_take]
  omega
theorem ofNats_len (l : List Nat) : (ofNats l).length = l.length := by simp [ofNats]
theorem ofNats_at (l : List Nat) (i : Nat) : (ofNats l).getD i 0 = ((l.getD i 0 : Nat) : Int) := by
  unfold ofNats
  simp only [List.getD, List.getElem?_map]
  cases l[i]? <;> rfl
theorem pickM_take {M : List (List Int)} {l : List Nat} {k : Nat} (h : ∀ x ∈ l, x < k) : pickM (M.take k) (ofNats l) = pickM M (ofNats l) := by
  unfold pickM ofNats
  rw [List.map_map, List.map_map]
  apply List.map_congr_left
  intro x hx
  have hx := h x hx
  simp only [Function.comp, Int.ofNat_eq_natCast, Int.toNat_natCast]
  simp [List.getD, List.getElem?_take, hx]
/-- any choice of d rows can be inverted -/
theorem rowsOf_inv (b : Nat → Bool) {d p : Nat} (h1 : 1 ≤ d) (h2 : d ≤ 4) (h3 : p ≤ 2) : ∃ N, InvOf (pickM (genM d p) (ofNats (rowsOf b d (d + p)))) N := by
  obtain ⟨m, hm, hb⟩ := mask_of b
  rw [← rowsOf_congr (b := fun i => m.testBit i) (fun i hi => hb i (by omega))]
  have hc := rowsOf_choice d (by omega) p (by omega) m hm
  have hd : (d == 0) = false := by simp; omega
  rw [hd, Bool.false_or, List.contains_iff_mem] at hc
  obtain ⟨x, hx, ex⟩ := List.mem_map.1 hc
  refine ⟨x.2, ?_⟩
  unfold genM
  rw [pickM_take (fun y hy => rowsOf_lt hy), ← ex]
  exact choices_inv d (by omega) x hx
theorem rowsOf_pick (b : Nat → Bool) {d p : Nat} (h1 : 1 ≤ d) (h2 : d ≤ 4) (h3 : p ≤ 2) : PickMay (genM d p) (ofNats (rowsOf b d (d + p))) := by
  obtain ⟨hm, hl, _⟩ := genM_may d (by omega) p (by omega) h1
  refine ⟨hm, ?_, ?_, fun i hi => ?_⟩
  · rw [ofNats_len, rowsOf_len (by omega)]; exact h1
  · rw [ofNats_len, rowsOf_len (by omega)]; omega
  · rw [ofNats_len] at hi
    rw [ofNats_at, hl]
    have : (rowsOf b d (d + p)).getD i 0 < d + p := rowsOf_lt (b := b) (d := d) (by
      have : (rowsOf b d (d + p)).getD i 0 = (rowsOf b d (d + p))[i] := by simp [List.getD, List.getElem?_eq_getElem hi]
      rw [this]; exact List.getElem_mem hi)
    omega
theorem pick_sq (b : Nat → Bool) {d p : Nat} (h1 : 1 ≤ d) (h2 : d ≤ 4) (h3 : p ≤ 2) : SqMay (pickM (genM d p) (ofNats (rowsOf b d (d + p)))) := by
  have hp := rowsOf_pick b h1 h2 h3
  have hm := pickM_may hp
  obtain ⟨_, hl, hh⟩ := genM_may d (by omega) p (by omega) h1
  refine ⟨hm, ?_⟩
  rw [pickM_len, ofNats_len, rowsOf_len (by omega)]
  have h0 : 0 < (ofNats (rowsOf b d (d + p))).length := by rw [ofNats_len, rowsOf_len (by omega)]; exact h1
  rw [pickM_row h0]
  have := (hp.2.2.2 0 h0)
  have e := (hp.1.2.2.2.2 ((ofNats (rowsOf b d (d + p))).getD 0 0).toNat (by omega)).1
  rw [e, hh]
end Go.Proofs.YtfeepmjkamdldaaDoor
/- The statements' own means, inside a region that leaves its order open. -/
namespace Go.Proofs.YtfeepmjkamdldaaDoor
open Go.RowKit
set_option linter.unusedVariables false
theorem sameT {W : World} (x : GrownW W) {v v' : Value} {M : List (List Int)} (h : MatV W v M) (h' : MatV W v' M) : Calls Tryd.prog 11 #[v, v'] x.val fun e w' => e = .returned (.bool true) ∧ Below x.val.heap.size x.val w' := by
  refine (sameMatrix_any v v' M M x.val (h.below x.prop) (h'.below x.prop)).mono ?_
  rintro e w' ⟨he, hb⟩
  rw [beq_self_eq_true] at he
  exact ⟨he, hb⟩
theorem numG {W : World} (x : GrownW W) (n : Int) : Calls Tryd.prog 12 #[.int .i64 n] x.val fun e w' => e = .returned (.int .i64 n) ∧ Below x.val.heap.size x.val w' := by
  refine (num_any n x.val).mono ?_
  rintro e w' ⟨he, rfl⟩
  exact ⟨he, Below.refl _ _⟩
end Go.Proofs.YtfeepmjkamdldaaDoor
/- GenMore: a shape with more parity has the rows of one with less, and further ones. -/
namespace Go.Proofs.YtfeepmjkamdldaaDoor
open Go.RowKit
set_option linter.unusedVariables false
set_option linter.unusedSimpArgs false
theorem modN (a n : Int) (h1 : 0 < n) (h2 : n ≤ 1000) : ∃ i : Nat, (i : Int) < n ∧ wrap64 ((IntKind.u64.wrap a).tmod n) = (i : Int) := by
  have h0 : IntKind.u64.wrap a = a % 18446744073709551616 := IntKind.wrap_u64 a
  have : 0 ≤ a % 18446744073709551616 := Int.emod_nonneg _ (by decide)
  rw [h0, Int.tmod_eq_emod_of_nonneg (by omega)]
  have h3 := Int.emod_nonneg (a % 18446744073709551616) (Int.ne_of_gt h1)
  have h4 := Int.emod_lt_of_pos (a % 18446744073709551616) h1
  exact ⟨(a % 18446744073709551616 % n).toNat, by omega, by unfold wrap64; omega⟩
/-- 0, 1, .. k - 1 -/
def upTo (k : Nat) : List Int := ofNats (List.range k)
theorem upTo_len (k : Nat) : (upTo k).length = k := by simp [upTo, ofNats]
theorem upTo_snoc (k : Nat) : upTo (k + 1) = upTo k ++ [(k : Int)] := by
  unfold upTo ofNats
  rw [List.range_succ, List.map_append]
  rfl
theorem gen_more' : ∀ d, d < 5 → ∀ p, p < 2 → (d == 0 || decide (pickF (genM d (p + 1)) (upTo (d + p)) = (genM d p, 0))) = true := by decide +kernel
theorem gen_more {d p : Nat} (h1 : 1 ≤ d) (h2 : d ≤ 4) (h3 : p < 2) : pickF (genM d (p + 1)) (upTo (d + p)) = (genM d p, 0) := by
  have h := gen_more' d (by omega) p h3
  have hd : (d == 0) = false := by simp; omega
  rw [hd, Bool.false_or] at h
  exact of_decide_eq_true h
theorem genF_yes {d p : Nat} (h1 : 1 ≤ d) (h2 : d ≤ 4) (h3 : p ≤ 2) : genF (d : Int) (p : Int) = (genM d p, 0) := by
  unfold genF
  rw [if_pos (by unfold ShpMay; omega), Int.toNat_natCast, Int.toNat_natCast]
set_option maxRecDepth 100000 in
set_option maxHeartbeats 2000000 in
theorem GenMore_walk {w : World} (hm : Made w) (a0 : Int) (w0 : (Lit.int .i64 a0).wf = true) (a1 : Int) (w1 : (Lit.int .i64 a1).wf = true) : Calls Tryd.prog 7 #[.int .i64 a0, .int .i64 a1] w fun e w' => e = .returned (.bool true) ∧ Below w.heap.size w w' := by
  have MD := hide hm
  clear hm
  obtain ⟨i, hi, ei⟩ := modN a0 4 (by decide) (by decide)
  obtain ⟨p, hp, ep⟩ := modN a1 2 (by decide) (by decide)
  obtain ⟨d, hd⟩ : ∃ d : Nat, d = 1 + i := ⟨_, rfl⟩
  have ed : (1 + (i : Int)) = (d : Int) := by omega
  have h1 : 1 ≤ d := by omega
  have h2 : d ≤ 4 := by omega
  have h3 : p < 2 := by omega
  have ED := hide ed
  clear ed hd
  go_enter Tryd.func7, Tryd.ntmps7
  go_wp2_with fail
  refine (awake5_any _ (unhide MD)).mono ?_
  rintro e w2 ⟨rfl, b2⟩
  have HB := hide b2
  clear b2
  go_wp2_with fail
  rw [unhide ED]
  have BS := hide (heap_alloc_new w2 (.cells #[.int .i64 d, .int .i64 p] 23))
  have hx := below_alloc w2 (.cells #[.int .i64 d, .int .i64 p] 23)
  generalize (w2.alloc (.cells #[.int .i64 d, .int .i64 p] 23)) = W2 at *
  replace HB := hide (bt (unhide HB) hx)
  clear hx
  refine (genMatrix_fun d p _ ((unhide MD).up (unhide HB))).mono ?_
  rintro e w3 ⟨u3, he, O3, b3⟩
  rw [genF_yes h1 h2 (by omega)] at he O3
  subst he
  obtain ⟨p3, n3, c3, rfl, e3⟩ := O3.form
  have hm3 := genM_may d (by omega) p (by omega) h1
  rw [hm3.2.1] at e3
  replace BS := hide ((b3.block _ (lt_of_block (unhide BS))).trans (unhide BS))
  replace HB := hide (bt (unhide HB) b3)
  have M3 := hide (O3.matV (rows_le hm3.1))
  have E3 := hide e3
  clear O3 b3 e3 hm3
  obtain ⟨cs0, cs1⟩ := box_two (unhide BS)
  have ds0 := fun o => ((below_alloc w3 o).cell (cell_lt cs0)).trans cs0
  have ds1 := fun o => ((below_alloc w3 o).cell (cell_lt cs1)).trans cs1
  go_wp2_with fail
  have BA := hide (heap_alloc_new w3 (.cells #[.slice p3 n3 c3] 26))
  have hx := below_alloc w3 (.cells #[.slice p3 n3 c3] 26)
  generalize (w3.alloc (.cells #[.slice p3 n3 c3] 26)) = W3 at *
  replace BS := hide ((hx.block _ (lt_of_block (unhide BS))).trans (unhide BS))
  replace M3 := hide ((unhide M3).below hx)
  replace HB := hide (bt (unhide HB) hx)
  clear hx cs0 cs1 ds0 ds1
  refine (genMatrix_fun d ((p : Int) + 1) _ ((unhide MD).up (unhide HB))).mono ?_
  rintro e w4 ⟨u4, he, O4, b4⟩
  rw [show ((p : Int) + 1) = ((p + 1 : Nat) : Int) by omega, genF_yes h1 h2 (by omega)] at he O4
  subst he
  obtain ⟨p4, n4, c4, rfl, e4⟩ := O4.form
  have hm4 := genM_may d (by omega) (p + 1) (by omega) h1
  rw [hm4.2.1] at e4
  replace BS := hide ((b4.block _ (lt_of_block (unhide BS))).trans (unhide BS))
  replace BA := hide ((b4.block _ (lt_of_block (unhide BA))).trans (unhide BA))
  replace M3 := hide ((unhide M3).below b4)
  replace HB := hide (bt (unhide HB) b4)
  have M4 := hide (O4.matV (rows_le hm4.1))
  have E4 := hide e4
  clear O4 b4 e4 hm4
  have BB := hide (heap_alloc_new w4 (.cells #[.slice p4 n4 c4] 26))
  have hx := below_alloc w4 (.cells #[.slice p4 n4 c4] 26)
  replace BS := hide ((hx.block _ (lt_of_block (unhide BS))).trans (unhide BS))
  replace BA := hide ((hx.block _ (lt_of_block (unhide BA))).trans (unhide BA))
  replace M3 := hide ((unhide M3).below hx)
  replace M4 := hide ((unhide M4).below hx)
  replace HB := hide (bt (unhide HB) hx)
  go_wp2_with fail
  generalize (w4.alloc (.cells #[.slice p4 n4 c4] 26)) = W4 at *
  clear hx
  go_loopw [10, 11] (fun rv jv wr => ∃ j : Nat, j ≤ d + p ∧ jv = .int .i64 j ∧ Hid (OwnL wr W4.heap.size 3 rv ((upTo j).map (Value.int .i64))) ∧ Hid (Below W4.heap.size W4 wr)) (fun _ jv _ => d + p - (intOf jv).toNat)
  case atStart => exact ⟨0, by omega, rfl, hide (OwnL.nil _ _ _), hide (Below.refl _ _)⟩
  case round =>
    obtain ⟨j, hj, rfl, HO, HW⟩ := hrel
    have bS := ((unhide HW).block _ (lt_of_block (unhide BS))).trans (unhide BS)
    obtain ⟨cs0, cs1⟩ := box_two bS
    by_cases hlt : j < d + p
    · have hlt' : (j : Int) < (d : Int) + (p : Int) := by omega
      obtain ⟨pr, cr, er⟩ := (unhide HO).form
      rw [List.length_map, upTo_len] at er
      subst er
      have hszW := (unhide HW).size
      clear bS
      go_wp2_with (at_builtin; refine wpList_push wr (by rfl) (.tmp 50) (.tmp 52) 38 (by rfl) W4.heap.size 3 (.int .i64 0) 8 Tryd.underlying38 Tryd.infoInt rfl _ _ (by rfl) (unhide HO) _ (by rfl) (by rfl) (by simp [upTo_len]; omega) (by omega) hszW ?_; intro v1 wa O1 P1; have HBa := hide (P1.below (unhide HO) (unhide HW) (Nat.le_refl _) hszW); have HO1 := hide O1; clear O1 P1 HO HW)
      go_roundw
      case rel =>
        refine ⟨j + 1, by omega, by go_num, hide ?_, HBa⟩
        have := unhide HO1
        rw [upTo_snoc, List.map_append]
        exact this
      case measure => simp [intOf]; omega
    · have hlt' : ¬ (j : Int) < (d : Int) + (p : Int) := by omega
      obtain rfl : j = d + p := by omega
      obtain ⟨pr, cr, er, hI⟩ := (unhide HO).ints
      rw [upTo_len] at er hI
      subst er
      have hbw := unhide HW
      have HI := hide hI
      replace BA := hide ((hbw.block _ (lt_of_block (unhide BA))).trans (unhide BA))
      replace BB := hide ((hbw.block _ (lt_of_block (unhide BB))).trans (unhide BB))
      replace M3 := hide ((unhide M3).below hbw)
      replace M4 := hide ((unhide M4).below hbw)
      replace HB := hide (bt (unhide HB) hbw)
      clear hbw bS hI HO HW
      have cBA := cell_of_one (unhide BA)
      have dBA := fun o => ((below_alloc wr o).cell (cell_lt cBA)).trans cBA
      have cBB := cell_of_one (unhide BB)
      have dBB := fun o => ((below_alloc wr o).cell (cell_lt cBB)).trans cBB
      go_wp2_with fail
      refine (matPick_fun _ _ _ _ _ _ wr (unhide M4) (unhide HI) (by unfold maxLen; omega)).mono ?_
      rintro e w5 ⟨u5, he, O5, b5⟩
      rw [gen_more h1 h2 h3] at he O5
      subst he
      obtain ⟨p5, n5, c5, rfl, e5⟩ := O5.form
      replace BA := hide ((b5.block _ (lt_of_block (unhide BA))).trans (unhide BA))
      replace BB := hide ((b5.block _ (lt_of_block (unhide BB))).trans (unhide BB))
      replace M3 := hide ((unhide M3).below b5)
      replace HB := hide (bt (unhide HB) b5)
      have M5 := hide (O5.matV (rows_le (genM_may d (by omega) p (by omega) h1).1))
      clear O5 b5 e5 cBA dBA cBB dBB cs0 cs1
      have t1 : ((n4 : Int) == (n3 : Int) + 1) = true := by
        have := unhide E3
        have := unhide E4
        simp; omega
      have hn3 : n3 ≤ 6 := by have := unhide E3; omega
      have cBA := cell_of_one (unhide BA)
      have dBA := fun o => ((below_alloc w5 o).cell (cell_lt cBA)).trans cBA
      have cBB := cell_of_one (unhide BB)
      have dBB := fun o => ((below_alloc w5 o).cell (cell_lt cBB)).trans cBB
      go_wp2_with (go_at_call 12; refine (num_any _ _).mono ?_; rintro e w' ⟨rfl, rfl⟩)
      have hx := below_alloc w5 (.cells #[.slice p5 n5 c5] 26)
      have fBB := ((below_alloc w5 (.cells #[.slice p5 n5 c5] 26)).block _ (lt_of_block (unhide BB))).trans (unhide BB)
      have fBA := ((below_alloc w5 (.cells #[.slice p5 n5 c5] 26)).block _ (lt_of_block (unhide BA))).trans (unhide BA)
      refine (sameMatrix_any _ _ _ _ _ ((unhide M3).below hx) ((unhide M5).below hx)).mono ?_
      rintro e w6 ⟨he, b6⟩
      rw [beq_self_eq_true] at he
      subst he
      have gBB := cell_of_one ((b6.block _ (lt_of_block fBB)).trans fBB)
      have gBA := cell_of_one ((b6.block _ (lt_of_block fBA)).trans fBA)
      replace HB := hide (bt (unhide HB) (bt hx b6))
      clear hx b6 fBB fBA cBA dBA cBB dBB
      go_wp2
      go_ret
      exact ⟨rfl, unhide HB⟩
end Go.Proofs.YtfeepmjkamdldaaDoor
/- GenAny: the first rows are the identity; any Data of all rows can be inverted. -/
namespace Go.Proofs.YtfeepmjkamdldaaDoor
open Go.RowKit
set_option linter.unusedVariables false
set_option linter.unusedSimpArgs false
def bitB (a : Int) (j : Nat) : Bool := bits .and .i64 (a / 2 ^ j) 1 == 1
theorem bitB_one {a : Int} {j : Nat} (h : bitB a j = true) : (bits .and .i64 (a / 2 ^ j) 1 == 1) = true ∧ (bits .and .i64 (a / 2 ^ j) 1 == 0) = false := by
  unfold bitB at h
  refine ⟨h, ?_⟩
  have := eq_of_beq h
  rw [this]; rfl
theorem bitB_zero {a : Int} {j : Nat} (h : bitB a j = false) : (bits .and .i64 (a / 2 ^ j) 1 == 1) = false ∧ (bits .and .i64 (a / 2 ^ j) 1 == 0) = true := by
  unfold bitB at h
  refine ⟨h, ?_⟩
  rw [and_1] at h ⊢
  have h1 : ¬ a / 2 ^ j % 2 = 1 := by simpa using h
  have h2 : a / 2 ^ j % 2 = 0 := by omega
  rw [h2]; rfl
/-- the first m of the numbers below k that q holds of -/
def stepL (q : Nat → Bool) (m k : Nat) : List Nat := ((List.range k).filter q).take m
theorem stepL_le (q : Nat → Bool) (m k : Nat) : (stepL q m k).length ≤ m := List.length_take_le _ _
theorem stepL_yes {q : Nat → Bool} {m k : Nat} (h : q k = true) (hl : (stepL q m k).length < m) : stepL q m (k + 1) = stepL q m k ++ [k] := by
  unfold stepL at *
  rw [List.range_succ, List.filter_append]
  have e : [k].filter q = [k] := by simp [h]
  rw [e]
  rw [List.length_take] at hl
  have hl' : ((List.range k).filter q).length < m := by omega
  rw [List.take_append, List.take_of_length_le (by omega), List.take_of_length_le (by simp; omega)]
theorem stepL_no {q : Nat → Bool} {m k : Nat} (h : q k = false) : stepL q m (k + 1) = stepL q m k := by
  unfold stepL
  rw [List.range_succ, List.filter_append]
  simp [h]
theorem stepL_full1 {q : Nat → Bool} {m k : Nat} (hl : ¬ (stepL q m k).length < m) : stepL q m (k + 1) = stepL q m k := by
  unfold stepL at *
  rw [List.length_take] at hl
  rw [List.range_succ, List.filter_append, List.take_append_of_le_length (by omega)]
theorem stepL_full {q : Nat → Bool} {m k : Nat} (hl : ¬ (stepL q m k).length < m) : ∀ n, stepL q m (k + n) = stepL q m k
  | 0 => rfl
  | n + 1 => by
    have ih := stepL_full hl n
    rw [← Nat.add_assoc, stepL_full1 (by rw [ih]; exact hl), ih]
/-- the rows behind the second loop's k rounds -/
def restL (b : Nat → Bool) (d n k : Nat) : List Nat := stepL b d n ++ stepL (fun i => !b i) (d - (stepL b d n).length) k
theorem restL_yes {b : Nat → Bool} {d n k : Nat} (h : b k = false) (hl : (restL b d n k).length < d) : restL b d n (k + 1) = restL b d n k ++ [k] := by
  unfold restL at *
  rw [List.length_append] at hl
  rw [stepL_yes (q := fun i => !b i) (by simp [h]) (by omega), List.append_assoc]
theorem restL_no {b : Nat → Bool} {d n k : Nat} (h : b k = true) : restL b d n (k + 1) = restL b d n k := by
  unfold restL
  rw [stepL_no (by simp [h])]
theorem restL_full {b : Nat → Bool} {d n k : Nat} (hk : k ≤ n) (hl : ¬ (restL b d n k).length < d) : restL b d n k = rowsOf b d n := by
  unfold restL at *
  rw [List.length_append] at hl
  have h1 := stepL_le b d n
  have h2 : ¬ (stepL (fun i => !b i) (d - (stepL b d n).length) k).length < d - (stepL b d n).length := by omega
  have h3 := stepL_full h2 (n - k)
  rw [show k + (n - k) = n by omega] at h3
  rw [← h3]
  rfl
theorem restL_end (b : Nat → Bool) (d n : Nat) : restL b d n n = rowsOf b d n := rfl
theorem restL_le (b : Nat → Bool) (d n k : Nat) : (restL b d n k).length ≤ d := by
  unfold restL
  rw [List.length_append]
  have h1 := stepL_le b d n
  have h2 := stepL_le (fun i => !b i) (d - (stepL b d n).length) k
  omega
theorem ofNats_snoc (l : List Nat) (k : Nat) : ofNats (l ++ [k]) = ofNats l ++ [(k : Int)] := by
  unfold ofNats
  rw [List.map_append]
  rfl
theorem gen_top' : ∀ d, d < 5 → ∀ p, p < 3 → (d == 0 || decide (pickF (genM d p) (upTo d) = (idM d, 0))) = true := by decide +kernel
theorem gen_top {d p : Nat} (h1 : 1 ≤ d) (h2 : d ≤ 4) (h3 : p ≤ 2) : pickF (genM d p) (upTo d) = (idM d, 0) := by
  have h := gen_top' d (by omega) p (by omega)
  have hd : (d == 0) = false := by simp; omega
  rw [hd, Bool.false_or] at h
  exact of_decide_eq_true h
set_option maxRecDepth 100000 in
set_option maxHeartbeats 4000000 in
theorem GenAny_walk {w : World} (hm : Made w) (a0 : Int) (w0 : (Lit.int .i64 a0).wf = true) (a1 : Int) (w1 : (Lit.int .i64 a1).wf = true) (a2 : Int) (w2' : (Lit.int .i64 a2).wf = true) : Calls Tryd.prog 4 #[.int .i64 a0, .int .i64 a1, .int .i64 a2] w fun e w' => e = .returned (.bool true) ∧ Below w.heap.size w w' := by
  have MD := hide hm
  clear hm
  obtain ⟨i, hi, ei⟩ := modN a0 4 (by decide) (by decide)
  obtain ⟨p, hp, ep⟩ := modN a1 3 (by decide) (by decide)
  obtain ⟨d, hd⟩ : ∃ d : Nat, d = 1 + i := ⟨_, rfl⟩
  have ed : (1 + (i : Int)) = (d : Int) := by omega
  have h1 : 1 ≤ d := by omega
  have h2 : d ≤ 4 := by omega
  have h3 : p ≤ 2 := by omega
  obtain ⟨R, eR⟩ : ∃ R : Nat, R = d + p := ⟨_, rfl⟩
  have ed2 : ((d : Int) + (p : Int)) = (R : Int) := by omega
  have hR6 : R ≤ 6 := by omega
  have ER := hide eR
  have ED := hide ed
  have ED2 := hide ed2
  clear ed hd ed2 eR
  go_enter Tryd.func4, Tryd.ntmps4
  go_wp2_with fail
  refine (awake5_any _ (unhide MD)).mono ?_
  rintro e w2 ⟨rfl, b2⟩
  have HB := hide b2
  clear b2
  go_wp2_with fail
  rw [unhide ED, unhide ED2]
  have BS := hide (heap_alloc_new w2 (.cells #[.int .i64 d, .int .i64 p] 23))
  have hx := below_alloc w2 (.cells #[.int .i64 d, .int .i64 p] 23)
  generalize (w2.alloc (.cells #[.int .i64 d, .int .i64 p] 23)) = W2 at *
  replace HB := hide (bt (unhide HB) hx)
  clear hx
  refine (genMatrix_fun d p _ ((unhide MD).up (unhide HB))).mono ?_
  rintro e w3 ⟨u3, he, O3, b3⟩
  rw [genF_yes h1 h2 h3] at he O3
  subst he
  obtain ⟨p3, n3, c3, rfl, e3⟩ := O3.form
  have hm3 := genM_may d (by omega) p (by omega) h1
  rw [hm3.2.1, ← unhide ER] at e3
  subst e3
  replace BS := hide ((b3.block _ (lt_of_block (unhide BS))).trans (unhide BS))
  replace HB := hide (bt (unhide HB) b3)
  have M3 := hide (O3.matV (rows_le hm3.1))
  clear O3 b3 hm3
  have t1 : ((n3 : Int) != (n3 : Int)) = false := by simp
  have BA := hide (heap_alloc_new w3 (.cells #[.slice p3 n3 c3] 26))
  have hx := below_alloc w3 (.cells #[.slice p3 n3 c3] 26)
  replace BS := hide ((hx.block _ (lt_of_block (unhide BS))).trans (unhide BS))
  replace M3 := hide ((unhide M3).below hx)
  replace HB := hide (bt (unhide HB) hx)
  go_wp2_with (go_at_call 12; refine (num_any _ _).mono ?_; rintro e w' ⟨rfl, rfl⟩)
  generalize (w3.alloc (.cells #[.slice p3 n3 c3] 26)) = W4 at *
  clear hx
  go_loopw [11, 13] (fun rv jv wr => ∃ j : Nat, j ≤ n3 ∧ jv = .int .i64 j ∧ Hid (OwnL wr W4.heap.size 3 rv ((ofNats (stepL (bitB a2) d j)).map (Value.int .i64))) ∧ Hid (Below W4.heap.size W4 wr)) (fun _ jv _ => n3 - (intOf jv).toNat)
  case atStart => exact ⟨0, by omega, rfl, by rw [show stepL (bitB a2) d 0 = [] by simp [stepL]]; exact hide (OwnL.nil _ _ _), hide (Below.refl _ _)⟩
  case round =>
    obtain ⟨j, hj, rfl, HO, HW⟩ := hrel
    have bS := ((unhide HW).block _ (lt_of_block (unhide BS))).trans (unhide BS)
    obtain ⟨cs0, cs1⟩ := box_two bS
    obtain ⟨pr, cr, er⟩ := (unhide HO).form
    obtain ⟨L, eL⟩ : ∃ L, L = (stepL (bitB a2) d j).length := ⟨_, rfl⟩
    rw [List.length_map, ofNats_len, ← eL] at er
    subst er
    have hL : L ≤ 4 := by have := stepL_le (bitB a2) d j; omega
    have hszW := (unhide HW).size
    have EL := hide eL
    clear bS eL
    by_cases hlt : j < n3
    · have hlt' : (j : Int) < (n3 : Int) := by omega
      by_cases hb : bitB a2 j = true
      · obtain ⟨t2, t3⟩ := bitB_one hb
        have HBB := hide hb
        clear hb
        by_cases hld : L < d
        · have hld' : (L : Int) < d := by omega
          go_wp2_with (at_builtin; refine wpList_push wr (by rfl) (.tmp 73) (.tmp 75) 38 (by rfl) W4.heap.size 3 (.int .i64 0) 8 Tryd.underlying38 Tryd.infoInt rfl _ _ (by rfl) (unhide HO) _ (by rfl) (by rfl) (by rw [List.length_map, ofNats_len, ← unhide EL]; omega) (by omega) hszW ?_; intro v1 wa O1 P1; have HBa := hide (P1.below (unhide HO) (unhide HW) (Nat.le_refl _) hszW); have HO1 := hide O1; clear O1 P1 HO HW)
          go_roundw
          case rel =>
            refine ⟨j + 1, by omega, by go_num, hide ?_, HBa⟩
            have := unhide HO1
            rw [stepL_yes (unhide HBB) (by rw [← unhide EL]; exact hld), ofNats_snoc, List.map_append]
            exact this
          case measure => simp [intOf]; omega
        · have hld' : ¬ (L : Int) < d := by omega
          go_wp2
          go_roundw
          case rel => exact ⟨j + 1, by omega, by go_num, by rw [stepL_full1 (by rw [← unhide EL]; exact hld)]; exact HO, HW⟩
          case measure => simp [intOf]; omega
      · have hb : bitB a2 j = false := by simpa using hb
        obtain ⟨t2, t3⟩ := bitB_zero hb
        have HBB := hide hb
        clear hb
        go_wp2
        go_roundw
        case rel => exact ⟨j + 1, by omega, by go_num, by rw [stepL_no (unhide HBB)]; exact HO, HW⟩
        case measure => simp [intOf]; omega
    · have hlt' : ¬ (j : Int) < (n3 : Int) := by omega
      obtain rfl : j = n3 := by omega
      have HO0 : Hid (OwnL wr W4.heap.size 3 (.slice pr L cr) ((ofNats (restL (bitB a2) d j 0)).map (Value.int .i64))) := by
        have e : restL (bitB a2) d j 0 = stepL (bitB a2) d j := by simp [restL, stepL]
        rw [e]; exact HO
      clear HO EL cs0 cs1
      go_wp2
      go_loopw [11, 14] (fun rv jv wr => ∃ k : Nat, k ≤ j ∧ jv = .int .i64 k ∧ Hid (OwnL wr W4.heap.size 3 rv ((ofNats (restL (bitB a2) d j k)).map (Value.int .i64))) ∧ Hid (Below W4.heap.size W4 wr)) (fun _ jv _ => j - (intOf jv).toNat)
      case atStart => exact ⟨0, by omega, rfl, HO0, HW⟩
      case round =>
        clear HO0 HW hszW hL
        obtain ⟨k, hk, rfl, HO, HW⟩ := hrel
        have bS := ((unhide HW).block _ (lt_of_block (unhide BS))).trans (unhide BS)
        obtain ⟨cs0, cs1⟩ := box_two bS
        obtain ⟨pr, cr, er⟩ := (unhide HO).form
        obtain ⟨L, eL⟩ : ∃ L, L = (restL (bitB a2) d j k).length := ⟨_, rfl⟩
        rw [List.length_map, ofNats_len, ← eL] at er
        subst er
        have hL : L ≤ 4 := by have := restL_le (bitB a2) d j k; omega
        have hszW := (unhide HW).size
        have EL := hide eL
        clear bS eL
        by_cases hlt : k < j ∧ L < d
        · obtain ⟨hlt, hld⟩ := hlt
          have hlt' : (k : Int) < (j : Int) := by omega
          have hld' : (L : Int) < d := by omega
          by_cases hb : bitB a2 k = true
          · obtain ⟨t2, t3⟩ := bitB_one hb
            have HBB := hide hb
            clear hb
            go_wp2
            go_roundw
            case rel => exact ⟨k + 1, by omega, by go_num, by rw [restL_no (unhide HBB)]; exact HO, HW⟩
            case measure => simp [intOf]; omega
          · have hb : bitB a2 k = false := by simpa using hb
            obtain ⟨t2, t3⟩ := bitB_zero hb
            have HBB := hide hb
            clear hb
            go_wp2_with (at_builtin; refine wpList_push wr (by rfl) (.tmp 94) (.tmp 96) 38 (by rfl) W4.heap.size 3 (.int .i64 0) 8 Tryd.underlying38 Tryd.infoInt rfl _ _ (by rfl) (unhide HO) _ (by rfl) (by rfl) (by rw [List.length_map, ofNats_len, ← unhide EL]; omega) (by omega) hszW ?_; intro v1 wa O1 P1; have HBa := hide (P1.below (unhide HO) (unhide HW) (Nat.le_refl _) hszW); have HO1 := hide O1; clear O1 P1 HO HW)
            go_roundw
            case rel =>
              refine ⟨k + 1, by omega, by go_num, hide ?_, HBa⟩
              have := unhide HO1
              rw [restL_yes (unhide HBB) (by rw [← unhide EL]; exact hld), ofNats_snoc, List.map_append]
              exact this
            case measure => simp [intOf]; omega
        · have hend : restL (bitB a2) d j k = rowsOf (bitB a2) d j := by
            by_cases hkj : k < j
            · exact restL_full hk (by rw [← unhide EL]; omega)
            · obtain rfl : k = j := by omega
              exact restL_end _ _ _
          have hLd : L = d := by rw [unhide EL, hend, rowsOf_len (by have := unhide ER; omega)]
          have hcase : (¬ (k : Int) < (j : Int)) ∨ ((k : Int) < (j : Int) ∧ ¬ (L : Int) < d) := by omega
          have hI : Ints wr pr d cr (ofNats (rowsOf (bitB a2) d j)) := by
            have h := unhide HO
            rw [hend] at h
            obtain ⟨a, c, e, hi⟩ := h.ints
            rw [ofNats_len, rowsOf_len (by have := unhide ER; omega)] at e hi
            simp only [Value.slice.injEq] at e
            obtain ⟨rfl, _, rfl⟩ := e
            exact hi
          have HI := hide hI
          have hbw := unhide HW
          replace BS := hide ((hbw.block _ (lt_of_block (unhide BS))).trans (unhide BS))
          replace BA := hide ((hbw.block _ (lt_of_block (unhide BA))).trans (unhide BA))
          replace M3 := hide ((unhide M3).below hbw)
          replace HB := hide (bt (unhide HB) hbw)
          clear hend hlt hI HO HW hbw EL
          subst hLd
          obtain ⟨V, rfl⟩ : ∃ V, V = wr := ⟨_, rfl⟩
          have hPk := rowsOf_pick (bitB a2) h1 h2 h3
          have hPi := rowsOf_inv (bitB a2) h1 h2 h3
          have hPs := pick_sq (bitB a2) h1 h2 h3
          rw [← unhide ER] at hPk hPi hPs
          have HPK := hide hPk
          have HPI := hide hPi
          have HPS := hide hPs
          clear hPk hPi hPs t1 cs0 cs1
          obtain ⟨cs0, cs1⟩ := box_two (unhide BS)
          rcases hcase with hc | ⟨hc, hc'⟩
          all_goals
            go_wp2
            go_loopw [12, 15] (fun rv jv wr => ∃ t : Nat, t ≤ L ∧ jv = .int .i64 t ∧ Hid (OwnL wr V.heap.size 3 rv ((upTo t).map (Value.int .i64))) ∧ Hid (Below V.heap.size V wr)) (fun _ jv _ => L - (intOf jv).toNat)
            case atStart => exact ⟨0, by omega, rfl, hide (OwnL.nil _ _ _), hide (Below.refl _ _)⟩
            case round =>
              obtain ⟨t, ht, rfl, HO, HW⟩ := hrel
              have bS := ((unhide HW).block _ (lt_of_block (unhide BS))).trans (unhide BS)
              clear cs0 cs1
              obtain ⟨cs0, cs1⟩ := box_two bS
              by_cases hlt : t < L
              · have hlt' : (t : Int) < L := by omega
                obtain ⟨pt, ct, er⟩ := (unhide HO).form
                rw [List.length_map, upTo_len] at er
                subst er
                have hszV := (unhide HW).size
                clear bS
                go_wp2_with (at_builtin; refine wpList_push wr (by rfl) (.tmp 104) (.tmp 106) 38 (by rfl) V.heap.size 3 (.int .i64 0) 8 Tryd.underlying38 Tryd.infoInt rfl _ _ (by rfl) (unhide HO) _ (by rfl) (by rfl) (by simp [upTo_len]; omega) (by omega) hszV ?_; intro v1 wa O1 P1; have HBa := hide (P1.below (unhide HO) (unhide HW) (Nat.le_refl _) hszV); have HO1 := hide O1; clear O1 P1 HO HW)
                go_roundw
                case rel =>
                  refine ⟨t + 1, by omega, by go_num, hide ?_, HBa⟩
                  have := unhide HO1
                  rw [upTo_snoc, List.map_append]
                  exact this
                case measure => simp [intOf]; omega
              · have hlt' : ¬ (t : Int) < L := by omega
                obtain rfl : t = L := by omega
                obtain ⟨pt, ct, er, hJ⟩ := (unhide HO).ints
                rw [upTo_len] at er hJ
                subst er
                have HJ := hide hJ
                have hbw := unhide HW
                replace BA := hide ((hbw.block _ (lt_of_block (unhide BA))).trans (unhide BA))
                replace M3 := hide ((unhide M3).below hbw)
                replace HI := hide ((unhide HI).below hbw)
                replace HB := hide (bt (unhide HB) hbw)
                replace BS := hide bS
                clear hbw bS HO HW hJ
                have cBA := cell_of_one (unhide BA)
                have dBA := fun o => ((below_alloc wr o).cell (cell_lt cBA)).trans cBA
                go_wp2_with fail
                refine (matPick_fun _ _ _ _ _ _ wr (unhide M3) (unhide HI) (by unfold maxLen; omega)).mono ?_
                rintro e w5 ⟨u5, he, O5, b5⟩
                have eP : pickF (genM t p) (ofNats (rowsOf (bitB a2) t j)) = (pickM (genM t p) (ofNats (rowsOf (bitB a2) t j)), 0) := by unfold pickF; rw [if_pos (unhide HPK)]
                rw [eP] at he O5
                subst he
                obtain ⟨p5, n5, c5, rfl, e5⟩ := O5.form
                have M5 := hide (O5.matV (rows_le (unhide HPS).1))
                replace BS := hide ((b5.block _ (lt_of_block (unhide BS))).trans (unhide BS))
                replace BA := hide ((b5.block _ (lt_of_block (unhide BA))).trans (unhide BA))
                replace M3 := hide ((unhide M3).below b5)
                replace HJ := hide ((unhide HJ).below b5)
                replace HB := hide (bt (unhide HB) b5)
                clear O5 b5 e5 eP cBA dBA cs0 cs1
                go_wp2_with fail
                have hx := below_alloc w5 (.cells #[.slice p5 n5 c5] 26)
                generalize (w5.alloc (.cells #[.slice p5 n5 c5] 26)) = W5 at *
                replace BS := hide ((hx.block _ (lt_of_block (unhide BS))).trans (unhide BS))
                replace BA := hide ((hx.block _ (lt_of_block (unhide BA))).trans (unhide BA))
                replace M3 := hide ((unhide M3).below hx)
                replace HJ := hide ((unhide HJ).below hx)
                replace M5 := hide ((unhide M5).below hx)
                replace HB := hide (bt (unhide HB) hx)
                clear hx
                refine (invInvert_any _ _ W5 (unhide M5)).mono ?_
                rintro e w6 ⟨u6, r6, hr6, he, O6, b6⟩
                obtain ⟨N, hN⟩ := unhide HPI
                obtain rfl : r6 = (N, 0) := invR_one hr6 (.inr (.inl ⟨unhide HPS, N, hN, rfl⟩))
                subst he
                obtain ⟨p6, n6, c6, rfl, e6⟩ := O6.form
                replace BS := hide ((b6.block _ (lt_of_block (unhide BS))).trans (unhide BS))
                replace BA := hide ((b6.block _ (lt_of_block (unhide BA))).trans (unhide BA))
                replace M3 := hide ((unhide M3).below b6)
                replace HJ := hide ((unhide HJ).below b6)
                replace HB := hide (bt (unhide HB) b6)
                clear O6 b6 e6 hr6 hN
                have cBA := cell_of_one (unhide BA)
                have dBA := fun o => ((below_alloc w6 o).cell (cell_lt cBA)).trans cBA
                go_wp2_with fail
                have hx := below_alloc w6 (.cells #[.slice p6 n6 c6] 26)
                generalize (w6.alloc (.cells #[.slice p6 n6 c6] 26)) = W6 at *
                replace BS := hide ((hx.block _ (lt_of_block (unhide BS))).trans (unhide BS))
                replace BA := hide ((hx.block _ (lt_of_block (unhide BA))).trans (unhide BA))
                replace M3 := hide ((unhide M3).below hx)
                replace HJ := hide ((unhide HJ).below hx)
                replace HB := hide (bt (unhide HB) hx)
                clear hx cBA dBA
                refine (matPick_fun _ _ _ _ _ _ W6 (unhide M3) (unhide HJ) (by unfold maxLen; omega)).mono ?_
                rintro e w7 ⟨u7, he, O7, b7⟩
                rw [gen_top h1 h2 h3] at he O7
                subst he
                obtain ⟨p7, n7, c7, rfl, e7⟩ := O7.form
                have M7 := hide (O7.matV (rows_le (idM_may h1 (by omega))))
                replace BS := hide ((b7.block _ (lt_of_block (unhide BS))).trans (unhide BS))
                replace HB := hide (bt (unhide HB) b7)
                clear O7 b7 e7
                obtain ⟨cs0, cs1⟩ := box_two (unhide BS)
                have ds0 := fun o => ((below_alloc w7 o).cell (cell_lt cs0)).trans cs0
                go_wp2_with fail
                have C7 := hide (heap_alloc_new w7 (.cells #[.slice p7 n7 c7] 26))
                have hx := below_alloc w7 (.cells #[.slice p7 n7 c7] 26)
                generalize (w7.alloc (.cells #[.slice p7 n7 c7] 26)) = W7 at *
                replace M7 := hide ((unhide M7).below hx)
                replace HB := hide (bt (unhide HB) hx)
                clear hx cs0 cs1 ds0
                refine (matIdentity_fun t W7).mono ?_
                rintro e w8 ⟨u8, he, O8, b8⟩
                have eI : idF (t : Int) = (idM t, 0) := by unfold idF; rw [if_pos (by omega), Int.toNat_natCast]
                rw [eI] at he O8
                subst he
                obtain ⟨p8, n8, c8, rfl, e8⟩ := O8.form
                have M8 := hide (O8.matV (rows_le (idM_may h1 (by omega))))
                replace C7 := hide ((b8.block _ (lt_of_block (unhide C7))).trans (unhide C7))
                replace M7 := hide ((unhide M7).below b8)
                replace HB := hide (bt (unhide HB) b8)
                clear O8 b8 e8 eI
                have cC7 := cell_of_one (unhide C7)
                have dC7 := fun o => ((below_alloc w8 o).cell (cell_lt cC7)).trans cC7
                go_wp2_with (go_at_call 12; refine (num_any _ _).mono ?_; rintro e w' ⟨rfl, rfl⟩)
                have hx := below_alloc w8 (.cells #[.slice p8 n8 c8] 26)
                refine (sameMatrix_any _ _ _ _ _ ((unhide M7).below hx) ((unhide M8).below hx)).mono ?_
                rintro e w9 ⟨he, b9⟩
                rw [beq_self_eq_true] at he
                subst he
                replace HB := hide (bt (unhide HB) (bt hx b9))
                clear hx b9 cC7 dC7
                go_wp2
                go_ret
                exact ⟨rfl, unhide HB⟩
end Go.Proofs.YtfeepmjkamdldaaDoor
/- Plain facts on slices that came in. -/
namespace Go.Proofs.YtfeepmjkamdldaaDoor
open Go.RowKit
set_option linter.unusedVariables false
/-- a slice of bytes reads xs -/
def Bytes (w : World) (a : Option Addr) (n cap : Nat) (xs : List Int) : Prop := xs.length = n ∧ IsRow w a n cap (fun i => .int .u8 (xs.getD i 0))
theorem row_le {w : World} {a : Option Addr} {n cap : Nat} {f : Nat → Value} (h : IsRow w a n cap f) : n ≤ cap := by
  rcases h with h | h | h <;> omega
theorem getD_take {α : Type} {zs : List α} {n i : Nat} (d : α) (h : i < n) : (zs.take n).getD i d = zs.getD i d := by
  simp [List.getD, h]
theorem row_of_add {w : World} {x : Addr} {n cap : Nat} {f : Nat → Value} (hl : n ≤ cap) (hc : ∀ i, i < n → w.cell? (x.add i) = some (f i)) : IsRow w (some x) n cap f := by
  by_cases h0 : n = 0
  · exact .inr (.inl ⟨h0, x, rfl⟩)
  · obtain ⟨b, off, spot⟩ := x
    have h := hc 0 (by omega)
    have hs : spot = none := by simpa [Addr.add] using World.cell?_spot h
    subst hs
    refine .inr (.inr ⟨by omega, hl, b, off, rfl, fun i hi => ?_⟩)
    have := hc i hi
    have e : (⟨b, off, none⟩ : Addr).add i = ⟨b, off + i, none⟩ := by unfold Addr.add; split <;> simp_all
    rw [e] at this; exact this
end Go.Proofs.YtfeepmjkamdldaaDoor
/- What the statements' condition gives the walks: the twelve cells of package gen's variable. -/
namespace Go.Proofs.YtfeepmjkamdldaaDoor
open Go.ChangeShapes Go.WideShapes Go.ChangeAt Go.RowKit
set_option linter.unusedVariables false
abbrev laid1 : List (String × DataW Unit) := [("ossuary/gen.made", Rows.laid_ossuary_gen_made)]
theorem gMade : Tryd.prog.globalNamed "ossuary/gen.made" = some 0 := by kernel_rfl
theorem tMade : (Tryd.prog.globals[0]?).map (·.type) = some 64 := by kernel_rfl
theorem door_met (os : Os) (args : Array Value) : laidMetH Tryd.prog laid1 ((World.doorLaid Tryd.prog 400 os).forCall (fun _ _ => 0) ⟨#[], args, []⟩).memory :=
  laidMetH_of_parts3 (fuel := 8) (laidMet_of_run' 8 (by kernel_rfl) (by kernel_rfl)) (by kernel_rfl) (by kernel_rfl)
theorem at_of_one {l : List Value} {j : Nat} {x : Value} (h : (l.drop j).take 1 = [x]) : l[j]? = some x := by
  have := congrArg (·[0]?) h
  simpa [List.getElem?_take, List.getElem?_drop] using this
theorem made_of_laid {W : World} (h : laidMetH Tryd.prog laid1 W) : Made W := by
  rw [MakeChecks.laidMetH_plain _ _ _ (by kernel_rfl)] at h
  obtain ⟨ps, ⟨g0, t0, cs0, f0, p0, q0, hg0, ht0, hv0, hd0, _, _⟩, _, _⟩ := h
  obtain rfl := Option.some.inj (gMade.symm.trans hg0)
  obtain rfl := Option.some.inj (tMade.symm.trans ht0)
  have cT : Tryd.prog.cellsOf 63 = 3 := by kernel_rfl
  have cB : Tryd.prog.cellsOf 4 = 1 := by kernel_rfl
  obtain ⟨xs, m1, rfl, hx, hlen, hn, hel⟩ := DataW.trod_array Tryd.underlying64 hd0
  simp only [Prod.mk.injEq] at hx
  obtain ⟨hx, _⟩ := hx
  have hrow : ∀ i, i < 4 → ∃ q, xs[i]? = some (.agg [.lit (.bool true), .lit (.bool true), .lit (.bool true)], q) := by
    intro i hi
    obtain ⟨x, ex⟩ : ∃ x, xs[i]? = some x := ⟨_, List.getElem?_eq_getElem (by omega)⟩
    have hx' : (xs.map (·.1))[i]? = some x.1 := by simp [ex]
    have e : xs.map (·.1) = [.agg [.lit (.bool true), .lit (.bool true), .lit (.bool true)], .agg [.lit (.bool true), .lit (.bool true), .lit (.bool true)], .agg [.lit (.bool true), .lit (.bool true), .lit (.bool true)], .agg [.lit (.bool true), .lit (.bool true), .lit (.bool true)]] := by
      have := hx.symm
      simp only [Rows.laid_ossuary_gen_made, DataW.agg.injEq] at this
      exact this
    rw [e] at hx'
    refine ⟨x.2, ?_⟩
    rw [ex]
    have h4 : i = 0 ∨ i = 1 ∨ i = 2 ∨ i = 3 := by omega
    rcases h4 with rfl | rfl | rfl | rfl <;> (simp at hx'; rw [hx'])
  have hcell : ∀ i, i < 4 → ∀ j, j < 3 → cs0.toList[i * 3 + j]? = some (.bool true) := by
    intro i hi j hj
    obtain ⟨q, hq⟩ := hrow i hi
    have h1 := hel i hi
    rw [hq, cT] at h1
    obtain ⟨ys, m2, rfl, hy, _, hny, hel2⟩ := DataW.trod_array Tryd.underlying63 h1
    simp only [Prod.mk.injEq, DataW.agg.injEq] at hy
    obtain ⟨hy, _⟩ := hy
    obtain ⟨y, ey⟩ : ∃ y, ys[j]? = some y := ⟨_, List.getElem?_eq_getElem (by omega)⟩
    have hy' : (ys.map (·.1))[j]? = some y.1 := by simp [ey]
    rw [← hy] at hy'
    have h2 := hel2 j hj
    rw [ey, cB] at h2
    obtain ⟨b, hb, eb⟩ := DataW.trod_bool Tryd.underlying4 h2
    have hb1 : b = true := by
      rw [eb] at hy'
      have h3 : j = 0 ∨ j = 1 ∨ j = 2 := by omega
      rcases h3 with rfl | rfl | rfl <;> (simp at hy'; exact hy')
    subst hb1
    rw [Nat.mul_one] at hb
    have := at_of_one hb
    rw [List.getElem?_take, if_pos hj, List.getElem?_drop] at this
    exact this
  intro k hk
  rw [World.var?_cell hg0 hv0 k, ← Array.getElem?_toList]
  have := hcell (k / 3) (by omega) (k % 3) (by omega)
  rwa [show k / 3 * 3 + k % 3 = k by omega] at this
end Go.Proofs.YtfeepmjkamdldaaDoor
