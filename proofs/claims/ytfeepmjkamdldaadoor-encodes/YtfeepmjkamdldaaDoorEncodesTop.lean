/- Texts of one proof, one behind the other: GenWalk, Vec, RefVec1, RefVec2, RefVec3, SpoilT, EncRef, EncRef2, VecWalk, EncW1, EncW2, EncWalk, Awake6, EncodesWalk, MemOpen, Laid, OpenC, OpenS. -/
import Derived.Test.YtfeepmjkamdldaaDoorGenW1
import Derived.Test.YtfeepmjkamdldaaDoorInvWalk
import Derived.Test.YtfeepmjkamdldaaDoorGf
import Derived.Test.YtfeepmjkamdldaaDoorProg
import Derived.Test.YtfeepmjkamdldaaDoorMem
import Derived.Test.YtfeepmjkamdldaaDoorRefGfWalks
import Derived.Test.YtfeepmjkamdldaaDoorRegionLast
import Derived.Test.YtfeepmjkamdldaaDoorLaw0
import Derived.Test.YtfeepmjkamdldaaDoorPush
import Derived.Test.YtfeepmjkamdldaaDoorSpoil
import Derived.Test.YtfeepmjkamdldaaDoorGenRef2
import Derived.Test.YtfeepmjkamdldaaDoorGfWalks
import Derived.Test.YtfeepmjkamdldaaDoorMatWalk5
import Derived.Test.YtfeepmjkamdldaaDoorRows
import Derived.Test.YtfeepmjkamdldaaDoorMade
import Derived.Test.YtfeepmjkamdldaaDoorMat
import Derived.Laws.BytesArg
import Derived.Deep.OwnRows
import Derived.Deep.RegionHeld3
import Derived.Deep.DrawnRows
import Derived.Laws.BitsAllLaws
import Derived.ProofKit
import Derived.LaidMore
import Derived.OpenShut
import Derived.Stop.Joined
import Derived.Deep.Slices
import Derived.SizedLaws
import Derived.ChangeArms
/- Package gen: the code's matrix: the walk. -/
namespace Go.Proofs.YtfeepmjkamdldaaDoor
open Go.RowKit
set_option linter.unusedVariables false
set_option linter.unusedSimpArgs false
attribute [local go_sem ↓] Go.wp_at_zero Go.wp_at_succ
set_option maxRecDepth 100000 in
set_option maxHeartbeats 4000000 in
theorem genSys_any (d p R gu cu : Nat) (w : World) (h1 : 1 ≤ d) (h2 : d ≤ 4) (h3 : p ≤ 2) (eR : R = d + p) (hcu : R ≤ cu) (hcu2 : cu ≤ maxLen) (hV : RowsV w (some ⟨gu, 0, none⟩) R cu (vanM R d)) :
    Calls Tryd.prog 25 #[.agg #[.slice (some ⟨gu, 0, none⟩) R cu], .int .i64 d] w fun e w' => ∃ u, e = .returned (.agg #[u]) ∧ OwnM w' w.heap.size 38 3 u (genM d p) ∧ Below w.heap.size w w' := by
  unfold maxLen at hcu2
  have hRd : d ≤ R := by omega
  have hdc : (d : Int) ≤ cu := by omega
  have hVd : RowsV w (some ⟨gu, 0, none⟩) d cu (vanM d d) := by
    have := hV.take hRd h1
    rwa [vanM, matF_take _ _ _ _ hRd] at this
  have HV := hide (show MatV w (.agg #[.slice (some ⟨gu, 0, none⟩) R cu]) (vanM R d) from ⟨_, _, _, rfl, hV⟩)
  have HVd := hide (show MatV w (.agg #[.slice (some ⟨gu, 0, none⟩) d cu]) (vanM d d) from ⟨_, _, _, rfl, hVd⟩)
  have ER := hide eR
  clear hV hVd eR
  go_enter Tryd.func25, Tryd.ntmps25
  have gb := below_two w (.cells #[.slice (some ⟨gu, 0, none⟩) R cu] 26) (.cells #[.slice none 0 0] 26)
  go_wp2_with fail
  have B0 := hide (two_old w (.cells #[.slice (some ⟨gu, 0, none⟩) R cu] 26) (.cells #[.slice none 0 0] 26))
  have B1 := hide (two_new w (.cells #[.slice (some ⟨gu, 0, none⟩) R cu] 26) (.cells #[.slice none 0 0] 26))
  have HB := hide gb
  have HV1 := hide ((unhide HV).below gb)
  have HVd1 := hide ((unhide HVd).below gb)
  clear gb HV HVd
  generalize ((w.alloc (.cells #[.slice (some ⟨gu, 0, none⟩) R cu] 26)).alloc (.cells #[.slice none 0 0] 26)) = W at *
  refine (invInvert_any _ (vanM d d) W (unhide HVd1)).mono ?_
  rintro e w3 ⟨u3, r3, hr3, rfl, hO3, gb⟩
  obtain rfl := top_inv h1 h2 hr3
  obtain ⟨p3, n3, c3, rfl, hn3⟩ := hO3.form
  have MT := hide (hO3.matV (rows_le (topI_inv d (by omega) h1).1))
  replace B0 := hide ((gb.block _ (lt_of_block (unhide B0))).trans (unhide B0))
  replace B1 := hide ((gb.block _ (lt_of_block (unhide B1))).trans (unhide B1))
  replace HV1 := hide ((unhide HV1).below gb)
  replace HB := hide (bt (unhide HB) gb)
  clear gb hr3 hO3 hn3 HVd1
  have c0 := cell_of_one (unhide B0)
  have d0 := fun o => ((below_alloc w3 o).cell (cell_lt c0)).trans c0
  go_wp2_with fail
  have gb := below_alloc w3 (.cells #[.slice p3 n3 c3] 26)
  replace B0 := hide ((gb.block _ (lt_of_block (unhide B0))).trans (unhide B0))
  replace B1 := hide ((gb.block _ (lt_of_block (unhide B1))).trans (unhide B1))
  replace HV1 := hide ((unhide HV1).below gb)
  replace MT := hide ((unhide MT).below gb)
  replace HB := hide (bt (unhide HB) gb)
  clear c0 d0 gb
  generalize (w3.alloc (.cells #[.slice p3 n3 c3] 26)) = w4 at *
  refine (matMul_fun _ _ _ _ w4 (unhide HV1) (unhide MT)).mono ?_
  rintro e w5 ⟨u5, rfl, hO5, gb⟩
  have eM : mulF (vanM R d) (topI d, (0 : Int)).1 = (genM d p, 0) := by rw [unhide ER]; exact top_mul h1 h2 h3
  rw [eM] at hO5 ⊢
  have hsw4 := lt_of_block (unhide B1)
  obtain ⟨p5, n5, c5, rfl, hn5⟩ := hO5.form
  replace B0 := hide ((gb.block _ (lt_of_block (unhide B0))).trans (unhide B0))
  replace B1 := hide ((gb.block _ (lt_of_block (unhide B1))).trans (unhide B1))
  replace HB := hide (bt (unhide HB) gb)
  have HO := hide hO5
  have hs5 := gb.size
  clear gb hn5 hO5 eM
  have c1 := cell_of_one (unhide B1)
  have f1 := free_of_one (unhide B1)
  have d1 := fun o => ((below_alloc w5 o).cell (cell_lt c1)).trans c1
  have e1 := fun o => ((below_alloc w5 o).frozen (p := ⟨w.heap.size + 1, 0, none⟩) (cell_lt c1)).trans f1
  clear c1 f1
  go_wp2
  have B5 := (heap_alloc_old w5 (.cells #[.slice p5 n5 c5] 26) (lt_of_block (unhide B1))).trans (unhide B1)
  have cr := cell_of_one (one_setCell (u := .slice p5 n5 c5) B5)
  have hB := bt (unhide HB) (below_alloc w5 (.cells #[.slice p5 n5 c5] 26))
  refine bodyPost_ret (v := .agg #[.slice p5 n5 c5]) (by simp [results, Tryd.results25, go_sem, cr]) rfl ⟨_, rfl, ?_, hB.setCell (by show _ ≤ w.heap.size + 1; omega) _⟩
  exact (((unhide HO).below (below_alloc _ _)).setBelow (by show w.heap.size + 1 < _; omega) _).mono (by omega)
theorem own_slice {w : World} {B : Nat} {T E : TypeId} {u : Value} {M : List (List Int)} (h : OwnM w B T E u M) (hM : 0 < M.length) (hl : M.length ≤ maxLen) (hr : ∀ j, (M.getD j []).length ≤ maxLen) : ∃ g cap, u = .slice (some ⟨g, 0, none⟩) M.length cap ∧ M.length ≤ cap ∧ cap ≤ maxLen ∧ RowsV w (some ⟨g, 0, none⟩) M.length cap M := by
  obtain ⟨a, cap, e, hv⟩ := h.rows hl hr
  obtain ⟨us, hR⟩ := h
  obtain ⟨g, cap', e', hg, hle, hle2, _⟩ := own_form (n := us.length) hR.outer (by rw [hR.len]; exact hM)
  rw [hR.len] at e' hle
  rw [e] at e'
  simp only [Value.slice.injEq, true_and] at e'
  obtain ⟨rfl, rfl⟩ := e'
  exact ⟨g, cap, e, hle, hle2, hv⟩
set_option maxRecDepth 100000 in
set_option maxHeartbeats 4000000 in
theorem genMatrix_yes (d p : Nat) (w : World) (h1 : 1 ≤ d) (h2 : d ≤ 4) (h3 : p ≤ 2) (hm : Made w) :
    Calls Tryd.prog 9 #[.agg #[.int .i64 d, .int .i64 p]] w fun e w' => ∃ u, e = .returned (.tuple #[.agg #[u], .int .i64 0]) ∧ OwnM w' w.heap.size 38 3 u (genM d p) ∧ Below w.heap.size w w' := by
  have hsh : ShpMay d p := by unfold ShpMay; omega
  have HS := hide hsh
  have MD := hide hm
  clear hsh hm
  go_enter Tryd.func9, Tryd.ntmps9
  go_wp2_with fail
  have B0 := hide (two_old w (.cells #[.int .i64 d, .int .i64 p] 23) (.cells #[.slice none 0 0] 26))
  have B1 := hide (two_new w (.cells #[.int .i64 d, .int .i64 p] 23) (.cells #[.slice none 0 0] 26))
  have HB := hide (below_two w (.cells #[.int .i64 d, .int .i64 p] 23) (.cells #[.slice none 0 0] 26))
  generalize ((w.alloc (.cells #[.int .i64 d, .int .i64 p] 23)).alloc (.cells #[.slice none 0 0] 26)) = W at *
  refine (genMay_yes d p W (unhide HS) ((unhide MD).up (unhide HB))).mono ?_
  rintro e w1 ⟨rfl, gb⟩
  replace B0 := hide ((gb.block _ (lt_of_block (unhide B0))).trans (unhide B0))
  replace B1 := hide ((gb.block _ (lt_of_block (unhide B1))).trans (unhide B1))
  replace HB := hide (bt (unhide HB) gb)
  have hs1 := gb.size
  clear gb
  obtain ⟨c0, c0'⟩ := box_two (unhide B0)
  have k0 := kept_cell (B := w.heap.size + 1) c0 (by show w.heap.size < _; omega)
  have k0' := kept_cell (B := w.heap.size + 1) c0' (by show w.heap.size < _; omega)
  have hsw := lt_of_block (unhide B1)
  clear c0 c0'
  go_wp2
  refine wp_region_ord_then (S := Below (w.heap.size + 1) w1) [(true, 0), (true, 2), (true, 3), (false, 1), (false, 4), (false, 5)] (List.cons_ne_nil _ _) (by kernel_rfl) (by kernel_rfl) (by kernel_rfl) (by kernel_rfl) (by kernel_rfl) ((Below.refl _ _).drew) ?_
  simp only [List.dropLast_cons_cons, List.dropLast_singleton, List.getLast_cons_cons, List.getLast_singleton, withOps, List.map_cons, List.map_nil, List.getElem?_cons_succ, List.getElem?_cons_zero]
  repeat (refine walkH_read (by rfl) (by (intro gx; go_simp; try (with_reducible rfl))) ?_; try simp only [Act.put, List.setIfInBounds_toArray, List.set_cons_zero, List.set_cons_succ])
  refine walkH_do rfl (fun K hK => ?_)
  go_simp
  refine (genPowers_any d p _ h1 h2 h3).mono ?_
  rintro e w2 ⟨u2, rfl, hO2, b2⟩
  have hb2 : Below w1.heap.size w1 w2 := ((Below.refl _ _).drew).trans b2
  refine hK _ _ (hb2.mono (by omega)) ?_
  clear hK K
  try simp only [Act.put, List.setIfInBounds_toArray, List.set_cons_zero, List.set_cons_succ]
  obtain ⟨R, eR⟩ : ∃ R : Nat, R = d + p := ⟨_, rfl⟩
  rw [← eR] at hO2
  have hlen : (vanM R d).length = R := by rw [vanM, matF_len]
  obtain ⟨g2, c2, rfl, hc2, hc2', hV2⟩ := own_slice hO2 (by omega) (by rw [hlen]; unfold maxLen; omega) (fun j => Nat.le_trans (mrow_le (van_may (by omega) (by omega) h1 (by omega)) j) (by decide))
  rw [hlen] at hc2 hV2 ⊢
  have HV2 := hide hV2
  have ER := hide eR
  clear hV2 hO2 eR
  repeat (refine walkH_read (by rfl) (by (intro gx; go_simp; try (with_reducible rfl))) ?_; try simp only [Act.put, List.setIfInBounds_toArray, List.set_cons_zero, List.set_cons_succ])
  refine walkH_do rfl (fun K hK => ?_)
  go_simp
  refine (genSys_any d p R g2 c2 w2 h1 h2 h3 (unhide ER) hc2 hc2' (unhide HV2)).mono ?_
  rintro e w3 ⟨u3, rfl, hO3, b3⟩
  have hb3 : Below w1.heap.size w1 w3 := bt hb2 b3
  refine hK _ _ (hb3.mono (by omega)) ?_
  clear hK K
  try simp only [Act.put, List.setIfInBounds_toArray, List.set_cons_zero, List.set_cons_succ]
  obtain ⟨p3, n3, c3, rfl, hn3⟩ := hO3.form
  have hs2 := b2.size
  have hs12 := hb2.size
  have hS := (hb3.mono (show w.heap.size + 1 ≤ w1.heap.size by omega)).setCell (p := ⟨w.heap.size + 1, 0, none⟩) (Nat.le_refl _) (.slice p3 n3 c3)
  have hO3' := hide (hO3.mono (B' := w.heap.size + 2) (by omega))
  replace B0 := hide ((hb3.block _ (lt_of_block (unhide B0))).trans (unhide B0))
  replace B1 := hide ((hb3.block _ (lt_of_block (unhide B1))).trans (unhide B1))
  replace HB := hide (bt (unhide HB) hb3)
  clear hb3 b3 hb2 b2 hO3 hn3 hc2 hc2' HV2 k0 k0'
  have c1 := cell_of_one (unhide B1)
  have f1 := free_of_one (unhide B1)
  repeat (refine walkH_read (by rfl) (by (intro gx; go_simp; try (with_reducible rfl))) ?_; try simp only [Act.put, List.setIfInBounds_toArray, List.set_cons_zero, List.set_cons_succ])
  refine walkH_do rfl (fun K hK => ?_)
  go_simp
  refine hK _ _ hS ?_
  clear hK K hS
  try simp only [Act.put, List.setIfInBounds_toArray, List.set_cons_zero, List.set_cons_succ]
  refine lastPost_of_list ?_
  simp only [List.cons_append, List.nil_append]
  go_wp2
  refine NoPanic.normal ?_
  go_wp2
  have cr := cell_of_one (one_setCell (u := .slice p3 n3 c3) (unhide B1))
  refine bodyPost_ret (v := .tuple #[.agg #[.slice p3 n3 c3], .int .i64 0]) (by simp [results, Tryd.results9, go_sem, cr]) rfl ⟨_, rfl, ?_, (unhide HB).setCell (by show _ ≤ w.heap.size + 1; omega) _⟩
  exact ((unhide hO3').setBelow (by show w.heap.size + 1 < _; omega) _).mono (by omega)
set_option maxRecDepth 100000 in
set_option maxHeartbeats 1000000 in
theorem genMatrix_no (d p : Int) (w : World) (h : ¬ ShpMay d p) : Calls Tryd.prog 9 #[.agg #[.int .i64 d, .int .i64 p]] w fun e w' => e = .returned (.tuple #[.agg #[.slice none 0 0], .int .i64 500]) ∧ Below w.heap.size w w' := by
  have H := hide h
  clear h
  go_enter Tryd.func9, Tryd.ntmps9
  go_wp2_with fail
  have k2 := hide (two_new w (.cells #[.int .i64 d, .int .i64 p] 23) (.cells #[.slice none 0 0] 26))
  have k3 := hide (below_two w (.cells #[.int .i64 d, .int .i64 p] 23) (.cells #[.slice none 0 0] 26))
  generalize ((w.alloc (.cells #[.int .i64 d, .int .i64 p] 23)).alloc (.cells #[.slice none 0 0] 26)) = W at *
  refine (genMay_no d p W (unhide H)).mono ?_
  rintro e w1 ⟨rfl, gb⟩
  replace k2 := hide ((gb.block _ (lt_of_block (unhide k2))).trans (unhide k2))
  replace k3 := hide (bt (unhide k3) gb)
  clear gb
  have c1 := cell_of_one (unhide k2)
  have f1 := free_of_one (unhide k2)
  go_wp2
  have cr := cell_of_one (one_setCell (u := .slice none 0 0) (unhide k2))
  refine bodyPost_ret (v := .tuple #[.agg #[.slice none 0 0], .int .i64 500]) (by simp [results, Tryd.results9, go_sem, cr]) rfl ⟨rfl, (unhide k3).setCell (by show _ ≤ w.heap.size + 1; omega) _⟩
theorem genMatrix_fun (d p : Int) (w : World) (hm : Made w) :
    Calls Tryd.prog 9 #[.agg #[.int .i64 d, .int .i64 p]] w fun e w' => ∃ u, e = .returned (.tuple #[.agg #[u], .int .i64 (genF d p).2]) ∧ OwnM w' w.heap.size 38 3 u (genF d p).1 ∧ Below w.heap.size w w' := by
  by_cases h : ShpMay d p
  · have h' := h
    unfold ShpMay at h'
    obtain ⟨n, rfl⟩ : ∃ n : Nat, d = n := ⟨d.toNat, by omega⟩
    obtain ⟨m, rfl⟩ : ∃ m : Nat, p = m := ⟨p.toNat, by omega⟩
    refine (genMatrix_yes n m w (by omega) (by omega) (by omega) hm).mono ?_
    rintro e w' ⟨u, rfl, ho, hB⟩
    simp only [genF, if_pos h, Int.toNat_natCast]
    exact ⟨u, rfl, ho, hB⟩
  · refine (genMatrix_no d p w h).mono ?_
    rintro e w' ⟨rfl, hB⟩
    simp only [genF, if_neg h]
    exact ⟨_, rfl, OwnM.nil _ _ _ _, hB⟩
end Go.Proofs.YtfeepmjkamdldaaDoor
/- Rows of bytes in plain numbers: what Combine tells. -/
namespace Go.Proofs.YtfeepmjkamdldaaDoor.Vec
def byteAt (s : ByteArray) (j : Nat) : Nat := (s.data.toList.getD j 0).toNat
def row (ss : List ByteArray) (k : Nat) : ByteArray := ss.getD k ByteArray.empty
/-- the sum of the first k rows' bytes at j, each times its number -/
def cmb (cs : List Int) (ss : List ByteArray) : Nat → Nat → Nat
  | 0, _ => 0
  | k + 1, j => cmb cs ss k j ^^^ Gf.mul (cs.getD k 0).toNat (byteAt (row ss k) j)
theorem cmb_lt (cs : List Int) (ss : List ByteArray) (k j : Nat) : cmb cs ss k j < 256 := by
  cases k with
  | zero => exact (by decide : (0 : Nat) < 256)
  | succ k => exact Gf.xor_lt (by
      cases k with
      | zero => exact (by decide : (0 : Nat) < 256)
      | succ k => exact cmb_lt cs ss (k + 1) j) (Gf.mul_lt _ _)
theorem byteAt_lt (s : ByteArray) (j : Nat) : byteAt s j < 256 := UInt8.toNat_lt _
theorem byteAt_get (s : ByteArray) (j : Nat) (h : j < s.size) : (s[j].toNat : Nat) = byteAt s j := by
  unfold byteAt
  have : s.data.toList.getD j 0 = s[j] := by
    have hj : j < s.data.size := h
    simp [List.getD, Array.getElem?_eq_getElem hj]
    rfl
  rw [this]
/-- each row is as long as the first, with at most MaxText bytes -/
def alikeTo (ss : List ByteArray) (k : Nat) : Prop := ∀ i, i < k → (ss.getD i ByteArray.empty).size = (ss.getD 0 ByteArray.empty).size ∧ (ss.getD i ByteArray.empty).size ≤ 4096
def numsTo (cs : List Int) (k : Nat) : Prop := ∀ i, i < k → 0 ≤ cs.getD i 0 ∧ cs.getD i 0 < 256
/-- may these be combined? -/
def May (cs : List Int) (ss : List ByteArray) : Prop := 1 ≤ cs.length ∧ cs.length ≤ 12 ∧ ss.length = cs.length ∧ alikeTo ss ss.length ∧ numsTo cs cs.length
def nums (cs : List Int) (ss : List ByteArray) : List Int := (List.range (ss.getD 0 ByteArray.empty).size).map fun j => ((cmb cs ss cs.length j : Nat) : Int)
def out (cs : List Int) (ss : List ByteArray) : ByteArray := strOfNums (nums cs ss)
end Go.Proofs.YtfeepmjkamdldaaDoor.Vec
/- The document's own Combine (ossuaryref1) returns what plain numbers say: contracts. -/
namespace Go.Proofs.YtfeepmjkamdldaaDoor
open Go.RowKit
set_option linter.unusedVariables false
open Vec (alikeTo numsTo May cmb byteAt)
set_option maxRecDepth 100000 in
theorem alike_none (a : Option Addr) (ca : Nat) (w : World) : Calls Tryd.prog 44 #[.slice a 0 ca] w fun e w' => e = .returned (.bool true) ∧ w' = w := by
  go_enter Tryd.func44, Tryd.ntmps44
  go_wp2
  go_rounds 1
  go_ret
  exact ⟨rfl, rfl⟩
set_option maxRecDepth 100000 in
set_option maxHeartbeats 1000000 in
theorem alike_some (b off ca n : Nat) (ss : List ByteArray) (w : World) (hl : ss.length = n) (hp : 0 < n) (hn : n ≤ 140737488355328)
   (hc : ∀ i, i < n → w.cell? ⟨b, off + i, none⟩ = some (.string (ss.getD i ByteArray.empty))) :
   Calls Tryd.prog 44 #[.slice (some ⟨b, off, none⟩) n ca] w fun e w' => (∃ m, w' = w.drewN m) ∧ ((alikeTo ss n ∧ e = .returned (.bool true)) ∨ (¬ alikeTo ss n ∧ e = .returned (.bool false))) := by
  have h0 : w.cell? ⟨b, off, none⟩ = some (.string (ss.getD 0 ByteArray.empty)) := hc 0 hp
  have hp' : (0 : Int) < n := by omega
  obtain ⟨s0, e0⟩ : ∃ s0, s0 = ss.getD 0 ByteArray.empty := ⟨_, rfl⟩
  have E0 := hide e0
  rw [← e0] at h0
  clear e0
  go_enter Tryd.func44, Tryd.ntmps44
  go_wp2
  go_loopw [3] (fun i wr => ∃ k : Nat, k ≤ n ∧ i = .int .i64 k ∧ Hid (alikeTo ss k) ∧ Hid (∃ m, wr = w.drewN m)) (fun i _ => n - (intOf i).toNat)
  case atStart => exact ⟨0, by omega, rfl, (fun i hi => by omega), ⟨0, rfl⟩⟩
  case round =>
    obtain ⟨k, hk, rfl, he, m, rfl⟩ := hrel
    by_cases hlt : k < n
    · have hlt' : (k : Int) < n := by omega
      have h1 := hc k hlt
      obtain ⟨s, es⟩ : ∃ s, s = ss.getD k ByteArray.empty := ⟨_, rfl⟩
      rw [← es] at h1
      have ES := hide es
      clear es hc
      by_cases t1 : s.size = s0.size
      · have g1 : ((s.size : Int) != (s0.size : Int)) = false := by simp [t1]
        by_cases t2 : s.size ≤ 4096
        · have g2 : ¬ (4096 : Int) < (s.size : Int) := by omega
          have T1 := hide t1
          clear t1
          go_wp2
          go_quiet (fail)
          go_wp2
          go_roundw
          case rel =>
            refine ⟨k + 1, by omega, by go_num, hide (fun i hi => ?_), ⟨m + nq, rfl⟩⟩
            by_cases q : i = k
            · rw [q, ← unhide ES, ← unhide E0]; exact ⟨unhide T1, t2⟩
            · exact unhide he i (by omega)
          case measure => simp [intOf]; omega
        · have g2 : (4096 : Int) < (s.size : Int) := by omega
          clear t1
          go_wp2
          go_quiet (fail)
          go_wp2
          go_ret
          refine ⟨⟨m + nq, by simp⟩, .inr ⟨fun h => t2 ?_, rfl⟩⟩
          have := (h k hlt).2
          rw [← unhide ES] at this; exact this
      · have g1 : ((s.size : Int) != (s0.size : Int)) = true := by simp; omega
        go_wp2
        go_quiet (fail)
        go_wp2
        go_ret
        refine ⟨⟨m + nq, by simp⟩, .inr ⟨fun h => t1 ?_, rfl⟩⟩
        have := (h k hlt).1
        rw [← unhide ES, ← unhide E0] at this; exact this
    · have hlt' : ¬ (k : Int) < n := by omega
      obtain rfl : k = n := by omega
      go_wp2
      go_ret
      exact ⟨⟨m, rfl⟩, .inl ⟨he, rfl⟩⟩
theorem alike_any (a : Option Addr) (n ca : Nat) (ss : List ByteArray) (w : World) (h : Strs w a n ca ss) (hn : n ≤ 140737488355328) :
   Calls Tryd.prog 44 #[.slice a n ca] w fun e w' => (∃ m, w' = w.drewN m) ∧ ((alikeTo ss n ∧ e = .returned (.bool true)) ∨ (¬ alikeTo ss n ∧ e = .returned (.bool false))) := by
  obtain ⟨hl, hr⟩ := h
  rcases hr.two with rfl | ⟨b, off, rfl, hc⟩
  · refine (alike_none a ca w).mono ?_
    rintro e w' ⟨rfl, rfl⟩
    exact ⟨⟨0, rfl⟩, .inl ⟨fun i hi => by omega, rfl⟩⟩
  · by_cases h0 : n = 0
    · subst h0
      refine (alike_none _ ca w).mono ?_
      rintro e w' ⟨rfl, rfl⟩
      exact ⟨⟨0, rfl⟩, .inl ⟨fun i hi => by omega, rfl⟩⟩
    · exact alike_some b off ca n ss w hl (by omega) hn hc

end Go.Proofs.YtfeepmjkamdldaaDoor
/- The document's own Combine (ossuaryref1), where the rows may be combined: it returns the sum. -/
namespace Go.Proofs.YtfeepmjkamdldaaDoor
open Go.RowKit
set_option linter.unusedVariables false
open Vec (alikeTo numsTo May cmb byteAt)
/-- what lies in the new row: rows before i, and row i up to j, are added up -/
def cellC (cs : List Int) (ss : List ByteArray) (i j t : Nat) : Value := .int .u8 ((if t < j then cmb cs ss (i + 1) t else cmb cs ss i t : Nat) : Int)
theorem cellC_start (cs : List Int) (ss : List ByteArray) (t : Nat) : Value.int .u8 0 = cellC cs ss 0 0 t := by simp [cellC, cmb]
theorem wrap_byte (u : UInt8) : IntKind.i64.wrap ((u.toNat : Nat) : Int) = ((u.toNat : Nat) : Int) := by
  have := UInt8.toNat_lt u
  rw [IntKind.wrap_i64]; omega
theorem w64_byte (u : UInt8) : wrap64 ((u.toNat : Nat) : Int) = ((u.toNat : Nat) : Int) := by
  have := UInt8.toNat_lt u
  unfold wrap64; omega
theorem refmul_int (a b : Nat) (A B : Int) (w : World) (hA : A = a) (hB : B = b) (h : a < 256) : Calls Tryd.prog 49 #[.int .i64 A, .int .i64 B] w fun e w' => e = .returned (.int .i64 (Gf.mul a b : Nat)) ∧ w' = w := by
  rw [hA, hB]; exact refmul_any a b w h
theorem cellC_next (cs : List Int) (ss : List ByteArray) (i m t : Nat) (ht : t < m) : cellC cs ss i m t = cellC cs ss (i + 1) 0 t := by simp [cellC, ht]
theorem cellC_step {cs : List Int} {ss : List ByteArray} {i j x o : Nat} {t : ByteArray} (ex : cs.getD i 0 = (x : Int)) (et : t = ss.getD i ByteArray.empty) (eo : o = cmb cs ss i j) (hj : j < t.size) (r : Nat) :
    (if r = j then Value.int .u8 (bits .xor .u8 (o : Int) (((Gf.mul x t[j].toNat : Nat) : Int) % 256)) else cellC cs ss i j r) = cellC cs ss i (j + 1) r := by
  have hm := Gf.mul_lt x t[j].toNat
  have ho : o < 256 := by rw [eo]; exact Vec.cmb_lt cs ss i j
  by_cases h : r = j
  · subst h
    rw [if_pos rfl, Int.emod_eq_of_lt (by omega) (by omega), u8_xor_nat o _ ho hm]
    have e1 : Gf.mul x t[r].toNat = Gf.mul (cs.getD i 0).toNat (byteAt (Vec.row ss i) r) := by
      rw [ex, Vec.byteAt_get t r hj, Int.toNat_natCast, et]; rfl
    unfold cellC
    rw [if_pos (by omega)]
    show _ = Value.int .u8 ((cmb cs ss i r ^^^ Gf.mul (cs.getD i 0).toNat (byteAt (Vec.row ss i) r) : Nat) : Int)
    rw [← e1, ← eo]
  · rw [if_neg h]
    unfold cellC
    by_cases h2 : r < j
    · rw [if_pos h2, if_pos (by omega)]
    · rw [if_neg h2, if_neg (by omega)]
theorem nums_len {cs : List Int} {ss : List ByteArray} {s0 : ByteArray} (h : s0 = ss.getD 0 ByteArray.empty) : (Vec.nums cs ss).length = s0.size := by
  rw [h]; simp [Vec.nums]
theorem cellC_end {cs : List Int} {ss : List ByteArray} {n : Nat} {s0 : ByteArray} (hl : cs.length = n) (h : s0 = ss.getD 0 ByteArray.empty) (t : Nat) (ht : t < s0.size) :
    some (cellC cs ss n 0 t) = some (.int .u8 ((Vec.nums cs ss).getD t 0)) := by
  rw [h] at ht
  have hk : t < (Vec.nums cs ss).length := by rw [nums_len rfl]; exact ht
  simp only [cellC, Vec.nums, hl]
  simp
  rw [List.getElem?_eq_getElem (by simpa using ht)]
  simp
theorem Tryd.infoByte : (Tryd.prog.info? 5).map (fun i => (i.zero, i.size, i.bytes)) = some (some (.int .u8 0), 1, 1) := by kernel_rfl
attribute [local go_sem ↓] Go.wp_at_zero Go.wp_at_succ
set_option maxRecDepth 100000 in
set_option maxHeartbeats 4000000 in
theorem refCombine_yes (b off ca b' off' cb n : Nat) (cs : List Int) (ss : List ByteArray) (w : World) (hl : cs.length = n) (hl' : ss.length = n) (hp : 1 ≤ n) (hn : n ≤ 12) (hcb : n ≤ cb)
    (hal : alikeTo ss n) (hnu : numsTo cs n)
    (hc : ∀ i, i < n → w.cell? ⟨b, off + i, none⟩ = some (.int .i64 (cs.getD i 0)))
    (hd : ∀ i, i < n → w.cell? ⟨b', off' + i, none⟩ = some (.string (ss.getD i ByteArray.empty))) :
    Calls Tryd.prog 45 #[.slice (some ⟨b, off, none⟩) n ca, .slice (some ⟨b', off', none⟩) n cb] w fun e w' => e = .returned (.tuple #[.string (Vec.out cs ss), .int .i64 0]) ∧ Below w.heap.size w w' := by
  have hS : Hid (Strs w (some ⟨b', off', none⟩) n cb ss) := hide ⟨hl', .inr (.inr ⟨hp, hcb, b', off', rfl, hd⟩)⟩
  have HA := hide hal
  have HN := hide hnu
  clear hal hnu
  have hp' : ¬ (n : Int) < 1 := by omega
  have hn' : ¬ (12 : Int) < n := by omega
  have h0 : w.cell? ⟨b', off', none⟩ = some (.string (ss.getD 0 ByteArray.empty)) := hd 0 hp
  obtain ⟨s0, e0⟩ : ∃ s0, s0 = ss.getD 0 ByteArray.empty := ⟨_, rfl⟩
  have E0 := hide e0
  rw [← e0] at h0
  clear e0
  have hp2 : (0 : Int) < n := by omega
  have hs0 : s0.size ≤ 4096 := by rw [unhide E0]; exact (unhide HA 0 hp).2
  have hmk := fun w => run_make_row' (P := Tryd.prog) 99 5 (.int .u8 0) 1 Tryd.underlying99 Tryd.infoByte rfl .i64 .i64 s0.size (by omega) (by omega) w
  go_enter Tryd.func45, Tryd.ntmps45
  go_wp2_with fail
  refine (alike_any _ _ _ ss _ (unhide hS) (by omega)).mono ?_
  rintro e w1 ⟨⟨m, rfl⟩, hr⟩
  rcases hr with ⟨_, rfl⟩ | ⟨hno, _⟩
  · go_wp2
    go_loop [6] (fun i => ∃ k : Nat, k ≤ n ∧ i = .int .i64 k) (fun i => n - (intOf i).toNat)
    case atStart => exact ⟨0, by omega, rfl⟩
    case round =>
      obtain ⟨k, hk, rfl⟩ := hrel
      by_cases hlt : k < n
      · have hlt' : (k : Int) < n := by omega
        have h1 := hc k hlt
        obtain ⟨h2, h3⟩ := unhide HN k hlt
        obtain ⟨x, ex⟩ : ∃ x, x = cs.getD k 0 := ⟨_, rfl⟩
        rw [← ex] at h1 h2 h3
        clear ex hc hd
        go_wp2_with (go_at_call 48; refine (byteNum_yes _ _ h2 (by omega)).mono ?_; rintro e w' ⟨rfl, rfl⟩)
        go_round
        case rel => exact ⟨k + 1, by omega, by go_num⟩
        case measure => simp [intOf]; omega
      · have hlt' : ¬ (k : Int) < n := by omega
        obtain rfl : n = k := by omega
        have HC := hide hc
        have HD := hide hd
        clear hc hd
        go_wp2
        go_loopw [8] (fun i wr => ∃ i' : Nat, i' ≤ n ∧ i = .int .i64 i' ∧ Hid (wr.rowIs w.heap.size 5 s0.size (cellC cs ss i' 0)) ∧ Hid (Below w.heap.size w wr)) (fun i _ => n - (intOf i).toNat)
        case atStart => exact ⟨0, by omega, rfl, (World.rowIs_made _ _ _ _).congr (fun t _ => cellC_start cs ss t), (below_drewN w _ m).alloc (Nat.le_refl _) _⟩
        case round =>
          obtain ⟨i, hi, rfl, HR, HB⟩ := hrel
          by_cases hlti : i < n
          · have hlti' : (i : Int) < n := by omega
            go_wp2
            go_loopw [9] (fun j wr => ∃ j' : Nat, j' ≤ s0.size ∧ j = .int .i64 j' ∧ Hid (wr.rowIs w.heap.size 5 s0.size (cellC cs ss i j')) ∧ Hid (Below w.heap.size w wr)) (fun j _ => s0.size - (intOf j).toNat)
            case atStart => exact ⟨0, by omega, rfl, HR, HB⟩
            case round =>
              obtain ⟨j, hj, rfl, HR, HB⟩ := hrel
              by_cases hltj : j < s0.size
              · have hltj' : (j : Int) < s0.size := by omega
                have c1 : wr.cell? ⟨w.heap.size, j, none⟩ = some (.int .u8 ((cmb cs ss i j : Nat) : Int)) := ((unhide HR).cell hltj).trans (by simp [cellC])
                have f1 := (unhide HR).frozen j
                have c2 := (unhide HB).cell (cell_lt (unhide HC i hlti)) |>.trans (unhide HC i hlti)
                have c3 := (unhide HB).cell (cell_lt (unhide HD i hlti)) |>.trans (unhide HD i hlti)
                obtain ⟨x, hx, ex⟩ : ∃ x : Nat, x < 256 ∧ cs.getD i 0 = x := ⟨(cs.getD i 0).toNat, by have := unhide HN i hlti; omega, by have := unhide HN i hlti; omega⟩
                have EX := hide ex
                rw [ex] at c2
                clear ex
                obtain ⟨t, et⟩ : ∃ t, t = ss.getD i ByteArray.empty := ⟨_, rfl⟩
                rw [← et] at c3
                have ET := hide et
                have hts : j < t.size := by rw [et, (unhide HA i hlti).1, ← unhide E0]; exact hltj
                have nb : b ≠ w.heap.size := Nat.ne_of_lt (cell_lt (unhide HC i hlti))
                have nb' : b' ≠ w.heap.size := Nat.ne_of_lt (cell_lt (unhide HD i hlti))
                have hts' : (j : Int) < t.size := by omega
                clear et
                obtain ⟨o, eo⟩ : ∃ o, o = cmb cs ss i j := ⟨_, rfl⟩
                rw [← eo] at c1
                have EO := hide eo
                clear eo
                go_wp2
                refine wp_region_quiet_then (List.cons_ne_nil _ _) ?_ ?_ ?_ ?_
                · kernel_rfl
                · kernel_rfl
                · kernel_rfl
                simp only [List.dropLast_cons_cons, List.dropLast_singleton, List.getLast_cons_cons, List.getLast_singleton]
                repeat (first | go_big_quiet_step ((go_at_call 49; exact Calls.quiet_of_same (refmul_int x (t[j].toNat) _ _ _ rfl (w64_byte _) hx))) | quiet_step ((go_at_call 49; exact Calls.quiet_of_same (refmul_int x (t[j].toNat) _ _ _ rfl (w64_byte _) hx))))
                refine wpQuiet_nil ?_
                intro _ hw'
                obtain ⟨nq, hw''⟩ := hw'
                subst hw''
                simp only [List.cons_append, List.nil_append]
                go_wp2
                go_roundw
                case rel =>
                  refine ⟨j + 1, by omega, by go_num, hide ?_, hide (((unhide HB).trans (below_drewN _ _ nq)).setCell (Nat.le_refl _) _)⟩
                  have hR2 : (wr.drewN nq).rowIs w.heap.size 5 s0.size (cellC cs ss i j) := (unhide HR).of_block rfl
                  exact (hR2.set j _).congr (fun r _ => cellC_step (unhide EX) (unhide ET) (unhide EO) hts r)
                case measure => simp [intOf]; omega
              · have hltj' : ¬ (j : Int) < s0.size := by omega
                obtain rfl : j = s0.size := by omega
                go_wp2
                go_roundw
                case rel => exact ⟨i + 1, by omega, by go_num, hide ((unhide HR).congr (fun t ht => cellC_next cs ss i _ t ht)), HB⟩
                case measure => simp [intOf]; omega
          · have hlti' : ¬ (i : Int) < n := by omega
            obtain rfl : i = n := by omega
            have c4 : ∀ t, t < s0.size → wr.cell? ⟨w.heap.size, 0 + t, none⟩ = some (.int .u8 ((Vec.nums cs ss).getD t 0)) := fun t ht => by
              rw [Nat.zero_add, (unhide HR).cell ht]; exact cellC_end hl (unhide E0) t ht
            have hcv := run_convert_bytes_arg (P := Tryd.prog) wr 99 5 Tryd.underlying99 Tryd.underlying5 w.heap.size 0 s0.size s0.size (Vec.nums cs ss) (nums_len (unhide E0)) c4 9 Tryd.underlying9
            clear c4
            go_wp2
            go_ret2
            exact ⟨rfl, unhide HB⟩
  · exact absurd (unhide HA) hno
end Go.Proofs.YtfeepmjkamdldaaDoor
/- The document's own Combine (ossuaryref1): what it returns, whatever the numbers and rows. -/
namespace Go.Proofs.YtfeepmjkamdldaaDoor
open Go.RowKit
set_option linter.unusedVariables false
open Vec (alikeTo numsTo May cmb byteAt)
theorem first_bad {cs : List Int} : ∀ n, ¬ numsTo cs n → ∃ k, k < n ∧ numsTo cs k ∧ ¬ (0 ≤ cs.getD k 0 ∧ cs.getD k 0 < 256)
  | 0, h => absurd (fun i hi => by omega) h
  | n + 1, h => by
    by_cases hn : numsTo cs n
    · refine ⟨n, by omega, hn, fun hk => h (fun i hi => ?_)⟩
      by_cases q : i = n
      · rw [q]; exact hk
      · exact hn i (by omega)
    · obtain ⟨k, hk, h1, h2⟩ := first_bad n hn
      exact ⟨k, by omega, h1, h2⟩
set_option maxRecDepth 100000 in
set_option maxHeartbeats 1000000 in
theorem refCombine_len (a a' : Option Addr) (n n' ca cb : Nat) (w : World) (h : n < 1 ∨ 12 < n ∨ n' ≠ n) (hb : n ≤ 140737488355328) :
    Calls Tryd.prog 45 #[.slice a n ca, .slice a' n' cb] w fun e w' => e = .returned (.tuple #[.string ByteArray.empty, .int .i64 200]) ∧ w' = w := by
  by_cases h1 : n < 1
  · have h1' : (n : Int) < 1 := by omega
    go_enter Tryd.func45, Tryd.ntmps45
    go_wp2
    go_ret2
    exact ⟨rfl, rfl⟩
  · have h1' : ¬ (n : Int) < 1 := by omega
    by_cases h2 : 12 < n
    · have h2' : (12 : Int) < n := by omega
      go_enter Tryd.func45, Tryd.ntmps45
      go_wp2
      go_ret2
      exact ⟨rfl, rfl⟩
    · have h2' : ¬ (12 : Int) < n := by omega
      have h3 : ((n' : Int) != (n : Int)) = true := by simp; omega
      clear h
      go_enter Tryd.func45, Tryd.ntmps45
      go_wp2
      go_ret2
      exact ⟨rfl, rfl⟩
set_option maxRecDepth 100000 in
set_option maxHeartbeats 1000000 in
theorem refCombine_form (b off ca b' off' cb n : Nat) (cs : List Int) (ss : List ByteArray) (w : World) (hl : cs.length = n) (hl' : ss.length = n) (hp : 1 ≤ n) (hn : n ≤ 12) (hcb : n ≤ cb)
    (hno : ¬ (alikeTo ss n ∧ numsTo cs n))
    (hc : ∀ i, i < n → w.cell? ⟨b, off + i, none⟩ = some (.int .i64 (cs.getD i 0)))
    (hd : ∀ i, i < n → w.cell? ⟨b', off' + i, none⟩ = some (.string (ss.getD i ByteArray.empty))) :
    Calls Tryd.prog 45 #[.slice (some ⟨b, off, none⟩) n ca, .slice (some ⟨b', off', none⟩) n cb] w fun e w' => e = .returned (.tuple #[.string ByteArray.empty, .int .i64 200]) ∧ Below w.heap.size w w' := by
  have hS : Hid (Strs w (some ⟨b', off', none⟩) n cb ss) := hide ⟨hl', .inr (.inr ⟨hp, hcb, b', off', rfl, hd⟩)⟩
  have HO := hide hno
  clear hno hd
  have hp' : ¬ (n : Int) < 1 := by omega
  have hn' : ¬ (12 : Int) < n := by omega
  have hp2 : (0 : Int) < n := by omega
  go_enter Tryd.func45, Tryd.ntmps45
  go_wp2_with fail
  refine (alike_any _ _ _ ss _ (unhide hS) (by omega)).mono ?_
  rintro e w1 ⟨⟨m, rfl⟩, hr⟩
  rcases hr with ⟨hal, rfl⟩ | ⟨hnal, rfl⟩
  · obtain ⟨q, hq, hq1, hq2⟩ := first_bad n (fun h => unhide HO ⟨hal, h⟩)
    have HQ1 := hide hq1
    have HQ2 := hide hq2
    clear hal hq1 hq2
    go_wp2
    go_loop [6] (fun i => ∃ k : Nat, k ≤ q ∧ i = .int .i64 k) (fun i => n - (intOf i).toNat)
    case atStart => exact ⟨0, by omega, rfl⟩
    case round =>
      obtain ⟨k, hk, rfl⟩ := hrel
      have hlt' : (k : Int) < n := by omega
      have h1 := hc k (by omega)
      clear hc
      by_cases hlt : k < q
      · obtain ⟨h2, h3⟩ := unhide HQ1 k hlt
        obtain ⟨x, ex⟩ : ∃ x, x = cs.getD k 0 := ⟨_, rfl⟩
        rw [← ex] at h1 h2 h3
        clear ex
        go_wp2_with (go_at_call 48; refine (byteNum_yes _ _ h2 (by omega)).mono ?_; rintro e w' ⟨rfl, rfl⟩)
        go_round
        case rel => exact ⟨k + 1, by omega, by go_num⟩
        case measure => simp [intOf]; omega
      · obtain rfl : k = q := by omega
        have h2 := unhide HQ2
        obtain ⟨x, ex⟩ : ∃ x, x = cs.getD k 0 := ⟨_, rfl⟩
        rw [← ex] at h1 h2
        clear ex
        have H2 := hide h2
        clear h2
        go_wp2_with (go_at_call 48; refine (byteNum_no _ _ (by have := unhide H2; omega)).mono ?_; rintro e w' ⟨rfl, rfl⟩)
        go_ret2
        exact ⟨rfl, below_drewN w _ m⟩
  · clear hnal
    go_wp2
    go_ret2
    exact ⟨rfl, below_drewN w _ m⟩
/-- what Combine answers: the text, the error's number -/
def combR (cs : List Int) (ss : List ByteArray) (r : ByteArray × Int) : Prop := (May cs ss ∧ r = (Vec.out cs ss, 0)) ∨ (¬ May cs ss ∧ r = (ByteArray.empty, 200))
theorem combR_one {cs : List Int} {ss : List ByteArray} {r r' : ByteArray × Int} (h : combR cs ss r) (h' : combR cs ss r') : r = r' := by
  rcases h with ⟨h1, h2⟩ | ⟨h1, h2⟩ <;> rcases h' with ⟨h3, h4⟩ | ⟨h3, h4⟩
  · rw [h2, h4]
  · exact absurd h1 h3
  · exact absurd h3 h1
  · rw [h2, h4]
theorem refCombine_any (a a' : Option Addr) (n n' ca cb : Nat) (cs : List Int) (ss : List ByteArray) (w : World) (hx : Ints w a n ca cs) (hy : Strs w a' n' cb ss) (hn : n ≤ 140737488355328) :
    Calls Tryd.prog 45 #[.slice a n ca, .slice a' n' cb] w fun e w' => ∃ r, combR cs ss r ∧ e = .returned (.tuple #[.string r.1, .int .i64 r.2]) ∧ Below w.heap.size w w' := by
  obtain ⟨lx, rx⟩ := hx
  obtain ⟨ly, ry⟩ := hy
  by_cases h : n < 1 ∨ 12 < n ∨ n' ≠ n
  · refine (refCombine_len a a' n n' ca cb w h hn).mono ?_
    rintro e w' ⟨rfl, rfl⟩
    exact ⟨_, .inr ⟨fun hm => by obtain ⟨h1, h2, h3, _⟩ := hm; omega, rfl⟩, rfl, Below.refl _ _⟩
  · obtain rfl : n' = n := by omega
    rcases rx with ⟨_, h0, _⟩ | ⟨h0, _⟩ | ⟨_, _, b, off, rfl, hc⟩
    · omega
    · omega
    · rcases ry with ⟨_, h0, _⟩ | ⟨h0, _⟩ | ⟨_, hcb, b', off', rfl, hd⟩
      · omega
      · omega
      · by_cases hm : alikeTo ss n' ∧ numsTo cs n'
        · refine (refCombine_yes b off ca b' off' cb n' cs ss w lx ly (by omega) (by omega) hcb hm.1 hm.2 hc hd).mono ?_
          rintro e w' ⟨rfl, hb⟩
          exact ⟨_, .inl ⟨⟨by omega, by omega, by omega, by rw [ly]; exact hm.1, by rw [lx]; exact hm.2⟩, rfl⟩, rfl, hb⟩
        · refine (refCombine_form b off ca b' off' cb n' cs ss w lx ly (by omega) (by omega) hcb hm hc hd).mono ?_
          rintro e w' ⟨rfl, hb⟩
          exact ⟨_, .inr ⟨fun h => hm ⟨by have := h.2.2.2.1; rw [ly] at this; exact this, by have := h.2.2.2.2; rw [lx] at this; exact this⟩, rfl⟩, rfl, hb⟩
end Go.Proofs.YtfeepmjkamdldaaDoor
/- Lists of texts of the call's own; texts that are spoiled. -/
namespace Go.Proofs.YtfeepmjkamdldaaDoor
open Go.RowKit
set_option linter.unusedVariables false
set_option linter.unusedSimpArgs false
theorem Tryd.infoText : (Tryd.prog.info? 9).map (fun i => (i.zero, i.size, i.bytes)) = some (some (.string ByteArray.empty), 1, 16) := by kernel_rfl
theorem own_scell {w : World} {B E g n cap : Nat} {xs : List ByteArray} (h : OwnL w B E (.slice (some ⟨g, 0, none⟩) n cap) (xs.map Value.string)) (k : Nat) (hk : k < xs.length) : w.cell? ⟨g, k, none⟩ = some (.string (xs.getD k ByteArray.empty)) := by
  obtain ⟨g1, cap1, e, hb, _, _, hc⟩ := own_form (n := (xs.map Value.string).length) h (by simp; omega)
  simp only [Value.slice.injEq, Option.some.injEq, Addr.mk.injEq, and_true, true_and] at e
  obtain ⟨rfl, _⟩ := e
  exact hc k _ (str_at rfl k hk)
set_option maxRecDepth 100000 in
set_option maxHeartbeats 1000000 in
theorem spoilTexts_none (a : Option Addr) (cap : Nat) (w : World) : Calls Tryd.prog 23 #[.slice a 0 cap] w fun e w' => e = .returned (.tuple #[]) ∧ w' = w := by
  go_enter Tryd.func23, Tryd.ntmps23
  go_wp2
  go_rounds 1
  exact bodyPost_end (v := .tuple #[]) (by simp [results, Tryd.results23, go_sem]) rfl ⟨rfl, rfl⟩
set_option maxRecDepth 100000 in
set_option maxHeartbeats 1000000 in
theorem spoilTexts_own (B E g n cap : Nat) (xs : List ByteArray) (w : World) (h : OwnL w B E (.slice (some ⟨g, 0, none⟩) n cap) (xs.map Value.string)) (hn : n ≤ maxLen) (hg : B ≤ g) (hz : ∀ i, (xs.getD i ByteArray.empty).size ≤ 140737488355328) :
    Calls Tryd.prog 23 #[.slice (some ⟨g, 0, none⟩) n cap] w fun e w' => e = .returned (.tuple #[]) ∧ (∀ k, k ≠ g → k < w.heap.size → w'.heap[k]? = w.heap[k]?) ∧ Below B w w' := by
  have hl : xs.length = n := by
    have := own_len h
    simpa using this
  have HH := hide h
  have HZ := hide hz
  unfold maxLen at hn
  clear h hz
  go_enter Tryd.func23, Tryd.ntmps23
  go_wp2
  go_loopw [2] (fun iv wr => ∃ k : Nat, k ≤ n ∧ iv = .int .i64 k ∧ Hid (∃ ys : List ByteArray, ys.length = xs.length ∧ (∀ i, k ≤ i → ys.getD i ByteArray.empty = xs.getD i ByteArray.empty) ∧ OwnL wr B E (.slice (some ⟨g, 0, none⟩) n cap) (ys.map Value.string)) ∧ Hid (∀ k, k ≠ g → k < w.heap.size → wr.heap[k]? = w.heap[k]?) ∧ Hid (Below B w wr)) (fun iv _ => n - (intOf iv).toNat)
  case atStart => exact ⟨0, by omega, rfl, hide ⟨xs, rfl, fun _ _ => rfl, unhide HH⟩, hide (fun _ _ _ => rfl), hide (Below.refl _ _)⟩
  case round =>
    obtain ⟨k, hk, rfl, HO, HF, HB⟩ := hrel
    by_cases hlt : k < n
    · have hlt' : (k : Int) < n := by omega
      obtain ⟨ys, hys, hsame, ho⟩ := unhide HO
      have c1 := own_scell ho k (by omega)
      have f1 := own_free ho k
      obtain ⟨y, ey⟩ : ∃ y, y = ys.getD k ByteArray.empty := ⟨_, rfl⟩
      rw [← ey] at c1
      have hy : y.size ≤ 140737488355328 := by rw [ey, hsame k (Nat.le_refl _)]; exact unhide HZ k
      have HE := hide hsame
      clear ey hsame
      have HO' := hide ho
      clear ho
      go_wp2
      go_roundw
      case rel =>
        have hst := own_put (unhide HO') k (.string ({ data := #[126] } ++ y))
        refine ⟨k + 1, by omega, by go_num, hide ⟨ys.set k ({ data := #[126] } ++ y), by simpa using hys, fun i hi => ?_, ?_⟩, hide (fun j hj hjs => ?_), hide ((unhide HB).setCell hg _)⟩
        · have hki : ¬ k = i := by omega
          have := unhide HE i (by omega)
          simp only [List.getD, List.getElem?_set, hki, if_false] at this ⊢
          exact this
        · rw [List.map_set]
          exact hst
        · exact (Below.heap_setCell wr ⟨g, k, none⟩ _ j hj).trans (unhide HF j hj hjs)
      case measure => simp [intOf]; omega
    · have hlt' : ¬ (k : Int) < n := by omega
      obtain rfl : k = n := by omega
      go_wp2
      exact bodyPost_end (v := .tuple #[]) (by simp [results, Tryd.results23, go_sem]) rfl ⟨rfl, unhide HF, unhide HB⟩
theorem spoilTexts_any (B E : Nat) (v : Value) (xs : List ByteArray) (w : World) (h : OwnL w B E v (xs.map Value.string)) (hn : xs.length ≤ maxLen) (hz : ∀ i, (xs.getD i ByteArray.empty).size ≤ 140737488355328) :
    Calls Tryd.prog 23 #[v] w fun e w' => e = .returned (.tuple #[]) ∧ (∀ k, v.ownBlock ≠ some k → k < w.heap.size → w'.heap[k]? = w.heap[k]?) ∧ Below B w w' := by
  rcases h.2 with ⟨rfl, h0⟩ | ⟨g, cap, cur, rfl, hb, _⟩
  · refine (spoilTexts_none none 0 w).mono ?_
    rintro e w' ⟨rfl, rfl⟩
    exact ⟨rfl, fun _ _ _ => rfl, Below.refl _ _⟩
  · simp only [List.length_map] at h ⊢
    refine (spoilTexts_own B E g _ cap xs w h hn hb hz).mono ?_
    rintro e w' ⟨rfl, h2, h3⟩
    exact ⟨rfl, fun k hk hs => h2 k (fun e => hk (by rw [e]; rfl)) hs, h3⟩
end Go.Proofs.YtfeepmjkamdldaaDoor
/- Parity by the document (ossuaryref1.Encode): a contract; texts that are spoiled. -/
namespace Go.Proofs.YtfeepmjkamdldaaDoor
open Go.RowKit
set_option linter.unusedVariables false
set_option linter.unusedSimpArgs false
open Vec (alikeTo numsTo May)
def EncMay (d p : Int) (ss : List ByteArray) : Prop := ShpMay d p ∧ (ss.length : Int) = d ∧ alikeTo ss ss.length
instance alikeDec (ss : List ByteArray) (n : Nat) : Decidable (alikeTo ss n) := by unfold alikeTo; exact inferInstance
instance encDec (d p : Int) (ss : List ByteArray) : Decidable (EncMay d p ss) := by unfold EncMay; exact inferInstance
/-- the first k parities -/
def encTo (d p : Nat) (ss : List ByteArray) (k : Nat) : List ByteArray := (List.range k).map fun i => Vec.out ((genM d p).getD (d + i) []) ss
/-- the parities, the error's number -/
def encF (d p : Int) (ss : List ByteArray) : List ByteArray × Int := if EncMay d p ss then (encTo d.toNat p.toNat ss p.toNat, 0) else ([], 600)
theorem encTo_len (d p : Nat) (ss : List ByteArray) (k : Nat) : (encTo d p ss k).length = k := by simp [encTo]
theorem encTo_snoc (d p : Nat) (ss : List ByteArray) (k : Nat) : encTo d p ss (k + 1) = encTo d p ss k ++ [Vec.out ((genM d p).getD (d + k) []) ss] := by
  unfold encTo
  rw [List.range_succ, List.map_append]
  rfl
theorem encF_len (d p : Int) (ss : List ByteArray) : (encF d p ss).1.length ≤ 2 := by
  unfold encF
  split
  · next h => rw [encTo_len]; have := h.1; unfold ShpMay at this; omega
  · exact Nat.zero_le _
theorem gen_row {d p : Nat} (h1 : 1 ≤ d) (h2 : d ≤ 4) (h3 : p ≤ 2) {r : Nat} (hr : r < d + p) : ((genM d p).getD r []).length = d ∧ numsTo ((genM d p).getD r []) ((genM d p).getD r []).length := by
  obtain ⟨hm, hl, hh⟩ := genM_may d (by omega) p (by omega) h1
  obtain ⟨e1, e2⟩ := hm.2.2.2.2 r (by omega)
  rw [hh] at e1 e2
  refine ⟨e1, fun i hi => ?_⟩
  rw [e1] at hi
  have := e2 i hi
  unfold byteI at this
  exact this
theorem gen_comb {d p : Nat} (h1 : 1 ≤ d) (h2 : d ≤ 4) (h3 : p ≤ 2) {r : Nat} (hr : r < d + p) {ss : List ByteArray} (hl : ss.length = d) (ha : alikeTo ss ss.length) {x : ByteArray × Int} (h : combR ((genM d p).getD r []) ss x) : x = (Vec.out ((genM d p).getD r []) ss, 0) := by
  obtain ⟨e1, e2⟩ := gen_row h1 h2 h3 hr
  have hm : May ((genM d p).getD r []) ss := ⟨by omega, by omega, by omega, ha, e2⟩
  rcases h with ⟨_, h⟩ | ⟨h, _⟩
  · exact h
  · exact absurd hm h
theorem out_len (cs : List Int) (ss : List ByteArray) : (Vec.out cs ss).size = (ss.getD 0 ByteArray.empty).size := by
  unfold Vec.out; rw [strOfNums_size]; simp [Vec.nums]
theorem encF_size (d p : Int) (ss : List ByteArray) : ∀ i, ((encF d p ss).1.getD i ByteArray.empty).size ≤ 140737488355328 := by
  intro i
  unfold encF
  split
  · next h =>
    obtain ⟨h1, h2, h3⟩ := h
    unfold ShpMay at h1
    have h0 := (h3 0 (by omega)).2
    by_cases hi : i < p.toNat
    · have e : (encTo d.toNat p.toNat ss p.toNat).getD i ByteArray.empty = Vec.out ((genM d.toNat p.toNat).getD (d.toNat + i) []) ss := by
        simp [encTo, List.getD, hi]
      rw [e, out_len]
      omega
    · have e : (encTo d.toNat p.toNat ss p.toNat).getD i ByteArray.empty = ByteArray.empty := by
        simp [encTo, List.getD, hi]
      rw [e]
      decide
  · simp
end Go.Proofs.YtfeepmjkamdldaaDoor
/- Parity by the document (ossuaryref1.Encode): the walk. -/
namespace Go.Proofs.YtfeepmjkamdldaaDoor
open Go.RowKit
set_option linter.unusedVariables false
set_option linter.unusedSimpArgs false
open Vec (alikeTo numsTo May)
theorem below_drews {w w' : World} {B : Nat} (h : ∃ m, w' = w.drewN m) : Below B w w' := by obtain ⟨m, rfl⟩ := h; exact below_drewN _ _ _
set_option maxRecDepth 100000 in
set_option maxHeartbeats 2000000 in
theorem refEncode_no (d p : Int) (a : Option Addr) (n ca : Nat) (ss : List ByteArray) (w : World) (hs : Strs w a n ca ss) (hn : n * 16 ≤ 140737488351232) (h : ¬ EncMay d p ss) :
    Calls Tryd.prog 21 #[.agg #[.int .i64 d, .int .i64 p], .slice a n ca] w fun e w' => e = .returned (.tuple #[.slice none 0 0, .int .i64 600]) ∧ Below w.heap.size w w' := by
  have HS := hide hs
  have hl : ss.length = n := hs.1
  by_cases h1 : ShpMay d p
  · have H1 := hide h1
    by_cases h2 : (n : Int) = d
    · have h3 : ¬ alikeTo ss n := fun h3 => h ⟨h1, by rw [hl]; exact h2, by rw [hl]; exact h3⟩
      have H3 := hide h3
      have t2 : ((n : Int) != d) = false := by simp [h2]
      clear h h1 h2 h3 hs hl
      go_enter Tryd.func21, Tryd.ntmps21
      go_wp2_with fail
      have BS := hide (heap_alloc_new w (.cells #[.int .i64 d, .int .i64 p] 23))
      have HB := hide (below_alloc w (.cells #[.int .i64 d, .int .i64 p] 23))
      generalize (w.alloc (.cells #[.int .i64 d, .int .i64 p] 23)) = W0 at *
      refine (refShapeMay_yes d p W0 (unhide H1)).mono ?_
      rintro e w1 ⟨rfl, b1⟩
      replace BS := hide ((b1.block _ (lt_of_block (unhide BS))).trans (unhide BS))
      replace HB := hide (bt (unhide HB) b1)
      clear b1
      obtain ⟨c0, c1⟩ := box_two (unhide BS)
      go_wp2_with fail
      refine (alike_any a n ca ss w1 ((unhide HS).below (unhide HB)) (by omega)).mono ?_
      rintro e w2 ⟨hd, ⟨h, _⟩ | ⟨_, rfl⟩⟩
      · exact absurd h (unhide H3)
      · replace HB := hide (bt (unhide HB) (below_drews hd))
        clear hd
        go_wp2
        go_ret2
        exact ⟨rfl, unhide HB⟩
    · have t2 : ((n : Int) != d) = true := by simp; omega
      clear h h1 h2 hs hl
      go_enter Tryd.func21, Tryd.ntmps21
      go_wp2_with fail
      have BS := hide (heap_alloc_new w (.cells #[.int .i64 d, .int .i64 p] 23))
      have HB := hide (below_alloc w (.cells #[.int .i64 d, .int .i64 p] 23))
      generalize (w.alloc (.cells #[.int .i64 d, .int .i64 p] 23)) = W0 at *
      refine (refShapeMay_yes d p W0 (unhide H1)).mono ?_
      rintro e w1 ⟨rfl, b1⟩
      replace BS := hide ((b1.block _ (lt_of_block (unhide BS))).trans (unhide BS))
      replace HB := hide (bt (unhide HB) b1)
      clear b1
      obtain ⟨c0, c1⟩ := box_two (unhide BS)
      go_wp2
      go_ret2
      exact ⟨rfl, unhide HB⟩
  · have H1 := hide h1
    clear h h1 hs hl
    go_enter Tryd.func21, Tryd.ntmps21
    go_wp2_with fail
    have HB := hide (below_alloc w (.cells #[.int .i64 d, .int .i64 p] 23))
    generalize (w.alloc (.cells #[.int .i64 d, .int .i64 p] 23)) = W0 at *
    refine (refShapeMay_no d p W0 (unhide H1)).mono ?_
    rintro e w1 ⟨rfl, b1⟩
    replace HB := hide (bt (unhide HB) b1)
    clear b1
    go_wp2
    go_ret2
    exact ⟨rfl, unhide HB⟩
set_option maxRecDepth 100000 in
set_option maxHeartbeats 4000000 in
theorem refEncode_yes (d p : Nat) (a : Option Addr) (ca : Nat) (ss : List ByteArray) (w : World) (hs : Strs w a d ca ss) (h1 : 1 ≤ d) (h2 : d ≤ 4) (h3 : p ≤ 2) (ha : alikeTo ss ss.length) :
    Calls Tryd.prog 21 #[.agg #[.int .i64 d, .int .i64 p], .slice a d ca] w fun e w' => ∃ v, e = .returned (.tuple #[v, .int .i64 0]) ∧ OwnL w' w.heap.size 9 v ((encTo d p ss p).map Value.string) ∧ Below w.heap.size w w' := by
  have HS := hide hs
  have hl : ss.length = d := hs.1
  have HL := hide hl
  have HA := hide ha
  have H1 : Hid (ShpMay d p) := hide (by unfold ShpMay; omega)
  have t2 : ((d : Int) != (d : Int)) = false := by simp
  clear hs hl ha
  go_enter Tryd.func21, Tryd.ntmps21
  go_wp2_with fail
  have BS := hide (heap_alloc_new w (.cells #[.int .i64 d, .int .i64 p] 23))
  have HB := hide (below_alloc w (.cells #[.int .i64 d, .int .i64 p] 23))
  generalize (w.alloc (.cells #[.int .i64 d, .int .i64 p] 23)) = W0 at *
  refine (refShapeMay_yes d p W0 (unhide H1)).mono ?_
  rintro e w1 ⟨rfl, b1⟩
  replace BS := hide ((b1.block _ (lt_of_block (unhide BS))).trans (unhide BS))
  replace HB := hide (bt (unhide HB) b1)
  clear b1
  obtain ⟨c0, c1⟩ := box_two (unhide BS)
  go_wp2_with fail
  refine (alike_any a d ca ss w1 ((unhide HS).below (unhide HB)) (by omega)).mono ?_
  rintro e w2 ⟨hd, ⟨_, rfl⟩ | ⟨h, _⟩⟩
  rotate_left
  · exact absurd (by have := unhide HA; rwa [unhide HL] at this) h
  have b2 := below_drews (B := w1.heap.size) hd
  replace BS := hide ((b2.block _ (lt_of_block (unhide BS))).trans (unhide BS))
  replace HB := hide (bt (unhide HB) b2)
  clear hd b2 c0 c1
  obtain ⟨c0, c1⟩ := box_two (unhide BS)
  go_wp2_with fail
  refine (refGen_yes d p w2 h1 h2 h3).mono ?_
  rintro e w3 ⟨u3, rfl, O3, b3⟩
  obtain ⟨p3, n3, c3, rfl, e3⟩ := O3.form
  have hm3 := genM_may d (by omega) p (by omega) h1
  rw [hm3.2.1] at e3
  have hV := O3.matV (rows_le hm3.1)
  replace BS := hide ((b3.block _ (lt_of_block (unhide BS))).trans (unhide BS))
  replace HB := hide (bt (unhide HB) b3)
  have M3 := hide hV
  have E3 := hide e3
  clear O3 b3 e3 hV hm3 c0 c1
  obtain ⟨c0, c1⟩ := box_two (unhide BS)
  have d0 := fun o => ((below_alloc w3 o).cell (cell_lt c0)).trans c0
  have d1 := fun o => ((below_alloc w3 o).cell (cell_lt c1)).trans c1
  have BA := hide (heap_alloc_new w3 (.cells #[.slice p3 n3 c3] 26))
  have hx := below_alloc w3 (.cells #[.slice p3 n3 c3] 26)
  go_wp2_with fail
  generalize (w3.alloc (.cells #[.slice p3 n3 c3] 26)) = W3 at *
  replace BS := hide ((hx.block _ (lt_of_block (unhide BS))).trans (unhide BS))
  replace M3 := hide ((unhide M3).below hx)
  replace HB := hide (bt (unhide HB) hx)
  clear hx c0 c1 d0 d1
  obtain ⟨b3, o3, rfl, hrows⟩ : ∃ b o, p3 = some ⟨b, o, none⟩ ∧ ∀ i, i < n3 → ∃ u, W3.cell? ⟨b, o + i, none⟩ = some u ∧ RowV W3 u ((genM d p).getD i []) := by
    obtain ⟨a', n', c', e, R⟩ := unhide M3
    simp only [Value.agg.injEq, Array.mk.injEq, List.cons.injEq, Value.slice.injEq, and_true] at e
    obtain ⟨rfl, rfl, rfl⟩ := e
    rcases R.two with h0 | h
    · have := unhide E3; omega
    · exact h
  have HR := hide hrows
  have hn3 : n3 ≤ 6 := by have := unhide E3; omega
  clear hrows
  go_loopw [8, 9] (fun ov iv wr => ∃ k r : Nat, k ≤ p ∧ Hid (r = d + k) ∧ iv = .int .i64 r ∧ Hid (OwnL wr W3.heap.size 9 ov ((encTo d p ss k).map Value.string)) ∧ Hid (Below W3.heap.size W3 wr)) (fun _ iv _ => d + p - (intOf iv).toNat)
  case atStart => exact ⟨0, d, by omega, hide rfl, rfl, hide (OwnL.nil _ _ _), hide (Below.refl _ _)⟩
  case round =>
    obtain ⟨k, r, hk, Er, rfl, HO, HW⟩ := hrel
    have bS := ((unhide HW).block _ (lt_of_block (unhide BS))).trans (unhide BS)
    have bA := ((unhide HW).block _ (lt_of_block (unhide BA))).trans (unhide BA)
    obtain ⟨c0, c1⟩ := box_two bS
    have cA := cell_of_one bA
    clear bS bA
    by_cases hlt : k < p
    · have hlt' : (r : Int) < (d : Int) + (p : Int) := by have := unhide Er; omega
      have hr3 : r < n3 := by have := unhide Er; have := unhide E3; omega
      have hr3' : (r : Int) < n3 := by omega
      obtain ⟨u, hu, x, nx, cx, rfl, hnx, hx⟩ := unhide HR r hr3
      have cu := ((unhide HW).cell (cell_lt hu)).trans hu
      have HX := hide (hx.below (unhide HW))
      obtain ⟨pv, cv, ev⟩ := (unhide HO).form
      rw [List.length_map, encTo_len] at ev
      subst ev
      have hxl : nx = d := by rw [← hx.1]; exact (gen_row h1 h2 h3 (by have := unhide Er; omega)).1
      have HXL := hide hxl
      clear hu hx hxl
      unfold maxLen at hnx
      go_wp2_with fail
      refine (refCombine_any _ _ _ _ _ _ _ ss wr (unhide HX) ((unhide HS).below (bt (unhide HB) (unhide HW))) (by have := unhide HXL; omega)).mono ?_
      rintro e w5 ⟨r5, hr5, rfl, b5⟩
      obtain rfl := gen_comb h1 h2 h3 (by have := unhide Er; omega) (unhide HL) (unhide HA) hr5
      replace HO := hide ((unhide HO).below b5)
      replace HW := hide ((unhide HW).trans (b5.mono (unhide HW).size))
      have hszW := (unhide HW).size
      clear hr5 b5 cA cu c0 c1
      obtain ⟨t, et⟩ : ∃ t, t = Vec.out ((genM d p).getD r []) ss := ⟨_, rfl⟩
      rw [← et]
      have ET := hide et
      clear et
      go_wp2_with (at_builtin; refine wpList_push w5 (by rfl) (.tmp 53) (.tmp 55) 47 (by rfl) W3.heap.size 9 (.string ByteArray.empty) 16 Tryd.underlying47 Tryd.infoText rfl _ _ (by rfl) (unhide HO) _ (by rfl) (by rfl) (by simp [encTo_len]; omega) (by omega) hszW ?_; intro v1 wa O1 P1; have HBa := hide (P1.below (unhide HO) (unhide HW) (Nat.le_refl _) hszW); have HO1 := hide O1; clear O1 P1 HO HW)
      go_roundw
      case rel =>
        refine ⟨k + 1, r + 1, by omega, hide (by have := unhide Er; omega), by go_num, hide ?_, HBa⟩
        have := unhide HO1
        rw [encTo_snoc, List.map_append, ← unhide Er]
        simp only [List.map_cons, List.map_nil]
        rw [← unhide ET]
        exact this
      case measure => simp [intOf]; have := unhide Er; omega
    · have hlt' : ¬ (r : Int) < (d : Int) + (p : Int) := by have := unhide Er; omega
      obtain rfl : k = p := by omega
      obtain ⟨pv, cv, ev⟩ := (unhide HO).form
      rw [List.length_map, encTo_len] at ev
      subst ev
      have hB := hide (bt (unhide HB) (unhide HW))
      have hs3 := (unhide HB).size
      go_wp2
      go_ret2
      exact ⟨_, rfl, (unhide HO).mono hs3, unhide hB⟩
theorem refEncode_fun (d p : Int) (a : Option Addr) (n ca : Nat) (ss : List ByteArray) (w : World) (hs : Strs w a n ca ss) (hn : n * 16 ≤ 140737488351232) : Calls Tryd.prog 21 #[.agg #[.int .i64 d, .int .i64 p], .slice a n ca] w fun e w' =>
    ∃ v, e = .returned (.tuple #[v, .int .i64 (encF d p ss).2]) ∧ OwnL w' w.heap.size 9 v ((encF d p ss).1.map Value.string) ∧ Below w.heap.size w w' := by
  by_cases h : EncMay d p ss
  · obtain ⟨h1, h2, h3⟩ := h
    have h' := h1
    unfold ShpMay at h'
    have hl := hs.1
    obtain ⟨m, rfl⟩ : ∃ m : Nat, p = m := ⟨p.toNat, by omega⟩
    obtain rfl : d = (n : Int) := by rw [← h2, hl]
    refine (refEncode_yes n m a ca ss w hs (by omega) (by omega) (by omega) h3).mono ?_
    rintro e w' ⟨v, rfl, ho, hb⟩
    simp only [encF, if_pos (show EncMay (n : Int) (m : Int) ss from ⟨h1, h2, h3⟩), Int.toNat_natCast]
    exact ⟨v, rfl, ho, hb⟩
  · refine (refEncode_no d p a n ca ss w hs hn h).mono ?_
    rintro e w' ⟨rfl, hb⟩
    simp only [encF, if_neg h]
    exact ⟨_, rfl, OwnL.nil _ _ _, hb⟩
end Go.Proofs.YtfeepmjkamdldaaDoor
/- Package vec's Combine: what it returns, whatever the numbers and rows. -/
namespace Go.Proofs.YtfeepmjkamdldaaDoor
open Go.RowKit
set_option linter.unusedVariables false
open Vec (alikeTo numsTo May cmb byteAt)
/-- row i may be: its number, its length -/
def okAt (cs : List Int) (ss : List ByteArray) (i : Nat) : Prop := (0 ≤ cs.getD i 0 ∧ cs.getD i 0 < 256) ∧ (ss.getD i ByteArray.empty).size = (ss.getD 0 ByteArray.empty).size
def okTo (cs : List Int) (ss : List ByteArray) (k : Nat) : Prop := ∀ i, i < k → okAt cs ss i
set_option maxRecDepth 100000 in
set_option maxHeartbeats 1000000 in
theorem haveForm_len (a a' : Option Addr) (n n' ca cb : Nat) (w : World) (h : n < 1 ∨ 12 < n ∨ n' ≠ n) (hb : n ≤ 140737488355328) :
    Calls Tryd.prog 62 #[.slice a n ca, .slice a' n' cb] w fun e w' => e = .returned (.bool false) ∧ w' = w := by
  by_cases h1 : n < 1
  · have h1' : (n : Int) < 1 := by omega
    go_enter Tryd.func62, Tryd.ntmps62
    go_wp2
    go_ret
    exact ⟨rfl, rfl⟩
  · have h1' : ¬ (n : Int) < 1 := by omega
    by_cases h2 : 12 < n
    · have h2' : (12 : Int) < n := by omega
      go_enter Tryd.func62, Tryd.ntmps62
      go_wp2
      go_ret
      exact ⟨rfl, rfl⟩
    · have h2' : ¬ (12 : Int) < n := by omega
      have h3 : ((n' : Int) != (n : Int)) = true := by simp; omega
      clear h
      go_enter Tryd.func62, Tryd.ntmps62
      go_wp2
      go_ret
      exact ⟨rfl, rfl⟩
/-- the first row is not too long, and each row may be -/
def formV (cs : List Int) (ss : List ByteArray) (k : Nat) : Prop := (ss.getD 0 ByteArray.empty).size ≤ 4096 ∧ okTo cs ss k
set_option maxRecDepth 100000 in
set_option maxHeartbeats 1000000 in
theorem haveForm_some (b off ca b' off' cb n : Nat) (cs : List Int) (ss : List ByteArray) (w : World) (hp : 1 ≤ n) (hn : n ≤ 12)
    (hc : ∀ i, i < n → w.cell? ⟨b, off + i, none⟩ = some (.int .i64 (cs.getD i 0)))
    (hd : ∀ i, i < n → w.cell? ⟨b', off' + i, none⟩ = some (.string (ss.getD i ByteArray.empty))) :
    Calls Tryd.prog 62 #[.slice (some ⟨b, off, none⟩) n ca, .slice (some ⟨b', off', none⟩) n cb] w fun e w' => w' = w ∧
      ((formV cs ss n ∧ e = .returned (.bool true)) ∨ (¬ formV cs ss n ∧ e = .returned (.bool false))) := by
  have hp' : ¬ (n : Int) < 1 := by omega
  have hn' : ¬ (12 : Int) < n := by omega
  have hp2 : (0 : Int) < n := by omega
  have h3 : ((n : Int) != (n : Int)) = false := by simp
  have h0 : w.cell? ⟨b', off', none⟩ = some (.string (ss.getD 0 ByteArray.empty)) := hd 0 hp
  obtain ⟨s0, e0⟩ : ∃ s0, s0 = ss.getD 0 ByteArray.empty := ⟨_, rfl⟩
  have E0 := hide e0
  rw [← e0] at h0
  clear e0
  have HC := hide hc
  have HD := hide hd
  clear hc hd
  by_cases t0 : s0.size ≤ 4096
  · have g0 : ¬ (4096 : Int) < (s0.size : Int) := by omega
    go_enter Tryd.func62, Tryd.ntmps62
    go_wp2
    go_loop [31] (fun i => ∃ k : Nat, k ≤ n ∧ i = .int .i64 k ∧ Hid (okTo cs ss k)) (fun i => n - (intOf i).toNat)
    case atStart => exact ⟨0, by omega, rfl, hide (fun i hi => by omega)⟩
    case round =>
      obtain ⟨k, hk, rfl, he⟩ := hrel
      by_cases hlt : k < n
      · have hlt' : (k : Int) < n := by omega
        have h1 := unhide HC k hlt
        have h2 := unhide HD k hlt
        obtain ⟨x, ex⟩ : ∃ x, x = cs.getD k 0 := ⟨_, rfl⟩
        obtain ⟨s, es⟩ : ∃ s, s = ss.getD k ByteArray.empty := ⟨_, rfl⟩
        rw [← ex] at h1
        rw [← es] at h2
        have EX := hide ex
        have ES := hide es
        clear ex es
        by_cases t1 : x < 0
        · go_wp2
          go_ret
          refine ⟨rfl, .inr ⟨fun h => ?_, rfl⟩⟩
          have := (h.2 k hlt).1.1
          rw [← unhide EX] at this; omega
        · by_cases t2 : (255 : Int) < x
          · go_wp2
            go_ret
            refine ⟨rfl, .inr ⟨fun h => ?_, rfl⟩⟩
            have := (h.2 k hlt).1.2
            rw [← unhide EX] at this; omega
          · by_cases t3 : s.size = s0.size
            · have g3 : ((s.size : Int) != (s0.size : Int)) = false := by simp [t3]
              have T3 := hide t3
              clear t3
              go_wp2
              go_round
              case rel =>
                refine ⟨k + 1, by omega, by go_num, hide (fun i hi => ?_)⟩
                by_cases q : i = k
                · rw [q]; refine ⟨?_, ?_⟩
                  · rw [← unhide EX]; omega
                  · rw [← unhide ES, ← unhide E0]; exact unhide T3
                · exact unhide he i (by omega)
              case measure => simp [intOf]; omega
            · have g3 : ((s.size : Int) != (s0.size : Int)) = true := by simp; omega
              go_wp2
              go_ret
              refine ⟨rfl, .inr ⟨fun h => t3 ?_, rfl⟩⟩
              have := (h.2 k hlt).2
              rw [← unhide ES, ← unhide E0] at this; exact this
      · have hlt' : ¬ (k : Int) < n := by omega
        obtain rfl : k = n := by omega
        go_wp2
        go_ret
        exact ⟨rfl, .inl ⟨⟨by rw [← unhide E0]; exact t0, unhide he⟩, rfl⟩⟩
  · have g0 : (4096 : Int) < (s0.size : Int) := by omega
    go_enter Tryd.func62, Tryd.ntmps62
    go_wp2
    go_ret
    exact ⟨rfl, .inr ⟨fun h => t0 (by rw [unhide E0]; exact h.1), rfl⟩⟩
theorem u8w (u : Nat) (h : u < 256) : IntKind.i64.wrap ((u : Nat) : Int) = ((u : Nat) : Int) := by
  rw [IntKind.wrap_i64]; omega
set_option maxRecDepth 100000 in
set_option maxHeartbeats 1000000 in
theorem addTimes_any (s c x : Nat) (w : World) (hs : s < 256) (hc : c < 256) (hx : x < 256) :
    Calls Tryd.prog 63 #[.int .u8 s, .int .i64 c, .int .u8 x] w fun e w' => e = .returned (.int .u8 ((s ^^^ Gf.mul c x : Nat) : Int)) ∧ w' = w := by
  have hm := Gf.mul_lt c x
  have hx2 := Gf.xor_lt hs hm
  go_enter Tryd.func63, Tryd.ntmps63
  go_wp2_with (first | (go_at_call 69; refine (gfMul_yes _ _ _ hc hx).mono ?_; rintro e w' ⟨rfl, rfl⟩) | (go_at_call 70; refine (gfAdd_yes _ _ _ hs hm).mono ?_; rintro e w' ⟨rfl, rfl⟩))
  go_ret
  exact ⟨rfl, rfl⟩
theorem cellC_put {cs : List Int} {ss : List ByteArray} {i j x o : Nat} {t : ByteArray} (ex : cs.getD i 0 = (x : Int)) (et : t = ss.getD i ByteArray.empty) (eo : o = cmb cs ss i j) (hj : j < t.size) (r : Nat) :
    (if r = j then Value.int .u8 ((o ^^^ Gf.mul x t[j].toNat : Nat) : Int) else cellC cs ss i j r) = cellC cs ss i (j + 1) r := by
  by_cases h : r = j
  · subst h
    rw [if_pos rfl]
    have e1 : Gf.mul x t[r].toNat = Gf.mul (cs.getD i 0).toNat (byteAt (Vec.row ss i) r) := by
      rw [ex, Vec.byteAt_get t r hj, Int.toNat_natCast, et]; rfl
    unfold cellC
    rw [if_pos (by omega)]
    show _ = Value.int .u8 ((cmb cs ss i r ^^^ Gf.mul (cs.getD i 0).toNat (byteAt (Vec.row ss i) r) : Nat) : Int)
    rw [← e1, ← eo]
  · rw [if_neg h]
    unfold cellC
    by_cases h2 : r < j
    · rw [if_pos h2, if_pos (by omega)]
    · rw [if_neg h2, if_neg (by omega)]
attribute [local go_sem ↓] Go.wp_at_zero Go.wp_at_succ
set_option maxRecDepth 100000 in
set_option maxHeartbeats 4000000 in
theorem vecCombine_yes (b off ca b' off' cb n : Nat) (cs : List Int) (ss : List ByteArray) (w : World) (hl : cs.length = n) (hl' : ss.length = n) (hp : 1 ≤ n) (hn : n ≤ 12) (hcb : n ≤ cb)
    (hf : formV cs ss n)
    (hc : ∀ i, i < n → w.cell? ⟨b, off + i, none⟩ = some (.int .i64 (cs.getD i 0)))
    (hd : ∀ i, i < n → w.cell? ⟨b', off' + i, none⟩ = some (.string (ss.getD i ByteArray.empty))) :
    Calls Tryd.prog 43 #[.slice (some ⟨b, off, none⟩) n ca, .slice (some ⟨b', off', none⟩) n cb] w fun e w' => e = .returned (.tuple #[.string (Vec.out cs ss), .int .i64 0]) ∧ Below w.heap.size w w' := by
  have HF := hide hf
  clear hf
  have h0 : w.cell? ⟨b', off', none⟩ = some (.string (ss.getD 0 ByteArray.empty)) := hd 0 hp
  obtain ⟨s0, e0⟩ : ∃ s0, s0 = ss.getD 0 ByteArray.empty := ⟨_, rfl⟩
  have E0 := hide e0
  rw [← e0] at h0
  clear e0
  have hp2 : (0 : Int) < n := by omega
  have hs0 : s0.size ≤ 4096 := by rw [unhide E0]; exact (unhide HF).1
  have hmk := fun w => run_make_row' (P := Tryd.prog) 99 5 (.int .u8 0) 1 Tryd.underlying99 Tryd.infoByte rfl .i64 .i64 s0.size (by omega) (by omega) w
  have HC := hide hc
  have HD := hide hd
  go_enter Tryd.func43, Tryd.ntmps43
  go_wp2_with fail
  refine (haveForm_some b off ca b' off' cb n cs ss w hp hn (unhide HC) (unhide HD)).mono ?_
  rintro e w1 ⟨rfl, hr⟩
  rcases hr with ⟨_, rfl⟩ | ⟨hno, _⟩
  · clear hc hd
    go_wp2
    go_loopw [21] (fun i wr => ∃ i' : Nat, i' ≤ n ∧ i = .int .i64 i' ∧ Hid (wr.rowIs w1.heap.size 5 s0.size (cellC cs ss i' 0)) ∧ Hid (Below w1.heap.size w1 wr)) (fun i _ => n - (intOf i).toNat)
    case atStart => exact ⟨0, by omega, rfl, (World.rowIs_made _ _ _ _).congr (fun t _ => cellC_start cs ss t), (below_alloc _ _)⟩
    case round =>
      obtain ⟨i, hi, rfl, HR, HB⟩ := hrel
      by_cases hlti : i < n
      · have hlti' : (i : Int) < n := by omega
        have c2 := (unhide HB).cell (cell_lt (unhide HC i hlti)) |>.trans (unhide HC i hlti)
        obtain ⟨x, hx, ex⟩ : ∃ x : Nat, x < 256 ∧ cs.getD i 0 = x := ⟨(cs.getD i 0).toNat, by have := ((unhide HF).2 i hlti).1; omega, by have := ((unhide HF).2 i hlti).1; omega⟩
        have EX := hide ex
        rw [ex] at c2
        clear ex
        go_wp2
        go_loopw [28] (fun j wr => ∃ j' : Nat, j' ≤ s0.size ∧ j = .int .i64 j' ∧ Hid (wr.rowIs w1.heap.size 5 s0.size (cellC cs ss i j')) ∧ Hid (Below w1.heap.size w1 wr)) (fun j _ => s0.size - (intOf j).toNat)
        case atStart => exact ⟨0, by omega, rfl, HR, HB⟩
        case round =>
          obtain ⟨j, hj, rfl, HR, HB⟩ := hrel
          by_cases hltj : j < s0.size
          · have hltj' : (j : Int) < s0.size := by omega
            have c1 : wr.cell? ⟨w1.heap.size, j, none⟩ = some (.int .u8 ((cmb cs ss i j : Nat) : Int)) := ((unhide HR).cell hltj).trans (by simp [cellC])
            have f1 := (unhide HR).frozen j
            have c3 := (unhide HB).cell (cell_lt (unhide HD i hlti)) |>.trans (unhide HD i hlti)
            obtain ⟨t, et⟩ : ∃ t, t = ss.getD i ByteArray.empty := ⟨_, rfl⟩
            rw [← et] at c3
            have ET := hide et
            have hts : j < t.size := by rw [et, ((unhide HF).2 i hlti).2, ← unhide E0]; exact hltj
            have nb' : b' ≠ w1.heap.size := Nat.ne_of_lt (cell_lt (unhide HD i hlti))
            have hts' : (j : Int) < t.size := by omega
            clear et
            obtain ⟨o, eo⟩ : ∃ o, o = cmb cs ss i j := ⟨_, rfl⟩
            have ho : o < 256 := by rw [eo]; exact Vec.cmb_lt cs ss i j
            rw [← eo] at c1
            have EO := hide eo
            clear eo
            go_wp2
            refine wp_region_quiet_then (List.cons_ne_nil _ _) ?_ ?_ ?_ ?_
            · kernel_rfl
            · kernel_rfl
            · kernel_rfl
            simp only [List.dropLast_cons_cons, List.dropLast_singleton, List.getLast_cons_cons, List.getLast_singleton]
            repeat (first | go_big_quiet_step ((go_at_call 63; exact Calls.quiet_of_same (addTimes_any o x (t[j].toNat) _ ho hx (UInt8.toNat_lt _)))) | quiet_step ((go_at_call 63; exact Calls.quiet_of_same (addTimes_any o x (t[j].toNat) _ ho hx (UInt8.toNat_lt _)))))
            refine wpQuiet_nil ?_
            intro _ hw'
            obtain ⟨nq, hw''⟩ := hw'
            subst hw''
            simp only [List.cons_append, List.nil_append]
            go_wp2
            go_roundw
            case rel =>
              refine ⟨j + 1, by omega, by go_num, hide ?_, hide (((unhide HB).trans (below_drewN _ _ nq)).setCell (Nat.le_refl _) _)⟩
              have hR2 : (wr.drewN nq).rowIs w1.heap.size 5 s0.size (cellC cs ss i j) := (unhide HR).of_block rfl
              exact (hR2.set j _).congr (fun r _ => cellC_put (unhide EX) (unhide ET) (unhide EO) hts r)
            case measure => simp [intOf]; omega
          · have hltj' : ¬ (j : Int) < s0.size := by omega
            obtain rfl : j = s0.size := by omega
            go_wp2
            go_roundw
            case rel => exact ⟨i + 1, by omega, by go_num, hide ((unhide HR).congr (fun t ht => cellC_next cs ss i _ t ht)), HB⟩
            case measure => simp [intOf]; omega
      · have hlti' : ¬ (i : Int) < n := by omega
        obtain rfl : i = n := by omega
        have c4 : ∀ t, t < s0.size → wr.cell? ⟨w1.heap.size, 0 + t, none⟩ = some (.int .u8 ((Vec.nums cs ss).getD t 0)) := fun t ht => by
          rw [Nat.zero_add, (unhide HR).cell ht]; exact cellC_end hl (unhide E0) t ht
        have hcv := run_convert_bytes_arg (P := Tryd.prog) wr 99 5 Tryd.underlying99 Tryd.underlying5 w1.heap.size 0 s0.size s0.size (Vec.nums cs ss) (nums_len (unhide E0)) c4 9 Tryd.underlying9
        clear c4
        go_wp2
        go_ret2
        exact ⟨rfl, unhide HB⟩
  · exact absurd (unhide HF) hno
set_option maxRecDepth 100000 in
set_option maxHeartbeats 1000000 in
theorem vecCombine_len (a a' : Option Addr) (n n' ca cb : Nat) (w : World) (h : n < 1 ∨ 12 < n ∨ n' ≠ n) (hb : n ≤ 140737488355328) :
    Calls Tryd.prog 43 #[.slice a n ca, .slice a' n' cb] w fun e w' => e = .returned (.tuple #[.string ByteArray.empty, .int .i64 200]) ∧ w' = w := by
  go_enter Tryd.func43, Tryd.ntmps43
  go_wp2_with (go_at_call 62; refine (haveForm_len _ _ _ _ _ _ _ h hb).mono ?_; rintro e w' ⟨rfl, rfl⟩)
  go_ret2
  exact ⟨rfl, rfl⟩
set_option maxRecDepth 100000 in
set_option maxHeartbeats 1000000 in
theorem vecCombine_form (b off ca b' off' cb n : Nat) (cs : List Int) (ss : List ByteArray) (w : World) (hp : 1 ≤ n) (hn : n ≤ 12) (hno : ¬ formV cs ss n)
    (hc : ∀ i, i < n → w.cell? ⟨b, off + i, none⟩ = some (.int .i64 (cs.getD i 0)))
    (hd : ∀ i, i < n → w.cell? ⟨b', off' + i, none⟩ = some (.string (ss.getD i ByteArray.empty))) :
    Calls Tryd.prog 43 #[.slice (some ⟨b, off, none⟩) n ca, .slice (some ⟨b', off', none⟩) n cb] w fun e w' => e = .returned (.tuple #[.string ByteArray.empty, .int .i64 200]) ∧ w' = w := by
  have HO := hide hno
  have HC := hide hc
  have HD := hide hd
  clear hno hc hd
  go_enter Tryd.func43, Tryd.ntmps43
  go_wp2_with fail
  refine (haveForm_some b off ca b' off' cb n cs ss w hp hn (unhide HC) (unhide HD)).mono ?_
  rintro e w1 ⟨rfl, hr⟩
  rcases hr with ⟨h, _⟩ | ⟨_, rfl⟩
  · exact absurd h (unhide HO)
  · go_wp2
    go_ret2
    exact ⟨rfl, rfl⟩
theorem formV_may {cs : List Int} {ss : List ByteArray} {n : Nat} (hp : 1 ≤ n) : formV cs ss n ↔ alikeTo ss n ∧ numsTo cs n := by
  constructor
  · rintro ⟨h0, h⟩
    exact ⟨fun i hi => ⟨(h i hi).2, by rw [(h i hi).2]; exact h0⟩, fun i hi => (h i hi).1⟩
  · rintro ⟨h1, h2⟩
    exact ⟨(h1 0 hp).2, fun i hi => ⟨h2 i hi, (h1 i hi).1⟩⟩
theorem vecCombine_any (a a' : Option Addr) (n n' ca cb : Nat) (cs : List Int) (ss : List ByteArray) (w : World) (hx : Ints w a n ca cs) (hy : Strs w a' n' cb ss) (hn : n ≤ 140737488355328) :
    Calls Tryd.prog 43 #[.slice a n ca, .slice a' n' cb] w fun e w' => ∃ r, combR cs ss r ∧ e = .returned (.tuple #[.string r.1, .int .i64 r.2]) ∧ Below w.heap.size w w' := by
  obtain ⟨lx, rx⟩ := hx
  obtain ⟨ly, ry⟩ := hy
  by_cases h : n < 1 ∨ 12 < n ∨ n' ≠ n
  · refine (vecCombine_len a a' n n' ca cb w h hn).mono ?_
    rintro e w' ⟨rfl, rfl⟩
    exact ⟨_, .inr ⟨fun hm => by obtain ⟨h1, h2, h3, _⟩ := hm; omega, rfl⟩, rfl, Below.refl _ _⟩
  · obtain rfl : n' = n := by omega
    rcases rx with ⟨_, h0, _⟩ | ⟨h0, _⟩ | ⟨_, _, b, off, rfl, hc⟩
    · omega
    · omega
    · rcases ry with ⟨_, h0, _⟩ | ⟨h0, _⟩ | ⟨_, hcb, b', off', rfl, hd⟩
      · omega
      · omega
      · by_cases hf : formV cs ss n'
        · have hm := (formV_may (by omega)).1 hf
          refine (vecCombine_yes b off ca b' off' cb n' cs ss w lx ly (by omega) (by omega) hcb hf hc hd).mono ?_
          rintro e w' ⟨rfl, hb⟩
          exact ⟨_, .inl ⟨⟨by omega, by omega, by omega, by rw [ly]; exact hm.1, by rw [lx]; exact hm.2⟩, rfl⟩, rfl, hb⟩
        · refine (vecCombine_form b off ca b' off' cb n' cs ss w (by omega) (by omega) hf hc hd).mono ?_
          rintro e w' ⟨rfl, rfl⟩
          exact ⟨_, .inr ⟨fun h => hf ((formV_may (by omega)).2 ⟨by have := h.2.2.2.1; rw [ly] at this; exact this, by have := h.2.2.2.2; rw [lx] at this; exact this⟩), rfl⟩, rfl, Below.refl _ _⟩
end Go.Proofs.YtfeepmjkamdldaaDoor
/- Package encode: the function handed to slices.ContainsFunc, and that call: the walks. -/
namespace Go.Proofs.YtfeepmjkamdldaaDoor
open Go.RowKit
set_option linter.unusedVariables false
set_option linter.unusedSimpArgs false
attribute [local go_sem ↓] Go.wp_at_zero Go.wp_at_succ
set_option maxRecDepth 100000 in
theorem encLit_any (t s : ByteArray) (g b off n ca : Nat) (w : World) (hg : w.cell? ⟨g, 0, none⟩ = some (.slice (some ⟨b, off, none⟩) n ca)) (hn : 1 ≤ n) (hc : w.cell? ⟨b, off, none⟩ = some (.string s)) :
    Calls Tryd.prog 61 #[.string t, .pointer (some ⟨g, 0, none⟩)] w fun e w' => e = .returned (.bool ((t.size : Int) != (s.size : Int))) ∧ w' = w := by
  have hn' : (0 : Int) < n := by omega
  go_enter Tryd.func61, Tryd.ntmps61
  go_wp2
  go_ret
  exact ⟨rfl, rfl⟩
set_option maxRecDepth 100000 in
set_option maxHeartbeats 1000000 in
theorem indexFunc_any (b off n ca k : Nat) (q : Array Value) (g : ByteArray → Bool) (ss : List ByteArray) (w : World) (hl : ss.length = n) (hn : n ≤ 12)
    (hc : ∀ i, i < n → w.cell? ⟨b, off + i, none⟩ = some (.string (ss.getD i ByteArray.empty)))
    (hE : ∀ (args : Array Value) (w : World), (callFunc k args).run Tryd.prog w = .ok (.enter k args) w)
    (hat : ∀ t : ByteArray, Calls Tryd.prog k (#[.string t] ++ q) w fun e w' => e = .returned (.bool (g t)) ∧ w' = w) :
    Calls Tryd.prog 71 #[.slice (some ⟨b, off, none⟩) n ca, .func (.func k) #[] q] w fun e w' => ∃ r : Int, e = .returned (.int .i64 r) ∧ decide (0 ≤ r) = ss.any g ∧ w' = w := by
  have HAT := hide hat
  have HE := hide hE
  have HL := hide hl
  have HC := hide hc
  clear hat hE hl hc
  go_enter Tryd.func71, Tryd.ntmps71
  go_wp2
  go_loopw [8] (fun iv wr => ∃ i : Nat, i ≤ n ∧ iv = .int .i64 i ∧ wr = w ∧ Hid (∀ j, j < i → g (ss.getD j ByteArray.empty) = false)) (fun iv _ => n - (intOf iv).toNat)
  case atStart => exact ⟨0, by omega, rfl, rfl, hide (fun j hj => by omega)⟩
  case round =>
    obtain ⟨i, hi, rfl, hw, HN⟩ := hrel
    subst hw
    by_cases hlt : i < n
    · have hlt' : (i : Int) < n := by omega
      have ci := unhide HC i hlt
      have hE := unhide HE
      obtain ⟨t, et⟩ : ∃ t, t = ss.getD i ByteArray.empty := ⟨_, rfl⟩
      rw [← et] at ci
      have ET := hide et
      clear et
      cases hg : g t with
      | true =>
        go_wp2_with fail
        refine (unhide HAT t).mono ?_
        rintro e w' ⟨rfl, rfl⟩
        rw [hg]
        go_wp2
        go_ret
        refine ⟨_, rfl, ?_, rfl⟩
        rw [decide_eq_true (by omega)]
        refine (List.any_eq_true.2 ⟨t, ?_, hg⟩).symm
        rw [unhide ET, List.getD, List.getElem?_eq_getElem (by rw [unhide HL]; exact hlt)]
        exact List.getElem_mem _
      | false =>
        go_wp2_with fail
        refine (unhide HAT t).mono ?_
        rintro e w' ⟨rfl, rfl⟩
        rw [hg]
        go_wp2
        go_roundw
        case rel =>
          refine ⟨i + 1, by omega, by go_num, trivial, hide (fun j hj => ?_)⟩
          by_cases h : j < i
          · exact unhide HN j h
          · obtain rfl : j = i := by omega
            rw [← unhide ET]; exact hg
        case measure => simp [intOf]; omega
    · have hlt' : ¬ (i : Int) < n := by omega
      obtain rfl : i = n := by omega
      go_wp2
      go_ret
      refine ⟨_, rfl, ?_, rfl⟩
      symm
      rw [show decide ((0 : Int) ≤ -1) = false from rfl, List.any_eq_false]
      intro x hx
      obtain ⟨j, hj, rfl⟩ := List.getElem_of_mem hx
      have := unhide HN j (by rw [← unhide HL]; exact hj)
      rw [List.getD, List.getElem?_eq_getElem hj] at this
      simpa using this
set_option maxRecDepth 100000 in
theorem containsFunc_any (b off n ca k : Nat) (q : Array Value) (g : ByteArray → Bool) (ss : List ByteArray) (w : World) (hl : ss.length = n) (hn : n ≤ 12)
    (hc : ∀ i, i < n → w.cell? ⟨b, off + i, none⟩ = some (.string (ss.getD i ByteArray.empty)))
    (hE : ∀ (args : Array Value) (w : World), (callFunc k args).run Tryd.prog w = .ok (.enter k args) w)
    (hat : ∀ t : ByteArray, Calls Tryd.prog k (#[.string t] ++ q) w fun e w' => e = .returned (.bool (g t)) ∧ w' = w) :
    Calls Tryd.prog 60 #[.slice (some ⟨b, off, none⟩) n ca, .func (.func k) #[] q] w fun e w' => e = .returned (.bool (ss.any g)) ∧ w' = w := by
  have H := hide (indexFunc_any b off n ca k q g ss w hl hn hc hE hat)
  clear hl hn hc hE hat
  go_enter Tryd.func60, Tryd.ntmps60
  go_wp2_with fail
  refine (unhide H).mono ?_
  rintro e w' ⟨r, rfl, hr, rfl⟩
  have HR := hide hr
  clear hr
  go_wp2
  go_ret
  refine ⟨?_, rfl⟩
  rw [← unhide HR]; rfl
end Go.Proofs.YtfeepmjkamdldaaDoor
/- Package encode: haveForm, Encode: the walks. -/
namespace Go.Proofs.YtfeepmjkamdldaaDoor
open Go.RowKit
set_option linter.unusedVariables false
set_option linter.unusedSimpArgs false
attribute [local go_sem ↓] Go.wp_at_zero Go.wp_at_succ
open Vec (alikeTo numsTo May)
theorem alike_of_any {ss : List ByteArray} {n : Nat} (hl : ss.length = n) (h0 : (ss.getD 0 ByteArray.empty).size ≤ 4096) : (!(ss.any fun t => ((t.size : Int) != ((ss.getD 0 ByteArray.empty).size : Int)))) = decide (alikeTo ss n) := by
  rw [Bool.eq_iff_iff]
  simp only [Bool.not_eq_true', List.any_eq_false, decide_eq_true_eq]
  constructor
  · intro h i hi
    have hx : ss.getD i ByteArray.empty ∈ ss := by rw [List.getD, List.getElem?_eq_getElem (by omega)]; exact List.getElem_mem _
    have := h _ hx
    simp at this
    exact ⟨by simp only [List.getD] at this ⊢; omega, by simp only [List.getD] at this h0 ⊢; omega⟩
  · intro h x hx
    obtain ⟨j, hj, rfl⟩ := List.getElem_of_mem hx
    have := (h j (by omega)).1
    rw [List.getD, List.getElem?_eq_getElem hj] at this
    simp only [Option.getD_some] at this
    simp [this]
set_option maxRecDepth 100000 in
set_option maxHeartbeats 2000000 in
theorem encForm_any (d p : Int) (a : Option Addr) (n ca : Nat) (ss : List ByteArray) (w : World) (hs : Strs w a n ca ss) (hn : n * 16 ≤ 140737488351232) (hm : Made w) :
    Calls Tryd.prog 42 #[.agg #[.int .i64 d, .int .i64 p], .slice a n ca] w fun e w' => e = .returned (.bool (decide (EncMay d p ss))) ∧ Below w.heap.size w w' := by
  have HS := hide hs
  have hl : ss.length = n := hs.1
  have HL := hide hl
  have MD := hide hm
  by_cases h1 : ShpMay d p
  · have H1 := hide h1
    by_cases h2 : (n : Int) = d
    · have h1' := h1
      unfold ShpMay at h1'
      have hn1 : 1 ≤ n := by omega
      have hn4 : n ≤ 4 := by omega
      have hn1' : (0 : Int) < n := by omega
      have t2 : ((n : Int) != d) = false := by simp [h2]
      obtain ⟨b, off, rfl, hc⟩ : ∃ b off, a = some ⟨b, off, none⟩ ∧ ∀ i, i < n → w.cell? ⟨b, off + i, none⟩ = some (.string (ss.getD i ByteArray.empty)) := by
        rcases hs.2.two with h | h
        · omega
        · exact h
      have HC := hide hc
      obtain ⟨s0, es0⟩ : ∃ s0, s0 = ss.getD 0 ByteArray.empty := ⟨_, rfl⟩
      have E0 := hide es0
      by_cases h3 : s0.size ≤ 4096
      · have h3' : ¬ ((4096 : Int) < (s0.size : Int)) := by omega
        have hdec : decide (EncMay d p ss) = decide (alikeTo ss n) := by
          rw [decide_eq_decide]
          unfold EncMay
          rw [hl]
          exact ⟨fun h => h.2.2, fun h => ⟨h1, h2, h⟩⟩
        have EV := hide (hdec.trans (alike_of_any hl (by rw [← es0]; exact h3)).symm)
        clear h1 h1' h2 hs hl hm hc es0 hdec
        go_enter Tryd.func42, Tryd.ntmps42
        go_wp2_with fail
        have B0 := hide (two_old w (.cells #[.int .i64 d, .int .i64 p] 23) (.cells #[.slice (some ⟨b, off, none⟩) n ca] 47))
        have B1 := hide (two_new w (.cells #[.int .i64 d, .int .i64 p] 23) (.cells #[.slice (some ⟨b, off, none⟩) n ca] 47))
        have HB := hide (below_two w (.cells #[.int .i64 d, .int .i64 p] 23) (.cells #[.slice (some ⟨b, off, none⟩) n ca] 47))
        generalize ((w.alloc (.cells #[.int .i64 d, .int .i64 p] 23)).alloc (.cells #[.slice (some ⟨b, off, none⟩) n ca] 47)) = W at *
        refine (genMay_yes d p W (unhide H1) ((unhide MD).up (unhide HB))).mono ?_
        rintro e w1 ⟨rfl, b1⟩
        replace B0 := hide ((b1.block _ (lt_of_block (unhide B0))).trans (unhide B0))
        replace B1 := hide ((b1.block _ (lt_of_block (unhide B1))).trans (unhide B1))
        replace HB := hide (bt (unhide HB) b1)
        clear b1
        obtain ⟨c0, c0'⟩ := box_two (unhide B0)
        have c1 := cell_of_one (unhide B1)
        have cc := ((unhide HB).cell (cell_lt (unhide HC 0 hn1))).trans (unhide HC 0 hn1)
        rw [← unhide E0, Nat.add_zero] at cc
        go_wp2_with fail
        refine (containsFunc_any b off n ca 61 #[.pointer (some ⟨w.heap.size + 1, 0, none⟩)] (fun t => ((t.size : Int) != (s0.size : Int))) ss w1 (unhide HL) (by omega) (fun i hi => ((unhide HB).cell (cell_lt (unhide HC i hi))).trans (unhide HC i hi)) (enters_it Tryd.func61 (by kernel_rfl) rfl) (fun t => by simpa using encLit_any t s0 (w.heap.size + 1) b off n ca w1 c1 hn1 cc)).mono ?_
        rintro e w2 ⟨rfl, rfl⟩
        obtain ⟨B, eB⟩ : ∃ B, B = ss.any fun t => ((t.size : Int) != (s0.size : Int)) := ⟨_, rfl⟩
        rw [← eB]
        have EB := hide eB
        clear eB
        go_wp2
        go_ret
        refine ⟨?_, unhide HB⟩
        rw [unhide EV, ← unhide E0, ← unhide EB]
        first | done | rfl
      · have h3' : (4096 : Int) < (s0.size : Int) := by omega
        have hdec : decide (EncMay d p ss) = false := decide_eq_false (fun h => h3 (by rw [es0]; exact (h.2.2 0 (by omega)).2))
        rw [hdec]
        clear h1 h1' h2 hs hl hm hc es0 hdec
        go_enter Tryd.func42, Tryd.ntmps42
        go_wp2_with fail
        have B0 := hide (two_old w (.cells #[.int .i64 d, .int .i64 p] 23) (.cells #[.slice (some ⟨b, off, none⟩) n ca] 47))
        have B1 := hide (two_new w (.cells #[.int .i64 d, .int .i64 p] 23) (.cells #[.slice (some ⟨b, off, none⟩) n ca] 47))
        have HB := hide (below_two w (.cells #[.int .i64 d, .int .i64 p] 23) (.cells #[.slice (some ⟨b, off, none⟩) n ca] 47))
        generalize ((w.alloc (.cells #[.int .i64 d, .int .i64 p] 23)).alloc (.cells #[.slice (some ⟨b, off, none⟩) n ca] 47)) = W at *
        refine (genMay_yes d p W (unhide H1) ((unhide MD).up (unhide HB))).mono ?_
        rintro e w1 ⟨rfl, b1⟩
        replace B0 := hide ((b1.block _ (lt_of_block (unhide B0))).trans (unhide B0))
        replace B1 := hide ((b1.block _ (lt_of_block (unhide B1))).trans (unhide B1))
        replace HB := hide (bt (unhide HB) b1)
        clear b1
        obtain ⟨c0, c0'⟩ := box_two (unhide B0)
        have c1 := cell_of_one (unhide B1)
        have cc := ((unhide HB).cell (cell_lt (unhide HC 0 hn1))).trans (unhide HC 0 hn1)
        rw [← unhide E0, Nat.add_zero] at cc
        go_wp2
        go_ret
        exact ⟨rfl, unhide HB⟩
    · have t2 : ((n : Int) != d) = true := by simp; omega
      rw [decide_eq_false (show ¬ EncMay d p ss from fun h => h2 (by rw [← h.2.1, hl]))]
      clear h1 h2 hs hl hm
      go_enter Tryd.func42, Tryd.ntmps42
      go_wp2_with fail
      have B0 := hide (two_old w (.cells #[.int .i64 d, .int .i64 p] 23) (.cells #[.slice a n ca] 47))
      have B1 := hide (two_new w (.cells #[.int .i64 d, .int .i64 p] 23) (.cells #[.slice a n ca] 47))
      have HB := hide (below_two w (.cells #[.int .i64 d, .int .i64 p] 23) (.cells #[.slice a n ca] 47))
      generalize ((w.alloc (.cells #[.int .i64 d, .int .i64 p] 23)).alloc (.cells #[.slice a n ca] 47)) = W at *
      refine (genMay_yes d p W (unhide H1) ((unhide MD).up (unhide HB))).mono ?_
      rintro e w1 ⟨rfl, b1⟩
      replace B0 := hide ((b1.block _ (lt_of_block (unhide B0))).trans (unhide B0))
      replace B1 := hide ((b1.block _ (lt_of_block (unhide B1))).trans (unhide B1))
      replace HB := hide (bt (unhide HB) b1)
      clear b1
      obtain ⟨c0, c0'⟩ := box_two (unhide B0)
      have c1 := cell_of_one (unhide B1)
      go_wp2
      go_ret
      exact ⟨rfl, unhide HB⟩
  · have H1 := hide h1
    rw [decide_eq_false (show ¬ EncMay d p ss from fun h => h1 h.1)]
    clear h1 hs hl hm
    go_enter Tryd.func42, Tryd.ntmps42
    go_wp2_with fail
    have HB := hide (below_two w (.cells #[.int .i64 d, .int .i64 p] 23) (.cells #[.slice a n ca] 47))
    generalize ((w.alloc (.cells #[.int .i64 d, .int .i64 p] 23)).alloc (.cells #[.slice a n ca] 47)) = W at *
    refine (genMay_no d p W (unhide H1)).mono ?_
    rintro e w1 ⟨rfl, b1⟩
    replace HB := hide (bt (unhide HB) b1)
    clear b1
    go_wp2
    go_ret
    exact ⟨rfl, unhide HB⟩
end Go.Proofs.YtfeepmjkamdldaaDoor
/- Package encode: Encode: the walk. -/
namespace Go.Proofs.YtfeepmjkamdldaaDoor
open Go.RowKit
set_option linter.unusedVariables false
set_option linter.unusedSimpArgs false
attribute [local go_sem ↓] Go.wp_at_zero Go.wp_at_succ
open Vec (alikeTo numsTo May)
/-- the texts of parity, the first k of them made -/
def encAt (d p : Nat) (ss : List ByteArray) (k : Nat) : List ByteArray := encTo d p ss k ++ List.replicate (p - k) ByteArray.empty
theorem encAt_len (d p : Nat) (ss : List ByteArray) (k : Nat) (h : k ≤ p) : (encAt d p ss k).length = p := by simp [encAt, encTo_len]; omega
theorem encAt_start (d p : Nat) (ss : List ByteArray) : encAt d p ss 0 = List.replicate p ByteArray.empty := by simp [encAt, encTo]
theorem encAt_end (d p : Nat) (ss : List ByteArray) : encAt d p ss p = encTo d p ss p := by simp [encAt]
theorem encAt_set (d p : Nat) (ss : List ByteArray) (k : Nat) (h : k < p) : (encAt d p ss k).set k (Vec.out ((genM d p).getD (d + k) []) ss) = encAt d p ss (k + 1) := by
  unfold encAt
  rw [encTo_snoc, List.set_append_right _ _ (by rw [encTo_len]; exact Nat.le_refl _), encTo_len, Nat.sub_self]
  obtain ⟨m, hm⟩ : ∃ m, p - k = m + 1 := ⟨p - k - 1, by omega⟩
  rw [hm, show p - (k + 1) = m by omega, List.replicate_succ, List.set_cons_zero]
  simp
theorem own_madeT (w : World) (B n : Nat) (E : TypeId) (h : B ≤ w.heap.size) (hn : n ≤ maxLen) : OwnL (w.alloc (.cells (madeCells #[.string ByteArray.empty] n) E)) B E (.slice (some ⟨w.heap.size, 0, none⟩) n n) ((List.replicate n ByteArray.empty).map Value.string) := by
  have := World.ownsRow_lit (e := E) (size := 1) w (madeCells #[.string ByteArray.empty] n) n h hn (by rw [size_madeCells]; omega)
  rw [toList_madeCells_one] at this
  unfold OwnL
  simpa using this
theorem own_madeT_at (w : World) (B n : Nat) (E : TypeId) (H : Nat) (hH : w.heap.size = H) (h : B ≤ w.heap.size) (hn : n ≤ maxLen) : OwnL (w.alloc (.cells (madeCells #[.string ByteArray.empty] n) E)) B E (.slice (some ⟨H, 0, none⟩) n n) ((List.replicate n ByteArray.empty).map Value.string) := by subst hH; exact own_madeT w B n E h hn
theorem own_cellT {w : World} {B E g n cap : Nat} {xs : List ByteArray} (h : OwnL w B E (.slice (some ⟨g, 0, none⟩) n cap) (xs.map Value.string)) (k : Nat) (hk : k < xs.length) : w.cell? ⟨g, k, none⟩ = some (.string (xs.getD k ByteArray.empty)) := by
  obtain ⟨g1, cap1, e, hb, _, _, hc⟩ := own_form (n := (xs.map Value.string).length) h (by simp; omega)
  simp only [Value.slice.injEq, Option.some.injEq, Addr.mk.injEq, and_true, true_and] at e
  obtain ⟨rfl, _⟩ := e
  exact hc k _ (by simp [List.getElem?_eq_getElem hk])
set_option maxRecDepth 100000 in
set_option maxHeartbeats 1000000 in
theorem encEncode_no (d p : Int) (a : Option Addr) (n ca : Nat) (ss : List ByteArray) (w : World) (hs : Strs w a n ca ss) (hn : n * 16 ≤ 140737488351232) (hm : Made w) (h : ¬ EncMay d p ss) :
    Calls Tryd.prog 20 #[.agg #[.int .i64 d, .int .i64 p], .slice a n ca] w fun e w' => e = .returned (.tuple #[.slice none 0 0, .int .i64 600]) ∧ Below w.heap.size w w' := by
  have HS := hide hs
  have MD := hide hm
  have HD := hide (decide_eq_false h)
  clear hs hm h
  go_enter Tryd.func20, Tryd.ntmps20
  go_wp2_with fail
  have HB := hide (below_alloc w (.cells #[.int .i64 d, .int .i64 p] 23))
  generalize (w.alloc (.cells #[.int .i64 d, .int .i64 p] 23)) = W at *
  refine (encForm_any d p a n ca ss W ((unhide HS).below (unhide HB)) hn ((unhide MD).up (unhide HB))).mono ?_
  rintro e w1 ⟨he, b1⟩
  rw [unhide HD] at he
  subst he
  replace HB := hide (bt (unhide HB) b1)
  clear b1
  go_wp2
  go_ret2
  exact ⟨rfl, unhide HB⟩
set_option maxRecDepth 100000 in
set_option maxHeartbeats 4000000 in
theorem encEncode_yes (d p : Nat) (a : Option Addr) (ca : Nat) (ss : List ByteArray) (w : World) (hs : Strs w a d ca ss) (h1 : 1 ≤ d) (h2 : d ≤ 4) (h3 : p ≤ 2) (ha : alikeTo ss ss.length) (hm : Made w) :
    Calls Tryd.prog 20 #[.agg #[.int .i64 d, .int .i64 p], .slice a d ca] w fun e w' => ∃ v, e = .returned (.tuple #[v, .int .i64 0]) ∧ OwnL w' w.heap.size 9 v ((encTo d p ss p).map Value.string) ∧ Below w.heap.size w w' := by
  have HS := hide hs
  have hl : ss.length = d := hs.1
  have HL := hide hl
  have HA := hide ha
  have MD := hide hm
  have HD := hide (decide_eq_true (show EncMay d p ss from ⟨by unfold ShpMay; omega, by rw [hl], ha⟩))
  have hmk := fun w => run_make_row' (P := Tryd.prog) 47 9 (.string ByteArray.empty) 16 Tryd.underlying47 Tryd.infoText rfl .i64 .i64 p (by omega) (by omega) w
  clear hs hl ha hm
  go_enter Tryd.func20, Tryd.ntmps20
  go_wp2_with fail
  have BS := hide (heap_alloc_new w (.cells #[.int .i64 d, .int .i64 p] 23))
  have HB := hide (below_alloc w (.cells #[.int .i64 d, .int .i64 p] 23))
  generalize (w.alloc (.cells #[.int .i64 d, .int .i64 p] 23)) = W at *
  refine (encForm_any d p a d ca ss W ((unhide HS).below (unhide HB)) (by omega) ((unhide MD).up (unhide HB))).mono ?_
  rintro e w1 ⟨he, b1⟩
  rw [unhide HD] at he
  subst he
  replace BS := hide ((b1.block _ (lt_of_block (unhide BS))).trans (unhide BS))
  replace HB := hide (bt (unhide HB) b1)
  clear b1 HD
  obtain ⟨c0, c1⟩ := box_two (unhide BS)
  go_wp2_with fail
  refine (genMatrix_yes d p w1 h1 h2 h3 ((unhide MD).up (unhide HB))).mono ?_
  rintro e w3 ⟨u3, rfl, O3, b3⟩
  obtain ⟨p3, n3, c3, rfl, e3⟩ := O3.form
  have hm3 := genM_may d (by omega) p (by omega) h1
  rw [hm3.2.1] at e3
  have hV := O3.matV (rows_le hm3.1)
  replace BS := hide ((b3.block _ (lt_of_block (unhide BS))).trans (unhide BS))
  replace HB := hide (bt (unhide HB) b3)
  have M3 := hide hV
  have E3 := hide e3
  clear O3 b3 e3 hV hm3 c0 c1
  obtain ⟨c0, c1⟩ := box_two (unhide BS)
  have d0 := fun o => ((below_alloc w3 o).cell (cell_lt c0)).trans c0
  have d1 := fun o => ((below_alloc w3 o).cell (cell_lt c1)).trans c1
  have BA := hide (heap_alloc_new w3 (.cells #[.slice p3 n3 c3] 26))
  have hx := below_alloc w3 (.cells #[.slice p3 n3 c3] 26)
  go_wp2_with fail
  have hsW : (w3.alloc (.cells #[.slice p3 n3 c3] 26)).heap.size = w3.heap.size + 1 := by simp
  have HSW := hide hsW
  clear hsW
  generalize (w3.alloc (.cells #[.slice p3 n3 c3] 26)) = W3 at *
  replace BS := hide ((hx.block _ (lt_of_block (unhide BS))).trans (unhide BS))
  replace M3 := hide ((unhide M3).below hx)
  replace HB := hide (bt (unhide HB) hx)
  clear hx c0 c1 d0 d1
  obtain ⟨b3, o3, rfl, hrows⟩ : ∃ b o, p3 = some ⟨b, o, none⟩ ∧ ∀ i, i < n3 → ∃ u, W3.cell? ⟨b, o + i, none⟩ = some u ∧ RowV W3 u ((genM d p).getD i []) := by
    obtain ⟨a', n', c', e, R⟩ := unhide M3
    simp only [Value.agg.injEq, Array.mk.injEq, List.cons.injEq, Value.slice.injEq, and_true] at e
    obtain ⟨rfl, rfl, rfl⟩ := e
    rcases R.two with h0 | h
    · have := unhide E3; omega
    · exact h
  have HR := hide hrows
  have hn3 : n3 ≤ 6 := by have := unhide E3; omega
  clear hrows
  have HO := hide (own_madeT_at W3 W3.heap.size p 9 (w3.heap.size + 1) (unhide HSW) (Nat.le_refl _) (by unfold maxLen; omega))
  have HW := hide (below_alloc W3 (.cells (madeCells #[.string ByteArray.empty] p) 9))
  have hgl : W3.heap.size < (W3.alloc (.cells (madeCells #[.string ByteArray.empty] p) 9)).heap.size := by simp
  generalize (W3.alloc (.cells (madeCells #[.string ByteArray.empty] p) 9)) = W4 at *
  rw [← encAt_start d p ss] at HO
  go_loopw [24] (fun iv wr => ∃ k : Nat, k ≤ p ∧ iv = .int .i64 k ∧ Hid (OwnL wr W3.heap.size 9 (.slice (some ⟨w3.heap.size + 1, 0, none⟩) p p) ((encAt d p ss k).map Value.string)) ∧ Hid (Below W3.heap.size W3 wr)) (fun iv _ => p - (intOf iv).toNat)
  case atStart => exact ⟨0, by omega, rfl, HO, HW⟩
  case round =>
    clear HO HW
    obtain ⟨k, hk, rfl, HO, HW⟩ := hrel
    have bS := ((unhide HW).block _ (lt_of_block (unhide BS))).trans (unhide BS)
    have bA := ((unhide HW).block _ (lt_of_block (unhide BA))).trans (unhide BA)
    obtain ⟨c0, c1⟩ := box_two bS
    have cA := cell_of_one bA
    clear bS bA
    by_cases hlt : k < p
    · have hlt' : (k : Int) < (p : Int) := by omega
      obtain ⟨r, er⟩ : ∃ r : Nat, r = d + k := ⟨_, rfl⟩
      have er' : (d : Int) + (k : Int) = (r : Int) := by omega
      have hr3 : r < n3 := by have := unhide E3; omega
      have hr3' : (r : Int) < n3 := by omega
      obtain ⟨u, hu, x, nx, cx, rfl, hnx, hx⟩ := unhide HR r hr3
      have cu := ((unhide HW).cell (cell_lt hu)).trans hu
      have HX := hide (hx.below (unhide HW))
      have hxl : nx = d := by rw [← hx.1]; exact (gen_row h1 h2 h3 (by omega)).1
      have HXL := hide hxl
      have Er := hide er
      clear hu hx hxl er
      unfold maxLen at hnx
      go_wp2_with fail
      refine (vecCombine_any _ _ _ _ _ _ _ ss wr (unhide HX) ((unhide HS).below (bt (unhide HB) (unhide HW))) (by have := unhide HXL; omega)).mono ?_
      rintro e w5 ⟨r5, hr5, rfl, b5⟩
      obtain rfl := gen_comb h1 h2 h3 (by have := unhide Er; omega) (unhide HL) (unhide HA) hr5
      have hO := (unhide HO).below b5
      have hW5 := (unhide HW).trans (b5.mono (unhide HW).size)
      obtain ⟨t, et⟩ : ∃ t, t = Vec.out ((genM d p).getD r []) ss := ⟨_, rfl⟩
      have hN := own_put hO k (.string t)
      have cP := own_cellT hO k (by rw [encAt_len _ _ _ _ hk]; exact hlt)
      obtain ⟨y, ey⟩ : ∃ y, y = (encAt d p ss k).getD k ByteArray.empty := ⟨_, rfl⟩
      rw [← ey] at cP
      have fP := own_free hO k
      rw [← et]
      have HN : Hid (OwnL (w5.setCell ⟨w3.heap.size + 1, k, none⟩ (.string t)) W3.heap.size 9 (.slice (some ⟨w3.heap.size + 1, 0, none⟩) p p) ((encAt d p ss (k + 1)).map Value.string)) := by
        rw [← encAt_set d p ss k hlt, List.map_set, ← unhide Er, ← et]
        exact hide hN
      have HW6 := hide (hW5.setCell (p := ⟨w3.heap.size + 1, k, none⟩) (by show W3.heap.size ≤ w3.heap.size + 1; exact Nat.le_of_eq (unhide HSW)) (.string t))
      clear hr5 b5 cA cu c0 c1 hO hN et ey hW5 HO HW
      go_wp2
      go_roundw
      case rel => exact ⟨k + 1, by omega, by go_num, HN, HW6⟩
      case measure => simp [intOf]; omega
    · have hlt' : ¬ (k : Int) < (p : Int) := by omega
      obtain rfl : k = p := by omega
      have hB := hide (bt (unhide HB) (unhide HW))
      have hs3 := (unhide HB).size
      go_wp2
      go_ret2
      have hO := unhide HO
      rw [encAt_end] at hO
      exact ⟨_, rfl, hO.mono hs3, unhide hB⟩
theorem encEncode_fun (d p : Int) (a : Option Addr) (n ca : Nat) (ss : List ByteArray) (w : World) (hs : Strs w a n ca ss) (hn : n * 16 ≤ 140737488351232) (hm : Made w) : Calls Tryd.prog 20 #[.agg #[.int .i64 d, .int .i64 p], .slice a n ca] w fun e w' =>
    ∃ v, e = .returned (.tuple #[v, .int .i64 (encF d p ss).2]) ∧ OwnL w' w.heap.size 9 v ((encF d p ss).1.map Value.string) ∧ Below w.heap.size w w' := by
  by_cases h : EncMay d p ss
  · obtain ⟨h1, h2, h3⟩ := h
    have h' := h1
    unfold ShpMay at h'
    have hl := hs.1
    obtain ⟨m, rfl⟩ : ∃ m : Nat, p = m := ⟨p.toNat, by omega⟩
    obtain rfl : d = (n : Int) := by rw [← h2, hl]
    refine (encEncode_yes n m a ca ss w hs (by omega) (by omega) (by omega) h3 hm).mono ?_
    rintro e w' ⟨v, rfl, ho, hb⟩
    simp only [encF, if_pos (show EncMay (n : Int) (m : Int) ss from ⟨h1, h2, h3⟩), Int.toNat_natCast]
    exact ⟨v, rfl, ho, hb⟩
  · refine (encEncode_no d p a n ca ss w hs hn hm h).mono ?_
    rintro e w' ⟨rfl, hb⟩
    simp only [encF, if_neg h]
    exact ⟨_, rfl, OwnL.nil _ _ _, hb⟩
end Go.Proofs.YtfeepmjkamdldaaDoor
/- 'awake' of the statements over package encode returns true. -/
namespace Go.Proofs.YtfeepmjkamdldaaDoor
open Go.RowKit
set_option linter.unusedVariables false
set_option linter.unusedSimpArgs false
theorem sts_lit (w : World) (ss : List ByteArray) (T : TypeId) (C : Array Value) (n : Nat) (hC : C = (ss.map Value.string).toArray) (hl : ss.length = n) : Strs (w.alloc (.cells C T)) (some ⟨w.heap.size, 0, none⟩) n n ss := by
  subst hC hl
  refine ⟨rfl, ?_⟩
  by_cases h : ss.length = 0
  · exact .inr (.inl ⟨h, _, rfl⟩)
  · refine .inr (.inr ⟨by omega, Nat.le_refl _, _, _, rfl, fun i hi => ?_⟩)
    rw [Nat.zero_add, cell_of_row _ _ i _ T (0, 0) (heap_alloc_new w _)]
    simp [List.getElem?_eq_getElem hi]
theorem enc_a : encF 2 1 [⟨#[97]⟩, ⟨#[98]⟩] = ([⟨#[103]⟩], 0) := by decide +kernel
theorem enc_b : encF 2 1 [⟨#[97]⟩] = ([], 600) := by decide +kernel
theorem enc_c : encF 2 1 [⟨#[97]⟩, ⟨#[98, 99]⟩] = ([], 600) := by decide +kernel
theorem enc_d : encF 1 0 [⟨#[]⟩] = ([], 0) := by decide +kernel
set_option maxRecDepth 100000 in
set_option maxHeartbeats 1000000 in
theorem awake6_any (w : World) (hm : Made w) : Calls Tryd.prog 24 #[] w fun e w' => e = .returned (.bool true) ∧ Below w.heap.size w w' := by
  have MD := hide hm
  clear hm
  go_enter Tryd.func24, Tryd.ntmps24
  go_wp2_with fail
  refine (encEncode_fun 2 1 _ _ _ [⟨#[97]⟩, ⟨#[98]⟩] _ (sts_lit w [⟨#[97]⟩, ⟨#[98]⟩] 9 _ 2 rfl rfl) (by decide) ((unhide MD).up (below_alloc w _))).mono ?_
  rintro e w1 ⟨v1, he, O1, b1⟩
  rw [enc_a] at he O1
  subst he
  obtain ⟨p1, c1, rfl, S1⟩ := O1.strs
  have HB := hide (bt (below_alloc w _) b1)
  have T1 := hide S1
  clear O1 b1 S1
  go_wp2_with fail
  refine (encEncode_fun 2 1 _ _ _ [⟨#[97]⟩] _ (sts_lit w1 [⟨#[97]⟩] 9 _ 1 rfl rfl) (by decide) ((unhide MD).up (bt (unhide HB) (below_alloc w1 _)))).mono ?_
  rintro e w2 ⟨v2, he, O2, b2⟩
  rw [enc_b] at he O2
  subst he
  obtain ⟨p2, c2, rfl, S2⟩ := O2.strs
  replace b2 := bt (below_alloc w1 _) b2
  replace T1 := hide ((unhide T1).below b2)
  replace HB := hide (bt (unhide HB) b2)
  clear O2 b2 S2
  go_wp2_with fail
  refine (encEncode_fun 2 1 _ _ _ [⟨#[97]⟩, ⟨#[98, 99]⟩] _ (sts_lit w2 [⟨#[97]⟩, ⟨#[98, 99]⟩] 9 _ 2 rfl rfl) (by decide) ((unhide MD).up (bt (unhide HB) (below_alloc w2 _)))).mono ?_
  rintro e w3 ⟨v3, he, O3, b3⟩
  rw [enc_c] at he O3
  subst he
  obtain ⟨p3, c3, rfl, S3⟩ := O3.strs
  replace b3 := bt (below_alloc w2 _) b3
  replace T1 := hide ((unhide T1).below b3)
  replace HB := hide (bt (unhide HB) b3)
  clear O3 b3 S3
  go_wp2_with fail
  refine (encEncode_fun 1 0 _ _ _ [⟨#[]⟩] _ (sts_lit w3 [⟨#[]⟩] 9 _ 1 rfl rfl) (by decide) ((unhide MD).up (bt (unhide HB) (below_alloc w3 _)))).mono ?_
  rintro e w4 ⟨v4, he, O4, b4⟩
  rw [enc_d] at he O4
  subst he
  obtain ⟨p4, c4, rfl, S4⟩ := O4.strs
  replace b4 := bt (below_alloc w3 _) b4
  replace T1 := hide ((unhide T1).below b4)
  replace HB := hide (bt (unhide HB) b4)
  clear O4 b4 S4
  go_wp2_with fail
  have hx := below_alloc w4 (.cells #[.string ⟨#[103]⟩] 9)
  refine (sameTexts_any _ _ _ _ _ _ [⟨#[103]⟩] [⟨#[103]⟩] _ ((unhide T1).below hx) (sts_lit w4 [⟨#[103]⟩] 9 _ 1 rfl rfl) (by decide)).mono ?_
  rintro e w5 ⟨he, hd⟩
  rw [decide_eq_true rfl] at he
  subst he
  replace HB := hide (bt (unhide HB) (bt hx (below_drews hd)))
  clear hx hd
  go_wp2_with (go_at_call 12; refine (num_any _ _).mono ?_; rintro e w' ⟨rfl, rfl⟩)
  go_ret
  exact ⟨rfl, unhide HB⟩
end Go.Proofs.YtfeepmjkamdldaaDoor
/- Encodes: every Encode answers as the document's own; the data stay. -/
namespace Go.Proofs.YtfeepmjkamdldaaDoor
open Go.RowKit
set_option linter.unusedVariables false
set_option linter.unusedSimpArgs false
theorem own_empty_at (w : World) (e : TypeId) (H : Nat) (h : w.heap.size = H) : (w.alloc (.cells #[] e)).ownsRow H e 1 (.slice (some ⟨H, 0, none⟩) 0 0) 0 [] := by subst h; exact own_empty w e
set_option maxRecDepth 100000 in
set_option maxHeartbeats 2000000 in
theorem Encodes_walk {w : World} (hm : Made w) (d p : Int) (a1 : Option Addr) (n1 c1 : Nat) (ss : List ByteArray) (h1 : Strs w a1 n1 c1 ss) (r1 : n1 * 16 ≤ 140737488351232) (q1 : ∀ x ∈ ss, x.size ≤ maxLen) :
    Calls Tryd.prog 8 #[.agg #[.int .i64 d, .int .i64 p], .slice a1 n1 c1] w fun e w' => e = .returned (.bool true) ∧ Below w.heap.size w w' := by
  have MD := hide hm
  clear hm
  have SD := hide h1
  clear h1 q1
  have hx := below_alloc w (.cells #[.int .i64 d, .int .i64 p] 23)
  have SE := hide (((unhide SD).below hx).below (below_alloc (w.alloc (.cells #[.int .i64 d, .int .i64 p] 23)) (.cells #[] 9)))
  have OE := hide (own_empty_at (w.alloc (.cells #[.int .i64 d, .int .i64 p] 23)) 9 (w.heap.size + 1) (by simp))
  have B0 := hide (heap_alloc_new w (.cells #[.int .i64 d, .int .i64 p] 23))
  have hb2 : Below w.heap.size w ((w.alloc (.cells #[.int .i64 d, .int .i64 p] 23)).alloc (.cells #[] 9)) := below_two _ _ _
  have B1 := hide (two_old w (.cells #[.int .i64 d, .int .i64 p] 23) (.cells #[] 9))
  have HB0 := hide hb2
  clear hb2 hx
  go_enter Tryd.func8, Tryd.ntmps8
  go_wp2_with (at_builtin; refine wpList_append_row _ (by rfl) _ _ 47 (by rfl) (w.heap.size + 1) 9 (.string ByteArray.empty) 16 Tryd.underlying47 Tryd.infoText rfl _ _ _ (by rfl) (unhide OE) a1 n1 c1 _ (ss.map Value.string) (by rfl) (unhide SE).2 (by simpa using (unhide SE).1) (str_at (unhide SE).1) (strs_oneCell _) (by unfold maxLen; omega) (by omega) (by simp; try omega) ?_; intro v' w2 hown2 hgrow2; simp only [Nat.zero_add, List.nil_append] at hown2; have hblk : w2.heap[w.heap.size]? = some (.cells #[.int .i64 d, .int .i64 p] 23 (0, 0)) := (hgrow2.block _ (by simp; try omega) (by simp [Value.ownBlock])).trans (unhide B1); have hbel : Below w.heap.size w w2 := (unhide HB0).grown hgrow2 (by simp; try omega) (by intro k hk; simp [Value.ownBlock] at hk; omega); have hszw : w.heap.size + 1 ≤ w2.heap.size := lt_of_block hblk; obtain ⟨a2, c2, hv, hS2⟩ := own_strs hown2 (unhide SE).1; subst hv; have HS2 := hide hS2; have BS := hide hblk; have HB := hide hbel; have cs0 := (box_two hblk).1; have cs1 := (box_two hblk).2; clear hS2 hown2 hgrow2 hblk hbel)
  clear SE OE B0 B1 HB0
  replace SD := hide ((unhide SD).below (unhide HB))
  have HB2 := HB
  have SD2 := SD
  have SX2 := HS2
  refine (encEncode_fun d p _ _ _ ss w2 (unhide HS2) r1 ((unhide MD).up (unhide HB))).mono ?_
  rintro e w3 ⟨v3, rfl, O3, b3⟩
  have hl3 := encF_len d p ss
  obtain ⟨p3, c3, rfl, S3⟩ := O3.strs
  have K2 := hide b3
  replace BS := hide ((b3.block _ (lt_of_block (unhide BS))).trans (unhide BS))
  replace SD := hide ((unhide SD).below b3)
  replace HS2 := hide ((unhide HS2).below b3)
  have T3 := hide S3
  have HO3 := hide O3
  clear O3 b3 S3 cs0 cs1
  obtain ⟨cs0, cs1⟩ := box_two (unhide BS)
  go_wp2_with fail
  refine (refEncode_fun d p _ _ _ ss w3 (unhide SD) r1).mono ?_
  rintro e w4 ⟨v4, rfl, O4, b4⟩
  obtain ⟨p4, c4, rfl, S4⟩ := O4.strs
  replace SD := hide ((unhide SD).below b4)
  replace HS2 := hide ((unhide HS2).below b4)
  replace T3 := hide ((unhide T3).below b4)
  have K3 := hide b4
  replace K2 := hide (bt (unhide K2) b4)
  have T4 := hide S4
  clear O4 b4 S4 cs0 cs1 BS
  go_wp2_with fail
  refine (sameTexts_any _ _ _ _ _ _ (encF d p ss).1 (encF d p ss).1 w4 (unhide T3) (unhide T4) (by unfold maxLen; omega)).mono ?_
  rintro e w5 ⟨he, hd⟩
  rw [decide_eq_true rfl] at he
  subst he
  have b5 := below_drews (B := w4.heap.size) hd
  replace K2 := hide (bt (unhide K2) b5)
  replace K3 := hide (bt (unhide K3) b5)
  clear hd b5
  go_wp2_with (go_at_call 12; refine (num_any _ _).mono ?_; rintro e w' ⟨rfl, rfl⟩)
  have O5 := (unhide HO3).keep (w' := w') (fun g hg => (unhide K3).block g ((unhide HO3).lt hg).2)
  refine (spoilTexts_any w2.heap.size 9 _ _ w' O5 (by unfold maxLen; omega) (encF_size d p ss)).mono ?_
  rintro e w6 ⟨rfl, _, b6⟩
  have hall : Below w2.heap.size w2 w6 := (unhide K2).trans b6
  replace SD2 := hide ((unhide SD2).below hall)
  replace SX2 := hide ((unhide SX2).below hall)
  replace HB2 := hide (bt (unhide HB2) hall)
  clear hall b6 O5 K2 K3 HO3 T3 T4
  go_wp2_with fail
  refine (sameTexts_any _ _ _ _ _ _ ss ss w6 (unhide SX2) (unhide SD2) (by unfold maxLen; omega)).mono ?_
  rintro e w7 ⟨he, hd⟩
  rw [decide_eq_true rfl] at he
  subst he
  replace HB2 := hide (bt (unhide HB2) (below_drews hd))
  clear hd
  go_wp2_with fail
  refine (awake6_any _ ((unhide MD).up (unhide HB2))).mono ?_
  rintro e w8 ⟨rfl, b8⟩
  replace HB2 := hide (bt (unhide HB2) b8)
  clear b8
  go_wp2
  go_ret
  exact ⟨rfl, unhide HB2⟩
end Go.Proofs.YtfeepmjkamdldaaDoor
/- Plain facts on slices that came in. -/
namespace Go.Proofs.YtfeepmjkamdldaaDoor
open Go.RowKit
set_option linter.unusedVariables false
/-- a slice of bytes reads xs -/
def Bytes (w : World) (a : Option Addr) (n cap : Nat) (xs : List Int) : Prop := xs.length = n ∧ IsRow w a n cap (fun i => .int .u8 (xs.getD i 0))
theorem row_le {w : World} {a : Option Addr} {n cap : Nat} {f : Nat → Value} (h : IsRow w a n cap f) : n ≤ cap := by
  rcases h with h | h | h <;> omega
theorem getD_take {α : Type} {zs : List α} {n i : Nat} (d : α) (h : i < n) : (zs.take n).getD i d = zs.getD i d := by
  simp [List.getD, h]
theorem row_of_add {w : World} {x : Addr} {n cap : Nat} {f : Nat → Value} (hl : n ≤ cap) (hc : ∀ i, i < n → w.cell? (x.add i) = some (f i)) : IsRow w (some x) n cap f := by
  by_cases h0 : n = 0
  · exact .inr (.inl ⟨h0, x, rfl⟩)
  · obtain ⟨b, off, spot⟩ := x
    have h := hc 0 (by omega)
    have hs : spot = none := by simpa [Addr.add] using World.cell?_spot h
    subst hs
    refine .inr (.inr ⟨by omega, hl, b, off, rfl, fun i hi => ?_⟩)
    have := hc i hi
    have e : (⟨b, off, none⟩ : Addr).add i = ⟨b, off + i, none⟩ := by unfold Addr.add; split <;> simp_all
    rw [e] at this; exact this
end Go.Proofs.YtfeepmjkamdldaaDoor
/- What the statements' condition gives the walks: the twelve cells of package gen's variable. -/
namespace Go.Proofs.YtfeepmjkamdldaaDoor
open Go.ChangeShapes Go.WideShapes Go.ChangeAt Go.RowKit
set_option linter.unusedVariables false
abbrev laid1 : List (String × DataW Unit) := [("ossuary/gen.made", Rows.laid_ossuary_gen_made)]
theorem gMade : Tryd.prog.globalNamed "ossuary/gen.made" = some 0 := by kernel_rfl
theorem tMade : (Tryd.prog.globals[0]?).map (·.type) = some 64 := by kernel_rfl
theorem door_met (os : Os) (args : Array Value) : laidMetH Tryd.prog laid1 ((World.doorLaid Tryd.prog 400 os).forCall (fun _ _ => 0) ⟨#[], args, []⟩).memory :=
  laidMetH_of_parts3 (fuel := 8) (laidMet_of_run' 8 (by kernel_rfl) (by kernel_rfl)) (by kernel_rfl) (by kernel_rfl)
theorem at_of_one {l : List Value} {j : Nat} {x : Value} (h : (l.drop j).take 1 = [x]) : l[j]? = some x := by
  have := congrArg (·[0]?) h
  simpa [List.getElem?_take, List.getElem?_drop] using this
theorem made_of_laid {W : World} (h : laidMetH Tryd.prog laid1 W) : Made W := by
  rw [MakeChecks.laidMetH_plain _ _ _ (by kernel_rfl)] at h
  obtain ⟨ps, ⟨g0, t0, cs0, f0, p0, q0, hg0, ht0, hv0, hd0, _, _⟩, _, _⟩ := h
  obtain rfl := Option.some.inj (gMade.symm.trans hg0)
  obtain rfl := Option.some.inj (tMade.symm.trans ht0)
  have cT : Tryd.prog.cellsOf 63 = 3 := by kernel_rfl
  have cB : Tryd.prog.cellsOf 4 = 1 := by kernel_rfl
  obtain ⟨xs, m1, rfl, hx, hlen, hn, hel⟩ := DataW.trod_array Tryd.underlying64 hd0
  simp only [Prod.mk.injEq] at hx
  obtain ⟨hx, _⟩ := hx
  have hrow : ∀ i, i < 4 → ∃ q, xs[i]? = some (.agg [.lit (.bool true), .lit (.bool true), .lit (.bool true)], q) := by
    intro i hi
    obtain ⟨x, ex⟩ : ∃ x, xs[i]? = some x := ⟨_, List.getElem?_eq_getElem (by omega)⟩
    have hx' : (xs.map (·.1))[i]? = some x.1 := by simp [ex]
    have e : xs.map (·.1) = [.agg [.lit (.bool true), .lit (.bool true), .lit (.bool true)], .agg [.lit (.bool true), .lit (.bool true), .lit (.bool true)], .agg [.lit (.bool true), .lit (.bool true), .lit (.bool true)], .agg [.lit (.bool true), .lit (.bool true), .lit (.bool true)]] := by
      have := hx.symm
      simp only [Rows.laid_ossuary_gen_made, DataW.agg.injEq] at this
      exact this
    rw [e] at hx'
    refine ⟨x.2, ?_⟩
    rw [ex]
    have h4 : i = 0 ∨ i = 1 ∨ i = 2 ∨ i = 3 := by omega
    rcases h4 with rfl | rfl | rfl | rfl <;> (simp at hx'; rw [hx'])
  have hcell : ∀ i, i < 4 → ∀ j, j < 3 → cs0.toList[i * 3 + j]? = some (.bool true) := by
    intro i hi j hj
    obtain ⟨q, hq⟩ := hrow i hi
    have h1 := hel i hi
    rw [hq, cT] at h1
    obtain ⟨ys, m2, rfl, hy, _, hny, hel2⟩ := DataW.trod_array Tryd.underlying63 h1
    simp only [Prod.mk.injEq, DataW.agg.injEq] at hy
    obtain ⟨hy, _⟩ := hy
    obtain ⟨y, ey⟩ : ∃ y, ys[j]? = some y := ⟨_, List.getElem?_eq_getElem (by omega)⟩
    have hy' : (ys.map (·.1))[j]? = some y.1 := by simp [ey]
    rw [← hy] at hy'
    have h2 := hel2 j hj
    rw [ey, cB] at h2
    obtain ⟨b, hb, eb⟩ := DataW.trod_bool Tryd.underlying4 h2
    have hb1 : b = true := by
      rw [eb] at hy'
      have h3 : j = 0 ∨ j = 1 ∨ j = 2 := by omega
      rcases h3 with rfl | rfl | rfl <;> (simp at hy'; exact hy')
    subst hb1
    rw [Nat.mul_one] at hb
    have := at_of_one hb
    rw [List.getElem?_take, if_pos hj, List.getElem?_drop] at this
    exact this
  intro k hk
  rw [World.var?_cell hg0 hv0 k, ← Array.getElem?_toList]
  have := hcell (k / 3) (by omega) (k % 3) (by omega)
  rwa [show k / 3 * 3 + k % 3 = k by omega] at this
end Go.Proofs.YtfeepmjkamdldaaDoor
/- Opening what came in: by the shape of its type. -/
namespace Go.Proofs.YtfeepmjkamdldaaDoor
open Go.RowKit Go.ChangeShapes Go.WideShapes
set_option linter.unusedVariables false
set_option linter.unusedSimpArgs false
section
variable {H : Type} {enc : TypeId × Value → H} {P : Program}
/-- whatever is read at type t, of which no part is too great, is as R says -/
def Opens (enc : TypeId × Value → H) (P : Program) (t : TypeId) (R : World → List Value → Prop) : Prop :=
  ∀ (w : World) (fuel : Nat) (cs : List Value) (x : DataW H × List MemPlace), DataW.trod enc P w 0 (fun _ => true) true fuel t cs = some x → (∀ n ∈ x.1.weights P t, n ≤ reachBytes) → R w cs
theorem Opens.mono {t : TypeId} {R R' : World → List Value → Prop} (h : Opens enc P t R) (h' : ∀ w cs, R w cs → R' w cs) : Opens enc P t R' := fun w fuel cs x hx hw => h' w cs (h w fuel cs x hx hw)
theorem opens_int {t : TypeId} {k : IntKind} (ht : P.underlying t = some (.int k)) : Opens enc P t (fun _ cs => ∃ z, cs = [.int k z] ∧ (Lit.int k z).wf = true) := by
  intro w fuel cs x h _
  cases fuel with
  | zero => simp [DataW.trod] at h
  | succ n =>
    unfold DataW.trod at h
    rw [ht] at h
    split at h <;> simp_all
theorem opens_bool {t : TypeId} (ht : P.underlying t = some .bool) : Opens enc P t (fun _ cs => ∃ b, cs = [.bool b]) := by
  intro w fuel cs x h _
  cases fuel with
  | zero => simp [DataW.trod] at h
  | succ n =>
    unfold DataW.trod at h
    rw [ht] at h
    split at h <;> simp_all
theorem opens_string {t : TypeId} (ht : P.underlying t = some .string) : Opens enc P t (fun _ cs => ∃ s : ByteArray, cs = [.string s] ∧ s.size ≤ reachBytes) := by
  intro w fuel cs x h hw
  cases fuel with
  | zero => simp [DataW.trod] at h
  | succ n =>
    unfold DataW.trod at h
    rw [ht] at h
    split at h <;> try simp_all
    rename_i s
    obtain ⟨h1, rfl⟩ := h
    have := hw s.size (by simp [DataW.weights])
    simpa using this
theorem weightsAll_mem {e : TypeId} : ∀ {l : List (DataW H)} {d : DataW H} {n : Nat}, d ∈ l → n ∈ d.weights P e → n ∈ DataW.weightsAll P e l
  | d0 :: l, d, n, hd, hn => by
    simp only [DataW.weightsAll, List.mem_append]
    rcases List.mem_cons.1 hd with rfl | hd
    · exact .inl hn
    · exact .inr (weightsAll_mem hd hn)
/-- a slice whose elements (each of c cells) are as R says -/
def SliceR (R : World → List Value → Prop) (c : Nat) (w : World) (a : Option Addr) (n cap : Nat) : Prop :=
  (a = none ∧ n = 0 ∧ cap = 0) ∨ ∃ x : Addr, a = some x ∧ n ≤ cap ∧ cap ≤ maxLen ∧ ∀ i, i < cap → ∃ cs, w.cells? 0 (x.add (i * c)) c = some cs ∧ R w cs
theorem opens_slice {t e : TypeId} {R : World → List Value → Prop} (ht : P.underlying t = some (.slice e)) (hR : Opens enc P e R) :
    Opens enc P t (fun w cs => ∃ a n cap, cs = [.slice a n cap] ∧ SliceR R (P.cellsOf e) w a n cap ∧ cap * P.bytesOf e ≤ reachBytes) := by
  intro w fuel cs x h hw
  rcases Go.Deep.open_slice ht h with ⟨rfl, _⟩ | ⟨a, len, cap, m, n, D, Pl, rfl, hb, hl, hm, hmm, rfl, hx⟩
  · exact ⟨none, 0, 0, rfl, .inl ⟨rfl, rfl, rfl⟩, by simp⟩
  · simp only [if_true] at hmm
    subst hmm
    simp only [DataW.weights, ht, List.length_map, List.length_range] at hw
    have h0 := hw _ (List.mem_cons_self ..)
    rw [show len + (m - len) = m by omega] at h0
    refine ⟨some a, len, m, rfl, .inr ⟨a, rfl, hl, hm, fun i hi => ?_⟩, h0⟩
    obtain ⟨cs', h1, h2⟩ := hx i hi
    refine ⟨cs', h1, hR w n cs' _ h2 (fun k hk => hw k ?_)⟩
    refine List.mem_cons_of_mem _ ?_
    rw [List.mem_append]
    by_cases hil : i < len
    · exact .inl (weightsAll_mem (d := D i) (List.mem_map.2 ⟨i, by simpa using hil, rfl⟩) hk)
    · exact .inr (weightsAll_mem (d := D i) (List.mem_map.2 ⟨i - len, by simp; omega, by rw [show len + (i - len) = i by omega]⟩) hk)
theorem opens_struct {t : TypeId} {fs : Array Field} {R : Nat → World → List Value → Prop} (ht : P.underlying t = some (.struct fs)) (hR : ∀ (i : Nat) f, fs[i]? = some f → Opens enc P f.type (R i)) :
    Opens enc P t (fun w cs => cs.length = P.cellsOf t ∧ ∀ (i : Nat) f, fs[i]? = some f → R i w ((cs.drop f.offset).take (P.cellsOf f.type))) := by
  intro w fuel cs x h hw
  obtain ⟨xs, n, rfl, rfl, hl, hxl, hx⟩ := DataW.trod_struct ht h
  refine ⟨hl, fun i f hf => ?_⟩
  have hi : i < fs.size := (Array.getElem?_eq_some_iff.1 hf).1
  have hxi := hx i f hf
  rw [List.getElem?_eq_getElem (by omega)] at hxi
  refine hR i f hf w n _ _ hxi (fun k hk => hw k ?_)
  simp only [DataW.weights, ht]
  refine DataW.weights_mem_each (j := i) (t := f.type) (d := (xs[i]'(by omega)).1) ?_ ?_ k hk
  · simp [hf]
  · simp [List.getElem?_eq_getElem (show i < xs.length by omega)]
theorem okWide_struct {w : World} {r : Reach} {base : Nat} {t : TypeId} {v : Value} {fs : Array Field} (ht : P.underlying t = some (.struct fs)) (h : Value.okWide P w r base t v) : ∃ cs, v = .agg cs := by
  unfold Value.okWide at h
  rw [ht] at h
  obtain ⟨cs, rfl, _⟩ := h
  exact ⟨cs, rfl⟩
theorem cells_one {w : World} {x : Addr} {c : List Value} (h : w.cells? 0 x 1 = some c) : ∃ v, c = [v] ∧ w.cell? x = some v := by
  obtain ⟨_, hl, hc⟩ := World.cells?_some h
  match c, hl with
  | [v], _ =>
    have := hc 0 (by omega)
    have e : x.add 0 = x := by unfold Addr.add; split <;> simp_all
    rw [e] at this
    exact ⟨v, rfl, by simpa using this⟩
/-- a slice of elements of one cell: a row of values, each as R says -/
theorem SliceR.row {R : World → List Value → Prop} {w : World} {a : Option Addr} {n cap : Nat} (h : SliceR R 1 w a n cap) : ∃ f : Nat → Value, IsRow w a n cap f ∧ n ≤ cap ∧ n ≤ maxLen ∧ ∀ i, i < n → R w [f i] := by
  rcases h with ⟨rfl, rfl, rfl⟩ | ⟨x, rfl, hl, hm, hc⟩
  · exact ⟨fun _ => undef, .inl ⟨rfl, rfl, rfl⟩, Nat.le_refl _, Nat.zero_le _, fun i hi => by omega⟩
  · have each : ∀ i, i < cap → ∃ v, w.cell? (x.add i) = some v ∧ R w [v] := fun i hi => by
      obtain ⟨cs, h1, h2⟩ := hc i hi
      rw [Nat.mul_one] at h1
      obtain ⟨v, rfl, hv⟩ := cells_one h1
      exact ⟨v, hv, h2⟩
    refine ⟨fun i => if h : i < cap then (each i h).choose else undef, row_of_add hl (fun i hi => ?_), hl, Nat.le_trans hl hm, fun i hi => ?_⟩
    · have hi' : i < cap := by omega
      simp only [dif_pos hi']; exact (each i hi').choose_spec.1
    · have hi' : i < cap := by omega
      simp only [dif_pos hi']; exact (each i hi').choose_spec.2
theorem list_of {α : Type} {p : Nat → α → Prop} {n : Nat} (d : α) (h : ∀ i, i < n → ∃ x, p i x) : ∃ l : List α, l.length = n ∧ ∀ i, i < n → p i (l.getD i d) := by
  refine ⟨(List.range n).map (fun i => if h' : i < n then (h i h').choose else d), by simp, fun i hi => ?_⟩
  have e : ((List.range n).map (fun i => if h' : i < n then (h i h').choose else d)).getD i d = (h i hi).choose := by
    simp [List.getD, hi]
  rw [e]; exact (h i hi).choose_spec
theorem IsRow.congr' {w : World} {a : Option Addr} {n cap : Nat} {f g : Nat → Value} (h : IsRow w a n cap f) (he : ∀ i, i < n → f i = g i) : IsRow w a n cap g := by
  rcases h with h | h | ⟨h1, h2, b, off, e, hc⟩
  · exact .inl h
  · exact .inr (.inl h)
  · exact .inr (.inr ⟨h1, h2, b, off, e, fun i hi => by rw [hc i hi, he i hi]⟩)
/-- a slice of ints that came in -/
def GotInts (w : World) (cs : List Value) : Prop := ∃ a n cap xs, cs = [.slice a n cap] ∧ Ints w a n cap xs ∧ cap * 8 ≤ reachBytes ∧ n ≤ cap ∧ ∀ x ∈ xs, (Lit.int .i64 x).wf = true
theorem opens_ints {t e : TypeId} (ht : P.underlying t = some (.slice e)) (he : P.underlying e = some (.int .i64)) (hc : P.cellsOf e = 1) (hb : P.bytesOf e = 8) : Opens enc P t GotInts := by
  refine (opens_slice ht (opens_int he)).mono ?_
  rintro w cs ⟨a, n, cap, rfl, hs, hbd⟩
  rw [hc] at hs
  rw [hb] at hbd
  obtain ⟨f, hr, hl, hm, hR⟩ := hs.row
  obtain ⟨xs, hxl, hx⟩ := list_of (α := Int) (p := fun i z => f i = .int .i64 z ∧ (Lit.int .i64 z).wf = true) 0 (fun i hi => by
    obtain ⟨z, h1, h2⟩ := hR i hi
    exact ⟨z, by simpa using h1, h2⟩)
  refine ⟨a, n, cap, xs, rfl, ⟨hxl, hr.congr' (fun i hi => (hx i hi).1)⟩, hbd, hl, fun z hz => ?_⟩
  obtain ⟨i, hi, rfl⟩ := List.getElem_of_mem hz
  have := (hx i (by omega)).2
  simpa [List.getD, List.getElem?_eq_getElem hi] using this
/-- a slice of strings that came in -/
def GotStrs (w : World) (cs : List Value) : Prop := ∃ a n cap xs, cs = [.slice a n cap] ∧ Strs w a n cap xs ∧ cap * 16 ≤ reachBytes ∧ n ≤ cap ∧ ∀ x ∈ xs, x.size ≤ reachBytes
theorem opens_strs {t e : TypeId} (ht : P.underlying t = some (.slice e)) (he : P.underlying e = some .string) (hc : P.cellsOf e = 1) (hb : P.bytesOf e = 16) : Opens enc P t GotStrs := by
  refine (opens_slice ht (opens_string he)).mono ?_
  rintro w cs ⟨a, n, cap, rfl, hs, hbd⟩
  rw [hc] at hs
  rw [hb] at hbd
  obtain ⟨f, hr, hl, hm, hR⟩ := hs.row
  obtain ⟨xs, hxl, hx⟩ := list_of (α := ByteArray) (p := fun i z => f i = .string z ∧ z.size ≤ reachBytes) ByteArray.empty (fun i hi => by
    obtain ⟨z, h1, h2⟩ := hR i hi
    exact ⟨z, by simpa using h1, h2⟩)
  refine ⟨a, n, cap, xs, rfl, ⟨hxl, hr.congr' (fun i hi => (hx i hi).1)⟩, hbd, hl, fun z hz => ?_⟩
  obtain ⟨i, hi, rfl⟩ := List.getElem_of_mem hz
  have := (hx i (by omega)).2
  simpa [List.getD, List.getElem?_eq_getElem hi] using this
/-- rows of numbers that came in -/
def GotRows (w : World) (cs : List Value) : Prop := ∃ a n cap M, cs = [.slice a n cap] ∧ RowsV w a n cap M ∧ cap * 24 ≤ reachBytes ∧ n ≤ cap ∧ ∀ i, (M.getD i []).length * 8 ≤ reachBytes
theorem opens_rows {t e q : TypeId} (ht : P.underlying t = some (.slice e)) (he : P.underlying e = some (.slice q)) (hq : P.underlying q = some (.int .i64)) (ce : P.cellsOf e = 1) (be : P.bytesOf e = 24) (cq : P.cellsOf q = 1) (bq : P.bytesOf q = 8) : Opens enc P t GotRows := by
  refine (opens_slice ht (opens_ints he hq cq bq)).mono ?_
  rintro w cs ⟨a, n, cap, rfl, hs, hbd⟩
  rw [ce] at hs
  rw [be] at hbd
  obtain ⟨f, hr, hl, hm, hR⟩ := hs.row
  obtain ⟨M, hMl, hM⟩ := list_of (α := List Int) (p := fun i r => RowV w (f i) r ∧ r.length * 8 ≤ reachBytes) [] (fun i hi => by
    obtain ⟨a', n', cap', xs, h1, h2, h3, h4, _⟩ := hR i hi
    have hlen := h2.1
    have hn' : n' * 8 ≤ reachBytes := Nat.le_trans (Nat.mul_le_mul_right _ h4) h3
    refine ⟨xs, ⟨a', n', cap', by simpa using h1, ?_, h2⟩, by rw [hlen]; exact hn'⟩
    unfold reachBytes at hn'
    unfold maxLen
    omega)
  refine ⟨a, n, cap, M, rfl, ⟨f, hMl, hm, hr, fun i hi => (hM i hi).1⟩, hbd, hl, fun i => ?_⟩
  by_cases hi : i < n
  · exact (hM i hi).2
  · rw [show M.getD i [] = [] by simp [List.getD, List.getElem?_eq_none (show M.length ≤ i by omega)]]
    simp
/-- a matrix that came in -/
def GotMatrix (w : World) (cs : List Value) : Prop := ∃ M, MatV w (.agg cs.toArray) M ∧ M.length * 24 ≤ 140737488351232 ∧ ∀ i, (M.getD i []).length * 8 ≤ 140737488351232
theorem opens_matrix {t r e q : TypeId} {f : Field} (ht : P.underlying t = some (.struct #[f])) (ct : P.cellsOf t = 1) (f0 : f.offset = 0) (fr : f.type = r) (cr : P.cellsOf r = 1) (hr : P.underlying r = some (.slice e)) (he : P.underlying e = some (.slice q)) (hq : P.underlying q = some (.int .i64)) (ce : P.cellsOf e = 1) (be : P.bytesOf e = 24) (cq : P.cellsOf q = 1) (bq : P.bytesOf q = 8) : Opens enc P t GotMatrix := by
  refine (opens_struct (R := fun _ => GotRows) ht (fun i g hg => ?_)).mono ?_
  · have : i = 0 ∧ g = f := by
      match i with
      | 0 => simp at hg; exact ⟨rfl, hg.symm⟩
      | i + 1 => simp at hg
    obtain ⟨rfl, rfl⟩ := this
    rw [fr]
    exact opens_rows hr he hq ce be cq bq
  · rintro w cs ⟨hl, h⟩
    have h0 := h 0 f rfl
    rw [f0, fr, cr, List.drop_zero, List.take_of_length_le (by rw [hl, ct]; exact Nat.le_refl _)] at h0
    obtain ⟨a, n, cap, M, rfl, hM, h1, h2, h3⟩ := h0
    have hml : M.length = n := by obtain ⟨_, h, _⟩ := hM; exact h
    refine ⟨M, ⟨a, n, cap, rfl, hM⟩, ?_, h3⟩
    rw [hml]
    exact Nat.le_trans (Nat.mul_le_mul_right _ h2) h1
end
end Go.Proofs.YtfeepmjkamdldaaDoor
/- Opening a shape that came in: two numbers. -/
namespace Go.Proofs.YtfeepmjkamdldaaDoor
open Go.ChangeShapes Go.WideShapes Go.ChangeAt Go.RowKit
set_option linter.unusedVariables false
section
variable {H : Type} {enc : TypeId × Value → H} {P : Program}
/-- two numbers, one behind the other -/
def GotTwo (w : World) (cs : List Value) : Prop := ∃ x y : Int, cs = [.int .i64 x, .int .i64 y]
theorem opens_two {t e : TypeId} {f g : Field} (ht : P.underlying t = some (.struct #[f, g])) (ct : P.cellsOf t = 2) (f0 : f.offset = 0) (g0 : g.offset = 1) (fr : f.type = e) (gr : g.type = e) (he : P.underlying e = some (.int .i64)) (ce : P.cellsOf e = 1) : Opens enc P t GotTwo := by
  refine (opens_struct (R := fun _ _ cs => ∃ z, cs = [.int .i64 z] ∧ (Lit.int .i64 z).wf = true) ht (fun i h hh => ?_)).mono ?_
  · match i with
    | 0 => simp at hh; subst hh; rw [fr]; exact opens_int he
    | 1 => simp at hh; subst hh; rw [gr]; exact opens_int he
    | i + 2 => simp at hh
  · rintro w cs ⟨hl, h⟩
    obtain ⟨x, hx, _⟩ := h 0 f rfl
    obtain ⟨y, hy, _⟩ := h 1 g rfl
    rw [f0, fr, ce] at hx
    rw [g0, gr, ce] at hy
    rw [ct] at hl
    match cs, hl with
    | [a, b], _ =>
      simp at hx hy
      exact ⟨x, y, by rw [hx, hy]⟩
end
end Go.Proofs.YtfeepmjkamdldaaDoor
