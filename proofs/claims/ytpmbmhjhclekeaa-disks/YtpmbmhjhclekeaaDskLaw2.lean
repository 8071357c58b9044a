/- CopyDisk, SpoilWrites (ossuarylaw0): contracts. -/
import Derived.Test.YtpmbmhjhclekeaaDskRef3
namespace Go.Proofs.Ytpmbmhjhclekeaa
open Go.RowKit
set_option linter.unusedVariables false
set_option linter.unusedSimpArgs false
attribute [local go_sem ↓] Go.wp_at_zero Go.wp_at_succ
set_option maxRecDepth 100000 in
set_option maxHeartbeats 1000000 in
theorem copyDisk_any (d : Dsk) (sa : Option Addr) (n sc : Nat) (ca : Option Addr) (m cc : Nat) (w : World) (hS : Strs w sa n sc d.secs) (hC : WrV w ca m cc d.cache) (hn : n * 16 ≤ 140737488351232) (hm : m * 24 ≤ 140737488351232) :
    Calls Try.prog 13 #[.agg #[.bool d.lost, .slice sa n sc, .slice ca m cc]] w fun e w' => ∃ v, e = .returned v ∧ DskO w' w.heap.size 9 62 v d ∧ Below w.heap.size w w' := by
  have hsl := hS.1
  have hcl := hC.1
  have HS := hide hS
  have HC := hide hC
  obtain ⟨b, eb⟩ : ∃ b, b = d.lost := ⟨_, rfl⟩
  have EB := hide eb
  rw [← eb]
  obtain ⟨ss, ess⟩ : ∃ ss, ss = d.secs := ⟨_, rfl⟩
  obtain ⟨cl, ecl⟩ : ∃ cl, cl = d.cache := ⟨_, rfl⟩
  rw [← ess] at hsl HS
  rw [← ecl] at hcl HC
  have ESS := hide ess
  have ECL := hide ecl
  clear hS hC eb ess ecl
  go_enter Try.func13, Try.ntmps13
  go_upto_region 1 with fail
  have HB := hide (below_two w (.cells #[.bool b, .slice sa n sc, .slice ca m cc] 25) (.cells #[.bool false, .slice none 0 0, .slice none 0 0] 25))
  have RX := hide (two_new w (.cells #[.bool b, .slice sa n sc, .slice ca m cc] 25) (.cells #[.bool false, .slice none 0 0, .slice none 0 0] 25))
  have BX := hide ((((below_alloc (w.alloc (.cells #[.bool b, .slice sa n sc, .slice ca m cc] 25)) (.cells #[.bool false, .slice none 0 0, .slice none 0 0] 25)).block w.heap.size (by simp)).trans (heap_alloc_new w (.cells #[.bool b, .slice sa n sc, .slice ca m cc] 25))))
  generalize ((w.alloc (.cells #[.bool b, .slice sa n sc, .slice ca m cc] 25)).alloc (.cells #[.bool false, .slice none 0 0, .slice none 0 0] 25)) = W at *
  obtain ⟨x0, x1, x2⟩ := box_dsk (unhide BX)
  have hs1 := hide ((unhide HS).below (bt (unhide HB) (below_alloc W (.cells #[] 9))))
  have hsz := lt_of_block (unhide RX)
  have d1 := fun o => ((below_alloc W o).cell (cell_lt x1)).trans x1
  go_upto_region 2 with (at_builtin; refine wpList_append_row (W.alloc (.cells #[] 9)) (by rfl) (.tmp 3) (.tmp 5) 22 (by rfl) (w.heap.size + 2) 9 (.string ByteArray.empty) 16 Try.underlying22 Try.infoText rfl _ 0 [] (by rfl) (own_emptyZ W 9 1 (w.heap.size + 2) (by omega)) sa n sc _ (ss.map Value.string) (by rfl) (unhide hs1).2 (by rw [List.length_map]; exact hsl) (str_at hsl) (strs_oneCell _) (by unfold maxLen; omega) (by omega) (by simp; omega) ?_; intro v1 W1 O1 G1; have HG1 := hide ((below_alloc W (.cells #[] 9)).trans (Below.refl _ _)); have BX1 := hide ((G1.block w.heap.size (by simp; omega) (by simp [Value.ownBlock]; omega)).trans (((below_alloc W (.cells #[] 9)).block _ (lt_of_block (unhide BX))).trans (unhide BX))); have RX1 := hide ((G1.block (w.heap.size + 1) (by simp; omega) (by simp [Value.ownBlock]; omega)).trans (((below_alloc W (.cells #[] 9)).block _ (lt_of_block (unhide RX))).trans (unhide RX))); have OO1 := hide O1; have GG1 := hide G1; obtain ⟨y0, y1, y2⟩ := box_dsk (unhide BX1); have fy := dsk_free (unhide BX1) 1; obtain ⟨p1, c1, e1⟩ := ownZ_slice O1; subst e1; clear O1 G1)
  have HB1 : Hid (Below w.heap.size w W1) := hide (((unhide HB).trans ((below_alloc W (.cells #[] 9)).mono (unhide HB).size)).grown (unhide GG1) (by have := (unhide HB).size; simp; omega) (fun k hk => by simp [Value.ownBlock] at hk; have := (unhide HB).size; omega))
  have BX2 := hide (dsk_set1 (y' := .slice p1 n c1) (unhide BX1))
  have RX2 := hide ((Below.heap_setCell W1 ⟨w.heap.size, 1, none⟩ (.slice p1 n c1) (w.heap.size + 1) (by show w.heap.size + 1 ≠ w.heap.size; omega)).trans (unhide RX1))
  have HB2 := hide ((unhide HB1).setCell (p := ⟨w.heap.size, 1, none⟩) (Nat.le_refl _) (.slice p1 n c1))
  have OO2 : Hid (OwnL (W1.setCell ⟨w.heap.size, 1, none⟩ (.slice p1 n c1)) (w.heap.size + 2) 9 (.slice p1 n c1) (ss.map Value.string)) := hide (by
    have h := unhide OO1
    have h2 : OwnL W1 (w.heap.size + 2) 9 (.slice p1 n c1) (ss.map Value.string) := by
      unfold OwnL
      rw [List.length_map, hsl]
      simpa using h
    exact h2.setBelow (by show w.heap.size < _; omega) _)
  clear y0 y1 y2 fy x0 x1 x2 d1 BX1 RX1 OO1 GG1 HG1 hs1 BX RX HB hsz HB1
  generalize (W1.setCell ⟨w.heap.size, 1, none⟩ (.slice p1 n c1)) = W2 at *
  obtain ⟨x0, x1, x2⟩ := box_dsk (unhide BX2)
  have hc1 := hide ((unhide HC).below (bt (unhide HB2) (below_alloc W2 (.cells #[] 62))))
  have hsz := lt_of_block (unhide RX2)
  have d2 := fun o => ((below_alloc W2 o).cell (cell_lt x2)).trans x2
  go_upto_region 3 with (at_builtin; refine wpList_append_rec (W2.alloc (.cells #[] 62)) (by rfl) (.tmp 8) (.tmp 10) 23 (by rfl) (w.heap.size + 2) 62 (.agg #[.int .i64 0, .string ByteArray.empty]) 2 24 Try.underlying23 Try.infoWr rfl (by decide) _ 0 [] (by rfl) (own_emptyZ W2 62 2 (w.heap.size + 2) (by omega)) ca m cc _ (wrCells cl) (by rfl) (unhide hc1).2 (by rw [wrCells_len, hcl]) (fun i hi => by simp [List.getD, List.getElem?_eq_getElem (show i < (wrCells cl).length by rw [wrCells_len, hcl]; exact hi)]) (wrCells_one _) (by unfold maxLen; omega) (by omega) (by simp; omega) ?_; intro v3 W3 O3 G3; have BX3 := hide ((G3.block w.heap.size (by simp; omega) (by simp [Value.ownBlock]; omega)).trans (((below_alloc W2 (.cells #[] 62)).block _ (lt_of_block (unhide BX2))).trans (unhide BX2))); have RX3 := hide ((G3.block (w.heap.size + 1) (by simp; omega) (by simp [Value.ownBlock]; omega)).trans (((below_alloc W2 (.cells #[] 62)).block _ (lt_of_block (unhide RX2))).trans (unhide RX2))); have OO3 := hide O3; have GG3 := hide G3; obtain ⟨y0, y1, y2⟩ := box_dsk (unhide BX3); have fy := dsk_free (unhide BX3) 2; obtain ⟨p3, c3, e3⟩ := ownZ_slice O3; subst e3; clear O3 G3)
  simp only [Nat.zero_add, List.nil_append] at *
  have HB3 : Hid (Below w.heap.size w W3) := hide (((unhide HB2).trans ((below_alloc W2 (.cells #[] 62)).mono (unhide HB2).size)).grown (unhide GG3) (by have := (unhide HB2).size; simp; omega) (fun k hk => by simp [Value.ownBlock] at hk; have := (unhide HB2).size; omega))
  have BX4 := hide (dsk_set2 (z' := .slice p3 m c3) (unhide BX3))
  have RX4 := hide ((Below.heap_setCell W3 ⟨w.heap.size, 2, none⟩ (.slice p3 m c3) (w.heap.size + 1) (by show w.heap.size + 1 ≠ w.heap.size; omega)).trans (unhide RX3))
  have HB4 := hide ((unhide HB3).setCell (p := ⟨w.heap.size, 2, none⟩) (Nat.le_refl _) (.slice p3 m c3))
  have OS4 : Hid (OwnL (W3.setCell ⟨w.heap.size, 2, none⟩ (.slice p3 m c3)) (w.heap.size + 2) 9 (.slice p1 n c1) (ss.map Value.string)) := hide (by
    have h := (unhide OO2).below (below_alloc W2 (.cells #[] 62))
    have h2 : OwnL W3 (w.heap.size + 2) 9 (.slice p1 n c1) (ss.map Value.string) := World.ownsRow.kept h (unhide GG3) (by
      cases hp : (Value.slice p1 n c1).ownBlock with
      | none => exact .inl rfl
      | some g =>
        refine .inr (fun e => ?_)
        have h3 := ((unhide OO2).lt hp).2
        simp [Value.ownBlock] at e
        omega)
    exact h2.setBelow (by show w.heap.size < _; omega) _)
  have OC4 : Hid ((W3.setCell ⟨w.heap.size, 2, none⟩ (.slice p3 m c3)).ownsRow (w.heap.size + 2) 62 2 (.slice p3 m c3) m (wrCells cl)) := hide (ownsRow_setCell_other (a := ⟨w.heap.size, 2, none⟩) (unhide OO3) (fun e => by have := (World.ownsRow.lt (unhide OO3) w.heap.size e).1; omega) _)
  clear y0 y1 y2 fy x0 x1 x2 d2 BX3 RX3 OO3 GG3 hc1 BX2 RX2 HB2 hsz HB3 OO2
  generalize (W3.setCell ⟨w.heap.size, 2, none⟩ (.slice p3 m c3)) = W4 at *
  obtain ⟨x0, x1, x2⟩ := box_dsk (unhide BX4)
  obtain ⟨r0, r1, r2⟩ := box_dsk (unhide RX4)
  have f0 := dsk_free (unhide RX4) 0
  have f1 := dsk_free (unhide RX4) 1
  have f2 := dsk_free (unhide RX4) 2
  go_wp2
  obtain ⟨q0, q1, q2⟩ := box_dsk (dsk_put (x' := .bool b) (y' := .slice p1 n c1) (z' := .slice p3 m c3) (unhide RX4))
  refine bodyPost_ret (v := .agg #[.bool b, .slice p1 n c1, .slice p3 m c3]) (by simp [results, Try.results13, go_sem, q0, q1, q2]) rfl ⟨_, rfl, ⟨_, _, by rw [unhide EB], ?_, ?_⟩, ?_⟩
  · rw [← unhide ESS]
    have h := (((unhide OS4).setBelow (a := ⟨w.heap.size + 1, 0, none⟩) (by show w.heap.size + 1 < _; omega) (.bool b)).setBelow (a := ⟨w.heap.size + 1, 1, none⟩) (by show w.heap.size + 1 < _; omega) (.slice p1 n c1)).setBelow (a := ⟨w.heap.size + 1, 2, none⟩) (by show w.heap.size + 1 < _; omega) (.slice p3 m c3)
    exact h.mono (by omega)
  · rw [← unhide ECL, hcl]
    have ho := unhide OC4
    have hne : ∀ i, (Value.slice p3 m c3).ownBlock ≠ some (⟨w.heap.size + 1, i, none⟩ : Addr).block := fun i e => by have h9 : w.heap.size + 2 ≤ w.heap.size + 1 := (World.ownsRow.lt ho _ e).1; omega
    have h := ownsRow_setCell_other (ownsRow_setCell_other (ownsRow_setCell_other ho (a := ⟨w.heap.size + 1, 0, none⟩) (hne 0) (.bool b)) (a := ⟨w.heap.size + 1, 1, none⟩) (hne 1) (.slice p1 n c1)) (a := ⟨w.heap.size + 1, 2, none⟩) (hne 2) (.slice p3 m c3)
    exact ownZ_mono' h (by omega)
  · exact (((unhide HB4).setCell (p := ⟨w.heap.size + 1, 0, none⟩) (by show w.heap.size ≤ w.heap.size + 1; omega) _).setCell (p := ⟨w.heap.size + 1, 1, none⟩) (by show w.heap.size ≤ w.heap.size + 1; omega) _).setCell (p := ⟨w.heap.size + 1, 2, none⟩) (by show w.heap.size ≤ w.heap.size + 1; omega) _
theorem wrCells_set : ∀ (l : List (Int × ByteArray)) (i : Nat) (y : Int), i < l.length → (wrCells l).set (i * 2) (.int .i64 y) = wrCells (l.set i (y, (l.getD i wr0).2))
  | x :: l, 0, y, _ => rfl
  | x :: l, i + 1, y, h => by
    have ih := wrCells_set l i y (by simpa using h)
    rw [List.set_cons_succ, wrCells_cons, wrCells_cons, List.set_append, if_neg (by simp; omega)]
    have e1 : (i + 1) * 2 - [Value.int IntKind.i64 x.1, Value.string x.2].length = i * 2 := by simp; omega
    rw [e1, ih]
    simp
set_option maxRecDepth 100000 in
set_option maxHeartbeats 1000000 in
theorem spoilWrites_none (a : Option Addr) (cap : Nat) (w : World) : Calls Try.prog 53 #[.slice a 0 cap] w fun e w' => e = .returned (.tuple #[]) ∧ w' = w := by
  go_enter Try.func53, Try.ntmps53
  go_wp2
  go_rounds 1
  exact bodyPost_end (v := .tuple #[]) (by simp [results, Try.results53, go_sem]) rfl ⟨rfl, rfl⟩
set_option maxRecDepth 100000 in
set_option maxHeartbeats 1000000 in
theorem spoilWrites_some (B g n cap : Nat) (l : List (Int × ByteArray)) (w : World) (h : w.ownsRow B 62 2 (.slice (some ⟨g, 0, none⟩) n cap) n (wrCells l)) (hl : l.length = n) (hn : n ≤ maxLen) (hB : B ≤ w.heap.size) (hgB : B ≤ g) :
    Calls Try.prog 53 #[.slice (some ⟨g, 0, none⟩) n cap] w fun e w' => e = .returned (.tuple #[]) ∧ (∀ k, k ≠ g → w'.heap[k]? = w.heap[k]?) ∧ Below B w w' := by
  unfold maxLen at hn
  have H := hide h
  have HL := hide hl
  clear h hl
  go_enter Try.func53, Try.ntmps53
  go_wp2
  go_loopw [2] (fun iv wr => ∃ k : Nat, k ≤ n ∧ iv = .int .i64 k ∧ Hid (∃ l : List (Int × ByteArray), l.length = n ∧ wr.ownsRow B 62 2 (.slice (some ⟨g, 0, none⟩) n cap) n (wrCells l)) ∧ Hid (∀ k, k ≠ g → wr.heap[k]? = w.heap[k]?) ∧ Hid (Below B w wr)) (fun iv _ => n - (intOf iv).toNat)
  case atStart => exact ⟨0, by omega, rfl, hide ⟨l, unhide HL, unhide H⟩, hide (fun _ _ => rfl), hide (Below.refl _ _)⟩
  case round =>
    obtain ⟨k, hk, rfl, HO, HK, HW⟩ := hrel
    obtain ⟨m, hml, hO⟩ := unhide HO
    by_cases hlt : k < n
    · have hlt' : (k : Int) < n := by omega
      obtain ⟨g', c', e, _, _, _, hcell⟩ := ownZ_form hO (by omega)
      simp only [Value.slice.injEq, Option.some.injEq, Addr.mk.injEq, and_true, true_and] at e
      obtain ⟨e1, _⟩ := e
      obtain ⟨t1, _⟩ := wrCells_at m k (by omega)
      have c1 := hcell (k * 2) _ t1
      rw [← e1] at c1
      have f1 := World.ownsRow.frozenAt hO (k * 2)
      obtain ⟨x, ex⟩ : ∃ x, x = (m.getD k wr0).1 := ⟨_, rfl⟩
      rw [← ex] at c1
      have HS := hide (fun y => (World.ownsRow.stored hO (k * 2) (.int .i64 y)).1)
      have HM := hide hml
      clear hcell ex hO t1 hml HO e1
      go_wp2
      go_roundw
      case rel =>
        refine ⟨k + 1, by omega, by go_num, hide ?_, hide (fun q hq => (Below.heap_setCell _ ⟨g, k * 2, none⟩ _ q hq).trans (unhide HK q hq)), hide ((unhide HW).setCell (by show B ≤ g; omega) _)⟩
        have h := unhide HS (bits .xor .i64 x 90)
        rw [wrCells_set m k _ (by rw [unhide HM]; exact hlt)] at h
        exact ⟨_, by rw [List.length_set]; exact unhide HM, h⟩
      case measure => simp [intOf]; omega
    · have hlt' : ¬ (k : Int) < n := by omega
      clear hml hO
      go_wp2
      exact bodyPost_end (v := .tuple #[]) (by simp [results, Try.results53, go_sem]) rfl ⟨rfl, unhide HK, unhide HW⟩
theorem spoilWrites_any (B : Nat) (v : Value) (l : List (Int × ByteArray)) (w : World) (h : w.ownsRow B 62 2 v l.length (wrCells l)) (hn : l.length ≤ maxLen) (hB : B ≤ w.heap.size) :
    Calls Try.prog 53 #[v] w fun e w' => e = .returned (.tuple #[]) ∧ (∀ k, v.ownBlock ≠ some k → k < w.heap.size → w'.heap[k]? = w.heap[k]?) ∧ Below B w w' := by
  by_cases h0 : l.length = 0
  · obtain ⟨a, cap, e⟩ := ownZ_slice h
    rw [h0] at e
    subst e
    refine (spoilWrites_none a cap w).mono ?_
    rintro e w' ⟨rfl, rfl⟩
    exact ⟨rfl, fun _ _ _ => rfl, Below.refl _ _⟩
  · obtain ⟨g, cap, rfl, hg, _⟩ := ownZ_form h (by omega)
    refine (spoilWrites_some B g l.length cap l w h rfl hn hB hg).mono ?_
    rintro e w' ⟨rfl, h2, h3⟩
    exact ⟨rfl, fun k hk _ => h2 k (fun e => hk (by rw [e]; rfl)), h3⟩
end Go.Proofs.Ytpmbmhjhclekeaa
