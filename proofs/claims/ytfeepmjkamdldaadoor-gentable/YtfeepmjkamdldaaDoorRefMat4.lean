/- The document's own product of matrices (ossuaryref1.MulMatrix): a contract. -/
import Derived.Test.YtfeepmjkamdldaaDoorRefMat1
import Derived.Test.YtfeepmjkamdldaaDoorRefMat3
import Derived.Test.YtfeepmjkamdldaaDoorRegionLast
import Derived.Test.YtfeepmjkamdldaaDoorCopyMat
import Derived.Test.YtfeepmjkamdldaaDoorGrow
namespace Go.Proofs.YtfeepmjkamdldaaDoor
open Go.RowKit
set_option linter.unusedVariables false
set_option linter.unusedSimpArgs false
/-- R rows of C numbers, by their places -/
def matF (R C : Nat) (f : Nat → Nat → Nat) : List (List Int) := (List.range R).map fun r => (List.range C).map fun c => ((f r c : Nat) : Int)
theorem matF_len (R C : Nat) (f : Nat → Nat → Nat) : (matF R C f).length = R := by simp [matF]
theorem matF_row (R C : Nat) (f : Nat → Nat → Nat) (r : Nat) (h : r < R) : (matF R C f).getD r [] = (List.range C).map fun c => ((f r c : Nat) : Int) := by
  simp [matF, List.getD, h]
theorem matF_rowlen (R C : Nat) (f : Nat → Nat → Nat) (r : Nat) (h : r < R) : ((matF R C f).getD r []).length = C := by rw [matF_row R C f r h]; simp
theorem matF_at (R C : Nat) (f : Nat → Nat → Nat) (r c : Nat) (h : r < R) (hc : c < C) : ((matF R C f).getD r []).getD c 0 = ((f r c : Nat) : Int) := by
  rw [matF_row R C f r h]; simp [List.getD, hc]
theorem matF_congr {R C : Nat} {f g : Nat → Nat → Nat} (h : ∀ r c, r < R → c < C → f r c = g r c) : matF R C f = matF R C g := by
  unfold matF
  apply List.map_congr_left
  intro r hr
  apply List.map_congr_left
  intro c hc
  simp only [List.mem_range] at hr hc
  rw [h r c hr hc]
theorem matF_zero (R C : Nat) : matF R C (fun _ _ => 0) = zeroM R C := by
  unfold matF zeroM
  apply List.ext_getElem <;> simp
  intro i hi
  apply List.ext_getElem <;> simp
theorem matF_set (R C : Nat) (f : Nat → Nat → Nat) (i j x : Nat) (hi : i < R) (hj : j < C) :
    (matF R C f).set i (((matF R C f).getD i []).set j ((x : Nat) : Int)) = matF R C (fun r c => if r = i ∧ c = j then x else f r c) := by
  rw [matF_row R C f i hi]
  unfold matF
  apply List.ext_getElem
  · simp
  · intro r h1 h2
    simp at h1
    rw [List.getElem_set]
    by_cases hr : i = r
    · subst hr
      rw [if_pos rfl]
      apply List.ext_getElem
      · simp
      · intro c h3 h4
        simp at h3
        rw [List.getElem_set]
        by_cases hc : j = c
        · subst hc; simp
        · simp [hc, Ne.symm hc]
    · rw [if_neg hr]
      simp only [List.getElem_map, List.getElem_range]
      apply List.map_congr_left
      intro c hc
      rw [if_neg (by rintro ⟨h, _⟩; exact hr h.symm)]
/-- the number of a matrix at a place -/
def entry (M : List (List Int)) (r c : Nat) : Nat := ((M.getD r []).getD c 0).toNat
/-- the first n products of a row and a column, added up -/
def dot (A B : List (List Int)) (r c : Nat) : Nat → Nat
  | 0 => 0
  | n + 1 => dot A B r c n ^^^ Gf.mul (entry A r n) (entry B n c)
theorem dot_lt (A B : List (List Int)) (r c n : Nat) : dot A B r c n < 256 := by
  induction n with
  | zero => simp [dot]
  | succ n ih => exact Nat.xor_lt_two_pow (n := 8) ih (Gf.mul_lt _ _)
/-- the product of two matrices -/
def mulM (A B : List (List Int)) : List (List Int) := matF A.length (B.getD 0 []).length (fun r c => dot A B r c B.length)
/-- the product, as far as the loops are come -/
def part (A B : List (List Int)) (K i j k r c : Nat) : Nat := if r < i then dot A B r c K else if r = i then (if c < j then dot A B r c K else if c = j then dot A B r c k else 0) else 0
theorem mmay_at {M : List (List Int)} (h : MMay M) {r c : Nat} (hr : r < M.length) (hc : c < (M.getD 0 []).length) : (M.getD r []).getD c 0 = ((entry M r c : Nat) : Int) ∧ entry M r c < 256 := by
  have := (h.2.2.2.2 r hr).2 c hc
  unfold byteI at this
  unfold entry
  omega
theorem refMay_yes (v : Value) (M : List (List Int)) (w : World) (h : MatV w v M) (hm : MMay M) : Calls Tryd.prog 50 #[v] w fun e w' => e = .returned (.bool true) ∧ Below w.heap.size w w' :=
  (refMay_any v M w h).mono fun e w' ⟨h, hb⟩ => ⟨by rcases h with h | h; exact h.2; exact absurd hm h.1, hb⟩
theorem refMay_no (v : Value) (M : List (List Int)) (w : World) (h : MatV w v M) (hm : ¬ MMay M) : Calls Tryd.prog 50 #[v] w fun e w' => e = .returned (.bool false) ∧ Below w.heap.size w w' :=
  (refMay_any v M w h).mono fun e w' ⟨h, hb⟩ => ⟨by rcases h with h | h; exact absurd h.1 hm; exact h.2, hb⟩
theorem mul_open {pa pb : Option Addr} {na ca nb cb : Nat} {A B : List (List Int)} {w : World} (ha : MatV w (.agg #[.slice pa na ca]) A) (hb : MatV w (.agg #[.slice pb nb cb]) B) (hmA : MMay A) (hmB : MMay B) :
    ∃ ba oa, pa = some ⟨ba, oa, none⟩ ∧ 1 ≤ na ∧ ∃ x0 m0 q0, w.cell? ⟨ba, oa, none⟩ = some (.slice x0 m0 q0) ∧ (A.getD 0 []).length = m0 ∧ na ≤ 12 ∧ m0 ≤ 12 ∧ nb ≤ 12 ∧ A.length = na ∧ B.length = nb := by
  obtain ⟨a, n, c, e, R⟩ := ha
  simp only [Value.agg.injEq, Array.mk.injEq, List.cons.injEq, Value.slice.injEq, and_true] at e
  obtain ⟨rfl, rfl, rfl⟩ := e
  obtain ⟨a', n', c', e, R'⟩ := hb
  simp only [Value.agg.injEq, Array.mk.injEq, List.cons.injEq, Value.slice.injEq, and_true] at e
  obtain ⟨rfl, rfl, rfl⟩ := e
  have hlA : A.length = na := by obtain ⟨_, h, _⟩ := R; exact h
  have hlB : B.length = nb := by obtain ⟨_, h, _⟩ := R'; exact h
  have h1 := hmA.1
  have h2 := hmA.2.1
  have h3 := hmA.2.2.2.1
  have h4 := hmB.2.1
  rcases R.two with h0 | ⟨b, off, rfl, hc⟩
  · omega
  · obtain ⟨u, hu, x, n, q, rfl, hn, hx⟩ := hc 0 (by omega)
    exact ⟨b, off, rfl, by omega, x, n, q, hu, hx.1, by omega, by rw [← hx.1]; exact h3, by omega, hlA, hlB⟩
attribute [local go_sem ↓] Go.wp_at_zero Go.wp_at_succ
set_option maxRecDepth 100000 in
set_option maxHeartbeats 4000000 in
theorem refMulMatrix_noA (pa pb : Option Addr) (na ca nb cb : Nat) (A B : List (List Int)) (w : World) (ha : MatV w (.agg #[.slice pa na ca]) A) (hb : MatV w (.agg #[.slice pb nb cb]) B) (hmA : ¬ MMay A) :
    Calls Tryd.prog 30 #[.agg #[.slice pa na ca], .agg #[.slice pb nb cb]] w fun e w' => e = .returned (.tuple #[.agg #[.slice none 0 0], .int .i64 300]) ∧ Below w.heap.size w w' := by
  have HA := hide ha
  have HB := hide hb
  clear ha hb
  go_enter Tryd.func30, Tryd.ntmps30
  go_wp2_with fail
  have k0 := hide (three_old w (.cells #[.slice pa na ca] 26) (.cells #[.slice pb nb cb] 26) (.cells #[.slice none 0 0] 26))
  have k1 := hide (three_mid w (.cells #[.slice pa na ca] 26) (.cells #[.slice pb nb cb] 26) (.cells #[.slice none 0 0] 26))
  have k2 := hide (three_new w (.cells #[.slice pa na ca] 26) (.cells #[.slice pb nb cb] 26) (.cells #[.slice none 0 0] 26))
  have k3 : Hid (Below w.heap.size w (((w.alloc (.cells #[.slice pa na ca] 26)).alloc (.cells #[.slice pb nb cb] 26)).alloc (.cells #[.slice none 0 0] 26))) := hide (by go_grown)
  have k4 : (((w.alloc (.cells #[.slice pa na ca] 26)).alloc (.cells #[.slice pb nb cb] 26)).alloc (.cells #[.slice none 0 0] 26)).heap.size = w.heap.size + 3 := by simp
  generalize (((w.alloc (.cells #[.slice pa na ca] 26)).alloc (.cells #[.slice pb nb cb] 26)).alloc (.cells #[.slice none 0 0] 26)) = W at k0 k1 k2 k3 k4 ⊢
  have c0 := cell_of_one (unhide k0)
  have c1 := cell_of_one (unhide k1)
  have g0 := grown_cell c0
  have g1 := grown_cell c1
  refine wp_region_grows (by kernel_rfl) (by kernel_rfl) ?_
  repeat (first | go_big_quiet_step ((go_at_call 50; exact Calls.grows (refMay_no _ A _ (((unhide HA).below (unhide k3)).below (GrownW.prop _)) hmA))) | quiet_step ((go_at_call 50; exact Calls.grows (refMay_no _ A _ (((unhide HA).below (unhide k3)).below (GrownW.prop _)) hmA))))
  refine wpQuiet_nil ?_
  intro gw hw'
  have gb := grown_below hw'
  clear hw'
  clear g0 g1 c0 c1
  have r2 := (gb.block _ (by omega)).trans (unhide k2)
  have c2 := cell_of_one r2
  have f2 := free_of_one r2
  have HB1 := hide (bt (unhide k3) gb)
  clear gb
  go_wp2
  have cr := cell_of_one (one_setCell (u := .slice none 0 0) r2)
  exact bodyPost_ret (v := .tuple #[.agg #[.slice none 0 0], .int .i64 300]) (by simp [results, Tryd.results30, go_sem, cr]) rfl ⟨rfl, (unhide HB1).setCell (by show _ ≤ w.heap.size + 1 + 1; omega) _⟩
set_option maxRecDepth 100000 in
set_option maxHeartbeats 4000000 in
theorem refMulMatrix_noB (pa pb : Option Addr) (na ca nb cb : Nat) (A B : List (List Int)) (w : World) (ha : MatV w (.agg #[.slice pa na ca]) A) (hb : MatV w (.agg #[.slice pb nb cb]) B) (hmA : MMay A) (hmB : ¬ MMay B) :
    Calls Tryd.prog 30 #[.agg #[.slice pa na ca], .agg #[.slice pb nb cb]] w fun e w' => e = .returned (.tuple #[.agg #[.slice none 0 0], .int .i64 300]) ∧ Below w.heap.size w w' := by
  have HA := hide ha
  have HB := hide hb
  clear ha hb
  go_enter Tryd.func30, Tryd.ntmps30
  go_wp2_with fail
  have k0 := hide (three_old w (.cells #[.slice pa na ca] 26) (.cells #[.slice pb nb cb] 26) (.cells #[.slice none 0 0] 26))
  have k1 := hide (three_mid w (.cells #[.slice pa na ca] 26) (.cells #[.slice pb nb cb] 26) (.cells #[.slice none 0 0] 26))
  have k2 := hide (three_new w (.cells #[.slice pa na ca] 26) (.cells #[.slice pb nb cb] 26) (.cells #[.slice none 0 0] 26))
  have k3 : Hid (Below w.heap.size w (((w.alloc (.cells #[.slice pa na ca] 26)).alloc (.cells #[.slice pb nb cb] 26)).alloc (.cells #[.slice none 0 0] 26))) := hide (by go_grown)
  have k4 : (((w.alloc (.cells #[.slice pa na ca] 26)).alloc (.cells #[.slice pb nb cb] 26)).alloc (.cells #[.slice none 0 0] 26)).heap.size = w.heap.size + 3 := by simp
  generalize (((w.alloc (.cells #[.slice pa na ca] 26)).alloc (.cells #[.slice pb nb cb] 26)).alloc (.cells #[.slice none 0 0] 26)) = W at k0 k1 k2 k3 k4 ⊢
  have c0 := cell_of_one (unhide k0)
  have c1 := cell_of_one (unhide k1)
  have g0 := grown_cell c0
  have g1 := grown_cell c1
  refine wp_region_grows (by kernel_rfl) (by kernel_rfl) ?_
  repeat (first | go_big_quiet_step ((first
    | (go_at_call 50; exact Calls.grows (refMay_yes _ A _ (((unhide HA).below (unhide k3)).below (GrownW.prop _)) hmA))
    | (go_at_call 50; exact Calls.grows (refMay_no _ B _ (((unhide HB).below (unhide k3)).below (GrownW.prop _)) hmB)))) | quiet_step ((first
    | (go_at_call 50; exact Calls.grows (refMay_yes _ A _ (((unhide HA).below (unhide k3)).below (GrownW.prop _)) hmA))
    | (go_at_call 50; exact Calls.grows (refMay_no _ B _ (((unhide HB).below (unhide k3)).below (GrownW.prop _)) hmB)))))
  refine wpQuiet_nil ?_
  intro gw hw'
  have gb := grown_below hw'
  clear hw'
  clear g0 g1 c0 c1
  have r2 := (gb.block _ (by omega)).trans (unhide k2)
  have c2 := cell_of_one r2
  have f2 := free_of_one r2
  have HB1 := hide (bt (unhide k3) gb)
  clear gb
  go_wp2
  have cr := cell_of_one (one_setCell (u := .slice none 0 0) r2)
  exact bodyPost_ret (v := .tuple #[.agg #[.slice none 0 0], .int .i64 300]) (by simp [results, Tryd.results30, go_sem, cr]) rfl ⟨rfl, (unhide HB1).setCell (by show _ ≤ w.heap.size + 1 + 1; omega) _⟩
set_option maxRecDepth 100000 in
set_option maxHeartbeats 4000000 in
theorem refMulMatrix_noLen (pa pb : Option Addr) (na ca nb cb : Nat) (A B : List (List Int)) (w : World) (ha : MatV w (.agg #[.slice pa na ca]) A) (hb : MatV w (.agg #[.slice pb nb cb]) B) (hmA : MMay A) (hmB : MMay B) (hne : (A.getD 0 []).length ≠ B.length) :
    Calls Tryd.prog 30 #[.agg #[.slice pa na ca], .agg #[.slice pb nb cb]] w fun e w' => e = .returned (.tuple #[.agg #[.slice none 0 0], .int .i64 300]) ∧ Below w.heap.size w w' := by
  obtain ⟨ba, oa, rfl, na1, x0, m0, q0, hrow0, em0, hna, hm0, hnb, hlA, hlB⟩ : ∃ ba oa, pa = some ⟨ba, oa, none⟩ ∧ 1 ≤ na ∧ ∃ x0 m0 q0, w.cell? ⟨ba, oa, none⟩ = some (.slice x0 m0 q0) ∧ (A.getD 0 []).length = m0 ∧ na ≤ 12 ∧ m0 ≤ 12 ∧ nb ≤ 12 ∧ A.length = na ∧ B.length = nb := mul_open ha hb hmA hmB
  have HA := hide ha
  have HB := hide hb
  clear ha hb
  go_enter Tryd.func30, Tryd.ntmps30
  go_wp2_with fail
  have k0 := hide (three_old w (.cells #[.slice (some ⟨ba, oa, none⟩) na ca] 26) (.cells #[.slice pb nb cb] 26) (.cells #[.slice none 0 0] 26))
  have k1 := hide (three_mid w (.cells #[.slice (some ⟨ba, oa, none⟩) na ca] 26) (.cells #[.slice pb nb cb] 26) (.cells #[.slice none 0 0] 26))
  have k2 := hide (three_new w (.cells #[.slice (some ⟨ba, oa, none⟩) na ca] 26) (.cells #[.slice pb nb cb] 26) (.cells #[.slice none 0 0] 26))
  have k3 : Hid (Below w.heap.size w (((w.alloc (.cells #[.slice (some ⟨ba, oa, none⟩) na ca] 26)).alloc (.cells #[.slice pb nb cb] 26)).alloc (.cells #[.slice none 0 0] 26))) := hide (by go_grown)
  have k4 : (((w.alloc (.cells #[.slice (some ⟨ba, oa, none⟩) na ca] 26)).alloc (.cells #[.slice pb nb cb] 26)).alloc (.cells #[.slice none 0 0] 26)).heap.size = w.heap.size + 3 := by simp
  generalize (((w.alloc (.cells #[.slice (some ⟨ba, oa, none⟩) na ca] 26)).alloc (.cells #[.slice pb nb cb] 26)).alloc (.cells #[.slice none 0 0] 26)) = W at k0 k1 k2 k3 k4 ⊢
  have c0 := cell_of_one (unhide k0)
  have c1 := cell_of_one (unhide k1)
  have c3 := ((unhide k3).cell (cell_lt hrow0)).trans hrow0
  have p1 : (0 : Int) < na := by omega
  have t1 : ((m0 : Int) != (nb : Int)) = true := by simp; omega
  have g3 := grown_cell c3
  have g0 := grown_cell c0
  have g1 := grown_cell c1
  refine wp_region_grows (by kernel_rfl) (by kernel_rfl) ?_
  repeat (first | go_big_quiet_step ((first
    | (go_at_call 50; exact Calls.grows (refMay_yes _ A _ (((unhide HA).below (unhide k3)).below (GrownW.prop _)) hmA))
    | (go_at_call 50; exact Calls.grows (refMay_yes _ B _ (((unhide HB).below (unhide k3)).below (GrownW.prop _)) hmB)))) | quiet_step ((first
    | (go_at_call 50; exact Calls.grows (refMay_yes _ A _ (((unhide HA).below (unhide k3)).below (GrownW.prop _)) hmA))
    | (go_at_call 50; exact Calls.grows (refMay_yes _ B _ (((unhide HB).below (unhide k3)).below (GrownW.prop _)) hmB)))))
  refine wpQuiet_nil ?_
  intro gw hw'
  have gb := grown_below hw'
  clear hw'
  clear g0 g1 g3 c0 c1 c3
  have r2 := (gb.block _ (by omega)).trans (unhide k2)
  have c2 := cell_of_one r2
  have f2 := free_of_one r2
  have HB1 := hide (bt (unhide k3) gb)
  clear gb
  go_wp2
  have cr := cell_of_one (one_setCell (u := .slice none 0 0) r2)
  exact bodyPost_ret (v := .tuple #[.agg #[.slice none 0 0], .int .i64 300]) (by simp [results, Tryd.results30, go_sem, cr]) rfl ⟨rfl, (unhide HB1).setCell (by show _ ≤ w.heap.size + 1 + 1; omega) _⟩
end Go.Proofs.YtfeepmjkamdldaaDoor
