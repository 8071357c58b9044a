/- The document's own choice of rows (ossuaryref1.Pick): a contract. -/
import Derived.Test.YtpkofmpghhaobaaRefMat5
namespace Go.Proofs.Ytpkofmpghhaobaa
open Go.RowKit
set_option linter.unusedVariables false
set_option linter.unusedSimpArgs false
/-- may these rows be picked? -/
def PickMay (M : List (List Int)) (rs : List Int) : Prop := MMay M ∧ 1 ≤ rs.length ∧ rs.length ≤ 12 ∧ ∀ i, i < rs.length → 0 ≤ rs.getD i 0 ∧ rs.getD i 0 < M.length
def pickM (M : List (List Int)) (rs : List Int) : List (List Int) := rs.map fun r => M.getD r.toNat []
theorem mat_rows {p : Option Addr} {n c : Nat} {M : List (List Int)} {w : World} (h : MatV w (.agg #[.slice p n c]) M) (hm : MMay M) :
    M.length = n ∧ 1 ≤ n ∧ n ≤ 12 ∧ ∃ b o, p = some ⟨b, o, none⟩ ∧ ∀ i, i < n → ∃ u, w.cell? ⟨b, o + i, none⟩ = some u ∧ RowV w u (M.getD i []) := by
  obtain ⟨a, n', c', e, R⟩ := h
  simp only [Value.agg.injEq, Array.mk.injEq, List.cons.injEq, Value.slice.injEq, and_true] at e
  obtain ⟨rfl, rfl, rfl⟩ := e
  have hl : M.length = n := by obtain ⟨_, h, _⟩ := R; exact h
  have h1 := hm.1
  have h2 := hm.2.1
  refine ⟨hl, by omega, by omega, ?_⟩
  rcases R.two with h0 | ⟨b, off, rfl, hc⟩
  · omega
  · exact ⟨b, off, rfl, hc⟩
theorem mrow_le {M : List (List Int)} (hm : MMay M) (i : Nat) : (M.getD i []).length ≤ 12 := by
  by_cases h : i < M.length
  · rw [(hm.2.2.2.2 i h).1]; exact hm.2.2.2.1
  · simp [List.getD, List.getElem?_eq_none (Nat.le_of_not_lt h)]
theorem pick_snoc (M : List (List Int)) (rs : List Int) (k : Nat) (h : k < rs.length) : pickM M (rs.take (k + 1)) = pickM M (rs.take k) ++ [M.getD (rs.getD k 0).toNat []] := by
  unfold pickM
  rw [List.take_succ_eq_append_getElem h, List.map_append]
  simp [List.getD, List.getElem?_eq_getElem h]
attribute [local go_sem ↓] Go.wp_at_zero Go.wp_at_succ
set_option maxRecDepth 100000 in
set_option maxHeartbeats 4000000 in
theorem refPick_noM (pa pr : Option Addr) (na ca n cap : Nat) (M : List (List Int)) (w : World) (ha : MatV w (.agg #[.slice pa na ca]) M) (hm : ¬ MMay M) :
    Calls Try.prog 11 #[.agg #[.slice pa na ca], .slice pr n cap] w fun e w' => e = .returned (.tuple #[.agg #[.slice none 0 0], .int .i64 300]) ∧ Below w.heap.size w w' := by
  have HA := hide ha
  clear ha
  go_enter Try.func11, Try.ntmps11
  go_wp2_with fail
  have k0 := hide (two_old w (.cells #[.slice pa na ca] 24) (.cells #[.slice none 0 0] 24))
  have k2 := hide (two_new w (.cells #[.slice pa na ca] 24) (.cells #[.slice none 0 0] 24))
  have k3 : Hid (Below w.heap.size w ((w.alloc (.cells #[.slice pa na ca] 24)).alloc (.cells #[.slice none 0 0] 24))) := hide (by go_grown)
  have k4 : ((w.alloc (.cells #[.slice pa na ca] 24)).alloc (.cells #[.slice none 0 0] 24)).heap.size = w.heap.size + 2 := by simp
  generalize ((w.alloc (.cells #[.slice pa na ca] 24)).alloc (.cells #[.slice none 0 0] 24)) = W at k0 k2 k3 k4 ⊢
  have c0 := cell_of_one (unhide k0)
  refine (refMay_no _ M _ ((unhide HA).below (unhide k3)) hm).mono ?_
  rintro e gw ⟨rfl, gb⟩
  have r2 := (gb.block _ (by omega)).trans (unhide k2)
  have c2 := cell_of_one r2
  have f2 := free_of_one r2
  have HB1 := hide (bt (unhide k3) gb)
  clear gb c0
  go_wp2
  have cr := cell_of_one (one_setCell (u := .slice none 0 0) r2)
  exact bodyPost_ret (v := .tuple #[.agg #[.slice none 0 0], .int .i64 300]) (by simp [results, Try.results11, go_sem, cr]) rfl ⟨rfl, (unhide HB1).setCell (by show _ ≤ w.heap.size + 1; omega) _⟩
set_option maxRecDepth 100000 in
set_option maxHeartbeats 4000000 in
theorem refPick_len (pa pr : Option Addr) (na ca n cap : Nat) (M : List (List Int)) (w : World) (ha : MatV w (.agg #[.slice pa na ca]) M) (hm : MMay M) (hn : n < 1 ∨ 12 < n) :
    Calls Try.prog 11 #[.agg #[.slice pa na ca], .slice pr n cap] w fun e w' => e = .returned (.tuple #[.agg #[.slice none 0 0], .int .i64 300]) ∧ Below w.heap.size w w' := by
  have HA := hide ha
  clear ha
  go_enter Try.func11, Try.ntmps11
  go_wp2_with fail
  have k0 := hide (two_old w (.cells #[.slice pa na ca] 24) (.cells #[.slice none 0 0] 24))
  have k2 := hide (two_new w (.cells #[.slice pa na ca] 24) (.cells #[.slice none 0 0] 24))
  have k3 : Hid (Below w.heap.size w ((w.alloc (.cells #[.slice pa na ca] 24)).alloc (.cells #[.slice none 0 0] 24))) := hide (by go_grown)
  have k4 : ((w.alloc (.cells #[.slice pa na ca] 24)).alloc (.cells #[.slice none 0 0] 24)).heap.size = w.heap.size + 2 := by simp
  generalize ((w.alloc (.cells #[.slice pa na ca] 24)).alloc (.cells #[.slice none 0 0] 24)) = W at k0 k2 k3 k4 ⊢
  have c0 := cell_of_one (unhide k0)
  refine (refMay_yes _ M _ ((unhide HA).below (unhide k3)) hm).mono ?_
  rintro e gw ⟨rfl, gb⟩
  have r2 := (gb.block _ (by omega)).trans (unhide k2)
  have c2 := cell_of_one r2
  have f2 := free_of_one r2
  have HB1 := hide (bt (unhide k3) gb)
  clear gb c0
  rcases hn with hn | hn
  · have h1 : (n : Int) < 1 := by omega
    go_wp2
    have cr := cell_of_one (one_setCell (u := .slice none 0 0) r2)
    exact bodyPost_ret (v := .tuple #[.agg #[.slice none 0 0], .int .i64 300]) (by simp [results, Try.results11, go_sem, cr]) rfl ⟨rfl, (unhide HB1).setCell (by show _ ≤ w.heap.size + 1; omega) _⟩
  · have h1 : ¬ (n : Int) < 1 := by omega
    have h2 : (12 : Int) < n := by omega
    go_wp2
    have cr := cell_of_one (one_setCell (u := .slice none 0 0) r2)
    exact bodyPost_ret (v := .tuple #[.agg #[.slice none 0 0], .int .i64 300]) (by simp [results, Try.results11, go_sem, cr]) rfl ⟨rfl, (unhide HB1).setCell (by show _ ≤ w.heap.size + 1; omega) _⟩
end Go.Proofs.Ytpkofmpghhaobaa
