/- The document's own Invert (ossuaryref1): matrices that have none by their form. -/
import Derived.Test.YtfeepmjkamdldaaDoorInvRef2
namespace Go.Proofs.YtfeepmjkamdldaaDoor
open Go.RowKit
set_option linter.unusedVariables false
set_option linter.unusedSimpArgs false
set_option maxRecDepth 100000 in
set_option maxHeartbeats 2000000 in
theorem refInvert_noMay (pm : Option Addr) (nm cm : Nat) (M : List (List Int)) (w : World) (hm : MatV w (.agg #[.slice pm nm cm]) M) (hno : ¬ MMay M) :
    Calls Tryd.prog 29 #[.agg #[.slice pm nm cm]] w fun e w' => e = .returned (.tuple #[.agg #[.slice none 0 0], .int .i64 400]) ∧ Below w.heap.size w w' := by
  have HM := hide hm
  clear hm
  go_enter Tryd.func29, Tryd.ntmps29
  go_wp2_with fail
  have k0 := hide (two_old w (.cells #[.slice pm nm cm] 26) (.cells #[.slice none 0 0] 26))
  have k2 := hide (two_new w (.cells #[.slice pm nm cm] 26) (.cells #[.slice none 0 0] 26))
  have k3 : Hid (Below w.heap.size w ((w.alloc (.cells #[.slice pm nm cm] 26)).alloc (.cells #[.slice none 0 0] 26))) := hide (by go_grown)
  have k4 : ((w.alloc (.cells #[.slice pm nm cm] 26)).alloc (.cells #[.slice none 0 0] 26)).heap.size = w.heap.size + 2 := by simp
  generalize ((w.alloc (.cells #[.slice pm nm cm] 26)).alloc (.cells #[.slice none 0 0] 26)) = W at k0 k2 k3 k4 ⊢
  have g0 := grown_cell (cell_of_one (unhide k0))
  refine wp_region_grows (by kernel_rfl) (by kernel_rfl) ?_
  repeat (first | go_big_quiet_step ((go_at_call 50; exact Calls.grows (refMay_no _ M _ (((unhide HM).below (unhide k3)).below (GrownW.prop _)) hno))) | quiet_step ((go_at_call 50; exact Calls.grows (refMay_no _ M _ (((unhide HM).below (unhide k3)).below (GrownW.prop _)) hno))))
  refine wpQuiet_nil ?_
  intro gw hw'
  have gb := grown_below hw'
  clear hw'
  clear g0
  have r2 := (gb.block _ (by omega)).trans (unhide k2)
  have c2 := cell_of_one r2
  have f2 := free_of_one r2
  have HB1 := hide (bt (unhide k3) gb)
  clear gb
  go_wp2
  have cr := cell_of_one (one_setCell (u := .slice none 0 0) r2)
  exact bodyPost_ret (v := .tuple #[.agg #[.slice none 0 0], .int .i64 400]) (by simp [results, Tryd.results29, go_sem, cr]) rfl ⟨rfl, (unhide HB1).setCell (by show _ ≤ w.heap.size + 1; omega) _⟩
set_option maxRecDepth 100000 in
set_option maxHeartbeats 2000000 in
theorem refInvert_noSq (pm : Option Addr) (nm cm : Nat) (M : List (List Int)) (w : World) (hm : MatV w (.agg #[.slice pm nm cm]) M) (hmay : MMay M) (hno : M.length ≠ (M.getD 0 []).length) :
    Calls Tryd.prog 29 #[.agg #[.slice pm nm cm]] w fun e w' => e = .returned (.tuple #[.agg #[.slice none 0 0], .int .i64 400]) ∧ Below w.heap.size w w' := by
  obtain ⟨hl, n1, n2, k, b, o, ek, kk1, kk2, rfl, hc⟩ := mat_at hm hmay
  have HM := hide hm
  obtain ⟨g, og, q, hrow, _⟩ := hc 0 n1
  simp only [Nat.add_zero] at hrow
  have t1 : ((nm : Int) != (k : Int)) = true := by simp; omega
  have p1 : (0 : Int) < nm := by omega
  clear hm hc
  go_enter Tryd.func29, Tryd.ntmps29
  go_wp2_with fail
  have k0 := hide (two_old w (.cells #[.slice (some ⟨b, o, none⟩) nm cm] 26) (.cells #[.slice none 0 0] 26))
  have k2 := hide (two_new w (.cells #[.slice (some ⟨b, o, none⟩) nm cm] 26) (.cells #[.slice none 0 0] 26))
  have k3 : Hid (Below w.heap.size w ((w.alloc (.cells #[.slice (some ⟨b, o, none⟩) nm cm] 26)).alloc (.cells #[.slice none 0 0] 26))) := hide (by go_grown)
  have k4 : ((w.alloc (.cells #[.slice (some ⟨b, o, none⟩) nm cm] 26)).alloc (.cells #[.slice none 0 0] 26)).heap.size = w.heap.size + 2 := by simp
  generalize ((w.alloc (.cells #[.slice (some ⟨b, o, none⟩) nm cm] 26)).alloc (.cells #[.slice none 0 0] 26)) = W at k0 k2 k3 k4 ⊢
  have g0 := grown_cell (cell_of_one (unhide k0))
  have g3 := grown_cell (((unhide k3).cell (cell_lt hrow)).trans hrow)
  clear hrow
  refine wp_region_grows (by kernel_rfl) (by kernel_rfl) ?_
  repeat (first | go_big_quiet_step ((go_at_call 50; exact Calls.grows (refMay_yes _ M _ (((unhide HM).below (unhide k3)).below (GrownW.prop _)) hmay))) | quiet_step ((go_at_call 50; exact Calls.grows (refMay_yes _ M _ (((unhide HM).below (unhide k3)).below (GrownW.prop _)) hmay))))
  refine wpQuiet_nil ?_
  intro gw hw'
  have gb := grown_below hw'
  clear hw'
  clear g0 g3
  have r2 := (gb.block _ (by omega)).trans (unhide k2)
  have c2 := cell_of_one r2
  have f2 := free_of_one r2
  have HB1 := hide (bt (unhide k3) gb)
  clear gb
  go_wp2
  have cr := cell_of_one (one_setCell (u := .slice none 0 0) r2)
  exact bodyPost_ret (v := .tuple #[.agg #[.slice none 0 0], .int .i64 400]) (by simp [results, Tryd.results29, go_sem, cr]) rfl ⟨rfl, (unhide HB1).setCell (by show _ ≤ w.heap.size + 1; omega) _⟩
end Go.Proofs.YtfeepmjkamdldaaDoor
