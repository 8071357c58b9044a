/- Package matrix's Mul, Pick, Identity, May: what they answer. -/
import Derived.Test.YtfeepmjkamdldaaDoorMatWalk4
import Derived.Test.YtfeepmjkamdldaaDoorMatFun
namespace Go.Proofs.YtfeepmjkamdldaaDoor
open Go.RowKit
set_option linter.unusedVariables false
set_option linter.unusedSimpArgs false
theorem enters_it {P : Program} {f : FuncId} {fn : Func} {c : Code} (hf : P.funcs[f]? = some fn) (hname : (fn.name == "runtime.NumGoroutine") = false) (hb : fn.body = some c) : ∀ (args : Array Value) (w : World), (callFunc f args).run P w = .ok (.enter f args) w := by
  intro args w
  have h1 : fn.name ≠ "runtime.NumGoroutine" := by simpa using hname
  simp [callFunc, hf, h1, hb, mark]
theorem idAt_matF (k : Nat) : matF k k idAt = idM k := by
  unfold matF idM idAt
  apply List.map_congr_left
  intro r hr
  apply List.map_congr_left
  intro c hc
  split <;> rfl
set_option maxRecDepth 100000 in
set_option maxHeartbeats 1000000 in
theorem matIdentity_no (k : Int) (w : World) (h : k < 1 ∨ 12 < k) : Calls Tryd.prog 19 #[.int .i64 k] w fun e w' => e = .returned (.tuple #[.agg #[.slice none 0 0], .int .i64 300]) ∧ Below w.heap.size w w' := by
  have H := hide h
  clear h
  go_enter Tryd.func19, Tryd.ntmps19
  go_wp2_with (go_at_call 40; refine (isCount_no _ _ (unhide H)).mono ?_; rintro e w' ⟨rfl, rfl⟩)
  exact bodyPost_ret (v := .tuple #[.agg #[.slice none 0 0], .int .i64 300]) (by simp [results, Tryd.results19, go_sem]) rfl ⟨rfl, by go_grown⟩
set_option maxRecDepth 100000 in
set_option maxHeartbeats 1000000 in
theorem matIdentity_yes (k : Nat) (w : World) (h1 : 1 ≤ k) (h2 : k ≤ 12) : Calls Tryd.prog 19 #[.int .i64 k] w fun e w' => ∃ u, e = .returned (.tuple #[.agg #[u], .int .i64 0]) ∧ OwnM w' (w.heap.size + 1) 38 3 u (idM k) ∧ Below w.heap.size w w' := by
  have h1' : (1 : Int) ≤ k := by omega
  have h2' : (k : Int) ≤ 12 := by omega
  go_enter Tryd.func19, Tryd.ntmps19
  go_wp2_with (go_at_call 40; refine (isCount_yes _ _ h1' h2').mono ?_; rintro e w' ⟨rfl, rfl⟩)
  refine (fill_any k k 41 #[] idAt _ h1 h2 h1 h2 (enters_it Tryd.func41 (by kernel_rfl) rfl) (fun r c W hr hc _ => by simpa using idAt_any r c W (by omega) (by omega))).mono ?_
  rintro e w1 ⟨u, rfl, hO, hb1⟩
  have hs : (w.alloc (.cells #[.slice none 0 0] 26)).heap.size = w.heap.size + 1 := by simp
  rw [hs] at hO hb1
  rw [idAt_matF] at hO
  obtain ⟨p, n, c, rfl, hn⟩ := hO.form
  clear hn
  have hH : w1.heap[w.heap.size]? = some (.cells #[.slice none 0 0] 26 (0, 0)) := (hb1.block _ (by omega)).trans (heap_alloc_new w _)
  have hB : Below w.heap.size w w1 := (below_alloc w _).trans (hb1.mono (by omega))
  have c0 := cell_of_one hH
  have f0 := free_of_one hH
  have HO := hide hO
  have HB := hide hB
  have HH := hide hH
  clear hO hB hH hb1
  go_wp2
  have cr := cell_of_one (one_setCell (u := .slice p n c) (unhide HH))
  exact bodyPost_ret (v := .tuple #[.agg #[.slice p n c], .int .i64 0]) (by simp [results, Tryd.results19, go_sem, cr]) rfl ⟨_, rfl, (unhide HO).setBelow (by show w.heap.size < _; omega) _, (unhide HB).setCell (Nat.le_refl _) _⟩
attribute [local go_sem ↓] Go.wp_at_zero Go.wp_at_succ
set_option maxRecDepth 100000 in
set_option maxHeartbeats 4000000 in
theorem matMul_noA (pa pb : Option Addr) (na ca nb cb : Nat) (A B : List (List Int)) (w : World) (ha : MatV w (.agg #[.slice pa na ca]) A) (hb : MatV w (.agg #[.slice pb nb cb]) B) (hmA : ¬ MMay A) :
    Calls Tryd.prog 46 #[.agg #[.slice pa na ca], .agg #[.slice pb nb cb]] w fun e w' => e = .returned (.tuple #[.agg #[.slice none 0 0], .int .i64 300]) ∧ Below w.heap.size w w' := by
  have HA := hide ha
  have HB := hide hb
  clear ha hb
  go_enter Tryd.func46, Tryd.ntmps46
  go_wp2_with fail
  have k0 := hide (three_old w (.cells #[.slice pa na ca] 26) (.cells #[.slice pb nb cb] 26) (.cells #[.slice none 0 0] 26))
  have k1 := hide (three_mid w (.cells #[.slice pa na ca] 26) (.cells #[.slice pb nb cb] 26) (.cells #[.slice none 0 0] 26))
  have k2 := hide (three_new w (.cells #[.slice pa na ca] 26) (.cells #[.slice pb nb cb] 26) (.cells #[.slice none 0 0] 26))
  have k3 : Hid (Below w.heap.size w (((w.alloc (.cells #[.slice pa na ca] 26)).alloc (.cells #[.slice pb nb cb] 26)).alloc (.cells #[.slice none 0 0] 26))) := hide (by go_grown)
  have k4 : (((w.alloc (.cells #[.slice pa na ca] 26)).alloc (.cells #[.slice pb nb cb] 26)).alloc (.cells #[.slice none 0 0] 26)).heap.size = w.heap.size + 3 := by simp
  generalize (((w.alloc (.cells #[.slice pa na ca] 26)).alloc (.cells #[.slice pb nb cb] 26)).alloc (.cells #[.slice none 0 0] 26)) = W at k0 k1 k2 k3 k4 ⊢
  have c0 := cell_of_one (unhide k0)
  have c1 := cell_of_one (unhide k1)
  have g0 := grown_cell c0
  have g1 := grown_cell c1
  refine wp_region_grows (by kernel_rfl) (by kernel_rfl) ?_
  repeat (first | go_big_quiet_step ((go_at_call 33; exact Calls.grows (matMay_no _ A _ (((unhide HA).below (unhide k3)).below (GrownW.prop _)) hmA))) | quiet_step ((go_at_call 33; exact Calls.grows (matMay_no _ A _ (((unhide HA).below (unhide k3)).below (GrownW.prop _)) hmA))))
  refine wpQuiet_nil ?_
  intro gw hw'
  have gb := grown_below hw'
  clear hw'
  clear g0 g1 c0 c1
  have r2 := (gb.block _ (by omega)).trans (unhide k2)
  have c2 := cell_of_one r2
  have f2 := free_of_one r2
  have HB1 := hide (bt (unhide k3) gb)
  clear gb
  go_wp2
  have cr := cell_of_one (one_setCell (u := .slice none 0 0) r2)
  exact bodyPost_ret (v := .tuple #[.agg #[.slice none 0 0], .int .i64 300]) (by simp [results, Tryd.results46, go_sem, cr]) rfl ⟨rfl, (unhide HB1).setCell (by show _ ≤ w.heap.size + 1 + 1; omega) _⟩
set_option maxRecDepth 100000 in
set_option maxHeartbeats 4000000 in
theorem matMul_noB (pa pb : Option Addr) (na ca nb cb : Nat) (A B : List (List Int)) (w : World) (ha : MatV w (.agg #[.slice pa na ca]) A) (hb : MatV w (.agg #[.slice pb nb cb]) B) (hmA : MMay A) (hmB : ¬ MMay B) :
    Calls Tryd.prog 46 #[.agg #[.slice pa na ca], .agg #[.slice pb nb cb]] w fun e w' => e = .returned (.tuple #[.agg #[.slice none 0 0], .int .i64 300]) ∧ Below w.heap.size w w' := by
  have HA := hide ha
  have HB := hide hb
  clear ha hb
  go_enter Tryd.func46, Tryd.ntmps46
  go_wp2_with fail
  have k0 := hide (three_old w (.cells #[.slice pa na ca] 26) (.cells #[.slice pb nb cb] 26) (.cells #[.slice none 0 0] 26))
  have k1 := hide (three_mid w (.cells #[.slice pa na ca] 26) (.cells #[.slice pb nb cb] 26) (.cells #[.slice none 0 0] 26))
  have k2 := hide (three_new w (.cells #[.slice pa na ca] 26) (.cells #[.slice pb nb cb] 26) (.cells #[.slice none 0 0] 26))
  have k3 : Hid (Below w.heap.size w (((w.alloc (.cells #[.slice pa na ca] 26)).alloc (.cells #[.slice pb nb cb] 26)).alloc (.cells #[.slice none 0 0] 26))) := hide (by go_grown)
  have k4 : (((w.alloc (.cells #[.slice pa na ca] 26)).alloc (.cells #[.slice pb nb cb] 26)).alloc (.cells #[.slice none 0 0] 26)).heap.size = w.heap.size + 3 := by simp
  generalize (((w.alloc (.cells #[.slice pa na ca] 26)).alloc (.cells #[.slice pb nb cb] 26)).alloc (.cells #[.slice none 0 0] 26)) = W at k0 k1 k2 k3 k4 ⊢
  have c0 := cell_of_one (unhide k0)
  have c1 := cell_of_one (unhide k1)
  have g0 := grown_cell c0
  have g1 := grown_cell c1
  refine wp_region_grows (by kernel_rfl) (by kernel_rfl) ?_
  repeat (first | go_big_quiet_step ((first
    | (go_at_call 33; exact Calls.grows (matMay_yes _ A _ (((unhide HA).below (unhide k3)).below (GrownW.prop _)) hmA))
    | (go_at_call 33; exact Calls.grows (matMay_no _ B _ (((unhide HB).below (unhide k3)).below (GrownW.prop _)) hmB)))) | quiet_step ((first
    | (go_at_call 33; exact Calls.grows (matMay_yes _ A _ (((unhide HA).below (unhide k3)).below (GrownW.prop _)) hmA))
    | (go_at_call 33; exact Calls.grows (matMay_no _ B _ (((unhide HB).below (unhide k3)).below (GrownW.prop _)) hmB)))))
  refine wpQuiet_nil ?_
  intro gw hw'
  have gb := grown_below hw'
  clear hw'
  clear g0 g1 c0 c1
  have r2 := (gb.block _ (by omega)).trans (unhide k2)
  have c2 := cell_of_one r2
  have f2 := free_of_one r2
  have HB1 := hide (bt (unhide k3) gb)
  clear gb
  go_wp2
  have cr := cell_of_one (one_setCell (u := .slice none 0 0) r2)
  exact bodyPost_ret (v := .tuple #[.agg #[.slice none 0 0], .int .i64 300]) (by simp [results, Tryd.results46, go_sem, cr]) rfl ⟨rfl, (unhide HB1).setCell (by show _ ≤ w.heap.size + 1 + 1; omega) _⟩
set_option maxRecDepth 100000 in
set_option maxHeartbeats 4000000 in
theorem matMul_noLen (pa pb : Option Addr) (na ca nb cb : Nat) (A B : List (List Int)) (w : World) (ha : MatV w (.agg #[.slice pa na ca]) A) (hb : MatV w (.agg #[.slice pb nb cb]) B) (hmA : MMay A) (hmB : MMay B) (hne : (A.getD 0 []).length ≠ B.length) :
    Calls Tryd.prog 46 #[.agg #[.slice pa na ca], .agg #[.slice pb nb cb]] w fun e w' => e = .returned (.tuple #[.agg #[.slice none 0 0], .int .i64 300]) ∧ Below w.heap.size w w' := by
  obtain ⟨ba, oa, rfl, na1, x0, m0, q0, hrow0, em0, hna, hm0, hnb, hlA, hlB⟩ : ∃ ba oa, pa = some ⟨ba, oa, none⟩ ∧ 1 ≤ na ∧ ∃ x0 m0 q0, w.cell? ⟨ba, oa, none⟩ = some (.slice x0 m0 q0) ∧ (A.getD 0 []).length = m0 ∧ na ≤ 12 ∧ m0 ≤ 12 ∧ nb ≤ 12 ∧ A.length = na ∧ B.length = nb := mul_open ha hb hmA hmB
  have HA := hide ha
  have HB := hide hb
  clear ha hb
  go_enter Tryd.func46, Tryd.ntmps46
  go_wp2_with fail
  have k0 := hide (three_old w (.cells #[.slice (some ⟨ba, oa, none⟩) na ca] 26) (.cells #[.slice pb nb cb] 26) (.cells #[.slice none 0 0] 26))
  have k1 := hide (three_mid w (.cells #[.slice (some ⟨ba, oa, none⟩) na ca] 26) (.cells #[.slice pb nb cb] 26) (.cells #[.slice none 0 0] 26))
  have k2 := hide (three_new w (.cells #[.slice (some ⟨ba, oa, none⟩) na ca] 26) (.cells #[.slice pb nb cb] 26) (.cells #[.slice none 0 0] 26))
  have k3 : Hid (Below w.heap.size w (((w.alloc (.cells #[.slice (some ⟨ba, oa, none⟩) na ca] 26)).alloc (.cells #[.slice pb nb cb] 26)).alloc (.cells #[.slice none 0 0] 26))) := hide (by go_grown)
  have k4 : (((w.alloc (.cells #[.slice (some ⟨ba, oa, none⟩) na ca] 26)).alloc (.cells #[.slice pb nb cb] 26)).alloc (.cells #[.slice none 0 0] 26)).heap.size = w.heap.size + 3 := by simp
  generalize (((w.alloc (.cells #[.slice (some ⟨ba, oa, none⟩) na ca] 26)).alloc (.cells #[.slice pb nb cb] 26)).alloc (.cells #[.slice none 0 0] 26)) = W at k0 k1 k2 k3 k4 ⊢
  have c0 := cell_of_one (unhide k0)
  have c1 := cell_of_one (unhide k1)
  have c3 := ((unhide k3).cell (cell_lt hrow0)).trans hrow0
  have p1 : (0 : Int) < na := by omega
  have t1 : ((m0 : Int) != (nb : Int)) = true := by simp; omega
  have g3 := grown_cell c3
  have g0 := grown_cell c0
  have g1 := grown_cell c1
  refine wp_region_grows (by kernel_rfl) (by kernel_rfl) ?_
  repeat (first | go_big_quiet_step ((first
    | (go_at_call 33; exact Calls.grows (matMay_yes _ A _ (((unhide HA).below (unhide k3)).below (GrownW.prop _)) hmA))
    | (go_at_call 33; exact Calls.grows (matMay_yes _ B _ (((unhide HB).below (unhide k3)).below (GrownW.prop _)) hmB)))) | quiet_step ((first
    | (go_at_call 33; exact Calls.grows (matMay_yes _ A _ (((unhide HA).below (unhide k3)).below (GrownW.prop _)) hmA))
    | (go_at_call 33; exact Calls.grows (matMay_yes _ B _ (((unhide HB).below (unhide k3)).below (GrownW.prop _)) hmB)))))
  refine wpQuiet_nil ?_
  intro gw hw'
  have gb := grown_below hw'
  clear hw'
  clear g0 g1 g3 c0 c1 c3
  have r2 := (gb.block _ (by omega)).trans (unhide k2)
  have c2 := cell_of_one r2
  have f2 := free_of_one r2
  have HB1 := hide (bt (unhide k3) gb)
  clear gb
  go_wp2
  have cr := cell_of_one (one_setCell (u := .slice none 0 0) r2)
  exact bodyPost_ret (v := .tuple #[.agg #[.slice none 0 0], .int .i64 300]) (by simp [results, Tryd.results46, go_sem, cr]) rfl ⟨rfl, (unhide HB1).setCell (by show _ ≤ w.heap.size + 1 + 1; omega) _⟩
set_option maxRecDepth 100000 in
set_option maxHeartbeats 4000000 in
theorem matMul_yes (pa pb : Option Addr) (na ca nb cb : Nat) (A B : List (List Int)) (w : World) (ha : MatV w (.agg #[.slice pa na ca]) A) (hb : MatV w (.agg #[.slice pb nb cb]) B) (hmA : MMay A) (hmB : MMay B) (hlen : (A.getD 0 []).length = B.length) :
    Calls Tryd.prog 46 #[.agg #[.slice pa na ca], .agg #[.slice pb nb cb]] w fun e w' => ∃ u, e = .returned (.tuple #[.agg #[u], .int .i64 0]) ∧ OwnM w' w.heap.size 38 3 u (mulM A B) ∧ Below w.heap.size w w' := by
  obtain ⟨hlA, nA1, nA2, kA, b1, o1, ekA, kA1, kA2, rfl, hrA⟩ := mat_at ha hmA
  obtain ⟨hlB, nB1, nB2, kB, b2, o2, ekB, kB1, kB2, rfl, hrB⟩ := mat_at hb hmB
  obtain ⟨gA, ogA, capA, dA, _⟩ := hrA 0 nA1
  obtain ⟨gB, ogB, capB, dB, _⟩ := hrB 0 nB1
  have hkA : kA = nb := by omega
  subst hkA
  have HA := hide ha
  have HB := hide hb
  have HMA := hide hmA
  have HMB := hide hmB
  have HL := hide hlen
  have HLA := hide hlA
  have HLB := hide hlB
  have HEB := hide ekB
  clear ha hb hrA hrB hmA hmB hlen hlA hlB ekA ekB
  rw [Nat.add_zero] at dA dB
  go_enter Tryd.func46, Tryd.ntmps46
  go_wp2_with fail
  have k0 := hide (three_old w (.cells #[.slice (some ⟨b1, o1, none⟩) na ca] 26) (.cells #[.slice (some ⟨b2, o2, none⟩) kA cb] 26) (.cells #[.slice none 0 0] 26))
  have k1 := hide (three_mid w (.cells #[.slice (some ⟨b1, o1, none⟩) na ca] 26) (.cells #[.slice (some ⟨b2, o2, none⟩) kA cb] 26) (.cells #[.slice none 0 0] 26))
  have k2 := hide (three_new w (.cells #[.slice (some ⟨b1, o1, none⟩) na ca] 26) (.cells #[.slice (some ⟨b2, o2, none⟩) kA cb] 26) (.cells #[.slice none 0 0] 26))
  have k3 : Hid (Below w.heap.size w (((w.alloc (.cells #[.slice (some ⟨b1, o1, none⟩) na ca] 26)).alloc (.cells #[.slice (some ⟨b2, o2, none⟩) kA cb] 26)).alloc (.cells #[.slice none 0 0] 26))) := hide (by go_grown)
  have k4 : (((w.alloc (.cells #[.slice (some ⟨b1, o1, none⟩) na ca] 26)).alloc (.cells #[.slice (some ⟨b2, o2, none⟩) kA cb] 26)).alloc (.cells #[.slice none 0 0] 26)).heap.size = w.heap.size + 3 := by simp
  generalize (((w.alloc (.cells #[.slice (some ⟨b1, o1, none⟩) na ca] 26)).alloc (.cells #[.slice (some ⟨b2, o2, none⟩) kA cb] 26)).alloc (.cells #[.slice none 0 0] 26)) = W at k0 k1 k2 k3 k4 ⊢
  have c0 := cell_of_one (unhide k0)
  have c1 := cell_of_one (unhide k1)
  have lA := cell_lt dA
  have lB := cell_lt dB
  have dA := ((unhide k3).cell lA).trans dA
  have dB := ((unhide k3).cell lB).trans dB
  have p1 : (0 : Int) < na := by omega
  have p2 : (0 : Int) < kA := by omega
  have p2n : 0 < kA := by omega
  have p2z : ¬ kA = 0 := by omega
  have t1 : ((kA : Int) != (kA : Int)) = false := by simp
  have g3 := grown_cell dA
  have g0 := grown_cell c0
  have g1 := grown_cell c1
  refine wp_region_grows (by kernel_rfl) (by kernel_rfl) ?_
  repeat (first | go_big_quiet_step ((first
    | (go_at_call 33; exact Calls.grows (matMay_yes _ A _ (((unhide HA).below (unhide k3)).below (GrownW.prop _)) (unhide HMA)))
    | (go_at_call 33; exact Calls.grows (matMay_yes _ B _ (((unhide HB).below (unhide k3)).below (GrownW.prop _)) (unhide HMB))))) | quiet_step ((first
    | (go_at_call 33; exact Calls.grows (matMay_yes _ A _ (((unhide HA).below (unhide k3)).below (GrownW.prop _)) (unhide HMA)))
    | (go_at_call 33; exact Calls.grows (matMay_yes _ B _ (((unhide HB).below (unhide k3)).below (GrownW.prop _)) (unhide HMB))))))
  refine wpQuiet_nil ?_
  intro gw hw'
  have gb := grown_below hw'
  clear hw'
  clear g0 g1 g3
  have hA := hide (((unhide HA).below (unhide k3)).below gb)
  have hB := hide (((unhide HB).below (unhide k3)).below gb)
  have r0 := (gb.block _ (by omega)).trans (unhide k0)
  have r1 := (gb.block _ (by omega)).trans (unhide k1)
  have r2 := (gb.block _ (by omega)).trans (unhide k2)
  have dB := (gb.cell (cell_lt dB)).trans dB
  have hs := gb.size
  have HB1 := hide (bt (unhide k3) gb)
  clear c0 c1 gb dA
  have c0 := cell_of_one r0
  have c1 := cell_of_one r1
  have R0 := hide r0
  have R1 := hide r1
  have R2 := hide r2
  clear r0 r1 r2
  have g0 := kept_cell (B := w.heap.size + 2) c0 (by show w.heap.size < _; omega)
  have g1 := kept_cell (B := w.heap.size + 2) c1 (by show w.heap.size + 1 < _; omega)
  have g3 := kept_cell (B := w.heap.size + 2) dB (by show b2 < _; have : b2 < w.heap.size := lB; omega)
  clear c0 c1 dB
  go_wp2
  refine wp_region_ord_then (S := Below (w.heap.size + 2) gw) [(true, 0), (true, 1), (true, 2), (true, 3), (true, 4), (true, 5), (true, 6), (true, 7), (false, 8), (false, 9), (false, 10)] (List.cons_ne_nil _ _) (by kernel_rfl) (by kernel_rfl) (by kernel_rfl) (by kernel_rfl) (by kernel_rfl) ((Below.refl _ _).drew) ?_
  simp only [List.dropLast_cons_cons, List.dropLast_singleton, List.getLast_cons_cons, List.getLast_singleton, withOps, List.map_cons, List.map_nil, List.getElem?_cons_succ, List.getElem?_cons_zero]
  repeat (refine walkH_read (by rfl) (by (intro gx; go_simp; try (with_reducible rfl))) ?_; try simp only [Act.put, List.setIfInBounds_toArray, List.set_cons_zero, List.set_cons_succ])
  refine walkH_do rfl (fun K hK => ?_)
  go_simp
  refine hK _ _ ((Below.refl _ _).drew) ?_
  clear hK K
  try simp only [Act.put, List.setIfInBounds_toArray, List.set_cons_zero, List.set_cons_succ]
  refine walkH_do rfl (fun K hK => ?_)
  go_simp
  refine (fill_any na kB 64 _ (fun r c => dot A B r c B.length) gw.drew nA1 nA2 kB1 kB2 (enters_it Tryd.func64 (by kernel_rfl) rfl) (fun r c V hr hc hV => by
    have hV' : Below gw.heap.size gw V := ((Below.refl _ _).drew).trans hV
    have e0 := (hV'.block _ (by omega)).trans (unhide R0)
    have e1 := (hV'.block _ (by omega)).trans (unhide R1)
    simpa using mulAt_any r c w.heap.size (w.heap.size + 1) _ _ na ca kA cb A B V (cell_of_one e0) (cell_of_one e1) ((unhide hA).below hV') ((unhide hB).below hV') (unhide HMA) (unhide HMB) (unhide HL) (by rw [unhide HLA]; exact hr) (by rw [unhide HEB]; exact hc))).mono ?_
  rintro e w4 ⟨u, rfl, hO, hb4⟩
  have hb4' : Below gw.heap.size gw w4 := ((Below.refl _ _).drew).trans hb4
  refine hK _ _ (hb4'.mono (by omega)) ?_
  clear hK K
  try simp only [Act.put, List.setIfInBounds_toArray, List.set_cons_zero, List.set_cons_succ]
  obtain ⟨p, n, c, rfl, hn⟩ := hO.form
  have eM : matF na kB (fun r c => dot A B r c B.length) = mulM A B := by unfold mulM; rw [unhide HLA, unhide HEB]
  rw [eM] at hO
  have r2 := (hb4'.block _ (by omega)).trans (unhide R2)
  have hs0 : gw.drew.heap.size = gw.heap.size := rfl
  rw [hs0] at hO
  have HO := hide hO
  have H4 := hide hb4'
  have c2 := cell_of_one r2
  have f2 := free_of_one r2
  have R4 := hide r2
  clear hO hb4 hb4' hn eM r2
  refine walkH_do rfl (fun K hK => ?_)
  go_simp
  refine hK _ _ (((unhide H4).mono (by omega)).setCell (by show _ ≤ w.heap.size + 1 + 1; omega) _) ?_
  clear hK K
  try simp only [Act.put, List.setIfInBounds_toArray, List.set_cons_zero, List.set_cons_succ]
  refine lastPost_of_list ?_
  simp only [List.cons_append, List.nil_append]
  go_wp2
  refine NoPanic.normal ?_
  go_wp2
  have cr := cell_of_one (one_setCell (u := .slice p n c) (unhide R4))
  exact bodyPost_ret (v := .tuple #[.agg #[.slice p n c], .int .i64 0]) (by simp [results, Tryd.results46, go_sem, cr]) rfl ⟨_, rfl, ((unhide HO).setBelow (by show w.heap.size + 1 + 1 < _; omega) _).mono (by omega), ((bt (unhide HB1) (unhide H4))).setCell (by show _ ≤ w.heap.size + 1 + 1; omega) _⟩
end Go.Proofs.YtfeepmjkamdldaaDoor
