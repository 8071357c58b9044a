/- Matrices: every call answers as the document's own; what came in stays. -/
import Derived.Test.YtpkofmpghhaobaaMatrixPicksWalk
import Derived.Test.YtpkofmpghhaobaaRegion2
namespace Go.Proofs.Ytpkofmpghhaobaa
open Go.RowKit
set_option linter.unusedVariables false
set_option linter.unusedSimpArgs false
/-- a box of a matrix that was just made -/
def BoxNew (H : Nat) (v : Value) (w : World) : Prop := ∃ g, v = .pointer (some ⟨g, 0, none⟩) ∧ H ≤ g ∧ w.heap[g]? = some (.cells #[.slice none 0 0] 24 (0, 0))
def predM (H : Nat) (va vb : Value) (A B : List (List Int)) (i : Nat) (v : Value) (w : World) : Prop :=
  match i with
  | 0 => v = va
  | 1 => ∃ u, v = .agg #[u] ∧ OwnM w H 25 3 u A
  | 2 => v = vb
  | 3 => ∃ u, v = .agg #[u] ∧ OwnM w H 25 3 u B
  | 4 => BoxNew H v w
  | 5 => BoxNew H v w
  | _ => True
theorem predM_stable (H : Nat) (va vb : Value) (A B : List (List Int)) (i : Nat) (v : Value) (w w' : World) (h : predM H va vb A B i v w) (hb : Below w.heap.size w w') : predM H va vb A B i v w' := by
  unfold predM at *
  split at h <;> try exact h
  · obtain ⟨u, e, h⟩ := h; exact ⟨u, e, h.below hb⟩
  · obtain ⟨u, e, h⟩ := h; exact ⟨u, e, h.below hb⟩
  · obtain ⟨g, e, h1, h⟩ := h; exact ⟨g, e, h1, (hb.block _ (lt_of_block h)).trans h⟩
  · obtain ⟨g, e, h1, h⟩ := h; exact ⟨g, e, h1, (hb.block _ (lt_of_block h)).trans h⟩
/-- the two boxes are two -/
def apartM (i j : Nat) (v x : Value) : Prop := (i = 4 ∧ j = 5) ∨ (i = 5 ∧ j = 4) → v ≠ x
theorem list6 {α : Type} {vs : List α} (h : vs.length = 6) : ∃ v0 v1 v2 v3 v4 v5, vs = [v0, v1, v2, v3, v4, v5] := by
  match vs, h with
  | [v0, v1, v2, v3, v4, v5], _ => exact ⟨v0, v1, v2, v3, v4, v5, rfl⟩
theorem apart_box {H : Nat} {va vb : Value} {A B : List (List Int)} {w : World} {i : Nat} (hi : i = 4 ∨ i = 5) : ∀ j x, j ≠ i → predM H va vb A B j x w → apartM i j (.pointer (some ⟨w.heap.size, 0, none⟩)) x ∧ apartM j i x (.pointer (some ⟨w.heap.size, 0, none⟩)) := by
  intro j x hji hp
  have key : (j = 4 ∨ j = 5) → x ≠ .pointer (some ⟨w.heap.size, 0, none⟩) := by
    intro hj e
    have hb : BoxNew H x w := by rcases hj with rfl | rfl <;> exact hp
    obtain ⟨g, e', _, hg⟩ := hb
    rw [e'] at e
    simp at e
    have := lt_of_block hg
    omega
  exact ⟨fun h => Ne.symm (key (by omega)), fun h => key (by omega)⟩
theorem apart_other {H : Nat} {va vb : Value} {A B : List (List Int)} {w : World} {i : Nat} {v : Value} (hi : i < 4) : ∀ j x, j ≠ i → predM H va vb A B j x w → apartM i j v x ∧ apartM j i x v :=
  fun j x _ _ => ⟨fun h => by omega, fun h => by omega⟩
theorem OwnL.ne {w : World} {B : Nat} {e X : TypeId} {v : Value} {xs : List Value} {g : Nat} {C : Array Value} {m : Nat × Nat} (h : OwnL w B e v xs) (hg : w.heap[g]? = some (.cells C X m)) (hne : X ≠ e) : v.ownBlock ≠ some g := by
  intro hv
  rcases h.2 with ⟨rfl, _⟩ | ⟨g', cap, cur, rfl, _, hh, _⟩
  · simp [Value.ownBlock] at hv
  · simp [Value.ownBlock] at hv
    subst hv
    rw [hg] at hh
    simp at hh
    exact hne hh.2.1
theorem OwnM.setBox {w : World} {B : Nat} {T E X : TypeId} {u : Value} {M : List (List Int)} {g : Nat} {C : Array Value} {m : Nat × Nat} (h : OwnM w B T E u M) (hg : w.heap[g]? = some (.cells C X m)) (h1 : X ≠ T) (h2 : X ≠ E) (v : Value) : OwnM (w.setCell ⟨g, 0, none⟩ v) B T E u M := by
  obtain ⟨us, h⟩ := h
  refine ⟨us, h.len, h.outer.keep (fun k hk => heap_set_other w g k v (fun e => h.outer.ne hg h1 (e ▸ hk))), fun j x hx => (h.row j x hx).keep (fun k hk => heap_set_other w g k v (fun e => (h.row j x hx).ne hg h2 (e ▸ hk))), h.apart⟩
theorem sizes_le {M : List (List Int)} (h : M.length * 24 ≤ 140737488351232 ∧ ∀ i, (M.getD i []).length * 8 ≤ 140737488351232) : M.length ≤ maxLen ∧ ∀ j, (M.getD j []).length ≤ maxLen := by
  unfold maxLen
  exact ⟨by have := h.1; omega, fun j => by have := h.2 j; omega⟩
theorem same_true {W : World} (x : GrownW W) {v v' : Value} {M : List (List Int)} (h : MatV W v M) (h' : MatV W v' M) : Calls Try.prog 14 #[v, v'] x.val fun e w' => e = .returned (.bool true) ∧ Below x.val.heap.size x.val w' := by
  refine (sameMatrix_any v v' M M x.val (h.below x.prop) (h'.below x.prop)).mono ?_
  rintro e w' ⟨he, hb⟩
  rw [beq_self_eq_true] at he
  exact ⟨he, hb⟩
theorem num_grows {W : World} (x : GrownW W) (n : Int) : Calls Try.prog 15 #[.int .i64 n] x.val fun e w' => e = .returned (.int .i64 n) ∧ Below x.val.heap.size x.val w' := by
  refine (num_any n x.val).mono ?_
  rintro e w' ⟨he, rfl⟩
  exact ⟨he, Below.refl _ _⟩
set_option maxRecDepth 100000 in
set_option maxHeartbeats 4000000 in
theorem Matrices_go (v0 v1 : Value) (a2 : Option Addr) (n2 c2 : Nat) (k : Int) (A B : List (List Int)) (xs : List Int) (w : World) (h0 : MatV w v0 A) (s0 : A.length * 24 ≤ 140737488351232 ∧ ∀ i, (A.getD i []).length * 8 ≤ 140737488351232) (h1 : MatV w v1 B) (s1 : B.length * 24 ≤ 140737488351232 ∧ ∀ i, (B.getD i []).length * 8 ≤ 140737488351232) (h2 : Ints w a2 n2 c2 xs) (r2 : n2 * 8 ≤ 140737488351232) :
    Calls Try.prog 3 #[v0, v1, .slice a2 n2 c2, .int .i64 k] w fun e w' => e = .returned (.bool true) ∧ Below w.heap.size w w' := by
  have MA := hide h0
  have MB := hide h1
  have MX := hide h2
  have SA := hide s0
  have SB := hide s1
  obtain ⟨pa, na, ca, rfl, Ra⟩ := h0
  obtain ⟨pb, nb, cb, rfl, Rb⟩ := h1
  clear Ra Rb h2 s0 s1
  go_enter Try.func3, Try.ntmps3
  go_wp2_with fail
  have BA := hide (two_old w (.cells #[.slice pa na ca] 24) (.cells #[.slice pb nb cb] 24))
  have BB := hide (two_new w (.cells #[.slice pa na ca] 24) (.cells #[.slice pb nb cb] 24))
  have hb0 : Below w.heap.size w ((w.alloc (.cells #[.slice pa na ca] 24)).alloc (.cells #[.slice pb nb cb] 24)) := by go_grown
  generalize ((w.alloc (.cells #[.slice pa na ca] 24)).alloc (.cells #[.slice pb nb cb] 24)) = W0 at *
  replace MA := hide ((unhide MA).below hb0)
  replace MB := hide ((unhide MB).below hb0)
  replace MX := hide ((unhide MX).below hb0)
  have HB := hide hb0
  clear hb0
  refine wp_region_last1 (List.cons_ne_nil _ _) (by kernel_rfl) (by kernel_rfl) ?_
  simp only [List.dropLast_cons_cons, List.dropLast_singleton, List.getLast_cons_cons, List.getLast_singleton]
  refine wpAny_last1 (List.cons_ne_nil _ _) (by kernel_rfl) ?_
  simp only [List.dropLast_cons_cons, List.dropLast_singleton, List.getLast_cons_cons, List.getLast_singleton]
  refine wpAny_each2 [23, 24, 25, 26, 9, 10] (predM W0.heap.size (.agg #[.slice pa na ca]) (.agg #[.slice pb nb cb]) A B) apartM rfl ?_ (by kernel_rfl) (predM_stable _ _ _ A B) ?_ ?_
  · refine ⟨[undef, undef, undef, undef, undef, undef], rfl, ?_⟩
    kernel_rfl
  · intro i o vs w' ho hlen hb hdep
    obtain ⟨x0, x1, x2, x3, x4, x5, rfl⟩ := list6 hlen
    have cA := cell_of_one ((hb.block _ (lt_of_block (unhide BA))).trans (unhide BA))
    have cB := cell_of_one ((hb.block _ (lt_of_block (unhide BB))).trans (unhide BB))
    match i with
    | 0 =>
      refine wpOp_of_list rfl ?_
      simp only [putAll]
      go_wp2
      exact ⟨.agg #[.slice pa na ca], by kernel_rfl, rfl, Below.refl _ _, apart_other (by omega)⟩
    | 1 =>
      obtain rfl : x0 = _ := hdep ⟨0, .data⟩ (by cases ho; simp) rfl
      refine wpOp_of_list rfl ?_
      simp only [putAll]
      go_wp2_with (go_at_call 7; refine (copyMatrix_any _ A _ ((unhide MA).below hb) (unhide SA).1 (unhide SA).2).mono ?_; rintro e w6 ⟨u, rfl, hO, hb6⟩)
      exact ⟨.agg #[u], by kernel_rfl, ⟨u, rfl, hO.mono hb.size⟩, hb6, apart_other (by omega)⟩
    | 2 =>
      refine wpOp_of_list rfl ?_
      simp only [putAll]
      go_wp2
      exact ⟨.agg #[.slice pb nb cb], by kernel_rfl, rfl, Below.refl _ _, apart_other (by omega)⟩
    | 3 =>
      obtain rfl : x2 = _ := hdep ⟨2, .data⟩ (by cases ho; simp) rfl
      refine wpOp_of_list rfl ?_
      simp only [putAll]
      go_wp2_with (go_at_call 7; refine (copyMatrix_any _ B _ ((unhide MB).below hb) (unhide SB).1 (unhide SB).2).mono ?_; rintro e w6 ⟨u, rfl, hO, hb6⟩)
      exact ⟨.agg #[u], by kernel_rfl, ⟨u, rfl, hO.mono hb.size⟩, hb6, apart_other (by omega)⟩
    | 4 =>
      refine wpOp_of_list rfl ?_
      simp only [putAll]
      go_wp2
      exact ⟨.pointer (some ⟨w'.heap.size, 0, none⟩), by kernel_rfl, ⟨_, rfl, hb.size, heap_alloc_new _ _⟩, below_alloc _ _, apart_box (by omega)⟩
    | 5 =>
      refine wpOp_of_list rfl ?_
      simp only [putAll]
      go_wp2
      exact ⟨.pointer (some ⟨w'.heap.size, 0, none⟩), by kernel_rfl, ⟨_, rfl, hb.size, heap_alloc_new _ _⟩, below_alloc _ _, apart_box (by omega)⟩
    | i + 6 => simp at ho
  · intro vs W1 hlen hb hp hq
    obtain ⟨x0, x1, x2, x3, x4, x5, rfl⟩ := list6 hlen
    obtain rfl : x0 = _ := hp 0 (by decide)
    obtain ⟨ux, rfl, OX⟩ : ∃ u, x1 = .agg #[u] ∧ OwnM W1 W0.heap.size 25 3 u A := hp 1 (by decide)
    obtain rfl : x2 = _ := hp 2 (by decide)
    obtain ⟨uy, rfl, OY⟩ : ∃ u, x3 = .agg #[u] ∧ OwnM W1 W0.heap.size 25 3 u B := hp 3 (by decide)
    obtain ⟨g4, rfl, hg4, hh4⟩ : BoxNew W0.heap.size x4 W1 := hp 4 (by decide)
    obtain ⟨g5, rfl, hg5, hh5⟩ : BoxNew W0.heap.size x5 W1 := hp 5 (by decide)
    have hne : g4 ≠ g5 := by
      have := hq 4 5 (by decide) (by decide) (by decide) (.inl ⟨rfl, rfl⟩)
      intro e
      subst e
      exact this rfl
    obtain ⟨px, nx, cx, rfl, ex⟩ := OX.form
    obtain ⟨py, ny, cy, rfl, ey⟩ := OY.form
    have f4 := free_of_one hh4
    have c4 := cell_of_one hh4
    have hh5' : (W1.setCell ⟨g4, 0, none⟩ (.slice px nx cx)).heap[g5]? = some (.cells #[.slice none 0 0] 24 (0, 0)) := (heap_set_other W1 g4 g5 _ (Ne.symm hne)).trans hh5
    have f5 := free_of_one hh5'
    have c5 := cell_of_one hh5'
    have BX := hide ((heap_set_other (W1.setCell ⟨g4, 0, none⟩ (.slice px nx cx)) g5 g4 (.slice py ny cy) hne).trans (one_setCell (u := .slice px nx cx) hh4))
    have BY := hide (one_setCell (u := .slice py ny cy) hh5')
    replace OX := (OX.setBox hh4 (by decide) (by decide) (.slice px nx cx)).setBox hh5' (by decide) (by decide) (.slice py ny cy)
    replace OY := (OY.setBox hh4 (by decide) (by decide) (.slice px nx cx)).setBox hh5' (by decide) (by decide) (.slice py ny cy)
    have hb1 : Below W0.heap.size W0 ((W1.setCell ⟨g4, 0, none⟩ (.slice px nx cx)).setCell ⟨g5, 0, none⟩ (.slice py ny cy)) := (hb.setCell hg4 _).setCell hg5 _
    have HOX := hide OX
    have HOY := hide OY
    have HB1 := hide hb1
    have EX := hide ex
    have EY := hide ey
    clear hp hq hh4 hh5 hh5' OX OY hb hb1 ex ey
    refine lastPost_of_list ?_
    simp only [List.cons_append, List.nil_append, putAll]
    go_wp2
    refine lastPost_of_list ?_
    simp only [List.cons_append, List.nil_append]
    go_wp2_with fail
    generalize ((W1.setCell ⟨g4, 0, none⟩ (.slice px nx cx)).setCell ⟨g5, 0, none⟩ (.slice py ny cy)) = W2 at *
    have MXX := hide ((unhide HOX).matV (sizes_le (unhide SA)))
    have MYY := hide ((unhide HOY).matV (sizes_le (unhide SB)))
    have hb1 := unhide HB1
    replace BA := hide ((hb1.block _ (lt_of_block (unhide BA))).trans (unhide BA))
    replace BB := hide ((hb1.block _ (lt_of_block (unhide BB))).trans (unhide BB))
    replace MA := hide ((unhide MA).below hb1)
    replace MB := hide ((unhide MB).below hb1)
    replace MX := hide ((unhide MX).below hb1)
    replace HB := hide (bt (unhide HB) hb1)
    clear hb1 HB1 c4 c5 f4 f5
    have ZA := BA
    have ZB := BB
    have ZX := BX
    have ZY := BY
    have NA := MA
    have NB := MB
    have NX := MXX
    have NY := MYY
    have HB2 := HB
    have K2 := hide (Below.refl W2.heap.size W2)
    refine (matMul_fun _ _ A B _ (unhide MXX) (unhide MYY)).mono ?_
    rintro e w3 ⟨u3, rfl, O3, b3⟩
    obtain ⟨p3, m3, q3, rfl, e3⟩ := O3.form
    replace BA := hide ((b3.block _ (lt_of_block (unhide BA))).trans (unhide BA))
    replace BB := hide ((b3.block _ (lt_of_block (unhide BB))).trans (unhide BB))
    replace BX := hide ((b3.block _ (lt_of_block (unhide BX))).trans (unhide BX))
    replace BY := hide ((b3.block _ (lt_of_block (unhide BY))).trans (unhide BY))
    replace MA := hide ((unhide MA).below b3)
    replace MB := hide ((unhide MB).below b3)
    replace MX := hide ((unhide MX).below b3)
    replace MXX := hide ((unhide MXX).below b3)
    replace MYY := hide ((unhide MYY).below b3)
    replace HB := hide (bt (unhide HB) b3)
    replace K2 := hide (bt (unhide K2) b3)
    have M3 := hide (O3.matV (mulF_le A B))
    have HO3 := hide O3
    have K3 := hide (Below.refl w3.heap.size w3)
    have S23 := hide b3.size
    clear O3 b3 e3
    have cBA := cell_of_one (unhide BA)
    have dBA := fun o => ((below_alloc w3 o).cell (cell_lt cBA)).trans cBA
    have cBB := cell_of_one (unhide BB)
    have dBB := fun o => ((below_alloc w3 o).cell (cell_lt cBB)).trans cBB
    have cBX := cell_of_one (unhide BX)
    have dBX := fun o => ((below_alloc w3 o).cell (cell_lt cBX)).trans cBX
    have cBY := cell_of_one (unhide BY)
    have dBY := fun o => ((below_alloc w3 o).cell (cell_lt cBY)).trans cBY
    go_wp2_with fail
    have hx := below_alloc w3 (.cells #[.slice p3 m3 q3] 24)
    have C3 := hide (heap_alloc_new w3 (.cells #[.slice p3 m3 q3] 24))
    refine (refMul_fun _ _ A B _ ((unhide MA).below hx) ((unhide MB).below hx)).mono ?_
    rintro e w4 ⟨u4, rfl, O4, b4⟩
    replace C3 := hide ((b4.block _ (lt_of_block (unhide C3))).trans (unhide C3))
    replace b4 := bt hx b4
    obtain ⟨p4, m4, q4, rfl, e4⟩ := O4.form
    replace BA := hide ((b4.block _ (lt_of_block (unhide BA))).trans (unhide BA))
    replace BB := hide ((b4.block _ (lt_of_block (unhide BB))).trans (unhide BB))
    replace BX := hide ((b4.block _ (lt_of_block (unhide BX))).trans (unhide BX))
    replace BY := hide ((b4.block _ (lt_of_block (unhide BY))).trans (unhide BY))
    replace MA := hide ((unhide MA).below b4)
    replace MB := hide ((unhide MB).below b4)
    replace MX := hide ((unhide MX).below b4)
    replace MXX := hide ((unhide MXX).below b4)
    replace MYY := hide ((unhide MYY).below b4)
    replace M3 := hide ((unhide M3).below b4)
    replace HB := hide (bt (unhide HB) b4)
    replace K2 := hide (bt (unhide K2) b4)
    have M4 := hide (O4.matV (mulF_le A B))
    have HO4 := hide O4
    replace K3 := hide (bt (unhide K3) b4)
    have S34 := hide b4.size
    clear O4 b4 e4 hx cBA dBA cBB dBB cBX dBX cBY dBY
    have cBA := cell_of_one (unhide BA)
    have dBA := fun o => ((below_alloc w4 o).cell (cell_lt cBA)).trans cBA
    have cBB := cell_of_one (unhide BB)
    have dBB := fun o => ((below_alloc w4 o).cell (cell_lt cBB)).trans cBB
    have cBX := cell_of_one (unhide BX)
    have dBX := fun o => ((below_alloc w4 o).cell (cell_lt cBX)).trans cBX
    have cBY := cell_of_one (unhide BY)
    have dBY := fun o => ((below_alloc w4 o).cell (cell_lt cBY)).trans cBY
    go_wp2_with fail
    have hx := below_alloc w4 (.cells #[.slice p4 m4 q4] 24)
    have C4 := hide (heap_alloc_new w4 (.cells #[.slice p4 m4 q4] 24))
    refine (matPick_fun _ _ _ _ A xs _ ((unhide MXX).below hx) ((unhide MX).below hx) (by unfold maxLen; omega)).mono ?_
    rintro e w5 ⟨u5, rfl, O5, b5⟩
    replace C4 := hide ((b5.block _ (lt_of_block (unhide C4))).trans (unhide C4))
    replace b5 := bt hx b5
    obtain ⟨p5, m5, q5, rfl, e5⟩ := O5.form
    replace BA := hide ((b5.block _ (lt_of_block (unhide BA))).trans (unhide BA))
    replace BB := hide ((b5.block _ (lt_of_block (unhide BB))).trans (unhide BB))
    replace BX := hide ((b5.block _ (lt_of_block (unhide BX))).trans (unhide BX))
    replace BY := hide ((b5.block _ (lt_of_block (unhide BY))).trans (unhide BY))
    replace C3 := hide ((b5.block _ (lt_of_block (unhide C3))).trans (unhide C3))
    replace MA := hide ((unhide MA).below b5)
    replace MB := hide ((unhide MB).below b5)
    replace MX := hide ((unhide MX).below b5)
    replace MXX := hide ((unhide MXX).below b5)
    replace MYY := hide ((unhide MYY).below b5)
    replace M3 := hide ((unhide M3).below b5)
    replace M4 := hide ((unhide M4).below b5)
    replace HB := hide (bt (unhide HB) b5)
    replace K2 := hide (bt (unhide K2) b5)
    have M5 := hide (O5.matV (pickF_le A xs))
    have HO5 := hide O5
    replace K3 := hide (bt (unhide K3) b5)
    have K5 := hide (Below.refl w5.heap.size w5)
    have S45 := hide b5.size
    clear O5 b5 e5 hx cBA dBA cBB dBB cBX dBX cBY dBY
    have cBA := cell_of_one (unhide BA)
    have dBA := fun o => ((below_alloc w5 o).cell (cell_lt cBA)).trans cBA
    have cBB := cell_of_one (unhide BB)
    have dBB := fun o => ((below_alloc w5 o).cell (cell_lt cBB)).trans cBB
    have cBX := cell_of_one (unhide BX)
    have dBX := fun o => ((below_alloc w5 o).cell (cell_lt cBX)).trans cBX
    have cBY := cell_of_one (unhide BY)
    have dBY := fun o => ((below_alloc w5 o).cell (cell_lt cBY)).trans cBY
    go_wp2_with fail
    have hx := below_alloc w5 (.cells #[.slice p5 m5 q5] 24)
    have C5 := hide (heap_alloc_new w5 (.cells #[.slice p5 m5 q5] 24))
    refine (refPick_fun _ _ _ _ A xs _ ((unhide MA).below hx) ((unhide MX).below hx) (by unfold maxLen; omega)).mono ?_
    rintro e w6 ⟨u6, rfl, O6, b6⟩
    replace C5 := hide ((b6.block _ (lt_of_block (unhide C5))).trans (unhide C5))
    replace b6 := bt hx b6
    obtain ⟨p6, m6, q6, rfl, e6⟩ := O6.form
    replace BA := hide ((b6.block _ (lt_of_block (unhide BA))).trans (unhide BA))
    replace BB := hide ((b6.block _ (lt_of_block (unhide BB))).trans (unhide BB))
    replace BX := hide ((b6.block _ (lt_of_block (unhide BX))).trans (unhide BX))
    replace BY := hide ((b6.block _ (lt_of_block (unhide BY))).trans (unhide BY))
    replace C3 := hide ((b6.block _ (lt_of_block (unhide C3))).trans (unhide C3))
    replace C4 := hide ((b6.block _ (lt_of_block (unhide C4))).trans (unhide C4))
    replace MA := hide ((unhide MA).below b6)
    replace MB := hide ((unhide MB).below b6)
    replace MX := hide ((unhide MX).below b6)
    replace MXX := hide ((unhide MXX).below b6)
    replace MYY := hide ((unhide MYY).below b6)
    replace M3 := hide ((unhide M3).below b6)
    replace M4 := hide ((unhide M4).below b6)
    replace M5 := hide ((unhide M5).below b6)
    replace HB := hide (bt (unhide HB) b6)
    replace K2 := hide (bt (unhide K2) b6)
    have M6 := hide (O6.matV (pickF_le A xs))
    have HO6 := hide O6
    replace K3 := hide (bt (unhide K3) b6)
    replace K5 := hide (bt (unhide K5) b6)
    clear O6 b6 e6 hx cBA dBA cBB dBB cBX dBX cBY dBY
    have cBA := cell_of_one (unhide BA)
    have dBA := fun o => ((below_alloc w6 o).cell (cell_lt cBA)).trans cBA
    have cBB := cell_of_one (unhide BB)
    have dBB := fun o => ((below_alloc w6 o).cell (cell_lt cBB)).trans cBB
    have cBX := cell_of_one (unhide BX)
    have dBX := fun o => ((below_alloc w6 o).cell (cell_lt cBX)).trans cBX
    have cBY := cell_of_one (unhide BY)
    have dBY := fun o => ((below_alloc w6 o).cell (cell_lt cBY)).trans cBY
    go_wp2_with fail
    have hx := below_alloc w6 (.cells #[.slice p6 m6 q6] 24)
    have C6 := hide (heap_alloc_new w6 (.cells #[.slice p6 m6 q6] 24))
    refine (matIdentity_fun k _).mono ?_
    rintro e w7 ⟨u7, rfl, O7, b7⟩
    replace C6 := hide ((b7.block _ (lt_of_block (unhide C6))).trans (unhide C6))
    replace b7 := bt hx b7
    obtain ⟨p7, m7, q7, rfl, e7⟩ := O7.form
    replace BA := hide ((b7.block _ (lt_of_block (unhide BA))).trans (unhide BA))
    replace BB := hide ((b7.block _ (lt_of_block (unhide BB))).trans (unhide BB))
    replace BX := hide ((b7.block _ (lt_of_block (unhide BX))).trans (unhide BX))
    replace BY := hide ((b7.block _ (lt_of_block (unhide BY))).trans (unhide BY))
    replace C3 := hide ((b7.block _ (lt_of_block (unhide C3))).trans (unhide C3))
    replace C4 := hide ((b7.block _ (lt_of_block (unhide C4))).trans (unhide C4))
    replace C5 := hide ((b7.block _ (lt_of_block (unhide C5))).trans (unhide C5))
    replace MA := hide ((unhide MA).below b7)
    replace MB := hide ((unhide MB).below b7)
    replace MX := hide ((unhide MX).below b7)
    replace MXX := hide ((unhide MXX).below b7)
    replace MYY := hide ((unhide MYY).below b7)
    replace M3 := hide ((unhide M3).below b7)
    replace M4 := hide ((unhide M4).below b7)
    replace M5 := hide ((unhide M5).below b7)
    replace M6 := hide ((unhide M6).below b7)
    replace HB := hide (bt (unhide HB) b7)
    replace K2 := hide (bt (unhide K2) b7)
    have M7 := hide (O7.matV (idF_le k))
    have HO7 := hide O7
    replace K3 := hide (bt (unhide K3) b7)
    replace K5 := hide (bt (unhide K5) b7)
    clear O7 b7 e7 hx cBA dBA cBB dBB cBX dBX cBY dBY
    have cBA := cell_of_one (unhide BA)
    have dBA := fun o => ((below_alloc w7 o).cell (cell_lt cBA)).trans cBA
    have cBB := cell_of_one (unhide BB)
    have dBB := fun o => ((below_alloc w7 o).cell (cell_lt cBB)).trans cBB
    have cBX := cell_of_one (unhide BX)
    have dBX := fun o => ((below_alloc w7 o).cell (cell_lt cBX)).trans cBX
    have cBY := cell_of_one (unhide BY)
    have dBY := fun o => ((below_alloc w7 o).cell (cell_lt cBY)).trans cBY
    go_wp2_with fail
    have hx := below_alloc w7 (.cells #[.slice p7 m7 q7] 24)
    have C7 := hide (heap_alloc_new w7 (.cells #[.slice p7 m7 q7] 24))
    refine (refIdentity_fun k _).mono ?_
    rintro e w8 ⟨u8, rfl, O8, b8⟩
    replace C7 := hide ((b8.block _ (lt_of_block (unhide C7))).trans (unhide C7))
    replace b8 := bt hx b8
    obtain ⟨p8, m8, q8, rfl, e8⟩ := O8.form
    replace BA := hide ((b8.block _ (lt_of_block (unhide BA))).trans (unhide BA))
    replace BB := hide ((b8.block _ (lt_of_block (unhide BB))).trans (unhide BB))
    replace BX := hide ((b8.block _ (lt_of_block (unhide BX))).trans (unhide BX))
    replace BY := hide ((b8.block _ (lt_of_block (unhide BY))).trans (unhide BY))
    replace C3 := hide ((b8.block _ (lt_of_block (unhide C3))).trans (unhide C3))
    replace C4 := hide ((b8.block _ (lt_of_block (unhide C4))).trans (unhide C4))
    replace C5 := hide ((b8.block _ (lt_of_block (unhide C5))).trans (unhide C5))
    replace C6 := hide ((b8.block _ (lt_of_block (unhide C6))).trans (unhide C6))
    replace MA := hide ((unhide MA).below b8)
    replace MB := hide ((unhide MB).below b8)
    replace MX := hide ((unhide MX).below b8)
    replace MXX := hide ((unhide MXX).below b8)
    replace MYY := hide ((unhide MYY).below b8)
    replace M3 := hide ((unhide M3).below b8)
    replace M4 := hide ((unhide M4).below b8)
    replace M5 := hide ((unhide M5).below b8)
    replace M6 := hide ((unhide M6).below b8)
    replace M7 := hide ((unhide M7).below b8)
    replace HB := hide (bt (unhide HB) b8)
    replace K2 := hide (bt (unhide K2) b8)
    have M8 := hide (O8.matV (idF_le k))
    have HO8 := hide O8
    replace K3 := hide (bt (unhide K3) b8)
    replace K5 := hide (bt (unhide K5) b8)
    clear O8 b8 e8 hx cBA dBA cBB dBB cBX dBX cBY dBY
    have cBA := cell_of_one (unhide BA)
    have dBA := fun o => ((below_alloc w8 o).cell (cell_lt cBA)).trans cBA
    have cBB := cell_of_one (unhide BB)
    have dBB := fun o => ((below_alloc w8 o).cell (cell_lt cBB)).trans cBB
    have cBX := cell_of_one (unhide BX)
    have dBX := fun o => ((below_alloc w8 o).cell (cell_lt cBX)).trans cBX
    have cBY := cell_of_one (unhide BY)
    have dBY := fun o => ((below_alloc w8 o).cell (cell_lt cBY)).trans cBY
    go_wp2_with fail
    have hx := below_alloc w8 (.cells #[.slice p8 m8 q8] 24)
    have C8 := hide (heap_alloc_new w8 (.cells #[.slice p8 m8 q8] 24))
    generalize (w8.alloc (.cells #[.slice p8 m8 q8] 24)) = W9 at *
    replace BA := hide ((hx.block _ (lt_of_block (unhide BA))).trans (unhide BA))
    replace BB := hide ((hx.block _ (lt_of_block (unhide BB))).trans (unhide BB))
    replace BX := hide ((hx.block _ (lt_of_block (unhide BX))).trans (unhide BX))
    replace BY := hide ((hx.block _ (lt_of_block (unhide BY))).trans (unhide BY))
    replace C3 := hide ((hx.block _ (lt_of_block (unhide C3))).trans (unhide C3))
    replace C4 := hide ((hx.block _ (lt_of_block (unhide C4))).trans (unhide C4))
    replace C5 := hide ((hx.block _ (lt_of_block (unhide C5))).trans (unhide C5))
    replace C6 := hide ((hx.block _ (lt_of_block (unhide C6))).trans (unhide C6))
    replace C7 := hide ((hx.block _ (lt_of_block (unhide C7))).trans (unhide C7))
    replace MA := hide ((unhide MA).below hx)
    replace MB := hide ((unhide MB).below hx)
    replace MX := hide ((unhide MX).below hx)
    replace MXX := hide ((unhide MXX).below hx)
    replace MYY := hide ((unhide MYY).below hx)
    replace M3 := hide ((unhide M3).below hx)
    replace M4 := hide ((unhide M4).below hx)
    replace M5 := hide ((unhide M5).below hx)
    replace M6 := hide ((unhide M6).below hx)
    replace M7 := hide ((unhide M7).below hx)
    replace M8 := hide ((unhide M8).below hx)
    replace HB := hide (bt (unhide HB) hx)
    replace K3 := hide (bt (unhide K3) hx)
    replace K2 := hide (bt (unhide K2) hx)
    replace K5 := hide (bt (unhide K5) hx)
    clear hx cBA cBB cBX cBY dBA dBB dBX dBY
    have g1 := grown_cell (cell_of_one (unhide BA))
    have g2 := grown_cell (cell_of_one (unhide BX))
    have g3 := grown_cell (cell_of_one (unhide C3))
    have g4' := grown_cell (cell_of_one (unhide C4))
    have g5' := grown_cell (cell_of_one (unhide C5))
    have g6 := grown_cell (cell_of_one (unhide C6))
    have g7 := grown_cell (cell_of_one (unhide C7))
    have g8 := grown_cell (cell_of_one (unhide C8))
    refine wp_region_grows (by kernel_rfl) (by kernel_rfl) ?_
    repeat (first | go_big_quiet_step ((first | (go_at_call 14; first | exact Calls.grows (same_true _ (unhide M3) (unhide M4)) | exact Calls.grows (same_true _ (unhide M5) (unhide M6)) | exact Calls.grows (same_true _ (unhide M7) (unhide M8))) | (go_at_call 15; exact Calls.grows (num_grows _ _)) | (go_at_call 16; exact Calls.grows (matMay_fun _ A _ ((unhide MXX).below (GrownW.prop _)))) | (go_at_call 17; exact Calls.grows (refMay_fun _ A _ ((unhide MA).below (GrownW.prop _)))))) | quiet_step ((first | (go_at_call 14; first | exact Calls.grows (same_true _ (unhide M3) (unhide M4)) | exact Calls.grows (same_true _ (unhide M5) (unhide M6)) | exact Calls.grows (same_true _ (unhide M7) (unhide M8))) | (go_at_call 15; exact Calls.grows (num_grows _ _)) | (go_at_call 16; exact Calls.grows (matMay_fun _ A _ ((unhide MXX).below (GrownW.prop _)))) | (go_at_call 17; exact Calls.grows (refMay_fun _ A _ ((unhide MA).below (GrownW.prop _)))))))
    refine wpQuiet_nil ?_
    intro gw hw'
    have gb := grown_below hw'
    clear hw'
    replace BA := hide ((gb.block _ (lt_of_block (unhide BA))).trans (unhide BA))
    replace BB := hide ((gb.block _ (lt_of_block (unhide BB))).trans (unhide BB))
    replace BX := hide ((gb.block _ (lt_of_block (unhide BX))).trans (unhide BX))
    replace BY := hide ((gb.block _ (lt_of_block (unhide BY))).trans (unhide BY))
    replace C3 := hide ((gb.block _ (lt_of_block (unhide C3))).trans (unhide C3))
    replace C5 := hide ((gb.block _ (lt_of_block (unhide C5))).trans (unhide C5))
    replace K3 := hide (bt (unhide K3) gb)
    replace K5 := hide (bt (unhide K5) gb)
    replace K2 := hide (bt (unhide K2) gb)
    clear gb g1 g2 g3 g4' g5' g6 g7 g8 M3 M4 M5 M6 M7 M8 C4 C6 C7 C8
    have cC3 := cell_of_one (unhide C3)
    have dC3 := fun o => ((below_alloc gw o).cell (cell_lt cC3)).trans cC3
    have cC5 := cell_of_one (unhide C5)
    have dC5 := fun o => ((below_alloc gw o).cell (cell_lt cC5)).trans cC5
    go_wp2_with fail
    have hB2 := (unhide K2).size
    refine (spoilMatrix_any W2.heap.size w3.heap.size _ _ w3 gw (unhide HO3) (Nat.le_refl _) (fun j _ hj => (unhide K3).block j hj) (mulF_le A B).1 (mulF_le A B).2 hB2).mono ?_
    rintro e w10 ⟨rfl, hf10, hb10⟩
    have hl35 : w3.heap.size ≤ w5.heap.size := Nat.le_trans (unhide S34) (unhide S45)
    have hc5 := lt_of_block (unhide C5)
    replace C5 := hide ((hf10 _ hl35 hc5).trans (unhide C5))
    have c5 := cell_of_one (unhide C5)
    have HF10 := hide hf10
    have HB10 := hide hb10
    clear hf10 hb10 cC3 cC5 dC3 dC5
    go_wp2_with fail
    have hB5 : w3.heap.size ≤ (w4.alloc (.cells #[.slice p4 m4 q4] 24)).heap.size := by have := unhide S34; simp; omega
    have hB5' : (w4.alloc (.cells #[.slice p4 m4 q4] 24)).heap.size ≤ w10.heap.size := by have h1 := unhide S45; have h2 := (unhide K5).size; have h3 := (unhide HB10).size; simp; omega
    refine (spoilMatrix_any _ w5.heap.size _ _ w5 w10 (unhide HO5) (Nat.le_refl _) (fun j hj1 hj2 => (unhide HF10 j (Nat.le_trans hB5 hj1) (Nat.lt_of_lt_of_le hj2 (unhide K5).size)).trans ((unhide K5).block j hj2)) (pickF_le A xs).1 (pickF_le A xs).2 hB5').mono ?_
    rintro e w11 ⟨rfl, hf11, hb11⟩
    have hall : Below W2.heap.size W2 w11 := ((unhide K2).trans (unhide HB10)).trans (hb11.mono (Nat.le_trans (unhide S23) hB5))
    replace ZA := hide ((hall.block _ (lt_of_block (unhide ZA))).trans (unhide ZA))
    replace ZB := hide ((hall.block _ (lt_of_block (unhide ZB))).trans (unhide ZB))
    replace ZX := hide ((hall.block _ (lt_of_block (unhide ZX))).trans (unhide ZX))
    replace ZY := hide ((hall.block _ (lt_of_block (unhide ZY))).trans (unhide ZY))
    replace NA := hide ((unhide NA).below hall)
    replace NB := hide ((unhide NB).below hall)
    replace NX := hide ((unhide NX).below hall)
    replace NY := hide ((unhide NY).below hall)
    replace HB2 := hide (bt (unhide HB2) hall)
    clear hf11 hb11 hall c5
    have cZA := cell_of_one (unhide ZA)
    have dZA := fun o => ((below_alloc w11 o).cell (cell_lt cZA)).trans cZA
    have cZB := cell_of_one (unhide ZB)
    have dZB := fun o => ((below_alloc w11 o).cell (cell_lt cZB)).trans cZB
    have cZX := cell_of_one (unhide ZX)
    have dZX := fun o => ((below_alloc w11 o).cell (cell_lt cZX)).trans cZX
    have cZY := cell_of_one (unhide ZY)
    have dZY := fun o => ((below_alloc w11 o).cell (cell_lt cZY)).trans cZY
    go_wp2_with fail
    refine (sameMatrix_any _ _ _ _ _ (unhide NX) (unhide NA)).mono ?_
    rintro e w12 ⟨he, b12⟩
    rw [beq_self_eq_true] at he
    subst he
    replace ZB := hide ((b12.block _ (lt_of_block (unhide ZB))).trans (unhide ZB))
    replace ZY := hide ((b12.block _ (lt_of_block (unhide ZY))).trans (unhide ZY))
    replace NB := hide ((unhide NB).below b12)
    replace NY := hide ((unhide NY).below b12)
    replace HB2 := hide (bt (unhide HB2) b12)
    clear b12 cZA cZB cZX cZY dZA dZB dZX dZY
    have cZB := cell_of_one (unhide ZB)
    have dZB := fun o => ((below_alloc w12 o).cell (cell_lt cZB)).trans cZB
    have cZY := cell_of_one (unhide ZY)
    have dZY := fun o => ((below_alloc w12 o).cell (cell_lt cZY)).trans cZY
    go_wp2_with fail
    refine (sameMatrix_any _ _ _ _ _ (unhide NY) (unhide NB)).mono ?_
    rintro e w13 ⟨he, b13⟩
    rw [beq_self_eq_true] at he
    subst he
    replace HB2 := hide (bt (unhide HB2) b13)
    clear b13 cZB cZY dZB dZY
    go_wp2_with fail
    refine (awake3_any _).mono ?_
    rintro e w14 ⟨rfl, b14⟩
    replace HB2 := hide (bt (unhide HB2) b14)
    clear b14
    go_wp2
    go_ret
    exact ⟨rfl, unhide HB2⟩
theorem Matrices_walk {w : World} (v0 : Value) (M0 : List (List Int)) (h0 : MatV w v0 M0) (s0 : (M0.length * 24 ≤ 140737488351232 ∧ ∀ i, (M0.getD i []).length * 8 ≤ 140737488351232)) (v1 : Value) (M1 : List (List Int)) (h1 : MatV w v1 M1) (s1 : (M1.length * 24 ≤ 140737488351232 ∧ ∀ i, (M1.getD i []).length * 8 ≤ 140737488351232)) (a2 : Option Addr) (n2 c2 : Nat) (x2 : List Int) (h2 : Ints w a2 n2 c2 x2) (r2 : n2 * 8 ≤ 140737488351232) (q2 : ∀ x ∈ x2, (Lit.int .i64 x).wf = true) (a3 : Int) (w3 : (Lit.int .i64 a3).wf = true) :
    Calls Try.prog 3 #[v0, v1, .slice a2 n2 c2, .int .i64 a3] w fun e w' => e = .returned (.bool true) ∧ Below w.heap.size w w' := Matrices_go v0 v1 a2 n2 c2 a3 M0 M1 x2 w h0 s0 h1 s1 h2 r2
end Go.Proofs.Ytpkofmpghhaobaa
