/- Package matrix: may this be a matrix, are these rows of it: contracts. -/
import Derived.Test.YtfeepmjkamdldaaDoorProg
import Derived.Test.YtfeepmjkamdldaaDoorRefMat3
import Derived.Test.YtfeepmjkamdldaaDoorGfWalks
namespace Go.Proofs.YtfeepmjkamdldaaDoor
open Go.RowKit
set_option linter.unusedVariables false
set_option linter.unusedSimpArgs false
set_option maxRecDepth 100000 in
theorem isCount_yes (n : Int) (w : World) (h1 : 1 ≤ n) (h2 : n ≤ 12) : Calls Tryd.prog 40 #[.int .i64 n] w fun e w' => e = .returned (.bool true) ∧ w' = w := by
  go_enter Tryd.func40, Tryd.ntmps40
  go_wp2
  go_ret
  exact ⟨rfl, rfl⟩
set_option maxRecDepth 100000 in
theorem isCount_no (n : Int) (w : World) (h : n < 1 ∨ 12 < n) : Calls Tryd.prog 40 #[.int .i64 n] w fun e w' => e = .returned (.bool false) ∧ w' = w := by
  by_cases h1 : n < 1
  · have h1' : ¬ 1 ≤ n := by omega
    clear h
    go_enter Tryd.func40, Tryd.ntmps40
    go_wp2
    go_ret
    exact ⟨rfl, rfl⟩
  · have h1' : 1 ≤ n := by omega
    have h2' : ¬ n ≤ 12 := by omega
    clear h
    go_enter Tryd.func40, Tryd.ntmps40
    go_wp2
    go_ret
    exact ⟨rfl, rfl⟩
def fieldTo (xs : List Int) (k : Nat) : Prop := ∀ j, j < k → byteI (xs.getD j 0)
set_option maxRecDepth 100000 in
set_option maxHeartbeats 1000000 in
theorem matInField_any (a : Option Addr) (n cap : Nat) (xs : List Int) (w : World) (hx : Ints w a n cap xs) (hn : n ≤ 12) :
    Calls Tryd.prog 56 #[.slice a n cap] w fun e w' => ((fieldTo xs n ∧ e = .returned (.bool true)) ∨ (¬ fieldTo xs n ∧ e = .returned (.bool false))) ∧ w' = w := by
  have HX := hide hx
  clear hx
  go_enter Tryd.func56, Tryd.ntmps56
  go_wp2
  go_loop [7] (fun jv => ∃ j : Nat, j ≤ n ∧ jv = .int .i64 j ∧ Hid (fieldTo xs j)) (fun jv => n - (intOf jv).toNat)
  case atStart => exact ⟨0, by omega, rfl, hide (fun c hc => by omega)⟩
  case round =>
    obtain ⟨j, hj, rfl, HJ⟩ := hrel
    by_cases hlt : j < n
    · have hlt' : (j : Int) < n := by omega
      obtain ⟨b, off, rfl, hc⟩ : ∃ b off, a = some ⟨b, off, none⟩ ∧ ∀ c, c < n → w.cell? ⟨b, off + c, none⟩ = some (.int .i64 (xs.getD c 0)) := by
        rcases (unhide HX).2.two with h | h
        · omega
        · exact h
      have c2 := hc j hlt
      clear hc
      obtain ⟨y, ey⟩ : ∃ y, y = xs.getD j 0 := ⟨_, rfl⟩
      rw [← ey] at c2
      have EY := hide ey
      clear ey
      by_cases t1 : y < 0
      · go_wp2
        go_ret
        refine ⟨.inr ⟨fun h => ?_, rfl⟩, rfl⟩
        have := h j hlt
        rw [← unhide EY] at this
        unfold byteI at this
        omega
      · by_cases t2 : (255 : Int) < y
        · go_wp2
          go_ret
          refine ⟨.inr ⟨fun h => ?_, rfl⟩, rfl⟩
          have := h j hlt
          rw [← unhide EY] at this
          unfold byteI at this
          omega
        · go_wp2
          go_round
          case rel =>
            refine ⟨j + 1, by omega, by go_num, hide (fun c hc => ?_)⟩
            by_cases q : c = j
            · rw [q, ← unhide EY]; unfold byteI; omega
            · exact unhide HJ c (by omega)
          case measure => simp [intOf]; omega
    · have hlt' : ¬ (j : Int) < n := by omega
      obtain rfl : j = n := by omega
      go_wp2
      go_ret
      exact ⟨.inl ⟨unhide HJ, rfl⟩, rfl⟩
theorem matInField_yes (a : Option Addr) (n cap : Nat) (xs : List Int) (w : World) (hx : Ints w a n cap xs) (hn : n ≤ 12) (h : fieldTo xs n) :
    Calls Tryd.prog 56 #[.slice a n cap] w fun e w' => e = .returned (.bool true) ∧ w' = w := by
  refine (matInField_any a n cap xs w hx hn).mono ?_
  rintro e w' ⟨⟨_, rfl⟩ | ⟨h', _⟩, rfl⟩
  · exact ⟨rfl, rfl⟩
  · exact absurd h h'
theorem matInField_no (a : Option Addr) (n cap : Nat) (xs : List Int) (w : World) (hx : Ints w a n cap xs) (hn : n ≤ 12) (h : ¬ fieldTo xs n) :
    Calls Tryd.prog 56 #[.slice a n cap] w fun e w' => e = .returned (.bool false) ∧ w' = w := by
  refine (matInField_any a n cap xs w hx hn).mono ?_
  rintro e w' ⟨⟨h', _⟩ | ⟨_, rfl⟩, rfl⟩
  · exact absurd h' h
  · exact ⟨rfl, rfl⟩
set_option maxRecDepth 100000 in
theorem matMay_len (a : Option Addr) (n cap : Nat) (w : World) (h : n < 1 ∨ 12 < n) (hn : n ≤ maxLen) : Calls Tryd.prog 33 #[.agg #[.slice a n cap]] w fun e w' => e = .returned (.bool false) ∧ Below w.heap.size w w' := by
  unfold maxLen at hn
  have h' : (n : Int) < 1 ∨ (12 : Int) < n := by omega
  have H := hide h'
  clear h h'
  go_enter Tryd.func33, Tryd.ntmps33
  go_wp2_with (go_at_call 40; refine (isCount_no _ _ (unhide H)).mono ?_; rintro e w' ⟨rfl, rfl⟩)
  go_ret
  exact ⟨rfl, by go_grown⟩
set_option maxRecDepth 100000 in
set_option maxHeartbeats 2000000 in
theorem matMay_some (b off n cap : Nat) (M : List (List Int)) (w : World) (hl : M.length = n) (h1 : 1 ≤ n) (h2 : n ≤ 12) (hc : ∀ i, i < n → ∃ u, w.cell? ⟨b, off + i, none⟩ = some u ∧ RowV w u (M.getD i [])) :
    Calls Tryd.prog 33 #[.agg #[.slice (some ⟨b, off, none⟩) n cap]] w fun e w' => ((MMay M ∧ e = .returned (.bool true)) ∨ (¬ MMay M ∧ e = .returned (.bool false))) ∧ Below w.heap.size w w' := by
  have h1' : (1 : Int) ≤ n := by omega
  have h2' : (n : Int) ≤ 12 := by omega
  have hp : (0 : Int) < n := by omega
  obtain ⟨u0, hu0, x0, k, c0, rfl, hk, hx0⟩ := hc 0 h1
  have hu0' : w.cell? ⟨b, off, none⟩ = some (.slice x0 k c0) := hu0
  have ek : (M.getD 0 []).length = k := hx0.1
  unfold maxLen at hk
  have HC := hide hc
  have EK := hide ek
  have hbox := below_alloc w (.cells #[.slice (some ⟨b, off, none⟩) n cap] 26)
  have cu := (hbox.cell (cell_lt hu0')).trans hu0'
  have HB := hide hbox
  clear hc hu0 hx0 ek hbox hu0'
  by_cases k1 : k < 1 ∨ 12 < k
  · have k1' : (k : Int) < 1 ∨ (12 : Int) < k := by omega
    have K1 := hide k1'
    clear k1'
    go_enter Tryd.func33, Tryd.ntmps33
    go_wp2_with (go_at_call 40; first | (refine (isCount_yes _ _ h1' h2').mono ?_; rintro e w' ⟨rfl, rfl⟩) | (refine (isCount_no _ _ (unhide K1)).mono ?_; rintro e w' ⟨rfl, rfl⟩))
    go_ret
    exact ⟨.inr ⟨fun h => by have := h.2.2.1; have := h.2.2.2.1; rw [unhide EK] at *; omega, rfl⟩, unhide HB⟩
  · have k1' : (1 : Int) ≤ k := by omega
    have k2' : (k : Int) ≤ 12 := by omega
    clear k1
    go_enter Tryd.func33, Tryd.ntmps33
    go_wp2_with (go_at_call 40; refine (isCount_yes _ _ (by omega) (by omega)).mono ?_; rintro e w' ⟨rfl, rfl⟩)
    go_loop [22] (fun iv => ∃ i : Nat, i ≤ n ∧ iv = .int .i64 i ∧ Hid (∀ r, r < i → rowMay k (M.getD r []))) (fun iv => n - (intOf iv).toNat)
    case atStart => exact ⟨0, by omega, rfl, fun r hr => by omega⟩
    case round =>
      obtain ⟨i, hi, rfl, HG⟩ := hrel
      by_cases hlt : i < n
      · have hlt' : (i : Int) < n := by omega
        obtain ⟨u, hu, x, nx, cx, rfl, hnx, hx⟩ := unhide HC i hlt
        have c1 := ((unhide HB).cell (cell_lt hu)).trans hu
        have HX := hide hx
        unfold maxLen at hnx
        clear hu hx
        by_cases hk : nx = k
        · have t1 : ((nx : Int) != (k : Int)) = false := by simp [hk]
          have HK := hide hk
          clear hk
          by_cases hf : fieldTo (M.getD i []) nx
          · have HF := hide hf
            clear hf
            go_wp2_with (go_at_call 56; refine (matInField_yes _ _ _ _ _ ((unhide HX).below (unhide HB)) (by have := unhide HK; omega) (unhide HF)).mono ?_; rintro e w' ⟨rfl, rfl⟩)
            go_round
            case rel =>
              refine ⟨i + 1, by omega, by go_num, hide (fun r hr => ?_)⟩
              by_cases q : r = i
              · rw [q]; exact ⟨(unhide HX).1.trans (unhide HK), by rw [← unhide HK]; exact unhide HF⟩
              · exact unhide HG r (by omega)
            case measure => simp [intOf]; omega
          · have HF := hide hf
            clear hf
            go_wp2_with (go_at_call 56; refine (matInField_no _ _ _ _ _ ((unhide HX).below (unhide HB)) (by have := unhide HK; omega) (unhide HF)).mono ?_; rintro e w' ⟨rfl, rfl⟩)
            go_ret
            refine ⟨.inr ⟨fun h => unhide HF ?_, rfl⟩, unhide HB⟩
            have := (h.2.2.2.2 i (by omega)).2
            rw [unhide EK, ← unhide HK] at this
            exact this
        · have t1 : ((nx : Int) != (k : Int)) = true := by simp; omega
          go_wp2
          go_ret
          refine ⟨.inr ⟨fun h => hk ?_, rfl⟩, unhide HB⟩
          have := (h.2.2.2.2 i (by omega)).1
          rw [unhide EK, (unhide HX).1] at this
          exact this
      · have hlt' : ¬ (i : Int) < n := by omega
        obtain rfl : i = n := by omega
        go_wp2
        go_ret
        refine ⟨.inl ⟨⟨by omega, by omega, by rw [unhide EK]; omega, by rw [unhide EK]; omega, fun r hr => ?_⟩, rfl⟩, unhide HB⟩
        rw [unhide EK]
        exact unhide HG r (by omega)
theorem matMay_any (v : Value) (M : List (List Int)) (w : World) (h : MatV w v M) :
    Calls Tryd.prog 33 #[v] w fun e w' => ((MMay M ∧ e = .returned (.bool true)) ∨ (¬ MMay M ∧ e = .returned (.bool false))) ∧ Below w.heap.size w w' := by
  obtain ⟨a, n, cap, rfl, R⟩ := h
  have hl : M.length = n := by obtain ⟨_, h, _⟩ := R; exact h
  have hn : n ≤ maxLen := by obtain ⟨_, _, h, _⟩ := R; exact h
  by_cases h : n < 1 ∨ 12 < n
  · refine (matMay_len a n cap w h hn).mono ?_
    rintro e w' ⟨rfl, hb⟩
    exact ⟨.inr ⟨fun hm => by have := hm.1; have := hm.2.1; omega, rfl⟩, hb⟩
  · rcases R.two with h0 | ⟨b, off, rfl, hc⟩
    · omega
    · exact matMay_some b off n cap M w hl (by omega) (by omega) hc
theorem matMay_yes (v : Value) (M : List (List Int)) (w : World) (h : MatV w v M) (hm : MMay M) : Calls Tryd.prog 33 #[v] w fun e w' => e = .returned (.bool true) ∧ Below w.heap.size w w' :=
  (matMay_any v M w h).mono fun e w' ⟨h, hb⟩ => ⟨by rcases h with h | h; exact h.2; exact absurd hm h.1, hb⟩
theorem matMay_no (v : Value) (M : List (List Int)) (w : World) (h : MatV w v M) (hm : ¬ MMay M) : Calls Tryd.prog 33 #[v] w fun e w' => e = .returned (.bool false) ∧ Below w.heap.size w w' :=
  (matMay_any v M w h).mono fun e w' ⟨h, hb⟩ => ⟨by rcases h with h | h; exact absurd h.1 hm; exact h.2, hb⟩
/-- the first k numbers name rows of a matrix of m rows -/
def namesTo (rs : List Int) (m k : Nat) : Prop := ∀ j, j < k → 0 ≤ rs.getD j 0 ∧ rs.getD j 0 < m
set_option maxRecDepth 100000 in
set_option maxHeartbeats 1000000 in
theorem areRowsOf_no (p : Option Addr) (m c : Nat) (a : Option Addr) (n cap : Nat) (w : World) (h : n < 1 ∨ 12 < n) :
    Calls Tryd.prog 34 #[.agg #[.slice p m c], .slice a n cap] w fun e w' => e = .returned (.bool false) ∧ Below w.heap.size w w' := by
  have h' : (n : Int) < 1 ∨ (12 : Int) < n := by omega
  have H := hide h'
  clear h h'
  go_enter Tryd.func34, Tryd.ntmps34
  go_wp2_with (go_at_call 40; refine (isCount_no _ _ (unhide H)).mono ?_; rintro e w' ⟨rfl, rfl⟩)
  go_ret
  exact ⟨rfl, by go_grown⟩
set_option maxRecDepth 100000 in
set_option maxHeartbeats 1000000 in
theorem areRowsOf_any (p : Option Addr) (m c : Nat) (a : Option Addr) (n cap : Nat) (rs : List Int) (w : World) (hx : Ints w a n cap rs) (h1 : 1 ≤ n) (h2 : n ≤ 12) :
    Calls Tryd.prog 34 #[.agg #[.slice p m c], .slice a n cap] w fun e w' => ((namesTo rs m n ∧ e = .returned (.bool true)) ∨ (¬ namesTo rs m n ∧ e = .returned (.bool false))) ∧ Below w.heap.size w w' := by
  have h1' : (1 : Int) ≤ n := by omega
  have h2' : (n : Int) ≤ 12 := by omega
  obtain ⟨b, off, rfl, hc⟩ : ∃ b off, a = some ⟨b, off, none⟩ ∧ ∀ c, c < n → w.cell? ⟨b, off + c, none⟩ = some (.int .i64 (rs.getD c 0)) := by
    rcases hx.2.two with h | h
    · omega
    · exact h
  have HC := hide hc
  have HB := hide (below_alloc w (.cells #[.slice p m c] 26))
  clear hx hc
  go_enter Tryd.func34, Tryd.ntmps34
  go_wp2_with (go_at_call 40; refine (isCount_yes _ _ h1' h2').mono ?_; rintro e w' ⟨rfl, rfl⟩)
  go_loop [13] (fun jv => ∃ j : Nat, j ≤ n ∧ jv = .int .i64 j ∧ Hid (namesTo rs m j)) (fun jv => n - (intOf jv).toNat)
  case atStart => exact ⟨0, by omega, rfl, hide (fun c hc => by omega)⟩
  case round =>
    obtain ⟨j, hj, rfl, HJ⟩ := hrel
    by_cases hlt : j < n
    · have hlt' : (j : Int) < n := by omega
      have c2 := ((unhide HB).cell (cell_lt (unhide HC j hlt))).trans (unhide HC j hlt)
      obtain ⟨y, ey⟩ : ∃ y, y = rs.getD j 0 := ⟨_, rfl⟩
      rw [← ey] at c2
      have EY := hide ey
      clear ey
      by_cases t1 : y < 0
      · go_wp2
        go_ret
        refine ⟨.inr ⟨fun h => ?_, rfl⟩, unhide HB⟩
        have := h j hlt
        rw [← unhide EY] at this
        omega
      · by_cases t2 : (m : Int) ≤ y
        · go_wp2
          go_ret
          refine ⟨.inr ⟨fun h => ?_, rfl⟩, unhide HB⟩
          have := h j hlt
          rw [← unhide EY] at this
          omega
        · go_wp2
          go_round
          case rel =>
            refine ⟨j + 1, by omega, by go_num, hide (fun c hc => ?_)⟩
            by_cases q : c = j
            · rw [q, ← unhide EY]; omega
            · exact unhide HJ c (by omega)
          case measure => simp [intOf]; omega
    · have hlt' : ¬ (j : Int) < n := by omega
      obtain rfl : j = n := by omega
      go_wp2
      go_ret
      exact ⟨.inl ⟨unhide HJ, rfl⟩, unhide HB⟩
end Go.Proofs.YtfeepmjkamdldaaDoor
