/- Texts one behind the other: MatWalk1, MatWalk2, MatWalk3, MatWalk4, MatWalk5, MatWalk. -/
import Derived.Test.YtcgagkaalbljmaaDoorProg
import Derived.Test.YtcgagkaalbljmaaDoorKMatRef
import Derived.Test.YtcgagkaalbljmaaDoorKCore
import Derived.Test.YtcgagkaalbljmaaDoorKRegs
/- Package matrix: may this be a matrix, are these rows of it: contracts. -/
namespace Go.Proofs.YtcgagkaalbljmaaDoor
open Go.RowKit
set_option linter.unusedVariables false
set_option linter.unusedSimpArgs false
set_option maxRecDepth 100000 in
theorem isCount_yes (n : Int) (w : World) (h1 : 1 ≤ n) (h2 : n ≤ 12) : Calls Tryd.prog 71 #[.int .i64 n] w fun e w' => e = .returned (.bool true) ∧ w' = w := by
  go_enter Tryd.func71, Tryd.ntmps71
  go_wp2
  go_ret
  exact ⟨rfl, rfl⟩
set_option maxRecDepth 100000 in
theorem isCount_no (n : Int) (w : World) (h : n < 1 ∨ 12 < n) : Calls Tryd.prog 71 #[.int .i64 n] w fun e w' => e = .returned (.bool false) ∧ w' = w := by
  by_cases h1 : n < 1
  · have h1' : ¬ 1 ≤ n := by omega
    clear h
    go_enter Tryd.func71, Tryd.ntmps71
    go_wp2
    go_ret
    exact ⟨rfl, rfl⟩
  · have h1' : 1 ≤ n := by omega
    have h2' : ¬ n ≤ 12 := by omega
    clear h
    go_enter Tryd.func71, Tryd.ntmps71
    go_wp2
    go_ret
    exact ⟨rfl, rfl⟩
def fieldTo (xs : List Int) (k : Nat) : Prop := ∀ j, j < k → byteI (xs.getD j 0)
set_option maxRecDepth 100000 in
set_option maxHeartbeats 1000000 in
theorem matInField_any (a : Option Addr) (n cap : Nat) (xs : List Int) (w : World) (hx : Ints w a n cap xs) (hn : n ≤ 12) :
    Calls Tryd.prog 72 #[.slice a n cap] w fun e w' => ((fieldTo xs n ∧ e = .returned (.bool true)) ∨ (¬ fieldTo xs n ∧ e = .returned (.bool false))) ∧ w' = w := by
  have HX := hide hx
  clear hx
  go_enter Tryd.func72, Tryd.ntmps72
  go_wp2
  go_loop [7] (fun jv => ∃ j : Nat, j ≤ n ∧ jv = .int .i64 j ∧ Hid (fieldTo xs j)) (fun jv => n - (intOf jv).toNat)
  case atStart => exact ⟨0, by omega, rfl, hide (fun c hc => by omega)⟩
  case round =>
    obtain ⟨j, hj, rfl, HJ⟩ := hrel
    by_cases hlt : j < n
    · have hlt' : (j : Int) < n := by omega
      obtain ⟨b, off, rfl, hc⟩ : ∃ b off, a = some ⟨b, off, none⟩ ∧ ∀ c, c < n → w.cell? ⟨b, off + c, none⟩ = some (.int .i64 (xs.getD c 0)) := by
        rcases (unhide HX).2.two with h | h
        · omega
        · exact h
      have c2 := hc j hlt
      clear hc
      obtain ⟨y, ey⟩ : ∃ y, y = xs.getD j 0 := ⟨_, rfl⟩
      rw [← ey] at c2
      have EY := hide ey
      clear ey
      by_cases t1 : y < 0
      · go_wp2
        go_ret
        refine ⟨.inr ⟨fun h => ?_, rfl⟩, rfl⟩
        have := h j hlt
        rw [← unhide EY] at this
        unfold byteI at this
        omega
      · by_cases t2 : (255 : Int) < y
        · go_wp2
          go_ret
          refine ⟨.inr ⟨fun h => ?_, rfl⟩, rfl⟩
          have := h j hlt
          rw [← unhide EY] at this
          unfold byteI at this
          omega
        · go_wp2
          go_round
          case rel =>
            refine ⟨j + 1, by omega, by go_num, hide (fun c hc => ?_)⟩
            by_cases q : c = j
            · rw [q, ← unhide EY]; unfold byteI; omega
            · exact unhide HJ c (by omega)
          case measure => simp [intOf]; omega
    · have hlt' : ¬ (j : Int) < n := by omega
      obtain rfl : j = n := by omega
      go_wp2
      go_ret
      exact ⟨.inl ⟨unhide HJ, rfl⟩, rfl⟩
theorem matInField_yes (a : Option Addr) (n cap : Nat) (xs : List Int) (w : World) (hx : Ints w a n cap xs) (hn : n ≤ 12) (h : fieldTo xs n) :
    Calls Tryd.prog 72 #[.slice a n cap] w fun e w' => e = .returned (.bool true) ∧ w' = w := by
  refine (matInField_any a n cap xs w hx hn).mono ?_
  rintro e w' ⟨⟨_, rfl⟩ | ⟨h', _⟩, rfl⟩
  · exact ⟨rfl, rfl⟩
  · exact absurd h h'
theorem matInField_no (a : Option Addr) (n cap : Nat) (xs : List Int) (w : World) (hx : Ints w a n cap xs) (hn : n ≤ 12) (h : ¬ fieldTo xs n) :
    Calls Tryd.prog 72 #[.slice a n cap] w fun e w' => e = .returned (.bool false) ∧ w' = w := by
  refine (matInField_any a n cap xs w hx hn).mono ?_
  rintro e w' ⟨⟨h', _⟩ | ⟨_, rfl⟩, rfl⟩
  · exact absurd h' h
  · exact ⟨rfl, rfl⟩
set_option maxRecDepth 100000 in
theorem matMay_len (a : Option Addr) (n cap : Nat) (w : World) (h : n < 1 ∨ 12 < n) (hn : n ≤ maxLen) : Calls Tryd.prog 59 #[.agg #[.slice a n cap]] w fun e w' => e = .returned (.bool false) ∧ Below w.heap.size w w' := by
  unfold maxLen at hn
  have h' : (n : Int) < 1 ∨ (12 : Int) < n := by omega
  have H := hide h'
  clear h h'
  go_enter Tryd.func59, Tryd.ntmps59
  go_wp2_with (go_at_call 71; refine (isCount_no _ _ (unhide H)).mono ?_; rintro e w' ⟨rfl, rfl⟩)
  go_ret
  exact ⟨rfl, by go_grown⟩
set_option maxRecDepth 100000 in
set_option maxHeartbeats 2000000 in
theorem matMay_some (b off n cap : Nat) (M : List (List Int)) (w : World) (hl : M.length = n) (h1 : 1 ≤ n) (h2 : n ≤ 12) (hc : ∀ i, i < n → ∃ u, w.cell? ⟨b, off + i, none⟩ = some u ∧ RowV w u (M.getD i [])) :
    Calls Tryd.prog 59 #[.agg #[.slice (some ⟨b, off, none⟩) n cap]] w fun e w' => ((MMay M ∧ e = .returned (.bool true)) ∨ (¬ MMay M ∧ e = .returned (.bool false))) ∧ Below w.heap.size w w' := by
  have h1' : (1 : Int) ≤ n := by omega
  have h2' : (n : Int) ≤ 12 := by omega
  have hp : (0 : Int) < n := by omega
  obtain ⟨u0, hu0, x0, k, c0, rfl, hk, hx0⟩ := hc 0 h1
  have hu0' : w.cell? ⟨b, off, none⟩ = some (.slice x0 k c0) := hu0
  have ek : (M.getD 0 []).length = k := hx0.1
  unfold maxLen at hk
  have HC := hide hc
  have EK := hide ek
  have hbox := below_alloc w (.cells #[.slice (some ⟨b, off, none⟩) n cap] 52)
  have cu := (hbox.cell (cell_lt hu0')).trans hu0'
  have HB := hide hbox
  clear hc hu0 hx0 ek hbox hu0'
  by_cases k1 : k < 1 ∨ 12 < k
  · have k1' : (k : Int) < 1 ∨ (12 : Int) < k := by omega
    have K1 := hide k1'
    clear k1'
    go_enter Tryd.func59, Tryd.ntmps59
    go_wp2_with (go_at_call 71; first | (refine (isCount_yes _ _ h1' h2').mono ?_; rintro e w' ⟨rfl, rfl⟩) | (refine (isCount_no _ _ (unhide K1)).mono ?_; rintro e w' ⟨rfl, rfl⟩))
    go_ret
    exact ⟨.inr ⟨fun h => by have := h.2.2.1; have := h.2.2.2.1; rw [unhide EK] at *; omega, rfl⟩, unhide HB⟩
  · have k1' : (1 : Int) ≤ k := by omega
    have k2' : (k : Int) ≤ 12 := by omega
    clear k1
    go_enter Tryd.func59, Tryd.ntmps59
    go_wp2_with (go_at_call 71; refine (isCount_yes _ _ (by omega) (by omega)).mono ?_; rintro e w' ⟨rfl, rfl⟩)
    go_loop [22] (fun iv => ∃ i : Nat, i ≤ n ∧ iv = .int .i64 i ∧ Hid (∀ r, r < i → rowMay k (M.getD r []))) (fun iv => n - (intOf iv).toNat)
    case atStart => exact ⟨0, by omega, rfl, fun r hr => by omega⟩
    case round =>
      obtain ⟨i, hi, rfl, HG⟩ := hrel
      by_cases hlt : i < n
      · have hlt' : (i : Int) < n := by omega
        obtain ⟨u, hu, x, nx, cx, rfl, hnx, hx⟩ := unhide HC i hlt
        have c1 := ((unhide HB).cell (cell_lt hu)).trans hu
        have HX := hide hx
        unfold maxLen at hnx
        clear hu hx
        by_cases hk : nx = k
        · have t1 : ((nx : Int) != (k : Int)) = false := by simp [hk]
          have HK := hide hk
          clear hk
          by_cases hf : fieldTo (M.getD i []) nx
          · have HF := hide hf
            clear hf
            go_wp2_with (go_at_call 72; refine (matInField_yes _ _ _ _ _ ((unhide HX).below (unhide HB)) (by have := unhide HK; omega) (unhide HF)).mono ?_; rintro e w' ⟨rfl, rfl⟩)
            go_round
            case rel =>
              refine ⟨i + 1, by omega, by go_num, hide (fun r hr => ?_)⟩
              by_cases q : r = i
              · rw [q]; exact ⟨(unhide HX).1.trans (unhide HK), by rw [← unhide HK]; exact unhide HF⟩
              · exact unhide HG r (by omega)
            case measure => simp [intOf]; omega
          · have HF := hide hf
            clear hf
            go_wp2_with (go_at_call 72; refine (matInField_no _ _ _ _ _ ((unhide HX).below (unhide HB)) (by have := unhide HK; omega) (unhide HF)).mono ?_; rintro e w' ⟨rfl, rfl⟩)
            go_ret
            refine ⟨.inr ⟨fun h => unhide HF ?_, rfl⟩, unhide HB⟩
            have := (h.2.2.2.2 i (by omega)).2
            rw [unhide EK, ← unhide HK] at this
            exact this
        · have t1 : ((nx : Int) != (k : Int)) = true := by simp; omega
          go_wp2
          go_ret
          refine ⟨.inr ⟨fun h => hk ?_, rfl⟩, unhide HB⟩
          have := (h.2.2.2.2 i (by omega)).1
          rw [unhide EK, (unhide HX).1] at this
          exact this
      · have hlt' : ¬ (i : Int) < n := by omega
        obtain rfl : i = n := by omega
        go_wp2
        go_ret
        refine ⟨.inl ⟨⟨by omega, by omega, by rw [unhide EK]; omega, by rw [unhide EK]; omega, fun r hr => ?_⟩, rfl⟩, unhide HB⟩
        rw [unhide EK]
        exact unhide HG r (by omega)
theorem matMay_any (v : Value) (M : List (List Int)) (w : World) (h : MatV w v M) :
    Calls Tryd.prog 59 #[v] w fun e w' => ((MMay M ∧ e = .returned (.bool true)) ∨ (¬ MMay M ∧ e = .returned (.bool false))) ∧ Below w.heap.size w w' := by
  obtain ⟨a, n, cap, rfl, R⟩ := h
  have hl : M.length = n := by obtain ⟨_, h, _⟩ := R; exact h
  have hn : n ≤ maxLen := by obtain ⟨_, _, h, _⟩ := R; exact h
  by_cases h : n < 1 ∨ 12 < n
  · refine (matMay_len a n cap w h hn).mono ?_
    rintro e w' ⟨rfl, hb⟩
    exact ⟨.inr ⟨fun hm => by have := hm.1; have := hm.2.1; omega, rfl⟩, hb⟩
  · rcases R.two with h0 | ⟨b, off, rfl, hc⟩
    · omega
    · exact matMay_some b off n cap M w hl (by omega) (by omega) hc
theorem matMay_yes (v : Value) (M : List (List Int)) (w : World) (h : MatV w v M) (hm : MMay M) : Calls Tryd.prog 59 #[v] w fun e w' => e = .returned (.bool true) ∧ Below w.heap.size w w' :=
  (matMay_any v M w h).mono fun e w' ⟨h, hb⟩ => ⟨by rcases h with h | h; exact h.2; exact absurd hm h.1, hb⟩
theorem matMay_no (v : Value) (M : List (List Int)) (w : World) (h : MatV w v M) (hm : ¬ MMay M) : Calls Tryd.prog 59 #[v] w fun e w' => e = .returned (.bool false) ∧ Below w.heap.size w w' :=
  (matMay_any v M w h).mono fun e w' ⟨h, hb⟩ => ⟨by rcases h with h | h; exact absurd h.1 hm; exact h.2, hb⟩
/-- the first k numbers name rows of a matrix of m rows -/
def namesTo (rs : List Int) (m k : Nat) : Prop := ∀ j, j < k → 0 ≤ rs.getD j 0 ∧ rs.getD j 0 < m
set_option maxRecDepth 100000 in
set_option maxHeartbeats 1000000 in
theorem areRowsOf_no (p : Option Addr) (m c : Nat) (a : Option Addr) (n cap : Nat) (w : World) (h : n < 1 ∨ 12 < n) :
    Calls Tryd.prog 60 #[.agg #[.slice p m c], .slice a n cap] w fun e w' => e = .returned (.bool false) ∧ Below w.heap.size w w' := by
  have h' : (n : Int) < 1 ∨ (12 : Int) < n := by omega
  have H := hide h'
  clear h h'
  go_enter Tryd.func60, Tryd.ntmps60
  go_wp2_with (go_at_call 71; refine (isCount_no _ _ (unhide H)).mono ?_; rintro e w' ⟨rfl, rfl⟩)
  go_ret
  exact ⟨rfl, by go_grown⟩
set_option maxRecDepth 100000 in
set_option maxHeartbeats 1000000 in
theorem areRowsOf_any (p : Option Addr) (m c : Nat) (a : Option Addr) (n cap : Nat) (rs : List Int) (w : World) (hx : Ints w a n cap rs) (h1 : 1 ≤ n) (h2 : n ≤ 12) :
    Calls Tryd.prog 60 #[.agg #[.slice p m c], .slice a n cap] w fun e w' => ((namesTo rs m n ∧ e = .returned (.bool true)) ∨ (¬ namesTo rs m n ∧ e = .returned (.bool false))) ∧ Below w.heap.size w w' := by
  have h1' : (1 : Int) ≤ n := by omega
  have h2' : (n : Int) ≤ 12 := by omega
  obtain ⟨b, off, rfl, hc⟩ : ∃ b off, a = some ⟨b, off, none⟩ ∧ ∀ c, c < n → w.cell? ⟨b, off + c, none⟩ = some (.int .i64 (rs.getD c 0)) := by
    rcases hx.2.two with h | h
    · omega
    · exact h
  have HC := hide hc
  have HB := hide (below_alloc w (.cells #[.slice p m c] 52))
  clear hx hc
  go_enter Tryd.func60, Tryd.ntmps60
  go_wp2_with (go_at_call 71; refine (isCount_yes _ _ h1' h2').mono ?_; rintro e w' ⟨rfl, rfl⟩)
  go_loop [13] (fun jv => ∃ j : Nat, j ≤ n ∧ jv = .int .i64 j ∧ Hid (namesTo rs m j)) (fun jv => n - (intOf jv).toNat)
  case atStart => exact ⟨0, by omega, rfl, hide (fun c hc => by omega)⟩
  case round =>
    obtain ⟨j, hj, rfl, HJ⟩ := hrel
    by_cases hlt : j < n
    · have hlt' : (j : Int) < n := by omega
      have c2 := ((unhide HB).cell (cell_lt (unhide HC j hlt))).trans (unhide HC j hlt)
      obtain ⟨y, ey⟩ : ∃ y, y = rs.getD j 0 := ⟨_, rfl⟩
      rw [← ey] at c2
      have EY := hide ey
      clear ey
      by_cases t1 : y < 0
      · go_wp2
        go_ret
        refine ⟨.inr ⟨fun h => ?_, rfl⟩, unhide HB⟩
        have := h j hlt
        rw [← unhide EY] at this
        omega
      · by_cases t2 : (m : Int) ≤ y
        · go_wp2
          go_ret
          refine ⟨.inr ⟨fun h => ?_, rfl⟩, unhide HB⟩
          have := h j hlt
          rw [← unhide EY] at this
          omega
        · go_wp2
          go_round
          case rel =>
            refine ⟨j + 1, by omega, by go_num, hide (fun c hc => ?_)⟩
            by_cases q : c = j
            · rw [q, ← unhide EY]; omega
            · exact unhide HJ c (by omega)
          case measure => simp [intOf]; omega
    · have hlt' : ¬ (j : Int) < n := by omega
      obtain rfl : j = n := by omega
      go_wp2
      go_ret
      exact ⟨.inl ⟨unhide HJ, rfl⟩, unhide HB⟩
end Go.Proofs.YtcgagkaalbljmaaDoor
/- Package matrix: what stands at a place (the function literals of Identity, Pick, Mul): contracts. -/
namespace Go.Proofs.YtcgagkaalbljmaaDoor
open Go.RowKit
set_option linter.unusedVariables false
set_option linter.unusedSimpArgs false
def idAt (r c : Nat) : Nat := if r = c then 1 else 0
set_option maxRecDepth 100000 in
theorem matAddTimes_any (s c x : Nat) (w : World) (hs : s < 256) (hc : c < 256) (hx : x < 256) :
    Calls Tryd.prog 67 #[.int .i64 s, .int .i64 c, .int .i64 x] w fun e w' => e = .returned (.int .i64 ((s ^^^ Gf.mul c x : Nat) : Int)) ∧ w' = w := by
  have hm := Gf.mul_lt c x
  have hx2 := Gf.xor_lt hs hm
  go_enter Tryd.func67, Tryd.ntmps67
  go_wp2_with (first | (go_at_call 57; refine (gfMul_yes _ _ _ hc hx).mono ?_; rintro e w' ⟨rfl, rfl⟩) | (go_at_call 58; refine (gfAdd_yes _ _ _ hs hm).mono ?_; rintro e w' ⟨rfl, rfl⟩))
  go_ret
  exact ⟨rfl, rfl⟩
/-- a number of a row that is named -/
def pickAt (M : List (List Int)) (rs : List Int) (r c : Nat) : Nat := entry M (rs.getD r 0).toNat c
set_option maxRecDepth 100000 in
set_option maxHeartbeats 1000000 in
theorem pickAt_any (r c bm br : Nat) (p a : Option Addr) (n cm m ca : Nat) (M : List (List Int)) (rs : List Int) (w : World) (cM : w.cell? ⟨bm, 0, none⟩ = some (.slice p n cm)) (cR : w.cell? ⟨br, 0, none⟩ = some (.slice a m ca))
    (hM : MatV w (.agg #[.slice p n cm]) M) (hm : MMay M) (hx : Ints w a m ca rs) (hn : namesTo rs n m) (hr : r < m) (hc : c < (M.getD 0 []).length) (hml : m ≤ 12) :
    Calls Tryd.prog 62 #[.int .i64 r, .int .i64 c, .pointer (some ⟨bm, 0, none⟩), .pointer (some ⟨br, 0, none⟩)] w fun e w' => e = .returned (.int .i64 ((pickAt M rs r c : Nat) : Int)) ∧ Below w.heap.size w w' := by
  obtain ⟨hl, n1, n2, k, b, o, ek, k1, k2, rfl, hrows⟩ := mat_at hM hm
  obtain ⟨g, og, rfl, hcell⟩ : ∃ b off, a = some ⟨b, off, none⟩ ∧ ∀ c, c < m → w.cell? ⟨b, off + c, none⟩ = some (.int .i64 (rs.getD c 0)) := by
    rcases hx.2.two with h | h
    · omega
    · exact h
  have c1 := hcell r hr
  have hnr := hn r hr
  obtain ⟨x, ex⟩ : ∃ x : Nat, rs.getD r 0 = x := ⟨(rs.getD r 0).toNat, by omega⟩
  rw [ex] at c1 hnr
  have ep : pickAt M rs r c = entry M x c := by unfold pickAt; rw [ex, Int.toNat_natCast]
  rw [ep]
  have hxn : x < n := by omega
  obtain ⟨gx, ox, capx, c2, hcx⟩ := hrows x hxn
  have c3 := (hcx c (by omega)).1
  obtain ⟨y, ey⟩ : ∃ y, y = entry M x c := ⟨_, rfl⟩
  rw [← ey] at c3 ⊢
  have hxn' : (x : Int) < n := by omega
  have hr' : (r : Int) < m := by omega
  have hc' : (c : Int) < k := by omega
  clear ex ep ey hnr hcell hrows hcx hM hm hx hn hc hl ek
  go_enter Tryd.func62, Tryd.ntmps62
  go_wp2
  go_quiet (fail)
  go_wp2
  go_ret
  exact ⟨rfl, below_drewN _ _ _⟩
set_option maxRecDepth 100000 in
set_option maxHeartbeats 1000000 in
theorem mulAt_any (r c ba bb : Nat) (pa pb : Option Addr) (na ca nb cb : Nat) (A B : List (List Int)) (w : World) (cA : w.cell? ⟨ba, 0, none⟩ = some (.slice pa na ca)) (cB : w.cell? ⟨bb, 0, none⟩ = some (.slice pb nb cb))
    (hA : MatV w (.agg #[.slice pa na ca]) A) (hB : MatV w (.agg #[.slice pb nb cb]) B) (hmA : MMay A) (hmB : MMay B) (hlen : (A.getD 0 []).length = B.length) (hr : r < A.length) (hc : c < (B.getD 0 []).length) :
    Calls Tryd.prog 66 #[.int .i64 r, .int .i64 c, .pointer (some ⟨bb, 0, none⟩), .pointer (some ⟨ba, 0, none⟩)] w fun e w' => e = .returned (.int .i64 ((dot A B r c B.length : Nat) : Int)) ∧ Below w.heap.size w w' := by
  obtain ⟨hlA, nA1, nA2, kA, b1, o1, ekA, kA1, kA2, rfl, hrA⟩ := mat_at hA hmA
  obtain ⟨hlB, nB1, nB2, kB, b2, o2, ekB, kB1, kB2, rfl, hrB⟩ := mat_at hB hmB
  have hr' : (r : Int) < na := by omega
  have hc' : (c : Int) < kB := by omega
  obtain ⟨g1, og1, cap1, d1, he1⟩ := hrA r (by omega)
  have hkA : kA = nb := by omega
  subst hkA
  rw [hlB]
  have HB := hide hrB
  have H1 := hide he1
  have HCA := hide cA
  have HCB := hide cB
  have HD1 := hide d1
  clear hA hB hmA hmB hlen hr hc hrA hrB he1 hlA hlB ekA ekB d1 cA
  go_enter Tryd.func66, Tryd.ntmps66
  go_wp2
  go_loopw [7, 12] (fun sv iv wr => ∃ i : Nat, i ≤ kA ∧ iv = .int .i64 i ∧ sv = .int .i64 ((dot A B r c i : Nat) : Int) ∧ Hid (Below w.heap.size w wr)) (fun _ iv _ => kA - (intOf iv).toNat)
  case atStart => exact ⟨0, by omega, rfl, rfl, hide (Below.refl _ _)⟩
  case round =>
    obtain ⟨i, hi, rfl, rfl, HW⟩ := hrel
    clear cB
    by_cases hlt : i < kA
    · have hlt' : (i : Int) < kA := by omega
      have hbw := unhide HW
      have cA := (hbw.cell (cell_lt (unhide HCA))).trans (unhide HCA)
      have cB := (hbw.cell (cell_lt (unhide HCB))).trans (unhide HCB)
      have d1 := (hbw.cell (cell_lt (unhide HD1))).trans (unhide HD1)
      obtain ⟨g2, og2, cap2, d2, he2⟩ := unhide HB i hlt
      have d2 := (hbw.cell (cell_lt d2)).trans d2
      obtain ⟨e1, l1⟩ := unhide H1 i hlt
      have e1 := (hbw.cell (cell_lt e1)).trans e1
      obtain ⟨e2, l2⟩ := he2 c (by omega)
      have e2 := (hbw.cell (cell_lt e2)).trans e2
      have hs := dot_lt A B r c i
      have hd : dot A B r c (i + 1) = dot A B r c i ^^^ Gf.mul (entry A r i) (entry B i c) := rfl
      have HDD := hide hd
      obtain ⟨s, es⟩ : ∃ s, s = dot A B r c i := ⟨_, rfl⟩
      obtain ⟨x, ex⟩ : ∃ x, x = entry A r i := ⟨_, rfl⟩
      obtain ⟨y, ey⟩ : ∃ y, y = entry B i c := ⟨_, rfl⟩
      rw [← es] at hs ⊢
      rw [← ex] at e1 l1
      rw [← ey] at e2 l2
      have ES := hide es
      have EX := hide ex
      have EY := hide ey
      clear es ex ey hd he2 hbw
      go_wp2
      go_quiet ((go_at_call 67; exact Calls.quiet_of_same (matAddTimes_any s x y _ hs l1 l2)))
      go_wp2
      go_roundw
      case rel =>
        refine ⟨i + 1, by omega, by go_num, int_eq ?_, hide (bt (unhide HW) (below_drewN _ _ _))⟩
        rw [unhide HDD, ← unhide ES, ← unhide EX, ← unhide EY]
      case measure => simp [intOf]; omega
    · have hlt' : ¬ (i : Int) < kA := by omega
      obtain rfl : i = kA := by omega
      go_wp2
      go_ret
      exact ⟨rfl, unhide HW⟩
end Go.Proofs.YtcgagkaalbljmaaDoor
/- Package matrix's fill: each row by itself, each number what the function handed in tells: a contract. -/
namespace Go.Proofs.YtcgagkaalbljmaaDoor
open Go.RowKit
set_option linter.unusedVariables false
set_option linter.unusedSimpArgs false
def rowsF (R : Nat) (g : Nat → List Int) : List (List Int) := (List.range R).map g
theorem rowsF_len (R : Nat) (g : Nat → List Int) : (rowsF R g).length = R := by simp [rowsF]
theorem rowsF_at (R : Nat) (g : Nat → List Int) (i : Nat) (h : i < R) : (rowsF R g).getD i [] = g i := by simp [rowsF, List.getD, h]
theorem rowsF_congr {R : Nat} {g g' : Nat → List Int} (h : ∀ r, r < R → g r = g' r) : rowsF R g = rowsF R g' := by
  unfold rowsF
  apply List.map_congr_left
  intro r hr
  exact h r (List.mem_range.1 hr)
theorem rowsF_set (R : Nat) (g : Nat → List Int) (i : Nat) (x : List Int) (h : i < R) : (rowsF R g).set i x = rowsF R (fun r => if r = i then x else g r) := by
  unfold rowsF
  apply List.ext_getElem
  · simp
  · intro r h1 h2
    rw [List.getElem_set]
    by_cases hr : i = r
    · subst hr; simp
    · simp [hr, Ne.symm hr]
def colsF (C : Nat) (f : Nat → Nat) : List Int := (List.range C).map fun c => ((f c : Nat) : Int)
theorem colsF_len (C : Nat) (f : Nat → Nat) : (colsF C f).length = C := by simp [colsF]
theorem colsF_set (C : Nat) (f : Nat → Nat) (j x : Nat) (h : j < C) : (colsF C f).set j ((x : Nat) : Int) = colsF C (fun c => if c = j then x else f c) := by
  unfold colsF
  apply List.ext_getElem
  · simp
  · intro r h1 h2
    rw [List.getElem_set]
    by_cases hr : j = r
    · subst hr; simp
    · simp [hr, Ne.symm hr]
theorem colsF_congr {C : Nat} {f f' : Nat → Nat} (h : ∀ c, c < C → f c = f' c) : colsF C f = colsF C f' := by
  unfold colsF
  apply List.map_congr_left
  intro c hc
  rw [h c (List.mem_range.1 hc)]
theorem colsF_zero (C : Nat) : colsF C (fun _ => 0) = List.replicate C 0 := by
  unfold colsF
  apply List.ext_getElem <;> simp
/-- the first i rows are filled -/
def outF (R C : Nat) (f : Nat → Nat → Nat) (i : Nat) : List (List Int) := rowsF R fun r => if r < i then colsF C (f r) else []
/-- and j numbers of row i -/
def inF (R C : Nat) (f : Nat → Nat → Nat) (i j : Nat) : List (List Int) := rowsF R fun r => if r < i then colsF C (f r) else if r = i then colsF C (fun c => if c < j then f r c else 0) else []
theorem outF_start (R C : Nat) (f : Nat → Nat → Nat) : outF R C f 0 = List.replicate R [] := by
  unfold outF rowsF
  apply List.ext_getElem <;> simp
theorem outF_end (R C : Nat) (f : Nat → Nat → Nat) : outF R C f R = matF R C f := by
  show rowsF R _ = rowsF R (fun r => colsF C (f r))
  exact rowsF_congr fun r hr => by rw [if_pos hr]
theorem outF_in (R C : Nat) (f : Nat → Nat → Nat) (i : Nat) (h : i < R) : (outF R C f i).set i (List.replicate C 0) = inF R C f i 0 := by
  unfold outF inF
  rw [rowsF_set R _ i _ h]
  refine rowsF_congr fun r hr => ?_
  by_cases e : r = i
  · subst e
    rw [if_pos rfl, if_neg (Nat.lt_irrefl _), if_pos rfl, ← colsF_zero]
    exact colsF_congr fun c _ => by simp
  · rw [if_neg e, if_neg e]
theorem inF_step (R C : Nat) (f : Nat → Nat → Nat) (i j : Nat) (h : i < R) (hj : j < C) : (inF R C f i j).set i (((inF R C f i j).getD i []).set j ((f i j : Nat) : Int)) = inF R C f i (j + 1) := by
  unfold inF
  rw [rowsF_at R _ i h, if_neg (Nat.lt_irrefl _), if_pos rfl, colsF_set _ _ _ _ hj, rowsF_set R _ i _ h]
  refine rowsF_congr fun r hr => ?_
  by_cases e : r = i
  · subst e
    rw [if_pos rfl, if_neg (Nat.lt_irrefl _), if_pos rfl]
    refine colsF_congr fun c _ => ?_
    by_cases q : c = j
    · subst q; simp
    · rw [if_neg q]
      by_cases q2 : c < j
      · rw [if_pos q2, if_pos (by omega)]
      · rw [if_neg q2, if_neg (by omega)]
  · rw [if_neg e, if_neg e, if_neg e]
theorem inF_end (R C : Nat) (f : Nat → Nat → Nat) (i : Nat) : inF R C f i C = outF R C f (i + 1) := by
  unfold outF inF
  refine rowsF_congr fun r hr => ?_
  by_cases e : r < i
  · rw [if_pos e, if_pos (by omega)]
  · rw [if_neg e]
    by_cases q : r = i
    · rw [if_pos q, if_pos (by omega)]
      exact colsF_congr fun c hc => by rw [if_pos hc]
    · rw [if_neg q, if_neg (by omega)]
theorem inF_row (R C : Nat) (f : Nat → Nat → Nat) (i j : Nat) (h : i < R) : ((inF R C f i j).getD i []).length = C := by
  unfold inF
  rw [rowsF_at R _ i h, if_neg (Nat.lt_irrefl _), if_pos rfl, colsF_len]
/-- a row of the call's own is put into a matrix of the call's own -/
theorem RowsO.put {w : World} {B : Nat} {T E : TypeId} {g n cap : Nat} {us : List Value} {M : List (List Int)} (h : RowsO w B T E (.slice (some ⟨g, 0, none⟩) n cap) us M) (hne : T ≠ E) {i : Nat} {v : Value} {r : List Int}
    (hv : OwnL w B E v (r.map (Value.int .i64))) (hnew : ∀ (j : Nat) x, us[j]? = some x → Apt v x) :
    RowsO (w.setCell ⟨g, i, none⟩ v) B T E (.slice (some ⟨g, 0, none⟩) n cap) (us.set i v) (M.set i r) := by
  have hn := own_len h.outer
  have hst := World.ownsRow.stored (own_row' h.outer) i v
  have p : Pushed w (w.setCell ⟨g, i, none⟩ v) (.slice (some ⟨g, 0, none⟩) n cap) (.slice (some ⟨g, 0, none⟩) n cap) := ⟨hst.2, .inl rfl⟩
  have hcase : ∀ (j : Nat) x, (us.set i v)[j]? = some x → (j = i ∧ x = v) ∨ (j ≠ i ∧ us[j]? = some x) := by
    intro j x hx
    rw [List.getElem?_set] at hx
    by_cases q : i = j
    · subst q
      rw [if_pos rfl] at hx
      split at hx
      · simp only [Option.some.injEq] at hx; exact .inl ⟨rfl, hx.symm⟩
      · cases hx
    · rw [if_neg q] at hx; exact .inr ⟨Ne.symm q, hx⟩
  refine ⟨by simp [h.len], own_put h.outer i v, fun j x hx => ?_, fun j k x y hx hy hjk => ?_⟩
  · rcases hcase j x hx with ⟨rfl, rfl⟩ | ⟨hji, hx'⟩
    · have hlt : j < M.length := by
        have := (List.getElem?_eq_some_iff.1 hx).1
        simp [h.len] at this
        exact this
      have e : (M.set j r).getD j [] = r := by simp [List.getD, hlt]
      rw [e]
      exact p.other hv (apt_types h.outer hv hne)
    · have e : (M.set i r).getD j [] = M.getD j [] := by simp [List.getD, List.getElem?_set, Ne.symm hji]
      rw [e]
      exact p.other (h.row j x hx') (apt_types h.outer (h.row j x hx') hne)
  · rcases hcase j x hx with ⟨h1, rfl⟩ | ⟨h1, hx'⟩
    · rcases hcase k y hy with ⟨h2, rfl⟩ | ⟨h2, hy'⟩
      · exact absurd (h1.trans h2.symm) hjk
      · exact hnew k y hy'
    · rcases hcase k y hy with ⟨h2, rfl⟩ | ⟨h2, hy'⟩
      · exact (hnew j x hx').symm
      · exact h.apart j k x y hx' hy' hjk
theorem rowsO_made (w : World) (B R : Nat) (T E : TypeId) (h : B ≤ w.heap.size) (hR : R ≤ maxLen) :
    RowsO (w.alloc (.cells (madeCells #[.slice none 0 0] R) T)) B T E (.slice (some ⟨w.heap.size, 0, none⟩) R R) (List.replicate R (.slice none 0 0)) (List.replicate R []) := by
  have ho : OwnL (w.alloc (.cells (madeCells #[.slice none 0 0] R) T)) B T (.slice (some ⟨w.heap.size, 0, none⟩) R R) (List.replicate R (.slice none 0 0)) := by
    have := World.ownsRow_lit (e := T) (size := 1) w (madeCells #[.slice none 0 0] R) R h hR (by rw [size_madeCells]; omega)
    rw [toList_madeCells_one] at this
    unfold OwnL
    simpa using this
  have hn : ∀ (j : Nat) v, (List.replicate R (Value.slice none 0 0))[j]? = some v → v = .slice none 0 0 := by
    intro j v hv
    rw [List.getElem?_replicate] at hv
    split at hv
    · simpa using hv.symm
    · cases hv
  refine ⟨by simp, ho, fun j v hv => ?_, fun i j x y hx hy _ => ?_⟩
  · rw [hn j v hv]
    have e : (List.replicate R ([] : List Int)).getD j [] = [] := by
      simp only [List.getD, List.getElem?_replicate]
      split <;> rfl
    rw [e]
    exact OwnL.nil _ _ _
  · rw [hn i x hx]
    intro g hg
    simp [Value.ownBlock] at hg
end Go.Proofs.YtcgagkaalbljmaaDoor
/- Package matrix's fill: the walk. -/
namespace Go.Proofs.YtcgagkaalbljmaaDoor
open Go.RowKit
set_option linter.unusedVariables false
set_option linter.unusedSimpArgs false
attribute [local go_sem ↓] Go.wp_at_zero Go.wp_at_succ
set_option maxRecDepth 100000 in
set_option maxHeartbeats 4000000 in
theorem fill_any (R C k : Nat) (q : Array Value) (f : Nat → Nat → Nat) (w : World) (hR1 : 1 ≤ R) (hR : R ≤ 12) (hC1 : 1 ≤ C) (hC : C ≤ 12)
    (hE : ∀ (args : Array Value) (w : World), (callFunc k args).run Tryd.prog w = .ok (.enter k args) w)
    (hat : ∀ (r c : Nat) (W : World), r < R → c < C → Below w.heap.size w W → Calls Tryd.prog k (#[.int .i64 r, .int .i64 c] ++ q) W fun e w' => e = .returned (.int .i64 ((f r c : Nat) : Int)) ∧ Below W.heap.size W w') :
    Calls Tryd.prog 61 #[.int .i64 R, .int .i64 C, .func (.func k) #[] q] w fun e w' => ∃ u, e = .returned (.agg #[u]) ∧ OwnM w' w.heap.size 36 3 u (matF R C f) ∧ Below w.heap.size w w' := by
  have hmkR := fun w => run_make_row' (P := Tryd.prog) 50 36 (.slice none 0 0) 24 Tryd.underlying50 Tryd.infoRow rfl .i64 .i64 R (by omega) (by omega) w
  have hmkC := fun w => run_make_row' (P := Tryd.prog) 36 3 (.int .i64 0) 8 Tryd.underlying36 Tryd.infoInt rfl .i64 .i64 C (by omega) (by omega) w
  have HAT := hide hat
  have HE := hide hE
  clear hat hE
  go_enter Tryd.func61, Tryd.ntmps61
  go_wp2
  go_loopw [14] (fun iv wr => ∃ i : Nat, i ≤ R ∧ iv = .int .i64 i ∧ wr.heap[w.heap.size]? = some (.cells #[.slice none 0 0] 52 (0, 0)) ∧ wr.heap[w.heap.size + 2]? = some (.cells #[.slice (some ⟨w.heap.size + 1, 0, none⟩) R R] 52 (0, 0)) ∧ Hid (∃ us, RowsO wr (w.heap.size + 1) 36 3 (.slice (some ⟨w.heap.size + 1, 0, none⟩) R R) us (outF R C f i)) ∧ Hid (Below w.heap.size w wr) ∧ w.heap.size + 3 ≤ wr.heap.size) (fun iv _ => R - (intOf iv).toNat)
  case atStart =>
    refine ⟨0, by omega, rfl, three_old _ _ _ _, three_new _ _ _ _, hide ⟨List.replicate R (.slice none 0 0), ?_⟩, hide (by go_grown), by simp⟩
    rw [outF_start]
    have h := rowsO_made (w.alloc (.cells #[.slice none 0 0] 52)) (w.heap.size + 1) R 36 3 (by simp) (by unfold maxLen; omega)
    have e : (w.alloc (.cells #[.slice none 0 0] 52)).heap.size = w.heap.size + 1 := by simp
    rw [e] at h
    exact h.below (below_alloc _ _)
  case round =>
    obtain ⟨i, hi, rfl, hb0, hb2, HR, HB, hsz⟩ := hrel
    have c2 := cell_of_one hb2
    have f0 := free_of_one hb0
    by_cases hlt : i < R
    · have hlt' : (i : Int) < R := by omega
      obtain ⟨us, hR0⟩ := unhide HR
      have g2 := kept_cell (B := wr.heap.size) c2 (cell_lt c2)
      have f1 := own_free hR0.outer i
      have HRR := hide hR0
      clear hR0 HR
      clear c2
      go_wp2
      refine wp_region_ord_then (S := Below wr.heap.size wr) [(true, 0), (true, 1), (true, 2), (true, 3), (false, 4), (true, 5)] (List.cons_ne_nil _ _) (by kernel_rfl) (by kernel_rfl) (by kernel_rfl) (by kernel_rfl) (by kernel_rfl) ((Below.refl _ _).drew) ?_
      simp only [List.dropLast_cons_cons, List.dropLast_singleton, List.getLast_cons_cons, List.getLast_singleton, withOps, List.map_cons, List.map_nil, List.getElem?_cons_succ, List.getElem?_cons_zero]
      repeat (refine walkH_read (by rfl) (by (intro gx; go_simp; try (with_reducible rfl))) ?_; try simp only [Act.put, List.setIfInBounds_toArray, List.set_cons_zero, List.set_cons_succ])
      refine walkH_do rfl (fun K hK => ?_)
      go_simp
      have hbA : Below wr.heap.size wr (wr.alloc (.cells (madeCells #[.int .i64 0] C) 3)).drew := by go_grown
      have hoA := (own_made wr (w.heap.size + 1) C 3 (by omega) (by unfold maxLen; omega)).below (w' := (wr.alloc (.cells (madeCells #[.int .i64 0] C) 3)).drew) (by go_grown)
      have hsA : wr.heap.size < (wr.alloc (.cells (madeCells #[.int .i64 0] C) 3)).drew.heap.size := by simp
      refine hK _ _ hbA ?_
      clear hK K
      try simp only [Act.put, List.setIfInBounds_toArray, List.set_cons_zero, List.set_cons_succ]
      have HBA := hide hbA
      have HOA := hide hoA
      clear hbA hoA
      generalize (wr.alloc (.cells (madeCells #[.int .i64 0] C) 3)).drew = wA at *
      have hRA := (unhide HRR).below (unhide HBA)
      have f1 := own_free hRA.outer i
      obtain ⟨u0, hu0⟩ : ∃ u0, us[i]? = some u0 := ⟨_, List.getElem?_eq_getElem (by rw [hRA.len, outF, rowsF_len]; exact hlt)⟩
      have c1 : wA.cell? ⟨w.heap.size + 1, i, none⟩ = some u0 := by
        obtain ⟨g, cap, e, _, hc⟩ := hRA.form (by rw [outF, rowsF_len]; omega)
        simp only [Value.slice.injEq, Option.some.injEq, Addr.mk.injEq, and_true, true_and] at e
        rw [e.1]
        exact hc i u0 hu0
      have HN := hide (RowsO.put hRA (by decide) (i := i) (unhide HOA) (fun j x hx => apt_new ((unhide HRR).row j x hx) rfl (Nat.le_refl _)))
      have hB0 := hide (((unhide HBA).block _ (lt_of_block hb0)).trans hb0)
      have hB2 := hide (((unhide HBA).block _ (lt_of_block hb2)).trans hb2)
      have hsw := (unhide HBA).size
      clear hRA hu0 hb0 hb2
      repeat (refine walkH_read (by rfl) (by (intro gx; go_simp; try (with_reducible rfl))) ?_; try simp only [Act.put, List.setIfInBounds_toArray, List.set_cons_zero, List.set_cons_succ])
      refine lastPost_of_list ?_
      simp only [List.cons_append, List.nil_append]
      go_wp2
      refine NoPanic.normal ?_
      go_wp2
      obtain ⟨gr, hgr⟩ : ∃ gr, gr = wr.heap.size := ⟨_, rfl⟩
      rw [← hgr] at HN ⊢
      have hgs : w.heap.size + 3 ≤ gr := by omega
      have HGR := hide hgr
      clear hgr
      go_loopw [24] (fun jv wr => ∃ j : Nat, j ≤ C ∧ jv = .int .i64 j ∧ wr.heap[w.heap.size]? = some (.cells #[.slice none 0 0] 52 (0, 0)) ∧ wr.heap[w.heap.size + 2]? = some (.cells #[.slice (some ⟨w.heap.size + 1, 0, none⟩) R R] 52 (0, 0)) ∧ Hid (∃ us, us[i]? = some (.slice (some ⟨gr, 0, none⟩) C C) ∧ RowsO wr (w.heap.size + 1) 36 3 (.slice (some ⟨w.heap.size + 1, 0, none⟩) R R) us (inF R C f i j)) ∧ Hid (Below w.heap.size w wr) ∧ w.heap.size + 3 ≤ wr.heap.size) (fun jv _ => C - (intOf jv).toNat)
      case atStart =>
        refine ⟨0, by omega, rfl, (Below.heap_setCell _ _ _ _ (by show w.heap.size ≠ w.heap.size + 1; omega)).trans (unhide hB0), (Below.heap_setCell _ _ _ _ (by show w.heap.size + 2 ≠ w.heap.size + 1; omega)).trans (unhide hB2), hide ⟨us.set i (.slice (some ⟨gr, 0, none⟩) C C), ?_, ?_⟩, hide (((unhide HB).trans ((unhide HBA).mono (by omega))).setCell (by show _ ≤ w.heap.size + 1; omega) _), by simp; have := unhide HGR; omega⟩
        · have hlu : i < us.length := by rw [(unhide HRR).len, outF, rowsF_len]; exact hlt
          simp [hlu]
        · rw [← outF_in R C f i hlt]
          exact unhide HN
      case round =>
        obtain ⟨j, hj, rfl, hb0, hb2, HR, HB', hsz'⟩ := hrel
        have c2 := cell_of_one hb2
        by_cases hltj : j < C
        · have hltj' : (j : Int) < C := by omega
          obtain ⟨us, hu, hR0⟩ := unhide HR
          have cO : wr.cell? ⟨w.heap.size + 1, i, none⟩ = some (.slice (some ⟨gr, 0, none⟩) C C) := by
            obtain ⟨g, cap, e, _, hc⟩ := hR0.form (by rw [inF, rowsF_len]; omega)
            simp only [Value.slice.injEq, Option.some.injEq, Addr.mk.injEq, and_true, true_and] at e
            rw [e.1]
            exact hc i _ hu
          have q2 := kept_cell (B := wr.heap.size) c2 (cell_lt c2)
          have qO := kept_cell (B := wr.heap.size) cO (cell_lt cO)
          have HU := hide hu
          have HRR := hide hR0
          have hE := unhide HE
          clear hR0 HR hu c2 cO c1 f1 g2
          go_wp2
          refine wp_region_ord_then (S := Below wr.heap.size wr) [(true, 0), (true, 1), (true, 2), (true, 3), (true, 4), (true, 5), (true, 6), (true, 7), (true, 8), (false, 9), (true, 10)] (List.cons_ne_nil _ _) (by kernel_rfl) (by kernel_rfl) (by kernel_rfl) (by kernel_rfl) (by kernel_rfl) ((Below.refl _ _).drew) ?_
          simp only [List.dropLast_cons_cons, List.dropLast_singleton, List.getLast_cons_cons, List.getLast_singleton, withOps, List.map_cons, List.map_nil, List.getElem?_cons_succ, List.getElem?_cons_zero]
          repeat (refine walkH_read (by rfl) (by (intro gx; go_simp; try (with_reducible rfl))) ?_; try simp only [Act.put, List.setIfInBounds_toArray, List.set_cons_zero, List.set_cons_succ])
          refine walkH_do rfl (fun K hK => ?_)
          go_simp
          refine (unhide HAT i j _ hlt hltj ((unhide HB').trans ((Below.refl _ _).drew))).mono ?_
          rintro e w4 ⟨rfl, hb4⟩
          have hb4' : Below wr.heap.size wr w4 := Below.trans ((Below.refl wr.heap.size wr).drew) hb4
          refine hK _ _ hb4' ?_
          clear hK K
          try simp only [Act.put, List.setIfInBounds_toArray, List.set_cons_zero, List.set_cons_succ]
          have hR4 := (unhide HRR).below hb4'
          have hrow := hR4.row i _ (unhide HU)
          have c3 := own_cell hrow j (by rw [inF_row R C f i j hlt]; exact hltj)
          have f3 := own_free hrow j
          obtain ⟨y, ey⟩ : ∃ y, y = ((inF R C f i j).getD i []).getD j 0 := ⟨_, rfl⟩
          rw [← ey] at c3
          clear ey
          obtain ⟨hR5, hbl⟩ := hR4.store (by decide) (unhide HU) (c := j) ((f i j : Nat) : Int)
          rw [inF_step R C f i j hlt hltj] at hR5
          have b0 := (hb4'.block _ (lt_of_block hb0)).trans hb0
          have b2 := (hb4'.block _ (lt_of_block hb2)).trans hb2
          have B0 := hide ((hbl _ (lt_of_block b0) (by omega)).trans b0)
          have B2 := hide ((hbl _ (lt_of_block b2) (by omega)).trans b2)
          have H5 := hide hR5
          have HB4 := hide (((unhide HB').trans (hb4'.mono (by omega))).setCell (p := ⟨gr, j, none⟩) (by show w.heap.size ≤ gr; omega) (.int .i64 ((f i j : Nat) : Int)))
          have hs4 := hb4'.size
          clear hR4 hrow hR5 hbl b0 b2 hb4 hb4' hb0 hb2
          repeat (refine walkH_read (by rfl) (by (intro gx; go_simp; try (with_reducible rfl))) ?_; try simp only [Act.put, List.setIfInBounds_toArray, List.set_cons_zero, List.set_cons_succ])
          refine lastPost_of_list ?_
          simp only [List.cons_append, List.nil_append]
          go_wp2
          refine NoPanic.normal ?_
          go_wp2
          go_roundw
          case rel => exact ⟨j + 1, by omega, by go_num, unhide B0, unhide B2, hide ⟨us, unhide HU, unhide H5⟩, HB4, by simp; omega⟩
          case measure => simp [intOf]; omega
        · have hltj' : ¬ (j : Int) < C := by omega
          obtain rfl : j = C := by omega
          obtain ⟨us, hu, hR0⟩ := unhide HR
          rw [inF_end] at hR0
          have HRR := hide hR0
          clear hR0 hu
          go_wp2
          go_roundw
          case rel => exact ⟨i + 1, by omega, by go_num, hb0, hb2, hide ⟨us, unhide HRR⟩, HB', hsz'⟩
          case measure => simp [intOf]; omega
    · have hlt' : ¬ (i : Int) < R := by omega
      obtain rfl : i = R := by omega
      obtain ⟨us, hR0⟩ := unhide HR
      have HRR := hide hR0
      clear hR0
      have c0 := cell_of_one hb0
      go_wp2
      have cr := cell_of_one (one_setCell (u := .slice (some ⟨w.heap.size + 1, 0, none⟩) i i) hb0)
      refine bodyPost_ret (v := .agg #[.slice (some ⟨w.heap.size + 1, 0, none⟩) i i]) (by simp [results, Tryd.results61, go_sem, cr]) rfl ⟨_, rfl, ⟨us, ?_⟩, (unhide HB).setCell (Nat.le_refl _) _⟩
      rw [← outF_end]
      exact ((unhide HRR).setBelow (by show w.heap.size < _; omega) _).mono (by omega)
end Go.Proofs.YtcgagkaalbljmaaDoor
/- Package matrix's Mul, Pick, Identity, May: what they answer. -/
namespace Go.Proofs.YtcgagkaalbljmaaDoor
open Go.RowKit
set_option linter.unusedVariables false
set_option linter.unusedSimpArgs false
theorem enters_it {P : Program} {f : FuncId} {fn : Func} {c : Code} (hf : P.funcs[f]? = some fn) (hname : (fn.name == "runtime.NumGoroutine") = false) (hb : fn.body = some c) : ∀ (args : Array Value) (w : World), (callFunc f args).run P w = .ok (.enter f args) w := by
  intro args w
  have h1 : fn.name ≠ "runtime.NumGoroutine" := by simpa using hname
  simp [callFunc, hf, h1, hb, mark]
theorem idAt_matF (k : Nat) : matF k k idAt = idM k := by
  unfold matF idM idAt
  apply List.map_congr_left
  intro r hr
  apply List.map_congr_left
  intro c hc
  split <;> rfl
attribute [local go_sem ↓] Go.wp_at_zero Go.wp_at_succ
set_option maxRecDepth 100000 in
set_option maxHeartbeats 4000000 in
theorem matMul_noA (pa pb : Option Addr) (na ca nb cb : Nat) (A B : List (List Int)) (w : World) (ha : MatV w (.agg #[.slice pa na ca]) A) (hb : MatV w (.agg #[.slice pb nb cb]) B) (hmA : ¬ MMay A) :
    Calls Tryd.prog 55 #[.agg #[.slice pa na ca], .agg #[.slice pb nb cb]] w fun e w' => e = .returned (.tuple #[.agg #[.slice none 0 0], .int .i64 300]) ∧ Below w.heap.size w w' := by
  have HA := hide ha
  have HB := hide hb
  clear ha hb
  go_enter Tryd.func55, Tryd.ntmps55
  go_wp2_with fail
  have k0 := hide (three_old w (.cells #[.slice pa na ca] 52) (.cells #[.slice pb nb cb] 52) (.cells #[.slice none 0 0] 52))
  have k1 := hide (three_mid w (.cells #[.slice pa na ca] 52) (.cells #[.slice pb nb cb] 52) (.cells #[.slice none 0 0] 52))
  have k2 := hide (three_new w (.cells #[.slice pa na ca] 52) (.cells #[.slice pb nb cb] 52) (.cells #[.slice none 0 0] 52))
  have k3 : Hid (Below w.heap.size w (((w.alloc (.cells #[.slice pa na ca] 52)).alloc (.cells #[.slice pb nb cb] 52)).alloc (.cells #[.slice none 0 0] 52))) := hide (by go_grown)
  have k4 : (((w.alloc (.cells #[.slice pa na ca] 52)).alloc (.cells #[.slice pb nb cb] 52)).alloc (.cells #[.slice none 0 0] 52)).heap.size = w.heap.size + 3 := by simp
  generalize (((w.alloc (.cells #[.slice pa na ca] 52)).alloc (.cells #[.slice pb nb cb] 52)).alloc (.cells #[.slice none 0 0] 52)) = W at k0 k1 k2 k3 k4 ⊢
  have c0 := cell_of_one (unhide k0)
  have c1 := cell_of_one (unhide k1)
  have g0 := grown_cell c0
  have g1 := grown_cell c1
  refine wp_region_grows (by kernel_rfl) (by kernel_rfl) ?_
  repeat (first | go_big_quiet_step ((go_at_call 59; exact Calls.grows (matMay_no _ A _ (((unhide HA).below (unhide k3)).below (GrownW.prop _)) hmA))) | quiet_step ((go_at_call 59; exact Calls.grows (matMay_no _ A _ (((unhide HA).below (unhide k3)).below (GrownW.prop _)) hmA))))
  refine wpQuiet_nil ?_
  intro gw hw'
  have gb := grown_below hw'
  clear hw'
  clear g0 g1 c0 c1
  have r2 := (gb.block _ (by omega)).trans (unhide k2)
  have c2 := cell_of_one r2
  have f2 := free_of_one r2
  have HB1 := hide (bt (unhide k3) gb)
  clear gb
  go_wp2
  have cr := cell_of_one (one_setCell (u := .slice none 0 0) r2)
  exact bodyPost_ret (v := .tuple #[.agg #[.slice none 0 0], .int .i64 300]) (by simp [results, Tryd.results55, go_sem, cr]) rfl ⟨rfl, (unhide HB1).setCell (by show _ ≤ w.heap.size + 1 + 1; omega) _⟩
set_option maxRecDepth 100000 in
set_option maxHeartbeats 4000000 in
theorem matMul_noB (pa pb : Option Addr) (na ca nb cb : Nat) (A B : List (List Int)) (w : World) (ha : MatV w (.agg #[.slice pa na ca]) A) (hb : MatV w (.agg #[.slice pb nb cb]) B) (hmA : MMay A) (hmB : ¬ MMay B) :
    Calls Tryd.prog 55 #[.agg #[.slice pa na ca], .agg #[.slice pb nb cb]] w fun e w' => e = .returned (.tuple #[.agg #[.slice none 0 0], .int .i64 300]) ∧ Below w.heap.size w w' := by
  have HA := hide ha
  have HB := hide hb
  clear ha hb
  go_enter Tryd.func55, Tryd.ntmps55
  go_wp2_with fail
  have k0 := hide (three_old w (.cells #[.slice pa na ca] 52) (.cells #[.slice pb nb cb] 52) (.cells #[.slice none 0 0] 52))
  have k1 := hide (three_mid w (.cells #[.slice pa na ca] 52) (.cells #[.slice pb nb cb] 52) (.cells #[.slice none 0 0] 52))
  have k2 := hide (three_new w (.cells #[.slice pa na ca] 52) (.cells #[.slice pb nb cb] 52) (.cells #[.slice none 0 0] 52))
  have k3 : Hid (Below w.heap.size w (((w.alloc (.cells #[.slice pa na ca] 52)).alloc (.cells #[.slice pb nb cb] 52)).alloc (.cells #[.slice none 0 0] 52))) := hide (by go_grown)
  have k4 : (((w.alloc (.cells #[.slice pa na ca] 52)).alloc (.cells #[.slice pb nb cb] 52)).alloc (.cells #[.slice none 0 0] 52)).heap.size = w.heap.size + 3 := by simp
  generalize (((w.alloc (.cells #[.slice pa na ca] 52)).alloc (.cells #[.slice pb nb cb] 52)).alloc (.cells #[.slice none 0 0] 52)) = W at k0 k1 k2 k3 k4 ⊢
  have c0 := cell_of_one (unhide k0)
  have c1 := cell_of_one (unhide k1)
  have g0 := grown_cell c0
  have g1 := grown_cell c1
  refine wp_region_grows (by kernel_rfl) (by kernel_rfl) ?_
  repeat (first | go_big_quiet_step ((first
    | (go_at_call 59; exact Calls.grows (matMay_yes _ A _ (((unhide HA).below (unhide k3)).below (GrownW.prop _)) hmA))
    | (go_at_call 59; exact Calls.grows (matMay_no _ B _ (((unhide HB).below (unhide k3)).below (GrownW.prop _)) hmB)))) | quiet_step ((first
    | (go_at_call 59; exact Calls.grows (matMay_yes _ A _ (((unhide HA).below (unhide k3)).below (GrownW.prop _)) hmA))
    | (go_at_call 59; exact Calls.grows (matMay_no _ B _ (((unhide HB).below (unhide k3)).below (GrownW.prop _)) hmB)))))
  refine wpQuiet_nil ?_
  intro gw hw'
  have gb := grown_below hw'
  clear hw'
  clear g0 g1 c0 c1
  have r2 := (gb.block _ (by omega)).trans (unhide k2)
  have c2 := cell_of_one r2
  have f2 := free_of_one r2
  have HB1 := hide (bt (unhide k3) gb)
  clear gb
  go_wp2
  have cr := cell_of_one (one_setCell (u := .slice none 0 0) r2)
  exact bodyPost_ret (v := .tuple #[.agg #[.slice none 0 0], .int .i64 300]) (by simp [results, Tryd.results55, go_sem, cr]) rfl ⟨rfl, (unhide HB1).setCell (by show _ ≤ w.heap.size + 1 + 1; omega) _⟩
set_option maxRecDepth 100000 in
set_option maxHeartbeats 4000000 in
theorem matMul_noLen (pa pb : Option Addr) (na ca nb cb : Nat) (A B : List (List Int)) (w : World) (ha : MatV w (.agg #[.slice pa na ca]) A) (hb : MatV w (.agg #[.slice pb nb cb]) B) (hmA : MMay A) (hmB : MMay B) (hne : (A.getD 0 []).length ≠ B.length) :
    Calls Tryd.prog 55 #[.agg #[.slice pa na ca], .agg #[.slice pb nb cb]] w fun e w' => e = .returned (.tuple #[.agg #[.slice none 0 0], .int .i64 300]) ∧ Below w.heap.size w w' := by
  obtain ⟨ba, oa, rfl, na1, x0, m0, q0, hrow0, em0, hna, hm0, hnb, hlA, hlB⟩ : ∃ ba oa, pa = some ⟨ba, oa, none⟩ ∧ 1 ≤ na ∧ ∃ x0 m0 q0, w.cell? ⟨ba, oa, none⟩ = some (.slice x0 m0 q0) ∧ (A.getD 0 []).length = m0 ∧ na ≤ 12 ∧ m0 ≤ 12 ∧ nb ≤ 12 ∧ A.length = na ∧ B.length = nb := mul_open ha hb hmA hmB
  have HA := hide ha
  have HB := hide hb
  clear ha hb
  go_enter Tryd.func55, Tryd.ntmps55
  go_wp2_with fail
  have k0 := hide (three_old w (.cells #[.slice (some ⟨ba, oa, none⟩) na ca] 52) (.cells #[.slice pb nb cb] 52) (.cells #[.slice none 0 0] 52))
  have k1 := hide (three_mid w (.cells #[.slice (some ⟨ba, oa, none⟩) na ca] 52) (.cells #[.slice pb nb cb] 52) (.cells #[.slice none 0 0] 52))
  have k2 := hide (three_new w (.cells #[.slice (some ⟨ba, oa, none⟩) na ca] 52) (.cells #[.slice pb nb cb] 52) (.cells #[.slice none 0 0] 52))
  have k3 : Hid (Below w.heap.size w (((w.alloc (.cells #[.slice (some ⟨ba, oa, none⟩) na ca] 52)).alloc (.cells #[.slice pb nb cb] 52)).alloc (.cells #[.slice none 0 0] 52))) := hide (by go_grown)
  have k4 : (((w.alloc (.cells #[.slice (some ⟨ba, oa, none⟩) na ca] 52)).alloc (.cells #[.slice pb nb cb] 52)).alloc (.cells #[.slice none 0 0] 52)).heap.size = w.heap.size + 3 := by simp
  generalize (((w.alloc (.cells #[.slice (some ⟨ba, oa, none⟩) na ca] 52)).alloc (.cells #[.slice pb nb cb] 52)).alloc (.cells #[.slice none 0 0] 52)) = W at k0 k1 k2 k3 k4 ⊢
  have c0 := cell_of_one (unhide k0)
  have c1 := cell_of_one (unhide k1)
  have c3 := ((unhide k3).cell (cell_lt hrow0)).trans hrow0
  have p1 : (0 : Int) < na := by omega
  have t1 : ((m0 : Int) != (nb : Int)) = true := by simp; omega
  have g3 := grown_cell c3
  have g0 := grown_cell c0
  have g1 := grown_cell c1
  refine wp_region_grows (by kernel_rfl) (by kernel_rfl) ?_
  repeat (first | go_big_quiet_step ((first
    | (go_at_call 59; exact Calls.grows (matMay_yes _ A _ (((unhide HA).below (unhide k3)).below (GrownW.prop _)) hmA))
    | (go_at_call 59; exact Calls.grows (matMay_yes _ B _ (((unhide HB).below (unhide k3)).below (GrownW.prop _)) hmB)))) | quiet_step ((first
    | (go_at_call 59; exact Calls.grows (matMay_yes _ A _ (((unhide HA).below (unhide k3)).below (GrownW.prop _)) hmA))
    | (go_at_call 59; exact Calls.grows (matMay_yes _ B _ (((unhide HB).below (unhide k3)).below (GrownW.prop _)) hmB)))))
  refine wpQuiet_nil ?_
  intro gw hw'
  have gb := grown_below hw'
  clear hw'
  clear g0 g1 g3 c0 c1 c3
  have r2 := (gb.block _ (by omega)).trans (unhide k2)
  have c2 := cell_of_one r2
  have f2 := free_of_one r2
  have HB1 := hide (bt (unhide k3) gb)
  clear gb
  go_wp2
  have cr := cell_of_one (one_setCell (u := .slice none 0 0) r2)
  exact bodyPost_ret (v := .tuple #[.agg #[.slice none 0 0], .int .i64 300]) (by simp [results, Tryd.results55, go_sem, cr]) rfl ⟨rfl, (unhide HB1).setCell (by show _ ≤ w.heap.size + 1 + 1; omega) _⟩
set_option maxRecDepth 100000 in
set_option maxHeartbeats 4000000 in
theorem matMul_yes (pa pb : Option Addr) (na ca nb cb : Nat) (A B : List (List Int)) (w : World) (ha : MatV w (.agg #[.slice pa na ca]) A) (hb : MatV w (.agg #[.slice pb nb cb]) B) (hmA : MMay A) (hmB : MMay B) (hlen : (A.getD 0 []).length = B.length) :
    Calls Tryd.prog 55 #[.agg #[.slice pa na ca], .agg #[.slice pb nb cb]] w fun e w' => ∃ u, e = .returned (.tuple #[.agg #[u], .int .i64 0]) ∧ OwnM w' w.heap.size 36 3 u (mulM A B) ∧ Below w.heap.size w w' := by
  obtain ⟨hlA, nA1, nA2, kA, b1, o1, ekA, kA1, kA2, rfl, hrA⟩ := mat_at ha hmA
  obtain ⟨hlB, nB1, nB2, kB, b2, o2, ekB, kB1, kB2, rfl, hrB⟩ := mat_at hb hmB
  obtain ⟨gA, ogA, capA, dA, _⟩ := hrA 0 nA1
  obtain ⟨gB, ogB, capB, dB, _⟩ := hrB 0 nB1
  have hkA : kA = nb := by omega
  subst hkA
  have HA := hide ha
  have HB := hide hb
  have HMA := hide hmA
  have HMB := hide hmB
  have HL := hide hlen
  have HLA := hide hlA
  have HLB := hide hlB
  have HEB := hide ekB
  clear ha hb hrA hrB hmA hmB hlen hlA hlB ekA ekB
  rw [Nat.add_zero] at dA dB
  go_enter Tryd.func55, Tryd.ntmps55
  go_wp2_with fail
  have k0 := hide (three_old w (.cells #[.slice (some ⟨b1, o1, none⟩) na ca] 52) (.cells #[.slice (some ⟨b2, o2, none⟩) kA cb] 52) (.cells #[.slice none 0 0] 52))
  have k1 := hide (three_mid w (.cells #[.slice (some ⟨b1, o1, none⟩) na ca] 52) (.cells #[.slice (some ⟨b2, o2, none⟩) kA cb] 52) (.cells #[.slice none 0 0] 52))
  have k2 := hide (three_new w (.cells #[.slice (some ⟨b1, o1, none⟩) na ca] 52) (.cells #[.slice (some ⟨b2, o2, none⟩) kA cb] 52) (.cells #[.slice none 0 0] 52))
  have k3 : Hid (Below w.heap.size w (((w.alloc (.cells #[.slice (some ⟨b1, o1, none⟩) na ca] 52)).alloc (.cells #[.slice (some ⟨b2, o2, none⟩) kA cb] 52)).alloc (.cells #[.slice none 0 0] 52))) := hide (by go_grown)
  have k4 : (((w.alloc (.cells #[.slice (some ⟨b1, o1, none⟩) na ca] 52)).alloc (.cells #[.slice (some ⟨b2, o2, none⟩) kA cb] 52)).alloc (.cells #[.slice none 0 0] 52)).heap.size = w.heap.size + 3 := by simp
  generalize (((w.alloc (.cells #[.slice (some ⟨b1, o1, none⟩) na ca] 52)).alloc (.cells #[.slice (some ⟨b2, o2, none⟩) kA cb] 52)).alloc (.cells #[.slice none 0 0] 52)) = W at k0 k1 k2 k3 k4 ⊢
  have c0 := cell_of_one (unhide k0)
  have c1 := cell_of_one (unhide k1)
  have lA := cell_lt dA
  have lB := cell_lt dB
  have dA := ((unhide k3).cell lA).trans dA
  have dB := ((unhide k3).cell lB).trans dB
  have p1 : (0 : Int) < na := by omega
  have p2 : (0 : Int) < kA := by omega
  have p2n : 0 < kA := by omega
  have p2z : ¬ kA = 0 := by omega
  have t1 : ((kA : Int) != (kA : Int)) = false := by simp
  have g3 := grown_cell dA
  have g0 := grown_cell c0
  have g1 := grown_cell c1
  refine wp_region_grows (by kernel_rfl) (by kernel_rfl) ?_
  repeat (first | go_big_quiet_step ((first
    | (go_at_call 59; exact Calls.grows (matMay_yes _ A _ (((unhide HA).below (unhide k3)).below (GrownW.prop _)) (unhide HMA)))
    | (go_at_call 59; exact Calls.grows (matMay_yes _ B _ (((unhide HB).below (unhide k3)).below (GrownW.prop _)) (unhide HMB))))) | quiet_step ((first
    | (go_at_call 59; exact Calls.grows (matMay_yes _ A _ (((unhide HA).below (unhide k3)).below (GrownW.prop _)) (unhide HMA)))
    | (go_at_call 59; exact Calls.grows (matMay_yes _ B _ (((unhide HB).below (unhide k3)).below (GrownW.prop _)) (unhide HMB))))))
  refine wpQuiet_nil ?_
  intro gw hw'
  have gb := grown_below hw'
  clear hw'
  clear g0 g1 g3
  have hA := hide (((unhide HA).below (unhide k3)).below gb)
  have hB := hide (((unhide HB).below (unhide k3)).below gb)
  have r0 := (gb.block _ (by omega)).trans (unhide k0)
  have r1 := (gb.block _ (by omega)).trans (unhide k1)
  have r2 := (gb.block _ (by omega)).trans (unhide k2)
  have dB := (gb.cell (cell_lt dB)).trans dB
  have hs := gb.size
  have HB1 := hide (bt (unhide k3) gb)
  clear c0 c1 gb dA
  have c0 := cell_of_one r0
  have c1 := cell_of_one r1
  have R0 := hide r0
  have R1 := hide r1
  have R2 := hide r2
  clear r0 r1 r2
  have g0 := kept_cell (B := w.heap.size + 2) c0 (by show w.heap.size < _; omega)
  have g1 := kept_cell (B := w.heap.size + 2) c1 (by show w.heap.size + 1 < _; omega)
  have g3 := kept_cell (B := w.heap.size + 2) dB (by show b2 < _; have : b2 < w.heap.size := lB; omega)
  clear c0 c1 dB
  go_wp2
  refine wp_region_ord_then (S := Below (w.heap.size + 2) gw) [(true, 0), (true, 1), (true, 2), (true, 3), (true, 4), (true, 5), (true, 6), (true, 7), (false, 8), (false, 9), (false, 10)] (List.cons_ne_nil _ _) (by kernel_rfl) (by kernel_rfl) (by kernel_rfl) (by kernel_rfl) (by kernel_rfl) ((Below.refl _ _).drew) ?_
  simp only [List.dropLast_cons_cons, List.dropLast_singleton, List.getLast_cons_cons, List.getLast_singleton, withOps, List.map_cons, List.map_nil, List.getElem?_cons_succ, List.getElem?_cons_zero]
  repeat (refine walkH_read (by rfl) (by (intro gx; go_simp; try (with_reducible rfl))) ?_; try simp only [Act.put, List.setIfInBounds_toArray, List.set_cons_zero, List.set_cons_succ])
  refine walkH_do rfl (fun K hK => ?_)
  go_simp
  refine hK _ _ ((Below.refl _ _).drew) ?_
  clear hK K
  try simp only [Act.put, List.setIfInBounds_toArray, List.set_cons_zero, List.set_cons_succ]
  refine walkH_do rfl (fun K hK => ?_)
  go_simp
  refine (fill_any na kB 66 _ (fun r c => dot A B r c B.length) gw.drew nA1 nA2 kB1 kB2 (enters_it Tryd.func66 (by kernel_rfl) rfl) (fun r c V hr hc hV => by
    have hV' : Below gw.heap.size gw V := ((Below.refl _ _).drew).trans hV
    have e0 := (hV'.block _ (by omega)).trans (unhide R0)
    have e1 := (hV'.block _ (by omega)).trans (unhide R1)
    simpa using mulAt_any r c w.heap.size (w.heap.size + 1) _ _ na ca kA cb A B V (cell_of_one e0) (cell_of_one e1) ((unhide hA).below hV') ((unhide hB).below hV') (unhide HMA) (unhide HMB) (unhide HL) (by rw [unhide HLA]; exact hr) (by rw [unhide HEB]; exact hc))).mono ?_
  rintro e w4 ⟨u, rfl, hO, hb4⟩
  have hb4' : Below gw.heap.size gw w4 := ((Below.refl _ _).drew).trans hb4
  refine hK _ _ (hb4'.mono (by omega)) ?_
  clear hK K
  try simp only [Act.put, List.setIfInBounds_toArray, List.set_cons_zero, List.set_cons_succ]
  obtain ⟨p, n, c, rfl, hn⟩ := hO.form
  have eM : matF na kB (fun r c => dot A B r c B.length) = mulM A B := by unfold mulM; rw [unhide HLA, unhide HEB]
  rw [eM] at hO
  have r2 := (hb4'.block _ (by omega)).trans (unhide R2)
  have hs0 : gw.drew.heap.size = gw.heap.size := rfl
  rw [hs0] at hO
  have HO := hide hO
  have H4 := hide hb4'
  have c2 := cell_of_one r2
  have f2 := free_of_one r2
  have R4 := hide r2
  clear hO hb4 hb4' hn eM r2
  refine walkH_do rfl (fun K hK => ?_)
  go_simp
  refine hK _ _ (((unhide H4).mono (by omega)).setCell (by show _ ≤ w.heap.size + 1 + 1; omega) _) ?_
  clear hK K
  try simp only [Act.put, List.setIfInBounds_toArray, List.set_cons_zero, List.set_cons_succ]
  refine lastPost_of_list ?_
  simp only [List.cons_append, List.nil_append]
  go_wp2
  refine NoPanic.normal ?_
  go_wp2
  have cr := cell_of_one (one_setCell (u := .slice p n c) (unhide R4))
  exact bodyPost_ret (v := .tuple #[.agg #[.slice p n c], .int .i64 0]) (by simp [results, Tryd.results55, go_sem, cr]) rfl ⟨_, rfl, ((unhide HO).setBelow (by show w.heap.size + 1 + 1 < _; omega) _).mono (by omega), ((bt (unhide HB1) (unhide H4))).setCell (by show _ ≤ w.heap.size + 1 + 1; omega) _⟩
end Go.Proofs.YtcgagkaalbljmaaDoor
/- Package matrix: what its calls answer, as functions. -/
namespace Go.Proofs.YtcgagkaalbljmaaDoor
open Go.RowKit
set_option linter.unusedVariables false
set_option linter.unusedSimpArgs false
theorem row_colsF {M : List (List Int)} (hm : MMay M) {x : Nat} (hx : x < M.length) : M.getD x [] = colsF (M.getD 0 []).length (fun c => entry M x c) := by
  have hl : (M.getD x []).length = (M.getD 0 []).length := (hm.2.2.2.2 x hx).1
  apply List.ext_getElem
  · rw [colsF_len, hl]
  · intro c h1 h2
    have hc : c < (M.getD 0 []).length := by rw [← hl]; exact h1
    have := (mmay_at hm hx hc).1
    have e2 : ∀ (f : Nat → Nat) (h2 : c < (colsF (M.getD 0 []).length f).length), (colsF (M.getD 0 []).length f)[c] = ((f c : Nat) : Int) := fun f h2 => by simp [colsF]
    rw [e2, ← this]
    generalize M.getD x [] = l at h1 ⊢
    simp [List.getD, List.getElem?_eq_getElem h1]
theorem pickM_matF {M : List (List Int)} {rs : List Int} (hm : MMay M) (hn : namesTo rs M.length rs.length) : matF rs.length (M.getD 0 []).length (pickAt M rs) = pickM M rs := by
  apply List.ext_getElem
  · rw [matF_len, pickM_len]
  · intro r h1 h2
    rw [matF_len] at h1
    have hx := hn r h1
    have e1 : (matF rs.length (M.getD 0 []).length (pickAt M rs)).getD r [] = (pickM M rs).getD r [] := by
      rw [matF_row _ _ _ _ h1, pickM_row h1]
      exact (row_colsF hm (by omega)).symm
    simpa [List.getD, List.getElem?_eq_getElem, h1, h2, matF_len] using e1
set_option maxRecDepth 100000 in
set_option maxHeartbeats 2000000 in
theorem matPick_noM (pa a : Option Addr) (na ca n cap : Nat) (M : List (List Int)) (w : World) (hv : MatV w (.agg #[.slice pa na ca]) M) (hm : ¬ MMay M) :
    Calls Tryd.prog 46 #[.agg #[.slice pa na ca], .slice a n cap] w fun e w' => e = .returned (.tuple #[.agg #[.slice none 0 0], .int .i64 300]) ∧ Below w.heap.size w w' := by
  have HA := hide hv
  have HM := hide hm
  clear hv hm
  go_enter Tryd.func46, Tryd.ntmps46
  go_wp2_with fail
  have k2 := hide (three_new w (.cells #[.slice pa na ca] 52) (.cells #[.slice a n cap] 36) (.cells #[.slice none 0 0] 52))
  have k3 : Hid (Below w.heap.size w (((w.alloc (.cells #[.slice pa na ca] 52)).alloc (.cells #[.slice a n cap] 36)).alloc (.cells #[.slice none 0 0] 52))) := hide (by go_grown)
  have k4 : (((w.alloc (.cells #[.slice pa na ca] 52)).alloc (.cells #[.slice a n cap] 36)).alloc (.cells #[.slice none 0 0] 52)).heap.size = w.heap.size + 3 := by simp
  generalize (((w.alloc (.cells #[.slice pa na ca] 52)).alloc (.cells #[.slice a n cap] 36)).alloc (.cells #[.slice none 0 0] 52)) = W at k2 k3 k4 ⊢
  refine (matMay_no _ M W ((unhide HA).below (unhide k3)) (unhide HM)).mono ?_
  rintro e gw ⟨rfl, gb⟩
  have r2 := (gb.block _ (by omega)).trans (unhide k2)
  have c2 := cell_of_one r2
  have f2 := free_of_one r2
  have HB1 := hide (bt (unhide k3) gb)
  clear gb
  go_wp2
  have cr := cell_of_one (one_setCell (u := .slice none 0 0) r2)
  exact bodyPost_ret (v := .tuple #[.agg #[.slice none 0 0], .int .i64 300]) (by simp [results, Tryd.results46, go_sem, cr]) rfl ⟨rfl, (unhide HB1).setCell (by show _ ≤ w.heap.size + 1 + 1; omega) _⟩
set_option maxRecDepth 100000 in
set_option maxHeartbeats 2000000 in
theorem matPick_noRows (pa a : Option Addr) (na ca n cap : Nat) (M : List (List Int)) (w : World) (hv : MatV w (.agg #[.slice pa na ca]) M) (hm : MMay M)
    (hr : ∀ W, Below w.heap.size w W → Calls Tryd.prog 60 #[.agg #[.slice pa na ca], .slice a n cap] W fun e w' => e = .returned (.bool false) ∧ Below W.heap.size W w') :
    Calls Tryd.prog 46 #[.agg #[.slice pa na ca], .slice a n cap] w fun e w' => e = .returned (.tuple #[.agg #[.slice none 0 0], .int .i64 300]) ∧ Below w.heap.size w w' := by
  have HA := hide hv
  have HM := hide hm
  have HR := hide hr
  clear hv hm hr
  go_enter Tryd.func46, Tryd.ntmps46
  go_wp2_with fail
  have k0 := hide (three_old w (.cells #[.slice pa na ca] 52) (.cells #[.slice a n cap] 36) (.cells #[.slice none 0 0] 52))
  have k1 := hide (three_mid w (.cells #[.slice pa na ca] 52) (.cells #[.slice a n cap] 36) (.cells #[.slice none 0 0] 52))
  have k2 := hide (three_new w (.cells #[.slice pa na ca] 52) (.cells #[.slice a n cap] 36) (.cells #[.slice none 0 0] 52))
  have k3 : Hid (Below w.heap.size w (((w.alloc (.cells #[.slice pa na ca] 52)).alloc (.cells #[.slice a n cap] 36)).alloc (.cells #[.slice none 0 0] 52))) := hide (by go_grown)
  have k4 : (((w.alloc (.cells #[.slice pa na ca] 52)).alloc (.cells #[.slice a n cap] 36)).alloc (.cells #[.slice none 0 0] 52)).heap.size = w.heap.size + 3 := by simp
  generalize (((w.alloc (.cells #[.slice pa na ca] 52)).alloc (.cells #[.slice a n cap] 36)).alloc (.cells #[.slice none 0 0] 52)) = W at k0 k1 k2 k3 k4 ⊢
  refine (matMay_yes _ M W ((unhide HA).below (unhide k3)) (unhide HM)).mono ?_
  rintro e gw ⟨rfl, gb⟩
  have r0 := (gb.block _ (by omega)).trans (unhide k0)
  have r1 := (gb.block _ (by omega)).trans (unhide k1)
  have r2 := (gb.block _ (by omega)).trans (unhide k2)
  have c0 := cell_of_one r0
  have c1 := cell_of_one r1
  have hsg := gb.size
  have HB1 := hide (bt (unhide k3) gb)
  have R2 := hide r2
  clear gb r0 r1 r2
  go_wp2_with fail
  refine (unhide HR gw (unhide HB1)).mono ?_
  rintro e gx ⟨rfl, gb⟩
  have r2 := (gb.block _ (by omega)).trans (unhide R2)
  have c2 := cell_of_one r2
  have f2 := free_of_one r2
  have HB2 := hide (bt (unhide HB1) gb)
  clear gb c0 c1
  go_wp2
  have cr := cell_of_one (one_setCell (u := .slice none 0 0) r2)
  exact bodyPost_ret (v := .tuple #[.agg #[.slice none 0 0], .int .i64 300]) (by simp [results, Tryd.results46, go_sem, cr]) rfl ⟨rfl, (unhide HB2).setCell (by show _ ≤ w.heap.size + 1 + 1; omega) _⟩
set_option maxRecDepth 100000 in
set_option maxHeartbeats 4000000 in
theorem matPick_yes (pa a : Option Addr) (na ca n cap : Nat) (M : List (List Int)) (rs : List Int) (w : World) (hv : MatV w (.agg #[.slice pa na ca]) M) (hx : Ints w a n cap rs) (hm : MMay M) (h1 : 1 ≤ n) (h2 : n ≤ 12) (hn : namesTo rs na n) :
    Calls Tryd.prog 46 #[.agg #[.slice pa na ca], .slice a n cap] w fun e w' => ∃ u, e = .returned (.tuple #[.agg #[u], .int .i64 0]) ∧ OwnM w' w.heap.size 36 3 u (pickM M rs) ∧ Below w.heap.size w w' := by
  obtain ⟨hlA, nA1, nA2, kA, b1, o1, ekA, kA1, kA2, rfl, hrA⟩ := mat_at hv hm
  obtain ⟨gA, ogA, capA, dA, _⟩ := hrA 0 nA1
  have HA := hide hv
  have HM := hide hm
  have HX := hide hx
  have HN := hide hn
  have HLA := hide hlA
  have HEA := hide ekA
  clear hv hm hx hn hrA hlA ekA
  rw [Nat.add_zero] at dA
  have lA := cell_lt dA
  go_enter Tryd.func46, Tryd.ntmps46
  go_wp2_with fail
  have k0 := hide (three_old w (.cells #[.slice (some ⟨b1, o1, none⟩) na ca] 52) (.cells #[.slice a n cap] 36) (.cells #[.slice none 0 0] 52))
  have k1 := hide (three_mid w (.cells #[.slice (some ⟨b1, o1, none⟩) na ca] 52) (.cells #[.slice a n cap] 36) (.cells #[.slice none 0 0] 52))
  have k2 := hide (three_new w (.cells #[.slice (some ⟨b1, o1, none⟩) na ca] 52) (.cells #[.slice a n cap] 36) (.cells #[.slice none 0 0] 52))
  have k3 : Hid (Below w.heap.size w (((w.alloc (.cells #[.slice (some ⟨b1, o1, none⟩) na ca] 52)).alloc (.cells #[.slice a n cap] 36)).alloc (.cells #[.slice none 0 0] 52))) := hide (by go_grown)
  have k4 : (((w.alloc (.cells #[.slice (some ⟨b1, o1, none⟩) na ca] 52)).alloc (.cells #[.slice a n cap] 36)).alloc (.cells #[.slice none 0 0] 52)).heap.size = w.heap.size + 3 := by simp
  generalize (((w.alloc (.cells #[.slice (some ⟨b1, o1, none⟩) na ca] 52)).alloc (.cells #[.slice a n cap] 36)).alloc (.cells #[.slice none 0 0] 52)) = W at k0 k1 k2 k3 k4 ⊢
  have HD := hide dA
  clear dA
  refine (matMay_yes _ M W ((unhide HA).below (unhide k3)) (unhide HM)).mono ?_
  rintro e gw ⟨rfl, gb⟩
  have R0 := hide ((gb.block _ (by omega)).trans (unhide k0))
  have R1 := hide ((gb.block _ (by omega)).trans (unhide k1))
  have R2 := hide ((gb.block _ (by omega)).trans (unhide k2))
  have c0 := cell_of_one (unhide R0)
  have c1 := cell_of_one (unhide R1)
  have hsg := gb.size
  have HB1 := hide (bt (unhide k3) gb)
  clear gb k0 k1 k2
  go_wp2_with fail
  refine (areRowsOf_any _ _ _ _ _ _ rs gw ((unhide HX).below (unhide HB1)) h1 h2).mono ?_
  rintro e gx ⟨⟨_, rfl⟩ | ⟨hno, _⟩, gb⟩
  rotate_left
  · exact absurd (unhide HN) hno
  replace R0 := hide ((gb.block _ (by omega)).trans (unhide R0))
  replace R1 := hide ((gb.block _ (by omega)).trans (unhide R1))
  replace R2 := hide ((gb.block _ (by omega)).trans (unhide R2))
  have hsx := gb.size
  replace HB1 := hide (bt (unhide HB1) gb)
  clear c0 c1 gb
  have g0 := kept_cell (B := w.heap.size + 2) (cell_of_one (unhide R0)) (by show w.heap.size < _; omega)
  have g1 := kept_cell (B := w.heap.size + 2) (cell_of_one (unhide R1)) (by show w.heap.size + 1 < _; omega)
  have g3 := kept_cell (B := w.heap.size + 2) (((unhide HB1).cell lA).trans (unhide HD)) (by show b1 < _; have : b1 < w.heap.size := lA; omega)
  have p2 : (0 : Int) < na := by omega
  have p2n : 0 < na := by omega
  have p2z : ¬ na = 0 := by omega
  go_wp2
  refine wp_region_ord_then (S := Below (w.heap.size + 2) gx) [(true, 0), (true, 1), (true, 2), (true, 3), (true, 4), (true, 5), (true, 6), (false, 7), (false, 8), (false, 9)] (List.cons_ne_nil _ _) (by kernel_rfl) (by kernel_rfl) (by kernel_rfl) (by kernel_rfl) (by kernel_rfl) ((Below.refl _ _).drew) ?_
  simp only [List.dropLast_cons_cons, List.dropLast_singleton, List.getLast_cons_cons, List.getLast_singleton, withOps, List.map_cons, List.map_nil, List.getElem?_cons_succ, List.getElem?_cons_zero]
  repeat (refine walkH_read (by rfl) (by (intro gx; go_simp; try (with_reducible rfl))) ?_; try simp only [Act.put, List.setIfInBounds_toArray, List.set_cons_zero, List.set_cons_succ])
  refine walkH_do rfl (fun K hK => ?_)
  go_simp
  refine hK _ _ ((Below.refl _ _).drew) ?_
  clear hK K
  try simp only [Act.put, List.setIfInBounds_toArray, List.set_cons_zero, List.set_cons_succ]
  refine walkH_do rfl (fun K hK => ?_)
  go_simp
  refine (fill_any n kA 62 _ (pickAt M rs) gx.drew h1 h2 kA1 kA2 (enters_it Tryd.func62 (by kernel_rfl) rfl) (fun r c V hr hc hV => by
    have hV' : Below gx.heap.size gx V := ((Below.refl _ _).drew).trans hV
    have e0 := (hV'.block _ (by omega)).trans (unhide R0)
    have e1 := (hV'.block _ (by omega)).trans (unhide R1)
    have hbV := bt (unhide HB1) hV'
    simpa using pickAt_any r c w.heap.size (w.heap.size + 1) _ _ na ca n cap M rs V (cell_of_one e0) (cell_of_one e1) ((unhide HA).below hbV) (unhide HM) ((unhide HX).below hbV) (unhide HN) hr (by rw [unhide HEA]; exact hc) h2)).mono ?_
  rintro e w4 ⟨u, rfl, hO, hb4⟩
  have hb4' : Below gx.heap.size gx w4 := ((Below.refl _ _).drew).trans hb4
  refine hK _ _ (hb4'.mono (by omega)) ?_
  clear hK K
  try simp only [Act.put, List.setIfInBounds_toArray, List.set_cons_zero, List.set_cons_succ]
  obtain ⟨p, m, c, rfl, hn⟩ := hO.form
  have eM : matF n kA (pickAt M rs) = pickM M rs := by
    have hl := (unhide HX).1
    rw [← pickM_matF (unhide HM) (by rw [unhide HLA, hl]; exact unhide HN), hl, unhide HEA]
  rw [eM] at hO
  have r2 := (hb4'.block _ (by omega)).trans (unhide R2)
  have hs0 : gx.drew.heap.size = gx.heap.size := rfl
  rw [hs0] at hO
  have HO := hide hO
  have H4 := hide hb4'
  have c2 := cell_of_one r2
  have f2 := free_of_one r2
  have R4 := hide r2
  clear hO hb4 hb4' hn eM r2
  refine walkH_do rfl (fun K hK => ?_)
  go_simp
  refine hK _ _ (((unhide H4).mono (by omega)).setCell (by show _ ≤ w.heap.size + 1 + 1; omega) _) ?_
  clear hK K
  try simp only [Act.put, List.setIfInBounds_toArray, List.set_cons_zero, List.set_cons_succ]
  refine lastPost_of_list ?_
  simp only [List.cons_append, List.nil_append]
  go_wp2
  refine NoPanic.normal ?_
  go_wp2
  have cr := cell_of_one (one_setCell (u := .slice p m c) (unhide R4))
  exact bodyPost_ret (v := .tuple #[.agg #[.slice p m c], .int .i64 0]) (by simp [results, Tryd.results46, go_sem, cr]) rfl ⟨_, rfl, ((unhide HO).setBelow (by show w.heap.size + 1 + 1 < _; omega) _).mono (by omega), ((bt (unhide HB1) (unhide H4))).setCell (by show _ ≤ w.heap.size + 1 + 1; omega) _⟩
theorem matMay_fun (v : Value) (M : List (List Int)) (w : World) (h : MatV w v M) : Calls Tryd.prog 59 #[v] w fun e w' => e = .returned (.bool (decide (MMay M))) ∧ Below w.heap.size w w' := by
  refine (matMay_any v M w h).mono ?_
  rintro e w' ⟨⟨hm, rfl⟩ | ⟨hm, rfl⟩, hB⟩
  · rw [decide_eq_true hm]; exact ⟨rfl, hB⟩
  · rw [decide_eq_false hm]; exact ⟨rfl, hB⟩
theorem matMul_fun (a b : Value) (A B : List (List Int)) (w : World) (ha : MatV w a A) (hb : MatV w b B) :
    Calls Tryd.prog 55 #[a, b] w fun e w' => ∃ u, e = .returned (.tuple #[.agg #[u], .int .i64 (mulF A B).2]) ∧ OwnM w' w.heap.size 36 3 u (mulF A B).1 ∧ Below w.heap.size w w' := by
  have ha' := ha
  have hb' := hb
  obtain ⟨pa, na, ca, rfl, _⟩ := ha'
  obtain ⟨pb, nb, cb, rfl, _⟩ := hb'
  have no : ¬ MulMay A B → ∀ e w', (e = Ending.returned (.tuple #[.agg #[.slice none 0 0], .int .i64 300]) ∧ Below w.heap.size w w') → ∃ u, e = .returned (.tuple #[.agg #[u], .int .i64 (mulF A B).2]) ∧ OwnM w' w.heap.size 36 3 u (mulF A B).1 ∧ Below w.heap.size w w' := by
    rintro hm e w' ⟨rfl, hB⟩
    simp only [mulF, if_neg hm]
    exact ⟨_, rfl, OwnM.nil _ _ _ _, hB⟩
  by_cases h1 : MMay A
  · by_cases h2 : MMay B
    · by_cases h3 : (A.getD 0 []).length = B.length
      · refine (matMul_yes pa pb na ca nb cb A B w ha hb h1 h2 h3).mono ?_
        rintro e w' ⟨u, rfl, ho, hB⟩
        simp only [mulF, if_pos (show MulMay A B from ⟨h1, h2, h3⟩)]
        exact ⟨u, rfl, ho, hB⟩
      · exact (matMul_noLen pa pb na ca nb cb A B w ha hb h1 h2 h3).mono (no (fun h => h3 h.2.2))
    · exact (matMul_noB pa pb na ca nb cb A B w ha hb h1 h2).mono (no (fun h => h2 h.2.1))
  · exact (matMul_noA pa pb na ca nb cb A B w ha hb h1).mono (no (fun h => h1 h.1))
theorem matPick_fun (v : Value) (a : Option Addr) (n cap : Nat) (M : List (List Int)) (rs : List Int) (w : World) (hv : MatV w v M) (hr : Ints w a n cap rs) (hn : n ≤ maxLen) :
    Calls Tryd.prog 46 #[v, .slice a n cap] w fun e w' => ∃ u, e = .returned (.tuple #[.agg #[u], .int .i64 (pickF M rs).2]) ∧ OwnM w' w.heap.size 36 3 u (pickF M rs).1 ∧ Below w.heap.size w w' := by
  have hv' := hv
  obtain ⟨pa, na, ca, rfl, R⟩ := hv'
  have hlA : M.length = na := by obtain ⟨_, h, _⟩ := R; exact h
  have no : ¬ PickMay M rs → ∀ e w', (e = Ending.returned (.tuple #[.agg #[.slice none 0 0], .int .i64 300]) ∧ Below w.heap.size w w') → ∃ u, e = .returned (.tuple #[.agg #[u], .int .i64 (pickF M rs).2]) ∧ OwnM w' w.heap.size 36 3 u (pickF M rs).1 ∧ Below w.heap.size w w' := by
    rintro hm e w' ⟨rfl, hB⟩
    simp only [pickF, if_neg hm]
    exact ⟨_, rfl, OwnM.nil _ _ _ _, hB⟩
  have hl := hr.1
  by_cases h1 : MMay M
  · by_cases h2 : n < 1 ∨ 12 < n
    · exact (matPick_noRows pa a na ca n cap M w hv h1 (fun W hW => areRowsOf_no pa na ca a n cap W h2)).mono (no (pick_len (by rw [hl]; exact h2)))
    · by_cases h3 : namesTo rs na n
      · refine (matPick_yes pa a na ca n cap M rs w hv hr h1 (by omega) (by omega) h3).mono ?_
        rintro e w' ⟨u, rfl, ho, hB⟩
        simp only [pickF, if_pos (show PickMay M rs from ⟨h1, by omega, by omega, fun i hi => by rw [hlA]; exact h3 i (by omega)⟩)]
        exact ⟨u, rfl, ho, hB⟩
      · refine (matPick_noRows pa a na ca n cap M w hv h1 (fun W hW => ?_)).mono (no (fun h => h3 (fun j hj => by have := h.2.2.2 j (by omega); rw [hlA] at this; exact this)))
        refine (areRowsOf_any pa na ca a n cap rs W (hr.below hW) (by omega) (by omega)).mono ?_
        rintro e w' ⟨⟨h, _⟩ | ⟨_, rfl⟩, hb⟩
        · exact absurd h h3
        · exact ⟨rfl, hb⟩
  · exact (matPick_noM pa a na ca n cap M w hv h1).mono (no (fun h => h1 h.1))
end Go.Proofs.YtcgagkaalbljmaaDoor
