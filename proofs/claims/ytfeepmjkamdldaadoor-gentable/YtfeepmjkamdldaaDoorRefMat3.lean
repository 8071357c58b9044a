/- The document's own test of a matrix (ossuaryref1.MatrixMay): a contract. -/
import Derived.Test.YtfeepmjkamdldaaDoorMat
import Derived.Test.YtfeepmjkamdldaaDoorLaw0
import Derived.Test.YtfeepmjkamdldaaDoorRefGfWalks
namespace Go.Proofs.YtfeepmjkamdldaaDoor
open Go.RowKit
set_option linter.unusedVariables false
set_option linter.unusedSimpArgs false
def byteI (x : Int) : Prop := 0 ≤ x ∧ x < 256
def rowMay (k : Nat) (r : List Int) : Prop := r.length = k ∧ ∀ j, j < k → byteI (r.getD j 0)
/-- may this be a matrix? -/
def MMay (M : List (List Int)) : Prop := 1 ≤ M.length ∧ M.length ≤ 12 ∧ 1 ≤ (M.getD 0 []).length ∧ (M.getD 0 []).length ≤ 12 ∧ ∀ i, i < M.length → rowMay (M.getD 0 []).length (M.getD i [])
set_option maxRecDepth 100000 in
theorem refMay_len (a : Option Addr) (n cap : Nat) (w : World) (h : n < 1 ∨ 12 < n) (hn : n ≤ maxLen) : Calls Tryd.prog 50 #[.agg #[.slice a n cap]] w fun e w' => e = .returned (.bool false) ∧ Below w.heap.size w w' := by
  unfold maxLen at hn
  by_cases h1 : n < 1
  · have h1' : (n : Int) < 1 := by omega
    go_enter Tryd.func50, Tryd.ntmps50
    go_wp2
    go_ret
    exact ⟨rfl, by go_grown⟩
  · have h1' : ¬ (n : Int) < 1 := by omega
    have h2' : (12 : Int) < n := by omega
    clear h
    go_enter Tryd.func50, Tryd.ntmps50
    go_wp2
    go_ret
    exact ⟨rfl, by go_grown⟩
set_option maxRecDepth 100000 in
set_option maxHeartbeats 2000000 in
theorem refMay_some (b off n cap : Nat) (M : List (List Int)) (w : World) (hl : M.length = n) (h1 : 1 ≤ n) (h2 : n ≤ 12) (hc : ∀ i, i < n → ∃ u, w.cell? ⟨b, off + i, none⟩ = some u ∧ RowV w u (M.getD i [])) :
    Calls Tryd.prog 50 #[.agg #[.slice (some ⟨b, off, none⟩) n cap]] w fun e w' => ((MMay M ∧ e = .returned (.bool true)) ∨ (¬ MMay M ∧ e = .returned (.bool false))) ∧ Below w.heap.size w w' := by
  have h1' : ¬ (n : Int) < 1 := by omega
  have h2' : ¬ (12 : Int) < n := by omega
  have hp : (0 : Int) < n := by omega
  obtain ⟨u0, hu0, x0, k, c0, rfl, hk, hx0⟩ := hc 0 h1
  have hu0' : w.cell? ⟨b, off, none⟩ = some (.slice x0 k c0) := hu0
  have ek : (M.getD 0 []).length = k := hx0.1
  unfold maxLen at hk
  have HC := hide hc
  have EK := hide ek
  have hbox := below_alloc w (.cells #[.slice (some ⟨b, off, none⟩) n cap] 26)
  have cu := (hbox.cell (cell_lt hu0')).trans hu0'
  have HB := hide hbox
  clear hc hu0 hx0 ek hbox hu0'
  by_cases k1 : k < 1
  · have k1' : (k : Int) < 1 := by omega
    go_enter Tryd.func50, Tryd.ntmps50
    go_wp2
    go_ret
    exact ⟨.inr ⟨fun h => by have := h.2.2.1; rw [unhide EK] at this; omega, rfl⟩, unhide HB⟩
  · have k1' : ¬ (k : Int) < 1 := by omega
    by_cases k2 : 12 < k
    · have k2' : (12 : Int) < k := by omega
      go_enter Tryd.func50, Tryd.ntmps50
      go_wp2
      go_ret
      exact ⟨.inr ⟨fun h => by have := h.2.2.2.1; rw [unhide EK] at this; omega, rfl⟩, unhide HB⟩
    · have k2' : ¬ (12 : Int) < k := by omega
      go_enter Tryd.func50, Tryd.ntmps50
      go_wp2
      go_loop [4] (fun iv => ∃ i : Nat, i ≤ n ∧ iv = .int .i64 i ∧ Hid (∀ r, r < i → rowMay k (M.getD r []))) (fun iv => n - (intOf iv).toNat)
      case atStart => exact ⟨0, by omega, rfl, fun r hr => by omega⟩
      case round =>
        obtain ⟨i, hi, rfl, HG⟩ := hrel
        by_cases hlt : i < n
        · have hlt' : (i : Int) < n := by omega
          obtain ⟨u, hu, x, nx, cx, rfl, hnx, hx⟩ := unhide HC i hlt
          have c1 := ((unhide HB).cell (cell_lt hu)).trans hu
          have HX := hide hx
          unfold maxLen at hnx
          clear hu hx cu
          by_cases hk : nx = k
          · subst hk
            have t1 : ((nx : Int) != (nx : Int)) = false := by simp
            obtain ⟨bx, ox, rfl, hcx⟩ : ∃ bx ox, x = some ⟨bx, ox, none⟩ ∧ ∀ c, c < nx → w.cell? ⟨bx, ox + c, none⟩ = some (.int .i64 ((M.getD i []).getD c 0)) := by
              rcases (unhide HX).2.two with h | h
              · omega
              · exact h
            have HCX := hide hcx
            clear hcx
            go_wp2
            go_loop [5] (fun jv => ∃ j : Nat, j ≤ nx ∧ jv = .int .i64 j ∧ Hid (∀ c, c < j → byteI ((M.getD i []).getD c 0))) (fun jv => nx - (intOf jv).toNat)
            case atStart => exact ⟨0, by omega, rfl, fun c hc => by omega⟩
            case round =>
              obtain ⟨j, hj, rfl, HJ⟩ := hrel
              by_cases hltj : j < nx
              · have hltj' : (j : Int) < nx := by omega
                have c2 := ((unhide HB).cell (cell_lt (unhide HCX j hltj))).trans (unhide HCX j hltj)
                obtain ⟨y, ey⟩ : ∃ y, y = (M.getD i []).getD j 0 := ⟨_, rfl⟩
                rw [← ey] at c2
                have EY := hide ey
                clear ey
                by_cases hy : y < 0 ∨ 256 ≤ y
                · have HY := hide hy
                  clear hy
                  go_wp2_with (go_at_call 48; refine (byteNum_no _ _ (unhide HY)).mono ?_; rintro e w' ⟨rfl, rfl⟩)
                  go_ret
                  refine ⟨.inr ⟨fun h => ?_, rfl⟩, unhide HB⟩
                  have h3 := (h.2.2.2.2 i (by omega)).2 j (by rw [unhide EK]; exact hltj)
                  rw [← unhide EY] at h3
                  have := unhide HY
                  unfold byteI at h3
                  omega
                · have y1 : 0 ≤ y := by omega
                  have y2 : y ≤ 255 := by omega
                  clear hy
                  go_wp2_with (go_at_call 48; refine (byteNum_yes _ _ y1 y2).mono ?_; rintro e w' ⟨rfl, rfl⟩)
                  go_round
                  case rel =>
                    refine ⟨j + 1, by omega, by go_num, hide (fun c hc => ?_)⟩
                    by_cases q : c = j
                    · rw [q, ← unhide EY]; unfold byteI; omega
                    · exact unhide HJ c (by omega)
                  case measure => simp [intOf]; omega
              · have hltj' : ¬ (j : Int) < nx := by omega
                obtain rfl : j = nx := by omega
                go_wp2
                go_round
                case rel =>
                  refine ⟨i + 1, by omega, by go_num, hide (fun r hr => ?_)⟩
                  by_cases q : r = i
                  · rw [q]; exact ⟨(unhide HX).1, unhide HJ⟩
                  · exact unhide HG r (by omega)
                case measure => simp [intOf]; omega
          · have t1 : ((nx : Int) != (k : Int)) = true := by simp; omega
            go_wp2
            go_ret
            refine ⟨.inr ⟨fun h => hk ?_, rfl⟩, unhide HB⟩
            have := (h.2.2.2.2 i (by omega)).1
            rw [unhide EK, (unhide HX).1] at this
            exact this
        · have hlt' : ¬ (i : Int) < n := by omega
          obtain rfl : i = n := by omega
          go_wp2
          go_ret
          refine ⟨.inl ⟨⟨by omega, by omega, by rw [unhide EK]; omega, by rw [unhide EK]; omega, fun r hr => ?_⟩, rfl⟩, unhide HB⟩
          rw [unhide EK]
          exact unhide HG r (by omega)
theorem refMay_any (v : Value) (M : List (List Int)) (w : World) (h : MatV w v M) :
    Calls Tryd.prog 50 #[v] w fun e w' => ((MMay M ∧ e = .returned (.bool true)) ∨ (¬ MMay M ∧ e = .returned (.bool false))) ∧ Below w.heap.size w w' := by
  obtain ⟨a, n, cap, rfl, R⟩ := h
  have hl : M.length = n := by obtain ⟨_, h, _⟩ := R; exact h
  have hn : n ≤ maxLen := by obtain ⟨_, _, h, _⟩ := R; exact h
  by_cases h : n < 1 ∨ 12 < n
  · refine (refMay_len a n cap w h hn).mono ?_
    rintro e w' ⟨rfl, hb⟩
    exact ⟨.inr ⟨fun hm => by have := hm.1; have := hm.2.1; omega, rfl⟩, hb⟩
  · rcases R.two with h0 | ⟨b, off, rfl, hc⟩
    · omega
    · exact refMay_some b off n cap M w hl (by omega) (by omega) hc
end Go.Proofs.YtfeepmjkamdldaaDoor
