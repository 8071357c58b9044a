/- Package decode: solve: the walk. -/
import Derived.Test.YtcgagkaalbljmaaDoorDecW1
namespace Go.Proofs.YtcgagkaalbljmaaDoor
open Go.RowKit
set_option linter.unusedVariables false
set_option linter.unusedSimpArgs false
attribute [local go_sem ↓] Go.wp_at_zero Go.wp_at_succ
open Vec (alikeTo numsTo May)
/-- the data, the first k of them made -/
def backAt (N : List (List Int)) (hs : List ByteArray) (d k : Nat) : List ByteArray := backTo N hs k ++ List.replicate (d - k) ByteArray.empty
theorem backAt_len (N : List (List Int)) (hs : List ByteArray) (d k : Nat) (h : k ≤ d) : (backAt N hs d k).length = d := by simp [backAt, backTo_len]; omega
theorem backAt_start (N : List (List Int)) (hs : List ByteArray) (d : Nat) : backAt N hs d 0 = List.replicate d ByteArray.empty := by simp [backAt, backTo]
theorem backAt_end (N : List (List Int)) (hs : List ByteArray) (d : Nat) : backAt N hs d d = backTo N hs d := by simp [backAt]
theorem backAt_set (N : List (List Int)) (hs : List ByteArray) (d k : Nat) (h : k < d) : (backAt N hs d k).set k (Vec.out (N.getD k []) hs) = backAt N hs d (k + 1) := by
  unfold backAt
  rw [backTo_snoc, List.set_append_right _ _ (by rw [backTo_len]; exact Nat.le_refl _), backTo_len, Nat.sub_self]
  obtain ⟨m, hm⟩ : ∃ m, d - k = m + 1 := ⟨d - k - 1, by omega⟩
  rw [hm, show d - (k + 1) = m by omega, List.replicate_succ, List.set_cons_zero]
  simp
set_option maxRecDepth 100000 in
set_option maxHeartbeats 4000000 in
theorem decSolve_any (d p : Nat) (a b : Option Addr) (ca cb : Nat) (ss : List ByteArray) (bs : List Bool) (w : World) (hx : Ints w a d ca (ofNats ((rowsL bs bs.length).take d))) (hs : Strs w b d cb ((hadL bs ss bs.length).take d)) (h1 : 1 ≤ d) (h2 : d ≤ 4) (h3 : p ≤ 2) (hle : d ≤ (rowsL bs bs.length).length) (hlb : bs.length = d + p) (ha : alikeTo (hadL bs ss bs.length) (hadL bs ss bs.length).length) (hm : Made w) :
    Calls Tryd.prog 30 #[.agg #[.int .i64 d, .int .i64 p], .slice a d ca, .slice b d cb] w fun e w' => ∃ v N, InvOf (firstM d p bs) N ∧ e = .returned v ∧ OwnL w' w.heap.size 9 v ((backTo N ((hadL bs ss bs.length).take d) d).map Value.string) ∧ Below w.heap.size w w' := by
  have HX := hide hx
  have HS := hide hs
  have HLE := hide hle
  have HLB := hide hlb
  have HA := hide ha
  have MD := hide hm
  have hmk := fun w => run_make_row' (P := Tryd.prog) 24 9 (.string ByteArray.empty) 16 Tryd.underlying24 Tryd.infoText rfl .i64 .i64 d (by omega) (by omega) w
  clear hx hs hle hlb ha hm
  go_enter Tryd.func30, Tryd.ntmps30
  go_wp2_with fail
  have BS := hide (heap_alloc_new w (.cells #[.int .i64 d, .int .i64 p] 23))
  have HB := hide (below_alloc w (.cells #[.int .i64 d, .int .i64 p] 23))
  generalize (w.alloc (.cells #[.int .i64 d, .int .i64 p] 23)) = W at *
  refine (genMatrix_yes d p W h1 h2 h3 ((unhide MD).up (unhide HB))).mono ?_
  rintro e w3 ⟨u3, rfl, O3, b3⟩
  obtain ⟨p3, n3, c3, rfl, e3⟩ := O3.form
  have hm3 := genM_may d (by omega) p (by omega) h1
  have M3 := hide (O3.matV (rows_le hm3.1))
  replace BS := hide ((b3.block _ (lt_of_block (unhide BS))).trans (unhide BS))
  replace HB := hide (bt (unhide HB) b3)
  clear O3 b3 e3 hm3
  have hx := below_alloc w3 (.cells #[.slice p3 n3 c3] 52)
  go_wp2_with fail
  generalize (w3.alloc (.cells #[.slice p3 n3 c3] 52)) = W3 at *
  replace BS := hide ((hx.block _ (lt_of_block (unhide BS))).trans (unhide BS))
  replace M3 := hide ((unhide M3).below hx)
  replace HB := hide (bt (unhide HB) hx)
  clear hx
  refine (matPick_fun _ _ _ _ _ _ _ (unhide M3) ((unhide HX).below (unhide HB)) (by unfold maxLen; omega)).mono ?_
  rintro e w4 ⟨u4, he, O4, b4⟩
  rw [firstM_pick h1 h2 h3 (unhide HLE) (unhide HLB)] at he O4
  subst he
  obtain ⟨p4, n4, c4, rfl, e4⟩ := O4.form
  have M4 := hide (O4.matV (rows_le (firstM_sq h1 h2 h3 (unhide HLE) (unhide HLB)).1))
  replace BS := hide ((b4.block _ (lt_of_block (unhide BS))).trans (unhide BS))
  replace HB := hide (bt (unhide HB) b4)
  clear b4 O4 e4 M3
  have hx := below_alloc w4 (.cells #[.slice p4 n4 c4] 52)
  go_wp2_with fail
  generalize (w4.alloc (.cells #[.slice p4 n4 c4] 52)) = W5 at *
  replace BS := hide ((hx.block _ (lt_of_block (unhide BS))).trans (unhide BS))
  replace M4 := hide ((unhide M4).below hx)
  replace HB := hide (bt (unhide HB) hx)
  clear hx
  refine (invInvert_any _ _ W5 (unhide M4)).mono ?_
  rintro e w6 ⟨u6, r6, hr6, he, O6, b6⟩
  obtain ⟨N, hN⟩ := firstM_inv h1 h2 h3 (bs := bs) (unhide HLE) (unhide HLB)
  obtain rfl : r6 = (N, 0) := invR_one hr6 (.inr (.inl ⟨firstM_sq h1 h2 h3 (unhide HLE) (unhide HLB), N, hN, rfl⟩))
  subst he
  obtain ⟨p6, n6, c6, rfl, e6⟩ := O6.form
  have hN6 : n6 = d := by rw [e6]; show N.length = d; rw [hN.2.1, firstM_len (unhide HLE)]
  have M6 := hide (O6.matV (rows_le hN.1))
  have HN := hide hN
  replace BS := hide ((b6.block _ (lt_of_block (unhide BS))).trans (unhide BS))
  replace HB := hide (bt (unhide HB) b6)
  clear O6 b6 e6 hr6 hN M4
  subst hN6
  obtain ⟨c0, c1⟩ := box_two (unhide BS)
  have d0 := fun o => ((below_alloc w6 o).cell (cell_lt c0)).trans c0
  have BA := hide (heap_alloc_new w6 (.cells #[.slice p6 n6 c6] 52))
  have hx := below_alloc w6 (.cells #[.slice p6 n6 c6] 52)
  go_wp2_with fail
  have hsW : (w6.alloc (.cells #[.slice p6 n6 c6] 52)).heap.size = w6.heap.size + 1 := by simp
  have HSW := hide hsW
  clear hsW
  generalize (w6.alloc (.cells #[.slice p6 n6 c6] 52)) = W6 at *
  replace BS := hide ((hx.block _ (lt_of_block (unhide BS))).trans (unhide BS))
  replace M6 := hide ((unhide M6).below hx)
  replace HB := hide (bt (unhide HB) hx)
  clear hx c0 c1 d0
  obtain ⟨b6, o6, rfl, hrows⟩ : ∃ b o, p6 = some ⟨b, o, none⟩ ∧ ∀ i, i < n6 → ∃ u, W6.cell? ⟨b, o + i, none⟩ = some u ∧ RowV W6 u (N.getD i []) := by
    obtain ⟨a', n', c', e, RR⟩ := unhide M6
    simp only [Value.agg.injEq, Array.mk.injEq, List.cons.injEq, Value.slice.injEq, and_true] at e
    obtain ⟨rfl, rfl, rfl⟩ := e
    rcases RR.two with h0 | h
    · omega
    · exact h
  have HRW := hide hrows
  clear hrows M6
  have HO := hide (own_madeT_at W6 W6.heap.size n6 9 (w6.heap.size + 1) (unhide HSW) (Nat.le_refl _) (by unfold maxLen; omega))
  have HW := hide (below_alloc W6 (.cells (madeCells #[.string ByteArray.empty] n6) 9))
  generalize (W6.alloc (.cells (madeCells #[.string ByteArray.empty] n6) 9)) = W7 at *
  obtain ⟨hs, ehs⟩ : ∃ hs, hs = (hadL bs ss bs.length).take n6 := ⟨_, rfl⟩
  rw [← ehs] at HS
  have EHS := hide ehs
  clear ehs
  rw [← backAt_start N hs n6] at HO
  go_loopw [36] (fun iv wr => ∃ k : Nat, k ≤ n6 ∧ iv = .int .i64 k ∧ Hid (OwnL wr W6.heap.size 9 (.slice (some ⟨w6.heap.size + 1, 0, none⟩) n6 n6) ((backAt N hs n6 k).map Value.string)) ∧ Hid (Below W6.heap.size W6 wr)) (fun iv _ => n6 - (intOf iv).toNat)
  case atStart => exact ⟨0, by omega, rfl, HO, HW⟩
  case round =>
    clear HO HW
    obtain ⟨k, hk, rfl, HO, HW⟩ := hrel
    have bA := ((unhide HW).block _ (lt_of_block (unhide BA))).trans (unhide BA)
    have cA := cell_of_one bA
    clear bA
    by_cases hlt : k < n6
    · have hlt' : (k : Int) < (n6 : Int) := by omega
      obtain ⟨u, hu, x, nx, cx, rfl, hnx, hx⟩ := unhide HRW k hlt
      have cu := ((unhide HW).cell (cell_lt hu)).trans hu
      have HXX := hide (hx.below (unhide HW))
      have hxl : nx = n6 := by rw [← hx.1]; exact (back_may h1 h2 (unhide HLE) (unhide HA) (unhide HN) hlt).1
      have HXL := hide hxl
      clear hu hx hxl
      unfold maxLen at hnx
      go_wp2_with fail
      refine (vecCombine_any _ _ _ _ _ _ _ hs wr (unhide HXX) ((unhide HS).below (bt (unhide HB) (unhide HW))) (by have := unhide HXL; omega)).mono ?_
      rintro e w8 ⟨r8, hr8, rfl, b8⟩
      rw [unhide EHS] at hr8
      obtain rfl := back_comb h1 h2 (unhide HLE) (unhide HA) (unhide HN) hlt hr8
      rw [← unhide EHS]
      have hO := (unhide HO).below b8
      have hW5 := (unhide HW).trans (b8.mono (unhide HW).size)
      obtain ⟨t, et⟩ : ∃ t, t = Vec.out (N.getD k []) hs := ⟨_, rfl⟩
      have hNN := own_put hO k (.string t)
      have cP := own_cellT hO k (by rw [backAt_len _ _ _ _ hk]; exact hlt)
      obtain ⟨y, ey⟩ : ∃ y, y = (backAt N hs n6 k).getD k ByteArray.empty := ⟨_, rfl⟩
      rw [← ey] at cP
      have fP := own_free hO k
      rw [← et]
      have HNN : Hid (OwnL (w8.setCell ⟨w6.heap.size + 1, k, none⟩ (.string t)) W6.heap.size 9 (.slice (some ⟨w6.heap.size + 1, 0, none⟩) n6 n6) ((backAt N hs n6 (k + 1)).map Value.string)) := by
        rw [← backAt_set N hs n6 k hlt, List.map_set, ← et]
        exact hide hNN
      have HW6 := hide (hW5.setCell (p := ⟨w6.heap.size + 1, k, none⟩) (by show W6.heap.size ≤ w6.heap.size + 1; exact Nat.le_of_eq (unhide HSW)) (.string t))
      clear hr8 b8 cA cu hO hNN et ey hW5 HO HW
      go_wp2
      go_roundw
      case rel => exact ⟨k + 1, by omega, by go_num, HNN, HW6⟩
      case measure => simp [intOf]; omega
    · have hlt' : ¬ (k : Int) < (n6 : Int) := by omega
      obtain rfl : k = n6 := by omega
      have hB := hide (bt (unhide HB) (unhide HW))
      have hs3 := (unhide HB).size
      go_wp2
      go_ret
      have hO := unhide HO
      rw [backAt_end, unhide EHS] at hO
      exact ⟨_, N, unhide HN, rfl, hO.mono hs3, unhide hB⟩
end Go.Proofs.YtcgagkaalbljmaaDoor
