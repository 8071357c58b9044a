/- slices.Grow of no row, and slices.Concat of rows of numbers: a row of the call's own, one behind the other. -/
import Derived.Test.YtmphbajnadbggabKRegs
import Derived.Lib.AppendZerosOnto
namespace Go.Proofs.Ytmphbajnadbggab
open Go.RowKit
set_option linter.unusedVariables false
set_option linter.unusedSimpArgs false
theorem takeI_flat_succ (sss : List (List Int)) (k : Nat) (hk : k < sss.length) : (sss.take (k + 1)).flatten = (sss.take k).flatten ++ sss.getD k [] := by
  rw [List.take_succ_eq_append_getElem hk, List.flatten_append, List.getD, List.getElem?_eq_getElem hk]
  simp
theorem takeI_flat_le (sss : List (List Int)) (k : Nat) : (sss.take k).flatten.length ≤ sss.flatten.length := by
  conv => rhs; rw [← List.take_append_drop k sss, List.flatten_append, List.length_append]
  omega
set_option maxRecDepth 100000 in
set_option maxHeartbeats 1000000 in
theorem growNilI_any (n : Nat) (w : World) (hn : n * 8 ≤ 140737488355328) :
    Calls Try.prog 45 #[.slice none 0 0, .int .i64 n] w fun e w' => ∃ v, e = .returned v ∧ OwnL w' w.heap.size 3 v [] ∧ Below w.heap.size w w' := by
  have h1 : ¬ ((n : Int) < 0) := by omega
  have h3 : wrap64 ((n : Int)) = (n : Int) := by unfold wrap64; omega
  by_cases h0 : n = 0
  · subst h0
    go_enter Try.func45, Try.ntmps45
    go_wp2
    go_ret
    exact ⟨_, rfl, OwnL.nil _ _ _, Below.refl _ _⟩
  · have h4 : (n : Int) > 0 := by omega
    obtain ⟨i0, hi, hz0, hz1, hz2⟩ := info_parts (P := Try.prog) (e := 3) (z := .int .i64 0) (size := 1) (bytes := 8) Try.infoInt
    have hrz : ∀ ty, (Builtin.append_ #[26, 3] ty #[.slice none 0 0, .int .i64 (n : Int)]).run Try.prog w =
        .ok (.slice (some ⟨w.heap.size, 0, none⟩) n (grownCap w n 0 3)) (w.drew.alloc (.cells (Builtin.zeroCells (Value.int .i64 0).cells n ++ Builtin.zeroCells (Value.int .i64 0).cells (grownCap w n 0 3 - n)) 3)) := fun ty =>
      Lib.run_append_nil_zeros w 26 3 ty 3 i0 (.int .i64 0) .i64 .i64 Try.underlying26 (by first | exact Try.underlyingInt | rfl) hi hz0 n (by omega) (by omega) (by omega) (by rw [hz2]; omega)
    have hG := grownCap_ge w n 0 3
    have hGm := grownCap_le_maxLen w n 0 3 (by unfold maxLen; omega)
    obtain ⟨G, eG⟩ : ∃ G, G = grownCap w n 0 3 := ⟨_, rfl⟩
    rw [← eG] at hrz hG hGm
    obtain ⟨cs, ecs⟩ : ∃ cs, cs = Builtin.zeroCells (Value.int .i64 0).cells n ++ Builtin.zeroCells (Value.int .i64 0).cells (G - n) := ⟨_, rfl⟩
    rw [← ecs] at hrz
    have hcs : cs.size = G * 1 := by
      rw [ecs, Array.size_append, size_zeroCells, size_zeroCells]
      simp [Value.cells]
      omega
    have HO := hide (World.ownsRow_made w.drew (base := w.heap.size) (e := 3) (size := 1) cs G (Nat.le_refl _) hGm hcs)
    have HB := hide ((below_drewN w w.heap.size 1).alloc (Nat.le_refl _) (.cells cs 3))
    have hG63 : G ≤ 9223372036854775807 := by unfold maxLen at hGm; omega
    have HR := hide hrz
    clear hcs ecs eG hGm hrz
    go_enter Try.func45, Try.ntmps45
    go_wp2_with (at_builtin; refine Lib.wpList_append_run _ rfl _ _ _ _ rfl _ _ rfl rfl _ _ (unhide HR _) ?_)
    go_ret
    exact ⟨_, rfl, unhide HO, unhide HB⟩
set_option maxRecDepth 100000 in
set_option maxHeartbeats 2000000 in
theorem concatI_any (g off n cap : Nat) (p : Nat → Option Addr) (c : Nat → Nat) (sss : List (List Int)) (w : World) (hl : sss.length = n) (hn : n ≤ 140737488355328)
    (hc : ∀ i, i < n → w.cell? ⟨g, off + i, none⟩ = some (.slice (p i) (sss.getD i []).length (c i))) (hs : ∀ i, i < n → Ints w (p i) (sss.getD i []).length (c i) (sss.getD i []))
    (hb : sss.flatten.length * 8 ≤ 140737488355328) :
    Calls Try.prog 38 #[.slice (some ⟨g, off, none⟩) n cap] w fun e w' => ∃ v, e = .returned v ∧ OwnL w' w.heap.size 3 v (sss.flatten.map (Value.int .i64)) ∧ Below w.heap.size w w' := by
  obtain ⟨F, eF⟩ : ∃ F, F = sss.flatten.map (Value.int .i64) := ⟨_, rfl⟩
  rw [← eF]
  have EF := hide eF
  clear eF
  have HC := hide hc
  have HS := hide hs
  have HL := hide hl
  have HBD := hide hb
  have hn63 : (n : Int) ≤ 140737488355328 := by omega
  clear hc hs hl hb
  go_enter Try.func38, Try.ntmps38
  go_wp2
  go_loopw [3, 11] (fun sv iv wr => ∃ k : Nat, k ≤ n ∧ iv = .int .i64 k ∧ sv = .int .i64 ((sss.take k).flatten.length : Nat) ∧ wr = w) (fun _ iv _ => n - (intOf iv).toNat)
  case atStart => exact ⟨0, by omega, rfl, rfl, rfl⟩
  case round =>
    obtain ⟨k, hk, rfl, rfl, hw⟩ := hrel
    obtain rfl : w = wr := hw.symm
    have hT := takeI_flat_le sss k
    by_cases hlt : k < n
    · have hlt' : (k : Int) < n := by omega
      have c1 := unhide HC k hlt
      have eT : (sss.take (k + 1)).flatten.length = (sss.take k).flatten.length + (sss.getD k []).length := by rw [takeI_flat_succ sss k (by have := unhide HL; omega), List.length_append]
      have hT1 := takeI_flat_le sss (k + 1)
      rw [eT] at hT1
      have ET := hide eT
      have hbd := unhide HBD
      obtain ⟨T, eT'⟩ : ∃ T, T = (sss.take k).flatten.length := ⟨_, rfl⟩
      obtain ⟨m, em⟩ : ∃ m, m = (sss.getD k []).length := ⟨_, rfl⟩
      rw [← eT'] at hT hT1 ET ⊢
      rw [← em] at hT1 ET c1
      have hT2 : T + m ≤ 17592186044416 := by omega
      have hw1 : wrap64 ((T : Int) + (m : Int)) = ((T + m : Nat) : Int) := by unfold wrap64; omega
      have hneg : ¬ (((T + m : Nat) : Int) < 0) := by omega
      clear eT eT' em hT hT1 hbd
      go_wp2
      go_roundw
      case rel => exact ⟨k + 1, by omega, by go_num, by rw [unhide ET, Int.natCast_add], True.intro⟩
      case measure => simp [intOf]; omega
    · have hlt' : ¬ (k : Int) < n := by omega
      obtain rfl : k = n := by omega
      have hbd := unhide HBD
      have hfull : (sss.take k).flatten.length = sss.flatten.length := by rw [List.take_of_length_le (by have := unhide HL; omega)]
      rw [hfull]
      clear hfull hT
      obtain ⟨T, eT'⟩ : ∃ T, T = sss.flatten.length := ⟨_, rfl⟩
      rw [← eT'] at hbd ⊢
      clear eT'
      go_wp2_with fail
      refine (growNilI_any T w hbd).mono ?_
      rintro e w1 ⟨v1, rfl, O1, B1⟩
      have OO := hide O1
      have BB := hide B1
      clear O1 B1
      go_wp2
      go_loopw [6, 27] (fun rv iv w2 => ∃ j : Nat, j ≤ k ∧ iv = .int .i64 j ∧ Hid (OwnL w2 w.heap.size 3 rv ((sss.take j).flatten.map (Value.int .i64))) ∧ Hid (Below w.heap.size w w2)) (fun _ iv _ => k - (intOf iv).toNat)
      case atStart => exact ⟨0, by omega, rfl, hide (by simpa using unhide OO), BB⟩
      case round =>
        obtain ⟨j, hj, rfl, O2, HW⟩ := hrel
        obtain ⟨p1, q1, e1⟩ := (unhide O2).form
        rw [List.length_map] at e1
        obtain ⟨z, ez⟩ : ∃ z, z = (sss.take j).flatten.length := ⟨_, rfl⟩
        rw [← ez] at e1
        subst e1
        clear ez
        by_cases hlt2 : j < k
        · have hlt2' : (j : Int) < k := by omega
          have c1 := ((unhide HW).cell (cell_lt (unhide HC j hlt2))).trans (unhide HC j hlt2)
          have s1 := hide ((unhide HS j hlt2).below (unhide HW))
          have hT1 := takeI_flat_le sss (j + 1)
          have eT := takeI_flat_succ sss j (by have := unhide HL; omega)
          rw [eT, List.length_append] at hT1
          have ET := hide eT
          have hbd := unhide HBD
          have hsz := (unhide HW).size
          obtain ⟨T, eT'⟩ : ∃ T, T = (sss.take j).flatten := ⟨_, rfl⟩
          obtain ⟨m, em⟩ : ∃ m, m = sss.getD j [] := ⟨_, rfl⟩
          rw [← eT'] at hT1 ET O2
          rw [← em] at hT1 ET c1 s1
          have OR : Hid (wr.ownsRow w.heap.size 3 1 (.slice p1 z q1) T.length (T.map (Value.int .i64))) := hide (by simpa [OwnL] using unhide O2)
          clear eT eT' em
          go_wp2_with (at_builtin; go_loud (refine wpList_append_row wr (by rfl) (.tmp 31) (.tmp 32) 26 (by rfl) w.heap.size 3 (.int .i64 0) 8 Try.underlying26 Try.infoInt rfl _ T.length (T.map (Value.int .i64)) (by rfl) (unhide OR) (p j) m.length (c j) _ (m.map (Value.int .i64)) (by rfl) (unhide s1).2 (by simp) (int_at rfl) (ints_oneCell _ _) (by unfold maxLen; omega) (by omega) hsz ?_); intro v3 w3 O3 G3; have B3 := hide ((unhide HW).grown G3 hsz (fun k' hk' => ((unhide O2).lt hk').1)); have OO3 := hide O3; clear O3 G3)
          go_roundw
          case rel =>
            refine ⟨j + 1, by omega, by go_num, hide ?_, B3⟩
            rw [unhide ET, List.map_append]
            have h := unhide OO3
            unfold OwnL
            rw [List.length_append, List.length_map, List.length_map]
            exact h
          case measure => simp [intOf]; omega
        · have hlt2' : ¬ (j : Int) < k := by omega
          obtain rfl : j = k := by omega
          have O4 : Hid (OwnL wr w.heap.size 3 _ (sss.flatten.map (Value.int .i64))) := hide (by have h := unhide O2; rwa [List.take_of_length_le (by have := unhide HL; omega)] at h)
          clear O2
          go_wp2
          go_ret
          exact ⟨_, rfl, by rw [unhide EF]; exact unhide O4, unhide HW⟩
end Go.Proofs.Ytmphbajnadbggab
