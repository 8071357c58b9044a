/- The Go text of the statement TreeTurned returns true, whatever the leaves and the numbers. -/
import Derived.Test.YtcoggfpjomgajaaAwake10
import Derived.Test.YtcoggfpjomgajaaKMatRef
import Derived.Test.YtcoggfpjomgajaaKCore
namespace Go.Proofs.Ytcoggfpjomgajaa
open Go.RowKit
set_option linter.unusedVariables false
set_option linter.unusedSimpArgs false
/-- the number of a leaf: 30 bits of it -/
def low30 (x : Int) : Nat := (x % 4294967296).toNat / 4
theorem low30_lt (x : Int) : low30 x < 1073741824 := by unfold low30; omega
def lows (xs : List Int) (k : Nat) : List Nat := (xs.take k).map low30
theorem lows_snoc (xs : List Int) (k : Nat) (h : k < xs.length) : lows xs (k + 1) = lows xs k ++ [low30 (xs.getD k 0)] := by
  unfold lows
  rw [List.take_add_one, List.map_append]
  simp [List.getD, List.getElem?_eq_getElem h]
theorem lows_len (xs : List Int) (k : Nat) (h : k ≤ xs.length) : (lows xs k).length = k := by simp [lows]; omega
theorem nats_nint (l : List Nat) : nats (nint l) = l := by
  unfold nats nint
  rw [List.map_map]
  conv => rhs; rw [← List.map_id l]
  apply List.map_congr_left
  intro x _
  rfl
theorem rootP_nint {l : List Nat} (h1 : 1 ≤ l.length) (h2 : l.length ≤ 64) (hm : Tree.May l) : rootP (nint l) = (((Tree.root l : Nat) : Int), 0) := by
  have hR : RMay (nint l) := by
    refine ⟨by rw [nint_len]; exact h1, by rw [nint_len]; exact h2, ?_⟩
    intro x hx
    unfold nint at hx
    obtain ⟨y, hy, rfl⟩ := List.mem_map.1 hx
    have := hm y hy
    unfold Sl
    omega
  unfold rootP
  rw [if_pos hR, nats_nint]
theorem lows_may' (xs : List Int) (k : Nat) : ∀ x ∈ lows xs k, x < 1073741824 := by
  intro x hx
  unfold lows at hx
  obtain ⟨y, _, rfl⟩ := List.mem_map.1 hx
  exact low30_lt y
theorem nint_set (l : List Nat) (i z : Nat) : ((nint l).map (Value.int .i64)).set i (.int .i64 (z : Int)) = (nint (l.set i z)).map (Value.int .i64) := by
  unfold nint
  rw [List.map_set, List.map_set]
theorem lows_may (xs : List Int) (k : Nat) : Tree.May (lows xs k) := by
  intro x hx
  unfold lows at hx
  obtain ⟨y, _, rfl⟩ := List.mem_map.1 hx
  have := low30_lt y
  omega
theorem lows_lt (xs : List Int) (k i : Nat) : (lows xs k).getD i 0 < 1073741824 := by
  rcases Nat.lt_or_ge i (lows xs k).length with h | h
  · have e : (lows xs k).getD i 0 = (lows xs k)[i] := by simp [List.getD, List.getElem?_eq_getElem h]
    rw [e]
    have h2 := lows_may' xs k _ (List.getElem_mem h)
    exact h2
  · have e : (lows xs k).getD i 0 = 0 := by simp [List.getD, List.getElem?_eq_none h]
    omega
theorem modT (a n : Int) (h1 : 0 < n) (h2 : n ≤ 1000) : ∃ i : Nat, (i : Int) < n ∧ wrap64 ((IntKind.u64.wrap a).tmod n) = (i : Int) := by
  have h0 : IntKind.u64.wrap a = a % 18446744073709551616 := IntKind.wrap_u64 a
  have : 0 ≤ a % 18446744073709551616 := Int.emod_nonneg _ (by decide)
  rw [h0, Int.tmod_eq_emod_of_nonneg (by omega)]
  have h3 := Int.emod_nonneg (a % 18446744073709551616) (Int.ne_of_gt h1)
  have h4 := Int.emod_lt_of_pos (a % 18446744073709551616) h1
  exact ⟨(a % 18446744073709551616 % n).toNat, by omega, by unfold wrap64; omega⟩
theorem and_65535 (n : Int) : ∃ k : Nat, k ≤ 65535 ∧ bits .and .i64 n 65535 = (k : Int) := by
  have h : bits .and .i64 n 65535 = n % 65536 := and_mask_i64 n 16 65535 (by decide) (by decide)
  exact ⟨(n % 65536).toNat, by omega, by rw [h]; omega⟩
theorem turn_num (y k z : Nat) (hy : y < 1073741824) (hk : k ≤ 65535) (ez : z = y + 1 + k) : (wrap64 (wrap64 ((y : Int) + 1) + (k : Int))).tmod 2147483647 = (z : Int) := by
  have e1 : wrap64 ((y : Int) + 1) = (y : Int) + 1 := by unfold wrap64; omega
  have e2 : wrap64 ((y : Int) + 1 + (k : Int)) = (y : Int) + 1 + (k : Int) := by unfold wrap64; omega
  have h0 : 0 ≤ (y : Int) + 1 + (k : Int) := by omega
  rw [e1, e2, Int.tmod_eq_emod_of_nonneg h0]
  omega
theorem turn_lt (y k z : Nat) (hy : y < 1073741824) (hk : k ≤ 65535) (ez : z = y + 1 + k) : z < 2147483647 ∧ y ≠ z := by omega
set_option maxRecDepth 100000 in
set_option maxHeartbeats 2000000 in
theorem TreeTurned_walk {w : World} (a0 : Option Addr) (n0 c0 : Nat) (xs : List Int) (h0 : Ints w a0 n0 c0 xs) (r0 : n0 * 8 ≤ 140737488351232) (wf0 : ∀ x ∈ xs, (Lit.int .i64 x).wf = true)
    (at_ : Int) (wf1 : (Lit.int .i64 at_).wf = true) (by_ : Int) (wf2 : (Lit.int .i64 by_).wf = true) :
    Calls Try.prog 4 #[.slice a0 n0 c0, .int .i64 at_, .int .i64 by_] w fun e w' => e = .returned (.bool true) ∧ Below w.heap.size w w' := by
  have H0 := hide h0
  have hlen := h0.1
  clear h0
  go_enter Try.func4, Try.ntmps4
  go_wp2_with fail
  refine (awake10_any _).mono ?_
  rintro e w1 ⟨rfl, b1⟩
  have HW1 := hide b1
  have hs1 := b1.size
  clear b1
  go_wp2
  go_loopw [7, 8] (fun ov iv wr => ∃ j : Nat, j ≤ n0 ∧ j ≤ 64 ∧ iv = .int .i64 j ∧ Hid (OwnL wr w.heap.size 3 ov ((nint (lows xs j)).map (Value.int .i64))) ∧ Hid (Below w.heap.size w wr)) (fun _ iv _ => 64 - (intOf iv).toNat)
  case atStart => exact ⟨0, by omega, by omega, rfl, hide (OwnL.nil _ _ _), HW1⟩
  case round =>
    obtain ⟨j, hj, hj64, rfl, HO, HW⟩ := hrel
    obtain ⟨pv, cv, ev⟩ := (unhide HO).form
    rw [List.length_map, nint_len, lows_len _ _ (by omega)] at ev
    subst ev
    have hszW := (unhide HW).size
    by_cases hlt : j < n0 ∧ j < 64
    · have hlt1 : (j : Int) < n0 := by omega
      have hlt2 : (j : Int) < 64 := by omega
      obtain ⟨b, o, ea, hcell⟩ : ∃ b off, a0 = some ⟨b, off, none⟩ ∧ ∀ i, i < n0 → wr.cell? ⟨b, off + i, none⟩ = some (.int .i64 (xs.getD i 0)) := by
        rcases ((unhide H0).below (unhide HW)).2.two with h | h
        · omega
        · exact h
      subst ea
      have cj := hcell j hlt.1
      clear hcell
      obtain ⟨x, ex⟩ : ∃ x, x = xs.getD j 0 := ⟨_, rfl⟩
      rw [← ex] at cj
      have EX := hide ex
      clear ex
      have hlow : (x % 4294967296 / 4) = ((low30 x : Nat) : Int) := by unfold low30; omega
      have HLOW := hide hlow
      have hll := lows_len xs j (by omega)
      clear hlow
      go_wp2_with (at_builtin; refine wpList_push wr (by rfl) (.tmp 26) (.tmp 34) 22 (by rfl) w.heap.size 3 (.int .i64 0) 8 Try.underlying22 Try.infoInt rfl _ _ (by rfl) (unhide HO) _ (by rfl) (by rfl) (by simp [nint_len, hll]; omega) (by omega) hszW ?_; intro v1 wa O1 P1; have HBa := hide (P1.below (unhide HO) (unhide HW) (Nat.le_refl _) hszW); have HO1 := hide O1; clear O1 P1 HO HW)
      go_roundw
      case rel =>
        refine ⟨j + 1, by omega, by omega, by go_num, hide ?_, HBa⟩
        have := unhide HO1
        rw [unhide HLOW, unhide EX] at this
        rw [lows_snoc _ _ (by omega)]
        simpa [nint] using this
      case measure => simp [intOf]; omega
    · have hex : (¬ (j : Int) < n0) ∨ ((j : Int) < n0 ∧ ¬ (j : Int) < 64) := by omega
      clear hlt
      by_cases hz : j = 0
      · subst hz
        rcases hex with h1 | ⟨h1, h2⟩
        · go_wp2
          go_ret
          exact ⟨rfl, unhide HW⟩
        · omega
      · have hz1 : ¬ (j : Int) < 1 := by omega
        have hz2 : ¬ (j : Int) = 0 := by omega
        obtain ⟨i, hij, ei⟩ := modT at_ j (by omega) (by omega)
        obtain ⟨k, hk, ek⟩ := and_65535 by_
        obtain ⟨l, el⟩ : ∃ l, l = lows xs j := ⟨_, rfl⟩
        have hll : l.length = j := by rw [el]; exact lows_len xs j (by omega)
        have hm : Tree.May l := by rw [el]; exact lows_may xs j
        have hy : l.getD i 0 < 1073741824 := by rw [el]; exact lows_lt xs j i
        rw [← el] at HO
        clear el
        have hO := unhide HO
        obtain ⟨g, cap, eg, hg, hcap, hcap2, _⟩ := own_form (n := ((nint l).map (Value.int .i64)).length) hO (by simp [nint_len]; omega)
        simp only [Value.slice.injEq, List.length_map, nint_len, hll, true_and] at eg
        obtain ⟨rfl, rfl⟩ := eg
        have hI := hO.ints
        obtain ⟨p', c', e', hI⟩ := hI
        simp only [Value.slice.injEq, nint_len, hll, true_and] at e'
        obtain ⟨e1, e2⟩ := e'
        subst e2
        rw [← e1, nint_len, hll] at hI
        have hr := rootP_nint (by omega) (by omega) hm
        have HI := hide hI
        have HM := hide hm
        have HR := hide hr
        clear hI hO hm hr e1
        rcases hex with h1 | ⟨h1, h2⟩
        all_goals
          go_wp2_with fail
          refine (treeRoot_any _ _ _ (nint l) _ (unhide HI) (by omega)).mono ?_
          rintro e w2 ⟨rfl, b2⟩
          rw [unhide HR]
          have HO2 := hide ((unhide HO).below b2)
          replace HW := hide (bt (unhide HW) b2)
          clear b2
          have ci := own_cell (unhide HO2) i (by rw [nint_len]; omega)
          have fi := own_free (unhide HO2) i
          rw [nint_at] at ci
          obtain ⟨y, ey⟩ : ∃ y, y = l.getD i 0 := ⟨_, rfl⟩
          rw [← ey] at ci hy
          have EY := hide ey
          clear ey
          obtain ⟨z, ez⟩ : ∃ z : Nat, z = y + 1 + k := ⟨_, rfl⟩
          have ez' := turn_num y k z hy hk ez
          obtain ⟨hzl, hzy⟩ := turn_lt y k z hy hk ez
          have EZ := hide ez
          clear ez
          have hrt : Tree.root l ≠ Tree.root (l.set i z) := Tree.root_turned j l i z hll (by omega) (unhide HM) hzl (by rw [← unhide EY]; exact hzy)
          have HP := own_put (unhide HO2) i (.int .i64 (z : Int))
          rw [nint_set] at HP
          have hm2 : Tree.May (l.set i z) := by
            intro x hx
            rcases List.mem_or_eq_of_mem_set hx with h | rfl
            · exact unhide HM x h
            · exact hzl
          obtain ⟨l2, el2⟩ : ∃ l2, l2 = l.set i z := ⟨_, rfl⟩
          have hl2 : l2.length = j := by rw [el2, List.length_set]; exact hll
          rw [← el2] at HP hm2 hrt
          have hr2 := rootP_nint (by omega) (by omega) hm2
          obtain ⟨p', c', e', hI2⟩ := HP.ints
          simp only [Value.slice.injEq, nint_len, hl2, true_and] at e'
          obtain ⟨e1, e2⟩ := e'
          rw [← e1, ← e2, nint_len, hl2] at hI2
          have HI2 := hide hI2
          have HR2 := hide hr2
          have HW2 := hide ((unhide HW).setCell (p := ⟨g, i, none⟩) hg (.int .i64 (z : Int)))
          clear hI2 hr2 e1 e2 HP el2 hm2 hzy hzl hy
          obtain ⟨r1, er1⟩ : ∃ r1, r1 = Tree.root l := ⟨_, rfl⟩
          obtain ⟨r2, er2⟩ : ∃ r2, r2 = Tree.root l2 := ⟨_, rfl⟩
          rw [← er1, ← er2] at hrt
          rw [← er1]
          have HE1 := hide er1
          have HE2 := hide er2
          clear er1 er2
          have hne : ((r1 : Int) != (r2 : Int)) = true := by simp; omega
          go_wp2_with fail
          refine (treeRoot_any _ _ _ (nint l2) _ (unhide HI2) (by omega)).mono ?_
          rintro e w3 ⟨rfl, b3⟩
          rw [unhide HR2, ← unhide HE2]
          replace HW2 := hide (bt (unhide HW2) b3)
          clear b3
          go_wp2_with (go_at_call 14; refine (num_any _ _).mono ?_; rintro e w' ⟨rfl, rfl⟩)
          go_ret
          exact ⟨rfl, unhide HW2⟩
end Go.Proofs.Ytcoggfpjomgajaa
