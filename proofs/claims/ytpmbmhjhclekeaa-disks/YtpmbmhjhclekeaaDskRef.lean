/- The document's own disks (ossuaryref13): DiskMay, state, peek, Read. -/
import Derived.Test.YtpmbmhjhclekeaaDskMem
import Derived.Deep.Cut
import Derived.Deep.CutBlock
import Derived.Deep.CutRange
namespace Go.Proofs.Ytpmbmhjhclekeaa
open Go.RowKit
set_option linter.unusedVariables false
set_option linter.unusedSimpArgs false
attribute [local go_sem ↓] Go.wp_at_zero Go.wp_at_succ
theorem mayD_false {d : Dsk} {e : Ending} (h : ¬ MayD d) (he : e = .returned (.bool false)) : e = .returned (.bool (decide (MayD d))) := by rw [decide_eq_false h]; exact he
theorem mayD_true {d : Dsk} {e : Ending} (h : MayD d) (he : e = .returned (.bool true)) : e = .returned (.bool (decide (MayD d))) := by rw [decide_eq_true h]; exact he
theorem ne_64 {n : Nat} (h : n ≠ 64) : ((n : Int) != 64) = true := by simp; omega
theorem eq_64 {n : Nat} (h : n = 64) : ((n : Int) != 64) = false := by subst h; rfl
theorem mayD_lost {d : Dsk} (h : d.lost = true) : MayD d ↔ (d.secs.length = 0 ∧ d.cache.length = 0) := by unfold MayD; rw [if_pos h]
theorem mayD_live {d : Dsk} (h : d.lost = false) : MayD d ↔ (1 ≤ d.secs.length ∧ d.secs.length ≤ 72 ∧ d.cache.length ≤ 256 ∧ (∀ i, i < d.secs.length → (d.secs.getD i ByteArray.empty).size = 64) ∧
  ∀ i, i < d.cache.length → 0 ≤ (d.cache.getD i wr0).1 ∧ (d.cache.getD i wr0).1 < d.secs.length ∧ (d.cache.getD i wr0).2.size = 64) := by unfold MayD; rw [if_neg (by rw [h]; decide)]
set_option maxRecDepth 100000 in
set_option maxHeartbeats 1000000 in
theorem refDiskMay_any (d : Dsk) (sa : Option Addr) (n sc : Nat) (ca : Option Addr) (m cc : Nat) (w : World) (hS : Strs w sa n sc d.secs) (hC : WrV w ca m cc d.cache) (hn : n ≤ 140737488351232) (hm : m ≤ 140737488351232) :
    Calls Try.prog 27 #[.agg #[.bool d.lost, .slice sa n sc, .slice ca m cc]] w fun e w' => e = .returned (.bool (decide (MayD d))) ∧ Below w.heap.size w w' := by
  have hsl := hS.1
  have hcl := hC.1
  have HS := hide hS
  have HC := hide hC
  obtain ⟨b, eb⟩ : ∃ b, b = d.lost := ⟨_, rfl⟩
  rw [← eb]
  have EB := hide eb
  have BX := hide (heap_alloc_new w (.cells #[.bool b, .slice sa n sc, .slice ca m cc] 25))
  have HB := hide (below_alloc w (.cells #[.bool b, .slice sa n sc, .slice ca m cc] 25))
  clear hS hC eb
  go_enter Try.func27, Try.ntmps27
  go_upto_region 1 with fail
  generalize (w.alloc (.cells #[.bool b, .slice sa n sc, .slice ca m cc] 25)) = W at *
  obtain ⟨x0, x1, x2⟩ := box_dsk (unhide BX)
  cases b with
  | true =>
    have hL := mayD_lost (unhide EB).symm
    rw [hsl, hcl] at hL
    have HL := hide hL
    clear hL
    by_cases h1 : n = 0
    · subst h1
      by_cases h2 : m = 0
      · subst h2
        go_wp2
        go_ret
        exact ⟨mayD_true ((unhide HL).2 (by simp)) (by first | rfl | simp), unhide HB⟩
      · have h2' : ((m : Int) == 0) = false := by simp; omega
        go_wp2
        go_ret
        exact ⟨mayD_false (fun h => h2 ((unhide HL).1 h).2) (by simp [h2]), unhide HB⟩
    · have h1' : ((n : Int) == 0) = false := by simp; omega
      go_wp2
      go_ret
      exact ⟨mayD_false (fun h => h1 ((unhide HL).1 h).1) (by simp [h1]), unhide HB⟩
  | false =>
    have hL := mayD_live (unhide EB).symm
    rw [hsl, hcl] at hL
    have HL := hide hL
    clear hL
    by_cases h1 : n < 1
    · have h1' : (n : Int) < 1 := by omega
      go_wp2
      go_ret
      exact ⟨mayD_false (fun h => by have := ((unhide HL).1 h).1; omega) rfl, unhide HB⟩
    · have h1' : ¬ (n : Int) < 1 := by omega
      have h10 : ¬ (n : Int) = 0 := by omega
      by_cases h2 : 72 < n
      · have h2' : (72 : Int) < n := by omega
        go_wp2
        go_ret
        exact ⟨mayD_false (fun h => by have := ((unhide HL).1 h).2.1; omega) rfl, unhide HB⟩
      · have h2' : ¬ (72 : Int) < n := by omega
        by_cases h3 : 256 < m
        · have h3' : (256 : Int) < m := by omega
          go_wp2
          go_ret
          exact ⟨mayD_false (fun h => by have := ((unhide HL).1 h).2.2.1; omega) rfl, unhide HB⟩
        · have h3' : ¬ (256 : Int) < m := by omega
          obtain ⟨bs, os, es, hcell⟩ : ∃ b off, sa = some ⟨b, off, none⟩ ∧ ∀ i, i < n → W.cell? ⟨b, off + i, none⟩ = some (.string (d.secs.getD i ByteArray.empty)) := by
            rcases ((unhide HS).below (unhide HB)).2.two with h | h
            · omega
            · exact h
          subst es
          have HCS := hide hcell
          have hc63 : n ≤ sc := by
            rcases (unhide HS).2 with h | h | h
            · simp at h
            · omega
            · exact h.2.1
          clear hcell
          go_wp2
          go_loopw [3] (fun iv wr => ∃ k : Nat, k ≤ n ∧ iv = .int .i64 k ∧ wr = W ∧ Hid (∀ i, i < k → (d.secs.getD i ByteArray.empty).size = 64)) (fun iv _ => n - (intOf iv).toNat)
          case atStart => exact ⟨0, by omega, rfl, rfl, hide (fun i hi => by omega)⟩
          case round =>
            obtain ⟨k, hk, rfl, hw, HI⟩ := hrel
            obtain rfl : W = wr := hw.symm
            by_cases hlt : k < n
            · have hlt' : (k : Int) < n := by omega
              have ck := unhide HCS k hlt
              obtain ⟨t, et⟩ : ∃ t, t = d.secs.getD k ByteArray.empty := ⟨_, rfl⟩
              rw [← et] at ck
              have ET := hide et
              clear et
              by_cases h64 : t.size = 64
              · have h64' := eq_64 h64
                go_wp2
                go_roundw
                case rel =>
                  refine ⟨k + 1, by omega, by go_num, True.intro, hide (fun i hi => ?_)⟩
                  by_cases e : i = k
                  · subst e; rw [← unhide ET]; exact h64
                  · exact unhide HI i (by omega)
                case measure => simp [intOf]; omega
              · have h64' := ne_64 h64
                go_wp2
                go_ret
                exact ⟨mayD_false (fun h => h64 (by rw [unhide ET]; exact ((unhide HL).1 h).2.2.2.1 k hlt)) rfl, unhide HB⟩
            · have hlt' : ¬ (k : Int) < n := by omega
              obtain rfl : n = k := by omega
              go_upto_region 10 with fail
              have HWW := hide (Below.refl W.heap.size W)
              go_wp2
              go_loopw [4] (fun iv wr => ∃ k : Nat, k ≤ m ∧ iv = .int .i64 k ∧ Hid (Below W.heap.size W wr) ∧ Hid (∀ i, i < k → 0 ≤ (d.cache.getD i wr0).1 ∧ (d.cache.getD i wr0).1 < n ∧ (d.cache.getD i wr0).2.size = 64)) (fun iv _ => m - (intOf iv).toNat)
              case atStart => exact ⟨0, by omega, rfl, HWW, hide (fun i hi => by omega)⟩
              case round =>
                obtain ⟨j, hj, rfl, HW, HI2⟩ := hrel
                have x0' := ((unhide HW).cell (cell_lt x0)).trans x0
                have x1' := ((unhide HW).cell (cell_lt x1)).trans x1
                have x2' := ((unhide HW).cell (cell_lt x2)).trans x2
                by_cases hlt2 : j < m
                · have hlt2' : (j : Int) < m := by omega
                  obtain ⟨bc, oc, ec, hcm, hcw⟩ := ((unhide HC).below (bt (unhide HB) (unhide HW))).at hlt2
                  subst ec
                  obtain ⟨c0, c1⟩ := hcw j hlt2
                  clear hcw
                  obtain ⟨at_, eat⟩ : ∃ at_, at_ = (d.cache.getD j wr0).1 := ⟨_, rfl⟩
                  obtain ⟨t2, et2⟩ : ∃ t2, t2 = (d.cache.getD j wr0).2 := ⟨_, rfl⟩
                  rw [← eat] at c0
                  rw [← et2] at c1
                  have EAT := hide eat
                  have ET2 := hide et2
                  clear eat et2
                  by_cases g1 : at_ < 0
                  · go_wp2
                    go_quiet (fail)
                    go_wp2
                    go_ret
                    exact ⟨mayD_false (fun h => by have := (((unhide HL).1 h).2.2.2.2 j hlt2).1; rw [← unhide EAT] at this; omega) rfl, bt (bt (unhide HB) (unhide HW)) (below_drewN _ _ _)⟩
                  · have d1 : decide (at_ < 0) = false := decide_eq_false g1
                    by_cases g2 : (n : Int) ≤ at_
                    · have d2 : decide ((n : Int) ≤ at_) = true := decide_eq_true g2
                      have d2' : decide (at_ ≥ (n : Int)) = true := decide_eq_true g2
                      go_wp2
                      go_quiet (fail)
                      go_wp2
                      go_ret
                      exact ⟨mayD_false (fun h => by have := (((unhide HL).1 h).2.2.2.2 j hlt2).2.1; rw [← unhide EAT] at this; omega) rfl, bt (bt (unhide HB) (unhide HW)) (below_drewN _ _ _)⟩
                    · have d2 : decide ((n : Int) ≤ at_) = false := decide_eq_false g2
                      have d2' : decide (at_ ≥ (n : Int)) = false := decide_eq_false g2
                      by_cases g3 : t2.size = 64
                      · have g3' := eq_64 g3
                        go_wp2
                        go_quiet (fail)
                        go_wp2
                        go_roundw
                        case rel =>
                          refine ⟨j + 1, by omega, by go_num, hide (bt (unhide HW) (below_drewN _ _ _)), hide (fun i hi => ?_)⟩
                          by_cases e : i = j
                          · subst e; rw [← unhide ET2, ← unhide EAT]; exact ⟨by omega, by omega, g3⟩
                          · exact unhide HI2 i (by omega)
                        case measure => simp [intOf]; omega
                      · have g3' := ne_64 g3
                        go_wp2
                        go_quiet (fail)
                        go_wp2
                        go_ret
                        exact ⟨mayD_false (fun h => g3 (by rw [unhide ET2]; exact (((unhide HL).1 h).2.2.2.2 j hlt2).2.2)) rfl, bt (bt (unhide HB) (unhide HW)) (below_drewN _ _ _)⟩
                · have hlt2' : ¬ (j : Int) < m := by omega
                  obtain rfl : m = j := by omega
                  go_wp2
                  go_ret
                  exact ⟨mayD_true ((unhide HL).2 ⟨by omega, by omega, by omega, unhide HI, unhide HI2⟩) rfl, bt (unhide HB) (unhide HW)⟩
end Go.Proofs.Ytpmbmhjhclekeaa
