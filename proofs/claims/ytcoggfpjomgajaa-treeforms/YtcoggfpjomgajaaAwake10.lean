/- 'awake' of the statements over package tree returns true. -/
import Derived.Test.YtcoggfpjomgajaaTreeWalk
namespace Go.Proofs.Ytcoggfpjomgajaa
open Go.RowKit
set_option linter.unusedVariables false
set_option linter.unusedSimpArgs false
theorem root_5 : rootP [5] = (5, 0) := by decide +kernel
def q12 : Nat := Seal.pairN 1 2
def q123 : Nat := Seal.pairN q12 3
theorem root_123 : rootP [1, 2, 3] = ((q123 : Int), 0) := by decide +kernel
theorem root_nil : rootP [] = (0, 1000) := by decide +kernel
theorem root_neg : rootP [-1] = (0, 1000) := by decide +kernel
theorem pair_12 : Seal.pair 1 2 = q12 := by decide +kernel
theorem pair_q3 : Seal.pair (q12 : Int) 3 = q123 := by decide +kernel
def s8 : ByteArray := ⟨#[97, 98, 99, 100, 101, 102, 103, 104]⟩
def s1 : ByteArray := ⟨#[105]⟩
def s9 : ByteArray := ⟨#[97, 98, 99, 100, 101, 102, 103, 104, 105]⟩
theorem leaves_9 : nint (leavesL s9) = [((Seal.of (byts s8) : Nat) : Int), ((Seal.of (byts s1) : Nat) : Int)] := by decide +kernel
theorem q12_lt : q12 < 2147483647 := Seal.pairN_lt _ _
set_option maxRecDepth 100000 in
set_option maxHeartbeats 1000000 in
theorem awake10_any (w : World) : Calls Try.prog 18 #[] w fun e w' => e = .returned (.bool true) ∧ Below w.heap.size w w' := by
  have hA : (Lit.int .i64 1).wf = true := by decide
  have hB : (Lit.int .i64 2).wf = true := by decide
  have hC : (Lit.int .i64 3).wf = true := by decide
  have HA := hide hA
  have HB := hide hB
  have HC := hide hC
  clear hA hB hC
  go_enter Try.func18, Try.ntmps18
  go_wp2_with fail
  refine (treeRoot_any _ _ _ [5] _ (int_lit w [5] 3 w.heap.size _ 1 rfl rfl rfl) (by decide)).mono ?_
  rintro e w1 ⟨rfl, b1⟩
  rw [root_5]
  have B := hide ((below_alloc w _).trans (b1.mono (by simp)))
  clear b1
  go_wp2_with fail
  refine (treeRoot_any _ _ _ [1, 2, 3] _ (int_lit w1 [1, 2, 3] 3 w1.heap.size _ 3 rfl rfl rfl) (by decide)).mono ?_
  rintro e w2 ⟨rfl, b2⟩
  rw [root_123]
  replace B := hide (bt (unhide B) ((below_alloc w1 _).trans (b2.mono (by simp))))
  clear b2
  generalize hq : q123 = Q
  go_wp2_with fail
  refine (treeRoot_any _ _ _ [] _ ⟨rfl, .inl ⟨rfl, rfl, rfl⟩⟩ (by decide)).mono ?_
  rintro e w3 ⟨rfl, b3⟩
  rw [root_nil]
  replace B := hide (bt (unhide B) b3)
  clear b3
  go_wp2_with fail
  refine (treeRoot_any _ _ _ [-1] _ (int_lit w3 [-1] 3 w3.heap.size _ 1 rfl rfl rfl) (by decide)).mono ?_
  rintro e w4 ⟨rfl, b4⟩
  rw [root_neg]
  replace B := hide (bt (unhide B) ((below_alloc w3 _).trans (b4.mono (by simp))))
  clear b4
  go_wp2_with fail
  refine (treeLeaves_any s9 _ (by decide)).mono ?_
  rintro e w5 ⟨v5, rfl, O5, b5⟩
  rw [leaves_9] at O5
  replace B := hide (bt (unhide B) b5)
  obtain ⟨p5, c5, rfl, S5⟩ := O5.ints
  have SX := hide S5
  clear O5 S5 b5
  have HQ := hide hq
  clear hq
  obtain ⟨x8, e8⟩ : ∃ x, x = ((Seal.of (byts s8) : Nat) : Int) := ⟨_, rfl⟩
  obtain ⟨x1, e1⟩ : ∃ x, x = ((Seal.of (byts s1) : Nat) : Int) := ⟨_, rfl⟩
  rw [← e8, ← e1] at SX ⊢
  have E8 := hide e8
  have E1 := hide e1
  clear e8 e1
  have hl2 : [x8, x1].length = 2 := rfl
  rw [hl2] at SX ⊢
  clear hl2
  go_wp2_with fail
  refine (num_any _ _).mono ?_
  rintro e w6 ⟨rfl, rfl⟩
  go_wp2_with fail
  refine (sealPair_any 1 2 _ (unhide HA) (unhide HB)).mono ?_
  rintro e w7 ⟨rfl, rfl⟩
  rw [pair_12]
  have h12 := q12_lt
  have hp3 := pair_q3
  rw [unhide HQ] at hp3
  have HP3 := hide hp3
  have H12 := hide (wf_nat h12)
  clear h12 hp3
  generalize q12 = q at HP3 H12 ⊢
  go_wp2_with fail
  refine (sealPair_any q 3 _ (unhide H12) (unhide HC)).mono ?_
  rintro e w8 ⟨rfl, rfl⟩
  rw [unhide HP3]
  go_wp2_with (go_at_call 14; refine (num_any _ _).mono ?_; rintro e w' ⟨rfl, rfl⟩)
  refine (sealOf_any s8 _ (by decide)).mono ?_
  rintro e w9 ⟨rfl, rfl⟩
  rw [← unhide E8]
  go_wp2_with fail
  refine (sealOf_any s1 _ (by decide)).mono ?_
  rintro e w10 ⟨rfl, rfl⟩
  rw [← unhide E1]
  go_wp2_with fail
  have hx := below_alloc w10 (.cells #[.int .i64 x8, .int .i64 x1] 3)
  refine (sameInts_any _ _ _ _ _ _ [x8, x1] [x8, x1] _ ((unhide SX).below hx) (int_lit w10 [x8, x1] 3 w10.heap.size _ 2 rfl rfl rfl) (by decide)).mono ?_
  rintro e w11 ⟨he, hdd⟩
  rw [show ([x8, x1] == [x8, x1]) = true from beq_self_eq_true _] at he
  subst he
  obtain ⟨dm, rfl⟩ := hdd
  replace B := hide (bt (unhide B) (bt hx (below_drewN _ _ dm)))
  clear hx
  go_wp2
  go_ret
  exact ⟨rfl, unhide B⟩
end Go.Proofs.Ytcoggfpjomgajaa
