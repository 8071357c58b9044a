/- SealPairs: a pair is linear. -/
import Derived.Test.YthikknnkghaolaaSealNumbersWalk
namespace Go.Proofs.Ythikknnkghaolaa
open Go.RowKit
set_option linter.unusedVariables false
set_option linter.unusedSimpArgs false
theorem num30 (a : Int) : ∃ x : Nat, x < 1073741824 ∧ a % 4294967296 / 4 = (x : Int) := ⟨(a % 4294967296 / 4).toNat, by omega, by omega⟩
theorem pair_nat {x y : Nat} (hx : x < 2147483647) (hy : y < 2147483647) : Seal.pair (x : Int) (y : Int) = Seal.pairN x y := by
  unfold Seal.pair
  rw [Seal.md_small hx, Seal.md_small hy]
theorem times_add (x z : Nat) : (x + z) * 65537 % 2147483647 = (x * 65537 % 2147483647 + z * 65537 % 2147483647) % 2147483647 := by
  rw [Nat.add_mul, Nat.add_mod]
theorem pair_sumL {x y z : Nat} (hx : x + z < 2147483647) (hy : y < 2147483647) : Seal.pair ((x : Int) + (z : Int)) (y : Int) = Seal.pairN (x + z) y := by
  have e : (x : Int) + (z : Int) = ((x + z : Nat) : Int) := by omega
  rw [e, pair_nat hx hy]
theorem pair_sumR {x y z : Nat} (hx : x < 2147483647) (hy : y + z < 2147483647) : Seal.pair (x : Int) ((y : Int) + (z : Int)) = Seal.pairN x (y + z) := by
  have e : (y : Int) + (z : Int) = ((y + z : Nat) : Int) := by omega
  rw [e, pair_nat hx hy]
theorem lin_left (X Y Z : Nat) (hZ : Z < 2147483647) : ((((911 + (X + Z) % 2147483647 + Y) % 2147483647 : Nat) : Int) - (((911 + X + Y) % 2147483647 : Nat) : Int) + 2147483647) % 2147483647 = (Z : Int) := by omega
theorem lin_right (X Y Z : Nat) : ((((911 + X + (Y + Z) % 2147483647 * 65537) % 2147483647 : Nat) : Int) - (((911 + X + Y * 65537) % 2147483647 : Nat) : Int) + 2147483647) % 2147483647 = ((Z * 65537 % 2147483647 : Nat) : Int) := by omega
theorem pair_left (x y z : Nat) : ((Seal.pairN (x + z) y : Int) - (Seal.pairN x y : Int) + 2147483647) % 2147483647 = ((z * 65537 % 2147483647 : Nat) : Int) := by
  unfold Seal.pairN
  rw [times_add]
  exact lin_left _ _ _ (Nat.mod_lt _ (by decide))
theorem pair_right (x y z : Nat) : ((Seal.pairN x (y + z) : Int) - (Seal.pairN x y : Int) + 2147483647) % 2147483647 = ((z * 65537 % 2147483647 * 65537 % 2147483647 : Nat) : Int) := by
  unfold Seal.pairN
  rw [times_add]
  exact lin_right _ _ _
set_option maxRecDepth 100000 in
set_option maxHeartbeats 1000000 in
theorem SealPairs_walk {w : World} (a : Int) (ha : (Lit.int .i64 a).wf = true) (b : Int) (hb : (Lit.int .i64 b).wf = true) (c : Int) (hc : (Lit.int .i64 c).wf = true) :
    Calls Try.prog 7 #[.int .i64 a, .int .i64 b, .int .i64 c] w fun e w' => e = .returned (.bool true) ∧ Below w.heap.size w w' := by
  obtain ⟨x, hx, ex⟩ := num30 a
  obtain ⟨y, hy, ey⟩ := num30 b
  obtain ⟨z, hz, ez⟩ := num30 c
  go_enter Try.func7, Try.ntmps7
  go_wp2_with fail
  refine (awake9_any _).mono ?_
  rintro e w5 ⟨rfl, rfl⟩
  go_wp2_with fail
  obtain ⟨P, eP⟩ : ∃ P, P = Seal.pairN x y := ⟨_, rfl⟩
  obtain ⟨Q, eQ⟩ : ∃ Q, Q = Seal.pairN (x + z) y := ⟨_, rfl⟩
  obtain ⟨R, eR⟩ : ∃ R, R = Seal.pairN x (y + z) := ⟨_, rfl⟩
  have hP : P < 2147483647 := by rw [eP]; exact Seal.pairN_lt _ _
  have hQ : Q < 2147483647 := by rw [eQ]; exact Seal.pairN_lt _ _
  have hR : R < 2147483647 := by rw [eR]; exact Seal.pairN_lt _ _
  have L1 := hide (pair_left x y z)
  have L2 := hide (pair_right x y z)
  rw [← eQ, ← eP] at L1
  rw [← eR, ← eP] at L2
  have EP := hide eP
  have EQ := hide eQ
  have ER := hide eR
  clear eP eQ eR ex ey ez
  refine (sealPair_any x y _ (wf_small (by omega) (by omega)) (wf_small (by omega) (by omega))).mono ?_
  rintro e w6 ⟨rfl, rfl⟩
  rw [pair_nat (by omega) (by omega), ← unhide EP]
  have hxz : ((x : Int) + (z : Int)) % 2147483647 = (x : Int) + (z : Int) := by omega
  have hyz : ((y : Int) + (z : Int)) % 2147483647 = (y : Int) + (z : Int) := by omega
  go_wp2_with fail
  refine (sealPair_any ((x : Int) + (z : Int)) y _ (wf_small (by omega) (by omega)) (wf_small (by omega) (by omega))).mono ?_
  rintro e w7 ⟨rfl, rfl⟩
  rw [pair_sumL (by omega) (by omega), ← unhide EQ]
  go_wp2_with fail
  refine (sealPair_any x ((y : Int) + (z : Int)) _ (wf_small (by omega) (by omega)) (wf_small (by omega) (by omega))).mono ?_
  rintro e w8 ⟨rfl, rfl⟩
  rw [pair_sumR (by omega) (by omega), ← unhide ER]
  have g1 : (0 : Int) ≤ (Q : Int) - (P : Int) + 2147483647 := by omega
  have g2 : (0 : Int) ≤ (R : Int) - (P : Int) + 2147483647 := by omega
  have l1 : ((Q : Int) - (P : Int) + 2147483647) % 2147483647 = (z : Int) * 65537 % 2147483647 := (unhide L1).trans (by omega)
  have l2 : ((R : Int) - (P : Int) + 2147483647) % 2147483647 = (z : Int) * 65537 % 2147483647 * 65537 % 2147483647 := (unhide L2).trans (by omega)
  go_wp2
  go_ret
  exact ⟨rfl, Below.refl _ _⟩
end Go.Proofs.Ythikknnkghaolaa
