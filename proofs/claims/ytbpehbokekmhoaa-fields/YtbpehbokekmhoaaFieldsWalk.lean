/- The Go text of the statement Fields returns true, whatever the numbers. -/
import Derived.Test.YtbpehbokekmhoaaRefGfWalks
import Derived.Test.YtbpehbokekmhoaaAwake1
namespace Go.Proofs.Ytbpehbokekmhoaa
open Go.RowKit
def inR (a : Int) : Prop := 0 ≤ a ∧ a < 256
theorem inR_nat {a : Int} (h : inR a) : ∃ n : Nat, n < 256 ∧ a = n := ⟨a.toNat, by unfold inR at h; omega, by unfold inR at h; omega⟩
theorem inR_out {a : Int} (h : ¬ inR a) : a < 0 ∨ 256 ≤ a := by unfold inR at h; omega
def addR (a b : Int) : Int × Int := if 0 ≤ a ∧ a < 256 ∧ 0 ≤ b ∧ b < 256 then (((a.toNat ^^^ b.toNat : Nat) : Int), 0) else (0, 100)
def mulR (a b : Int) : Int × Int := if 0 ≤ a ∧ a < 256 ∧ 0 ≤ b ∧ b < 256 then (((Gf.mul a.toNat b.toNat : Nat) : Int), 0) else (0, 100)
def invR (a : Int) : Int × Int := if 0 ≤ a ∧ a < 256 then (if a = 0 then (0, 101) else (((Gf.inv a.toNat : Nat) : Int), 0)) else (0, 100)
def powR (a e : Int) : Int × Int := if 0 ≤ a ∧ a < 256 ∧ 0 ≤ e ∧ e ≤ 1000 then (((Gf.pw a.toNat e.toNat : Nat) : Int), 0) else (0, 100)
def pairOf (p : Int × Int) : Value := .tuple #[.int .i64 p.1, .int .i64 p.2]
theorem addR_yes {a b : Nat} (h : a < 256) (hb : b < 256) : addR a b = (((a ^^^ b : Nat) : Int), 0) := by
  unfold addR; rw [if_pos (by omega)]; simp
theorem mulR_yes {a b : Nat} (h : a < 256) (hb : b < 256) : mulR a b = (((Gf.mul a b : Nat) : Int), 0) := by
  unfold mulR; rw [if_pos (by omega)]; simp
theorem powR_yes {a e : Nat} (h : a < 256) (he : e ≤ 1000) : powR a e = (((Gf.pw a e : Nat) : Int), 0) := by
  unfold powR; rw [if_pos (by omega)]; simp
theorem addR_no {a b : Int} (h : (a < 0 ∨ 256 ≤ a) ∨ (b < 0 ∨ 256 ≤ b)) : addR a b = (0, 100) := by unfold addR; rw [if_neg (by omega)]
theorem mulR_no {a b : Int} (h : (a < 0 ∨ 256 ≤ a) ∨ (b < 0 ∨ 256 ≤ b)) : mulR a b = (0, 100) := by unfold mulR; rw [if_neg (by omega)]
theorem powR_no {a e : Int} (h : (a < 0 ∨ 256 ≤ a) ∨ (e < 0 ∨ 1000 < e)) : powR a e = (0, 100) := by unfold powR; rw [if_neg (by omega)]
theorem invR_no {a : Int} (h : a < 0 ∨ 256 ≤ a) : invR a = (0, 100) := by unfold invR; rw [if_neg (by omega)]
theorem invR_zero : invR 0 = (0, 101) := by decide
theorem invR_yes {a : Nat} (h : a < 256) (h0 : a ≠ 0) : invR a = (((Gf.inv a : Nat) : Int), 0) := by
  unfold invR; rw [if_pos (by omega), if_neg (by omega)]; simp
theorem two_in (a b : Int) : (∃ x y : Nat, x < 256 ∧ y < 256 ∧ a = x ∧ b = y) ∨ ((a < 0 ∨ 256 ≤ a) ∨ (b < 0 ∨ 256 ≤ b)) := by
  by_cases h : (a < 0 ∨ 256 ≤ a) ∨ (b < 0 ∨ 256 ≤ b)
  · exact .inr h
  · exact .inl ⟨a.toNat, b.toNat, by omega, by omega, by omega, by omega⟩
theorem pow_in (a b : Int) : (∃ x y : Nat, x < 256 ∧ y ≤ 1000 ∧ a = x ∧ b = y) ∨ ((a < 0 ∨ 256 ≤ a) ∨ (b < 0 ∨ 1000 < b)) := by
  by_cases h : (a < 0 ∨ 256 ≤ a) ∨ (b < 0 ∨ 1000 < b)
  · exact .inr h
  · exact .inl ⟨a.toNat, b.toNat, by omega, by omega, by omega, by omega⟩
theorem inv_in (a : Int) : (∃ x : Nat, x < 256 ∧ x ≠ 0 ∧ a = x) ∨ a = 0 ∨ (a < 0 ∨ 256 ≤ a) := by
  by_cases h : a < 0 ∨ 256 ≤ a
  · exact .inr (.inr h)
  · by_cases h0 : a = 0
    · exact .inr (.inl h0)
    · exact .inl ⟨a.toNat, by omega, by omega, by omega⟩
theorem gfAdd_any (a b : Int) (w : World) : Calls Try.prog 8 #[.int .i64 a, .int .i64 b] w fun e w' => e = .returned (pairOf (addR a b)) ∧ w' = w := by
  rcases two_in a b with ⟨x, y, hx, hy, rfl, rfl⟩ | h
  · rw [addR_yes hx hy]; exact gfAdd_yes x y w hx hy
  · rw [addR_no h]; exact gfAdd_no a b w h
theorem refAdd_any (a b : Int) (w : World) : Calls Try.prog 9 #[.int .i64 a, .int .i64 b] w fun e w' => e = .returned (pairOf (addR a b)) ∧ w' = w := by
  rcases two_in a b with ⟨x, y, hx, hy, rfl, rfl⟩ | h
  · rw [addR_yes hx hy]; exact refAdd_yes x y w hx hy
  · rw [addR_no h]; exact refAdd_no a b w h
theorem gfMul_any (a b : Int) (w : World) : Calls Try.prog 10 #[.int .i64 a, .int .i64 b] w fun e w' => e = .returned (pairOf (mulR a b)) ∧ w' = w := by
  rcases two_in a b with ⟨x, y, hx, hy, rfl, rfl⟩ | h
  · rw [mulR_yes hx hy]; exact gfMul_yes x y w hx hy
  · rw [mulR_no h]; exact gfMul_no a b w h
theorem refMul_any (a b : Int) (w : World) : Calls Try.prog 11 #[.int .i64 a, .int .i64 b] w fun e w' => e = .returned (pairOf (mulR a b)) ∧ w' = w := by
  rcases two_in a b with ⟨x, y, hx, hy, rfl, rfl⟩ | h
  · rw [mulR_yes hx hy]; exact refMul_yes x y w hx hy
  · rw [mulR_no h]; exact refMul_no a b w h
theorem gfPow_any (a b : Int) (w : World) : Calls Try.prog 14 #[.int .i64 a, .int .i64 b] w fun e w' => e = .returned (pairOf (powR a b)) ∧ w' = w := by
  rcases pow_in a b with ⟨x, y, hx, hy, rfl, rfl⟩ | h
  · rw [powR_yes hx hy]; exact gfPow_yes x y w hx hy
  · rw [powR_no h]; exact gfPow_no a b w h
theorem refPow_any (a b : Int) (w : World) : Calls Try.prog 15 #[.int .i64 a, .int .i64 b] w fun e w' => e = .returned (pairOf (powR a b)) ∧ w' = w := by
  rcases pow_in a b with ⟨x, y, hx, hy, rfl, rfl⟩ | h
  · rw [powR_yes hx hy]; exact refPow_yes x y w hx hy
  · rw [powR_no h]; exact refPow_no a b w h
theorem gfInv_any (a : Int) (w : World) : Calls Try.prog 12 #[.int .i64 a] w fun e w' => e = .returned (pairOf (invR a)) ∧ w' = w := by
  rcases inv_in a with ⟨x, hx, h0, rfl⟩ | rfl | h
  · rw [invR_yes hx h0]; exact gfInv_yes x w hx h0
  · rw [invR_zero]; exact gfInv_zero w
  · rw [invR_no h]; exact gfInv_no a w h
theorem refInv_any (a : Int) (w : World) : Calls Try.prog 13 #[.int .i64 a] w fun e w' => e = .returned (pairOf (invR a)) ∧ w' = w := by
  rcases inv_in a with ⟨x, hx, h0, rfl⟩ | rfl | h
  · rw [invR_yes hx h0]; exact refInv_yes x w hx h0
  · rw [invR_zero]; exact refInv_zero w
  · rw [invR_no h]; exact refInv_no a w h
set_option maxRecDepth 100000 in
set_option maxHeartbeats 2000000 in
theorem Fields_walk (a0 a1 a2 : Int) (_ : (Lit.int .i64 a0).wf = true) (_ : (Lit.int .i64 a1).wf = true) (_ : (Lit.int .i64 a2).wf = true) (w : World) :
    Calls Try.prog 3 #[.int .i64 a0, .int .i64 a1, .int .i64 a2] w fun e w' => e = .returned (.bool true) ∧ Grown w w' := by
  have k1 := gfAdd_any a0 a1
  have k2 := refAdd_any a0 a1
  have k3 := gfMul_any a0 a1
  have k4 := refMul_any a0 a1
  have k5 := gfInv_any a0
  have k6 := refInv_any a0
  have k7 := gfPow_any a0 a2
  have k8 := refPow_any a0 a2
  generalize addR a0 a1 = p1 at *
  generalize mulR a0 a1 = p2 at *
  generalize invR a0 = p3 at *
  generalize powR a0 a2 = p4 at *
  obtain ⟨x1, y1⟩ := p1
  obtain ⟨x2, y2⟩ := p2
  obtain ⟨x3, y3⟩ := p3
  obtain ⟨x4, y4⟩ := p4
  simp only [pairOf] at k1 k2 k3 k4 k5 k6 k7 k8
  have K1 := hide k1
  have K2 := hide k2
  have K3 := hide k3
  have K4 := hide k4
  have K5 := hide k5
  have K6 := hide k6
  have K7 := hide k7
  have K8 := hide k8
  clear k1 k2 k3 k4 k5 k6 k7 k8
  go_enter Try.func3, Try.ntmps3
  go_wp2_with fail
  refine (unhide K1 _).mono ?_
  rintro e w' ⟨rfl, rfl⟩
  go_wp2_with fail
  refine (unhide K2 _).mono ?_
  rintro e w' ⟨rfl, rfl⟩
  go_wp2_with fail
  refine (unhide K3 _).mono ?_
  rintro e w' ⟨rfl, rfl⟩
  go_wp2_with fail
  refine (unhide K4 _).mono ?_
  rintro e w' ⟨rfl, rfl⟩
  go_wp2_with fail
  refine (unhide K5 _).mono ?_
  rintro e w' ⟨rfl, rfl⟩
  go_wp2_with fail
  refine (unhide K6 _).mono ?_
  rintro e w' ⟨rfl, rfl⟩
  go_wp2_with fail
  refine (unhide K7 _).mono ?_
  rintro e w' ⟨rfl, rfl⟩
  go_wp2_with fail
  refine (unhide K8 _).mono ?_
  rintro e w' ⟨rfl, rfl⟩
  go_wp2_with (first | (go_at_call 16; refine (num_any _ _).mono ?_; rintro e w' ⟨rfl, rfl⟩) | (go_at_call 17; refine (awake_any _).mono ?_; rintro e w' ⟨rfl, rfl⟩))
  go_ret
  exact ⟨rfl, Grown.refl _⟩
end Go.Proofs.Ytbpehbokekmhoaa
