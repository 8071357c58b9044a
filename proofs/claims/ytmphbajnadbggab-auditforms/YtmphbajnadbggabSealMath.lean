/- Seals: sums of bytes, times powers of Base, modulo Prime. -/
namespace Go.Proofs.Ytmphbajnadbggab
set_option linter.unusedVariables false
set_option linter.unusedSimpArgs false
namespace Seal
/-- the seal of bytes -/
def of : List Nat → Nat
  | [] => 0
  | b :: r => (of r + b + 1) * 65537 % 2147483647
/-- of a pair of numbers below Prime -/
def pairN (a b : Nat) : Nat := (911 + a * 65537 % 2147483647 + b * 65537 % 2147483647 * 65537) % 2147483647
/-- a number, from 0 below Prime -/
def md (a : Int) : Nat := (a % 2147483647).toNat
def pair (a b : Int) : Nat := pairN (md a) (md b)
theorem of_lt : ∀ l, of l < 2147483647
  | [] => by decide
  | b :: r => Nat.mod_lt _ (by decide)
theorem pairN_lt (a b : Nat) : pairN a b < 2147483647 := Nat.mod_lt _ (by decide)
theorem pair_lt (a b : Int) : pair a b < 2147483647 := pairN_lt _ _
theorem md_lt (a : Int) : md a < 2147483647 := by unfold md; omega
theorem md_small {a : Nat} (h : a < 2147483647) : md (a : Int) = a := by unfold md; omega
/-- Base can be taken back -/
theorem cancel {a b : Nat} (h : a * 65537 % 2147483647 = b * 65537 % 2147483647) : a % 2147483647 = b % 2147483647 := by
  have h2 : (a * 65537 % 2147483647) * 65535 % 2147483647 = (b * 65537 % 2147483647) * 65535 % 2147483647 := by rw [h]
  rw [Nat.mod_mul_mod, Nat.mod_mul_mod, Nat.mul_assoc, Nat.mul_assoc, ← Nat.mul_mod_mod a, ← Nat.mul_mod_mod b] at h2
  have e : 65537 * 65535 % 2147483647 = 1 := by decide
  rw [e, Nat.mul_one, Nat.mul_one] at h2
  exact h2
theorem of_tail {x : Nat} {r r' : List Nat} (h : of (x :: r) = of (x :: r')) : of r = of r' := by
  have := cancel h
  have h1 := of_lt r
  have h2 := of_lt r'
  omega
theorem of_head {x y : Nat} {r : List Nat} (hx : x < 256) (hy : y < 256) (h : of (x :: r) = of (y :: r)) : x = y := by
  have := cancel h
  have h1 := of_lt r
  omega
theorem of_turned {x y : Nat} {r : List Nat} (hx : x < 256) (hy : y < 256) (hxy : x ≠ y) : ∀ p : List Nat, of (p ++ x :: r) ≠ of (p ++ y :: r)
  | [] => fun h => hxy (of_head hx hy h)
  | b :: p => fun h => of_turned hx hy hxy p (of_tail h)
theorem of_append (t : List Nat) : ∀ s : List Nat, of (s ++ t) = (of s + of t * 65537 ^ s.length) % 2147483647
  | [] => by
    have := of_lt t
    simp [of]; omega
  | b :: s => by
    have ih := of_append t s
    show (of (s ++ t) + b + 1) * 65537 % 2147483647 = ((of s + b + 1) * 65537 % 2147483647 + of t * 65537 ^ (s.length + 1)) % 2147483647
    rw [ih, Nat.pow_succ]
    generalize of s = A
    generalize 65537 ^ s.length = E
    generalize of t = T
    rw [Nat.mod_add_mod, ← Nat.mul_assoc T E 65537, ← Nat.add_mul]
    have e : (A + T * E) % 2147483647 + b + 1 = (A + T * E) % 2147483647 + (b + 1) := by omega
    have e2 : A + b + 1 + T * E = A + T * E + (b + 1) := by omega
    rw [e, e2, Nat.mul_mod, Nat.mod_add_mod, ← Nat.mul_mod]
theorem pairN_left {a a' b : Nat} (ha : a < 2147483647) (ha' : a' < 2147483647) (h : pairN a b = pairN a' b) : a = a' := by
  unfold pairN at h
  have : a * 65537 % 2147483647 = a' * 65537 % 2147483647 := by omega
  have := cancel this
  omega
theorem pairN_right {a b b' : Nat} (hb : b < 2147483647) (hb' : b' < 2147483647) (h : pairN a b = pairN a b') : b = b' := by
  unfold pairN at h
  have h1 : (b * 65537 % 2147483647 * 65537) % 2147483647 = (b' * 65537 % 2147483647 * 65537) % 2147483647 := by omega
  have h2 := cancel h1
  rw [Nat.mod_mod, Nat.mod_mod] at h2
  have h3 := cancel h2
  omega
end Seal
end Go.Proofs.Ytmphbajnadbggab
