/- The Go text of the statement TreeTurned returns true, whatever the leaves and the numbers. -/
import Derived.Test.YtmphbajnadbggabAwake10
import Derived.Test.YtmphbajnadbggabKMatRef
import Derived.Test.YtmphbajnadbggabKCore
namespace Go.Proofs.Ytmphbajnadbggab
open Go.RowKit
set_option linter.unusedVariables false
set_option linter.unusedSimpArgs false
/-- the number of a leaf: 30 bits of it -/
def low30 (x : Int) : Nat := (x % 4294967296).toNat / 4
theorem low30_lt (x : Int) : low30 x < 1073741824 := by unfold low30; omega
def lows (xs : List Int) (k : Nat) : List Nat := (xs.take k).map low30
theorem lows_snoc (xs : List Int) (k : Nat) (h : k < xs.length) : lows xs (k + 1) = lows xs k ++ [low30 (xs.getD k 0)] := by
  unfold lows
  rw [List.take_add_one, List.map_append]
  simp [List.getD, List.getElem?_eq_getElem h]
theorem lows_len (xs : List Int) (k : Nat) (h : k ≤ xs.length) : (lows xs k).length = k := by simp [lows]; omega
theorem nats_nint (l : List Nat) : nats (nint l) = l := by
  unfold nats nint
  rw [List.map_map]
  conv => rhs; rw [← List.map_id l]
  apply List.map_congr_left
  intro x _
  rfl
theorem rootP_nint {l : List Nat} (h1 : 1 ≤ l.length) (h2 : l.length ≤ 64) (hm : Tree.May l) : rootP (nint l) = (((Tree.root l : Nat) : Int), 0) := by
  have hR : RMay (nint l) := by
    refine ⟨by rw [nint_len]; exact h1, by rw [nint_len]; exact h2, ?_⟩
    intro x hx
    unfold nint at hx
    obtain ⟨y, hy, rfl⟩ := List.mem_map.1 hx
    have := hm y hy
    unfold Sl
    omega
  unfold rootP
  rw [if_pos hR, nats_nint]
theorem lows_may' (xs : List Int) (k : Nat) : ∀ x ∈ lows xs k, x < 1073741824 := by
  intro x hx
  unfold lows at hx
  obtain ⟨y, _, rfl⟩ := List.mem_map.1 hx
  exact low30_lt y
theorem nint_set (l : List Nat) (i z : Nat) : ((nint l).map (Value.int .i64)).set i (.int .i64 (z : Int)) = (nint (l.set i z)).map (Value.int .i64) := by
  unfold nint
  rw [List.map_set, List.map_set]
theorem lows_may (xs : List Int) (k : Nat) : Tree.May (lows xs k) := by
  intro x hx
  unfold lows at hx
  obtain ⟨y, _, rfl⟩ := List.mem_map.1 hx
  have := low30_lt y
  omega
theorem lows_lt (xs : List Int) (k i : Nat) : (lows xs k).getD i 0 < 1073741824 := by
  rcases Nat.lt_or_ge i (lows xs k).length with h | h
  · have e : (lows xs k).getD i 0 = (lows xs k)[i] := by simp [List.getD, List.getElem?_eq_getElem h]
    rw [e]
    have h2 := lows_may' xs k _ (List.getElem_mem h)
    exact h2
  · have e : (lows xs k).getD i 0 = 0 := by simp [List.getD, List.getElem?_eq_none h]
    omega
theorem modT (a n : Int) (h1 : 0 < n) (h2 : n ≤ 1000) : ∃ i : Nat, (i : Int) < n ∧ wrap64 ((IntKind.u64.wrap a).tmod n) = (i : Int) := by
  have h0 : IntKind.u64.wrap a = a % 18446744073709551616 := IntKind.wrap_u64 a
  have : 0 ≤ a % 18446744073709551616 := Int.emod_nonneg _ (by decide)
  rw [h0, Int.tmod_eq_emod_of_nonneg (by omega)]
  have h3 := Int.emod_nonneg (a % 18446744073709551616) (Int.ne_of_gt h1)
  have h4 := Int.emod_lt_of_pos (a % 18446744073709551616) h1
  exact ⟨(a % 18446744073709551616 % n).toNat, by omega, by unfold wrap64; omega⟩
theorem and_65535 (n : Int) : ∃ k : Nat, k ≤ 65535 ∧ bits .and .i64 n 65535 = (k : Int) := by
  have h : bits .and .i64 n 65535 = n % 65536 := and_mask_i64 n 16 65535 (by decide) (by decide)
  exact ⟨(n % 65536).toNat, by omega, by rw [h]; omega⟩
theorem turn_num (y k z : Nat) (hy : y < 1073741824) (hk : k ≤ 65535) (ez : z = y + 1 + k) : (wrap64 (wrap64 ((y : Int) + 1) + (k : Int))).tmod 2147483647 = (z : Int) := by
  have e1 : wrap64 ((y : Int) + 1) = (y : Int) + 1 := by unfold wrap64; omega
  have e2 : wrap64 ((y : Int) + 1 + (k : Int)) = (y : Int) + 1 + (k : Int) := by unfold wrap64; omega
  have h0 : 0 ≤ (y : Int) + 1 + (k : Int) := by omega
  rw [e1, e2, Int.tmod_eq_emod_of_nonneg h0]
  omega
theorem turn_lt (y k z : Nat) (hy : y < 1073741824) (hk : k ≤ 65535) (ez : z = y + 1 + k) : z < 2147483647 ∧ y ≠ z := by omega
end Go.Proofs.Ytmphbajnadbggab
