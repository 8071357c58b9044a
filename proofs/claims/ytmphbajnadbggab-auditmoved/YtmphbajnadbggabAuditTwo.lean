/- A path in the tree of all shards' blocks: the block's in its shard, then the shard's. -/
import Derived.Test.YtmphbajnadbggabAuditRef3
namespace Go.Proofs.Ytmphbajnadbggab
set_option linter.unusedVariables false
set_option linter.unusedSimpArgs false
theorem half_four : ∀ n, n < 7 → 2 ≤ n → Tree.half (4 * n) = 4 * Tree.half n := by decide +kernel
theorem depth_four : ∀ n, n < 7 → ∀ i, i < n → ∀ b, b < 4 → Tree.depth (4 * n) (4 * i + b) = Tree.depth n i + 2 := by decide +kernel
theorem climb_four (b a : Nat) (hb : b < 4) : ∀ (n i : Nat) (p : List Nat), n < 7 → i < n → p.length = Tree.depth n i + 2 → Tree.climb (4 * n) (4 * i + b) a p = Tree.climb n i (Tree.climb 4 b a (p.take 2)) (p.drop 2) := by
  intro n
  induction n using Nat.strongRecOn with
  | ind n ih =>
    intro i p hn hi hp
    by_cases h1 : n = 1
    · subst h1
      obtain rfl : i = 0 := by omega
      rw [Tree.depth_one] at hp
      rw [Tree.climb_one, List.take_of_length_le (by omega)]
      simp
    · have h2 : 2 ≤ n := by omega
      have eh := half_four n hn h2
      have hk1 := Tree.half_pos n
      have hk2 := Tree.half_lt h2
      rw [Tree.depth_two h2] at hp
      have hl : 3 ≤ p.length := by split at hp <;> omega
      rw [Tree.climb_two _ _ _ (show 2 ≤ 4 * n by omega), Tree.climb_two _ _ _ h2, eh]
      have el : (p.drop 2).length - 1 = p.length - 1 - 2 := by rw [List.length_drop]; omega
      have eg : (p.drop 2).getD ((p.drop 2).length - 1) 0 = p.getD (p.length - 1) 0 := by
        rw [el]
        simp only [List.getD, List.getElem?_drop]
        rw [show 2 + (p.length - 1 - 2) = p.length - 1 by omega]
      have et : (p.take (p.length - 1)).take 2 = p.take 2 := by rw [List.take_take, Nat.min_eq_left (by omega)]
      have ed : (p.take (p.length - 1)).drop 2 = (p.drop 2).take ((p.drop 2).length - 1) := by rw [el, List.drop_take]
      by_cases hik : i < Tree.half n
      · rw [if_pos hik] at hp
        rw [if_pos (by omega), if_pos hik, eg, ih _ hk2 i (p.take (p.length - 1)) (by omega) hik (by rw [List.length_take]; omega), et, ed]
      · rw [if_neg hik] at hp
        rw [if_neg (by omega), if_neg hik, eg, show 4 * n - 4 * Tree.half n = 4 * (n - Tree.half n) by omega, show 4 * i + b - 4 * Tree.half n = 4 * (i - Tree.half n) + b by omega,
          ih _ (by omega) (i - Tree.half n) (p.take (p.length - 1)) (by omega) (by omega) (by rw [List.length_take]; omega), et, ed]
theorem nats_take (p : List Int) (k : Nat) : (nats p).take k = nats (p.take k) := by unfold nats; rw [List.map_take]
theorem nats_drop (p : List Int) (k : Nat) : (nats p).drop k = nats (p.drop k) := by unfold nats; rw [List.map_drop]
theorem sl_of_lt {n : Nat} (h : n < 2147483647) : Sl (n : Int) := ⟨by omega, by omega⟩
theorem chk_four {r : Int} {n i b a : Nat} {p : List Int} (hn1 : 1 ≤ n) (hn : n ≤ 6) (hi : i < n) (hb : b < 4) (ha : a < 2147483647) :
    Chk r ((4 * n : Nat) : Int) ((4 * i + b : Nat) : Int) (a : Int) p ↔ 2 ≤ p.length ∧ (Sls p ∧ p.length ≤ 64) ∧ Chk r (n : Int) (i : Int) ((Tree.climb 4 b a (nats (p.take 2)) : Nat) : Int) (p.drop 2) := by
  have ed := depth_four n (by omega) i hi b hb
  have hc := Tree.climb_lt (i := b) (p := nats (p.take 2)) (show 1 ≤ 4 by omega) ha
  unfold Chk
  simp only [Int.toNat_natCast, ed]
  constructor
  · rintro ⟨-, -, -, -, -, h5, h6, h7, h8⟩
    have hcl := climb_four b a hb n i (nats p) (by omega) hi (by unfold nats; rw [List.length_map]; exact h7)
    rw [hcl, nats_take, nats_drop] at h8
    refine ⟨by omega, ⟨h5, h6⟩, by omega, by omega, by omega, by omega, sl_of_lt hc, ?_, ?_, ?_, h8⟩
    · intro x hx; exact h5 x (List.mem_of_mem_drop hx)
    · rw [List.length_drop]; omega
    · rw [List.length_drop]; omega
  · rintro ⟨h1, ⟨h2, h3⟩, -, -, -, -, -, -, -, h7, h8⟩
    rw [List.length_drop] at h7
    have hcl := climb_four b a hb n i (nats p) (by omega) hi (by unfold nats; rw [List.length_map]; omega)
    refine ⟨by omega, by omega, by omega, by omega, sl_of_lt ha, h2, h3, by omega, ?_⟩
    rw [hcl, nats_take, nats_drop]
    exact h8
end Go.Proofs.Ytmphbajnadbggab
