/- The program's seals: Of, Pair. -/
import Derived.Test.YtmphbajnadbggabSealRef
namespace Go.Proofs.Ytmphbajnadbggab
open Go.RowKit
set_option linter.unusedVariables false
set_option linter.unusedSimpArgs false
set_option maxRecDepth 100000 in
set_option maxHeartbeats 1000000 in
theorem sealOf_any (s : ByteArray) (w : World) (hs : s.size ≤ 140737488351232) : Calls Try.prog 35 #[.string s] w fun e w' => e = .returned (.int .i64 (Seal.of (byts s) : Nat)) ∧ w' = w := by
  go_enter Try.func35, Try.ntmps35
  go_wp2
  go_loop [3, 4] (fun xv iv => ∃ k : Nat, k ≤ s.size ∧ iv = .int .i64 ((k : Int) - 1) ∧ xv = .int .i64 ((Seal.of ((byts s).drop k) : Nat) : Int)) (fun _ iv => (intOf iv + 1).toNat)
  case atStart => exact ⟨s.size, Nat.le_refl _, by go_num, by rw [List.drop_of_length_le (Nat.le_of_eq (byts_len s))]; rfl⟩
  case round =>
    obtain ⟨k, hk, rfl, rfl⟩ := hrel
    by_cases h0 : k = 0
    · subst h0
      have e0 : ((0 : Nat) : Int) - 1 = -1 := rfl
      simp only [e0, List.drop_zero]
      go_wp2
      go_ret
      exact ⟨rfl, rfl⟩
    · obtain ⟨j, rfl⟩ : ∃ j, k = j + 1 := ⟨k - 1, by omega⟩
      have ej : (((j + 1 : Nat) : Int)) - 1 = (j : Int) := by omega
      simp only [ej]
      have hj : j < s.size := by omega
      have hj' : (j : Int) < s.size := by omega
      have hd := byts_drop hj
      obtain ⟨x, ex⟩ : ∃ x, x = Seal.of ((byts s).drop (j + 1)) := ⟨_, rfl⟩
      have hx : x < 2147483647 := by rw [ex]; exact Seal.of_lt _
      rw [← ex]
      have hb : s[j].toNat < 256 := UInt8.toNat_lt _
      have EX := hide ex
      have HD := hide hd
      clear ex hd
      go_wp2
      go_round
      case rel =>
        refine ⟨j, by omega, rfl, ?_⟩
        have e : Seal.of ((byts s).drop j) = (x + s[j].toNat + 1) * 65537 % 2147483647 := by rw [unhide HD, unhide EX]; rfl
        rw [e]
        go_num
      case measure => simp [intOf]
set_option maxRecDepth 100000 in
set_option maxHeartbeats 1000000 in
theorem sealRest_any (a : Int) (w : World) (ha : (Lit.int .i64 a).wf = true) : Calls Try.prog 39 #[.int .i64 a] w fun e w' => e = .returned (.int .i64 (Seal.md a : Nat)) ∧ w' = w := by
  go_enter Try.func39, Try.ntmps39
  go_wp2
  go_ret
  exact ⟨ret_int (md_tmod a), rfl⟩
theorem sealPair_num (a b : Int) : (911 + (((Seal.md a : Nat) : Int) + ((Seal.md b : Nat) : Int) * 65537 % 2147483647) * 65537) % 2147483647 = ((Seal.pair a b : Nat) : Int) := by
  unfold Seal.pair Seal.pairN
  omega
set_option maxRecDepth 100000 in
set_option maxHeartbeats 1000000 in
theorem sealPair_any (a b : Int) (w : World) (ha : (Lit.int .i64 a).wf = true) (hb : (Lit.int .i64 b).wf = true) : Calls Try.prog 22 #[.int .i64 a, .int .i64 b] w fun e w' => e = .returned (.int .i64 (Seal.pair a b : Nat)) ∧ w' = w := by
  have h1 := Seal.md_lt a
  have h2 := Seal.md_lt b
  go_enter Try.func22, Try.ntmps22
  go_wp2_with fail
  refine (sealRest_any b w hb).mono ?_
  rintro e w' ⟨rfl, rfl⟩
  go_wp2_with fail
  refine (sealRest_any a w' ha).mono ?_
  rintro e w'' ⟨rfl, rfl⟩
  go_wp2
  go_ret
  exact ⟨ret_int (sealPair_num a b), rfl⟩
end Go.Proofs.Ytmphbajnadbggab
