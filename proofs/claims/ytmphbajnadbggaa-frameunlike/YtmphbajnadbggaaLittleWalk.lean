/- The program's numbers in bytes: little.Append, little.Number. -/
import Derived.Test.YtmphbajnadbggaaFrRef
namespace Go.Proofs.Ytmphbajnadbggaa
open Go.RowKit
set_option linter.unusedVariables false
set_option linter.unusedSimpArgs false
attribute [local go_sem ↓] Go.wp_at_zero Go.wp_at_succ
theorem div_more (x : Int) (j : Nat) : x / 2 ^ (8 * j) / 256 = x / 2 ^ (8 * (j + 1)) := by
  rw [Int.ediv_ediv_of_nonneg (Int.pow_nonneg (by decide))]
  congr 1
  rw [show 8 * (j + 1) = 8 * j + 8 by omega, Int.pow_add]
  rfl
theorem Pushed.same (w : World) (v : Value) : Pushed w w v v := ⟨⟨rfl, rfl, rfl, Nat.le_refl _, fun _ _ _ => rfl⟩, .inl rfl⟩
theorem Pushed.next {w w1 w2 : World} {v v1 v2 : Value} (p : Pushed w w1 v v1) (q : Pushed w1 w2 v1 v2) : Pushed w w2 v v2 := by
  have hs := p.grown.size
  refine ⟨⟨q.grown.os.trans p.grown.os, q.grown.tape.trans p.grown.tape, q.grown.output.trans p.grown.output, Nat.le_trans hs q.grown.size, fun k hk hne => ?_⟩, ?_⟩
  · rw [q.grown.block k (by omega) ?_, p.grown.block k hk hne]
    rcases p.lies with h | ⟨g, h, hg⟩
    · rw [h]; exact hne
    · rw [h]; simp; omega
  · rcases q.lies with h | ⟨g, h, hg⟩
    · rcases p.lies with h1 | ⟨g1, h1, hg1⟩
      · exact .inl (h.trans h1)
      · exact .inr ⟨g1, h.trans h1, hg1⟩
    · exact .inr ⟨g, h, by omega⟩
set_option maxRecDepth 100000 in
set_option maxHeartbeats 1000000 in
theorem litAppend_any (x : Int) (k B : Nat) (v : Value) (xs : List Value) (w : World) (hO : OwnL w B 5 v xs) (hk : k ≤ 8) (hn : xs.length ≤ 65536) (hB : B ≤ w.heap.size) :
    Calls Try.prog 38 #[v, .int .i64 x, .int .i64 k] w fun e w' => ∃ v', e = .returned v' ∧ OwnL w' B 5 v' (xs ++ (bytesL x k).map (Value.int .u8)) ∧ Pushed w w' v v' := by
  have HO0 := hide hO
  clear hO
  go_enter Try.func38, Try.ntmps38
  go_wp2
  go_loopw [0, 1, 8] (fun ov nv iv wr => ∃ j : Nat, j ≤ k ∧ iv = .int .i64 j ∧ nv = .int .i64 (x / 2 ^ (8 * j)) ∧ Hid (OwnL wr B 5 ov (xs ++ (bytesL x j).map (Value.int .u8))) ∧ Hid (Pushed w wr v ov)) (fun _ _ iv _ => k - (intOf iv).toNat)
  case atStart =>
    refine ⟨0, Nat.zero_le _, rfl, ?_, hide ?_, hide (Pushed.same _ _)⟩
    · rw [Nat.mul_zero, Int.pow_zero, Int.ediv_one]
    · have h := unhide HO0; simpa [bytesL] using h
  case round =>
    obtain ⟨j, hj, rfl, rfl, HO, HB⟩ := hrel
    have hs3 := (unhide HB).grown.size
    have hl : (xs ++ (bytesL x j).map (Value.int .u8)).length = xs.length + j := by rw [List.length_append, List.length_map, bytesL_len]
    by_cases hlt : j < k
    · have hlt' : (j : Int) < k := by omega
      obtain ⟨pv, cv, ev⟩ := (unhide HO).form
      rw [hl] at ev
      subst ev
      have hdm := div_more x j
      obtain ⟨y, ey⟩ : ∃ y, y = x / 2 ^ (8 * j) := ⟨_, rfl⟩
      obtain ⟨m, em⟩ : ∃ m, m = xs.length + j := ⟨_, rfl⟩
      rw [← ey] at hdm ⊢
      rw [← em] at hl HO HB ⊢
      have hm : m + 1 ≤ 140737488355328 := by omega
      have HDM := hide hdm
      have EY := hide ey
      have HL := hide hl
      clear hdm ey hl em
      go_wp2_with (at_builtin; refine wpList_push wr (by rfl) (.tmp 10) (.tmp 13) 41 (by rfl) B 5 (.int .u8 0) 1 Try.underlying41 Try.infoByte8 rfl _ _ (by rfl) (unhide HO) _ (by rfl) (by rfl) (by rw [unhide HL]; omega) (by omega) (by omega) ?_; intro v4 w4 O4 P4; have HB4 := hide ((unhide HB).next P4); have HO4 := hide O4; clear O4 P4 HO HB)
      go_roundw
      case rel =>
        refine ⟨j + 1, by omega, by go_num, ?_, hide ?_, HB4⟩
        · rw [unhide HDM]
        · rw [bytesL_succ, List.map_append, ← List.append_assoc]
          have h := unhide HO4
          rw [unhide EY] at h
          exact h
      case measure => simp [intOf]; omega
    · obtain rfl : j = k := by omega
      go_wp2
      go_ret
      exact ⟨_, rfl, unhide HO, unhide HB⟩
set_option maxRecDepth 100000 in
set_option maxHeartbeats 1000000 in
theorem litNumber_any (s : ByteArray) (hs : s.size ≤ 5) (w : World) : Calls Try.prog 67 #[.string s] w fun e w' => e = .returned (.int .i64 (numL (byts s) : Nat)) ∧ w' = w := by
  go_enter Try.func67, Try.ntmps67
  go_wp2
  go_loop [3, 4] (fun xv iv => ∃ k : Nat, k ≤ s.size ∧ iv = .int .i64 ((k : Int) - 1) ∧ xv = .int .i64 ((numL ((byts s).drop k) : Nat) : Int)) (fun _ iv => (intOf iv + 1).toNat)
  case atStart => exact ⟨s.size, Nat.le_refl _, by go_num, by rw [List.drop_of_length_le (Nat.le_of_eq (byts_len s))]; rfl⟩
  case round =>
    obtain ⟨k, hk, rfl, rfl⟩ := hrel
    by_cases h0 : k = 0
    · subst h0
      have e0 : ((0 : Nat) : Int) - 1 = -1 := rfl
      simp only [e0, List.drop_zero]
      go_wp2
      go_ret
      exact ⟨rfl, rfl⟩
    · obtain ⟨j, rfl⟩ : ∃ j, k = j + 1 := ⟨k - 1, by omega⟩
      have ej : (((j + 1 : Nat) : Int)) - 1 = (j : Int) := by omega
      simp only [ej]
      have hj : j < s.size := by omega
      have hj' : (j : Int) < s.size := by omega
      have hd := byts_drop hj
      have hb : s[j].toNat < 256 := UInt8.toNat_lt _
      obtain ⟨x, ex⟩ : ∃ x, x = numL ((byts s).drop (j + 1)) := ⟨_, rfl⟩
      have hx : x < 4294967296 := by
        have h1 := numL_lt ((byts s).drop (j + 1)) (fun b hb => byts_all s b (List.mem_of_mem_drop hb))
        rw [← ex, List.length_drop, byts_len] at h1
        exact Nat.lt_of_lt_of_le h1 (Nat.pow_le_pow_right (by decide) (show s.size - (j + 1) ≤ 4 by omega))
      rw [← ex]
      have hor := or_byte x s[j].toNat (by omega) hb
      have EX := hide ex
      have HD := hide hd
      clear ex hd
      go_wp2
      go_round
      case rel =>
        refine ⟨j, by omega, rfl, ?_⟩
        have e : numL ((byts s).drop j) = x * 256 + s[j].toNat := by rw [unhide HD, unhide EX]; rfl
        rw [e]
        exact int_eq (by omega)
      case measure => simp [intOf]
end Go.Proofs.Ytmphbajnadbggaa
