/- Numbers in bytes by the document (ossuaryref13): bytes, number. -/
import Derived.Test.YtmphbajnadbggaaZeros
import Derived.Test.YtmphbajnadbggaaKRegs
import Derived.Test.YtmphbajnadbggaaSealRef
namespace Go.Proofs.Ytmphbajnadbggaa
open Go.RowKit
set_option linter.unusedVariables false
set_option linter.unusedSimpArgs false
attribute [local go_sem ↓] Go.wp_at_zero Go.wp_at_succ
/-- a number's lowest k bytes, the lowest one first -/
def bytesL (x : Int) (k : Nat) : List Int := (List.range k).map fun i => (x / 2 ^ (8 * i)) % 256
def bytesB (x : Int) (k : Nat) : ByteArray := strOfNums (bytesL x k)
theorem bytesL_len (x : Int) (k : Nat) : (bytesL x k).length = k := by simp [bytesL]
theorem bytesL_succ (x : Int) (k : Nat) : bytesL x (k + 1) = bytesL x k ++ [(x / 2 ^ (8 * k)) % 256] := by simp [bytesL, List.range_succ]
theorem bytesB_size (x : Int) (k : Nat) : (bytesB x k).size = k := by rw [bytesB, strOfNums_size, bytesL_len]
set_option maxRecDepth 100000 in
set_option maxHeartbeats 1000000 in
theorem bytes_any (x : Int) (k : Nat) (hk : 1 ≤ k ∧ k ≤ 8) (w : World) : Calls Try.prog 41 #[.int .i64 x, .int .i64 k] w fun e w' => e = .returned (.string (bytesB x k)) ∧ Below w.heap.size w w' := by
  obtain ⟨hk1, hk8⟩ := hk
  go_enter Try.func41, Try.ntmps41
  go_wp2
  go_loopw [5, 6] (fun ov iv wr => ∃ j : Nat, j ≤ k ∧ iv = .int .i64 j ∧ Hid (OwnL wr w.heap.size 5 ov ((bytesL x j).map (Value.int .u8))) ∧ Hid (Below w.heap.size w wr)) (fun _ iv _ => k - (intOf iv).toNat)
  case atStart => exact ⟨0, Nat.zero_le _, rfl, hide (OwnL.nil _ _ _), hide (Below.refl _ _)⟩
  case round =>
    obtain ⟨j, hj, rfl, HO, HB⟩ := hrel
    have hs3 := (unhide HB).size
    by_cases hlt : j < k
    · have hlt' : (j : Int) < k := by omega
      have hj8 : (j : Int) < 8 := by omega
      obtain ⟨pv, cv, ev⟩ := (unhide HO).form
      rw [List.length_map, bytesL_len] at ev
      subst ev
      have hkj : j < k := hlt
      go_wp2_with (at_builtin; refine wpList_push wr (by rfl) (.tmp 12) (.tmp 18) 41 (by rfl) w.heap.size 5 (.int .u8 0) 1 Try.underlying41 Try.infoByte8 rfl _ _ (by rfl) (unhide HO) _ (by rfl) (by rfl) (by simp [bytesL_len]; omega) (by omega) hs3 ?_; intro v4 w4 O4 P4; have HB4 := hide (P4.below (unhide HO) (unhide HB) (Nat.le_refl _) hs3); have HO4 := hide O4; clear O4 P4 HO HB)
      go_roundw
      case rel =>
        refine ⟨j + 1, by omega, by go_num, hide ?_, HB4⟩
        rw [bytesL_succ, List.map_append]
        exact unhide HO4
      case measure => simp [intOf]; omega
    · obtain rfl : j = k := by omega
      have hl := bytesL_len x j
      rcases (unhide HO).2 with ⟨rfl, h0⟩ | ⟨g, cap, cur, rfl, -⟩
      · exfalso
        simp [bytesL_len] at h0
        omega
      · have HO' := unhide HO
        rw [List.length_map, hl] at HO'
        have hcell : ∀ i, i < j → wr.cell? ⟨g, 0 + i, none⟩ = some (.int .u8 ((bytesL x j).getD i 0)) := fun i hi => by
          rw [Nat.zero_add, World.ownsRow.cellAt (own_row' HO') i (by simpa [hl] using hi), List.getElem?_map, List.getElem?_eq_getElem (by omega)]
          simp [List.getD, List.getElem?_eq_getElem (show i < (bytesL x j).length by omega)]
        have hcb := run_convert_bytes_arg (P := Try.prog) wr 41 5 Try.underlying41 Try.underlying5 g 0 j cap (bytesL x j) hl hcell 9 Try.underlying9
        rw [List.length_map, hl]
        obtain ⟨t, et⟩ : ∃ t, t = strOfNums (bytesL x j) := ⟨_, rfl⟩
        rw [← et] at hcb
        have ET := hide et
        clear hcell HO' HO et hl
        go_wp2
        go_ret
        exact ⟨by rw [bytesB, ← unhide ET]; rfl, unhide HB⟩
theorem or_i64 (a b : Nat) (ha : a < 4611686018427387904) (hb : b < 4611686018427387904) : bits .or .i64 (a : Int) (b : Int) = ((a ||| b : Nat) : Int) := by
  show IntKind.i64.wrap ((BitVec.ofInt 64 (a : Int) ||| BitVec.ofInt 64 (b : Int)).toNat : Nat) = _
  have hlt : a ||| b < 2 ^ 62 := Nat.or_lt_two_pow (by omega) (by omega)
  rw [BitVec.toNat_or, toNat_ofInt64 a (by omega), toNat_ofInt64 b (by omega), IntKind.wrap_i64]
  omega
theorem or_byte (x b : Nat) (hx : x < 72057594037927936 / 256) (hb : b < 256) : bits .or .i64 ((x : Int) * 256) (b : Int) = ((x * 256 + b : Nat) : Int) := by
  have e : (x : Int) * 256 = ((2 ^ 8 * x : Nat) : Int) := by omega
  rw [e, or_i64 _ _ (by omega) (by omega), ← Nat.two_pow_add_eq_or_of_lt (i := 8) (by omega)]
  omega
/-- a number of bytes, the lowest one first -/
def numL : List Nat → Nat
  | [] => 0
  | b :: r => numL r * 256 + b
theorem numL_lt : ∀ l : List Nat, (∀ b ∈ l, b < 256) → numL l < 256 ^ l.length
  | [], _ => by decide
  | b :: r, h => by
    have h1 := numL_lt r (fun x hx => h x (List.mem_cons_of_mem _ hx))
    have h2 := h b List.mem_cons_self
    rw [numL, List.length_cons, Nat.pow_succ]
    omega
theorem byts_all (s : ByteArray) : ∀ b ∈ byts s, b < 256 := by
  intro b hb
  unfold byts at hb
  obtain ⟨u, -, rfl⟩ := List.mem_map.1 hb
  exact UInt8.toNat_lt u
set_option maxRecDepth 100000 in
set_option maxHeartbeats 1000000 in
theorem number_any (s : ByteArray) (hs : s.size ≤ 5) (w : World) : Calls Try.prog 45 #[.string s] w fun e w' => e = .returned (.int .i64 (numL (byts s) : Nat)) ∧ w' = w := by
  go_enter Try.func45, Try.ntmps45
  go_wp2
  go_loop [3, 4] (fun xv iv => ∃ k : Nat, k ≤ s.size ∧ iv = .int .i64 ((k : Int) - 1) ∧ xv = .int .i64 ((numL ((byts s).drop k) : Nat) : Int)) (fun _ iv => (intOf iv + 1).toNat)
  case atStart => exact ⟨s.size, Nat.le_refl _, by go_num, by rw [List.drop_of_length_le (Nat.le_of_eq (byts_len s))]; rfl⟩
  case round =>
    obtain ⟨k, hk, rfl, rfl⟩ := hrel
    by_cases h0 : k = 0
    · subst h0
      have e0 : ((0 : Nat) : Int) - 1 = -1 := rfl
      simp only [e0, List.drop_zero]
      go_wp2
      go_ret
      exact ⟨rfl, rfl⟩
    · obtain ⟨j, rfl⟩ : ∃ j, k = j + 1 := ⟨k - 1, by omega⟩
      have ej : (((j + 1 : Nat) : Int)) - 1 = (j : Int) := by omega
      simp only [ej]
      have hj : j < s.size := by omega
      have hj' : (j : Int) < s.size := by omega
      have hd := byts_drop hj
      have hb : s[j].toNat < 256 := UInt8.toNat_lt _
      obtain ⟨x, ex⟩ : ∃ x, x = numL ((byts s).drop (j + 1)) := ⟨_, rfl⟩
      have hx : x < 4294967296 := by
        have h1 := numL_lt ((byts s).drop (j + 1)) (fun b hb => byts_all s b (List.mem_of_mem_drop hb))
        rw [← ex, List.length_drop, byts_len] at h1
        exact Nat.lt_of_lt_of_le h1 (Nat.pow_le_pow_right (by decide) (show s.size - (j + 1) ≤ 4 by omega))
      rw [← ex]
      have hor := or_byte x s[j].toNat (by omega) hb
      have EX := hide ex
      have HD := hide hd
      clear ex hd
      go_wp2
      go_round
      case rel =>
        refine ⟨j, by omega, rfl, ?_⟩
        have e : numL ((byts s).drop j) = x * 256 + s[j].toNat := by rw [unhide HD, unhide EX]; rfl
        rw [e]
        exact int_eq (by omega)
      case measure => simp [intOf]
end Go.Proofs.Ytmphbajnadbggaa
