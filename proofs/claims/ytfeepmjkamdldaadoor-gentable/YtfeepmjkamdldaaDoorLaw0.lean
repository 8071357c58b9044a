/- What the statements need of ossuarylaw0: copies, lent memory, comparisons: contracts, one a function. -/
import Derived.Test.YtfeepmjkamdldaaDoorProg
import Derived.Test.YtfeepmjkamdldaaDoorMem
import Derived.Laws.AppendOwnNone
namespace Go.Proofs.YtfeepmjkamdldaaDoor
open Go.RowKit
set_option linter.unusedVariables false
set_option maxRecDepth 100000 in
theorem num_any (n : Int) (w : World) : Calls Tryd.prog 12 #[.int .i64 n] w fun e w' => e = .returned (.int .i64 n) ∧ w' = w := by
  go_enter Tryd.func12, Tryd.ntmps12
  go_wp2
  go_ret
  exact ⟨rfl, rfl⟩

/-! ### SameInts -/
set_option maxRecDepth 100000 in
theorem sameInts_len (a a' : Option Addr) (n n' ca cb : Nat) (w : World) (h : n ≠ n') :
   Calls Tryd.prog 31 #[.slice a n ca, .slice a' n' cb] w fun e w' => e = .returned (.bool false) ∧ w' = w := by
  have ht : ((n : Int) != (n' : Int)) = true := by simp; omega
  go_enter Tryd.func31, Tryd.ntmps31
  go_wp2
  go_ret
  exact ⟨rfl, rfl⟩
set_option maxRecDepth 100000 in
theorem sameInts_none (a a' : Option Addr) (ca cb : Nat) (w : World) :
   Calls Tryd.prog 31 #[.slice a 0 ca, .slice a' 0 cb] w fun e w' => e = .returned (.bool true) ∧ w' = w := by
  go_enter Tryd.func31, Tryd.ntmps31
  go_wp2
  go_rounds 1
  go_ret
  exact ⟨rfl, rfl⟩
set_option maxRecDepth 100000 in
set_option maxHeartbeats 1000000 in
theorem sameInts_some (b off b' off' ca cb n : Nat) (xs ys : List Int) (w : World) (hx : xs.length = n) (hy : ys.length = n) (hn : n ≤ maxLen)
   (hc : ∀ i, i < n → w.cell? ⟨b, off + i, none⟩ = some (.int .i64 (xs.getD i 0))) (hd : ∀ i, i < n → w.cell? ⟨b', off' + i, none⟩ = some (.int .i64 (ys.getD i 0))) :
   Calls Tryd.prog 31 #[.slice (some ⟨b, off, none⟩) n ca, .slice (some ⟨b', off', none⟩) n cb] w fun e w' => e = .returned (.bool (xs == ys)) ∧ ∃ m, w' = w.drewN m := by
  unfold maxLen at hn
  go_enter Tryd.func31, Tryd.ntmps31
  go_wp2
  go_loopw [5] (fun i wr => ∃ k : Nat, k ≤ n ∧ i = .int .i64 k ∧ Hid (xs.take k = ys.take k) ∧ Hid (∃ m, wr = w.drewN m)) (fun i _ => n - (intOf i).toNat)
  case atStart => exact ⟨0, by omega, rfl, rfl, ⟨0, rfl⟩⟩
  case round =>
    obtain ⟨k, hk, rfl, he, m, rfl⟩ := hrel
    by_cases hlt : k < n
    · have hlt' : (k : Int) < n := by omega
      have h1 := hc k hlt
      have h2 := hd k hlt
      clear hc hd
      go_wp2
      go_quiet (fail)
      go_wp2
      · have hne : (xs[k] != ys[k]) = true := by assumption
        have : (xs == ys) = false := by
          rw [beq_eq_false_iff_ne]; exact ne_of_at (k := k) (by omega) (by omega) (by simpa using hne)
        go_ret
        exact ⟨ret_bool this.symm, m + nq, by simp⟩
      · have heq : (xs[k] != ys[k]) = false := by assumption
        go_roundw
        case rel => exact ⟨k + 1, by omega, by go_num, take_snoc_eq (by omega) (by omega) he (by simpa using heq), ⟨_, rfl⟩⟩
        case measure => simp [intOf]; omega
    · have hlt' : ¬ (k : Int) < n := by omega
      obtain rfl : k = n := by omega
      have : (xs == ys) = true := by rw [beq_iff_eq]; exact take_eq_len hx hy he
      have HT := hide this
      clear this
      go_wp2
      go_ret
      exact ⟨ret_bool (unhide HT).symm, _, rfl⟩
theorem beq_len_ne {α : Type} [BEq α] [LawfulBEq α] {xs ys : List α} (h : xs.length ≠ ys.length) : (xs == ys) = false := by
  rw [beq_eq_false_iff_ne]; intro e; rw [e] at h; exact h rfl
theorem sameInts_any (a a' : Option Addr) (n n' ca cb : Nat) (xs ys : List Int) (w : World) (hx : Ints w a n ca xs) (hy : Ints w a' n' cb ys) (hn : n ≤ maxLen) :
   Calls Tryd.prog 31 #[.slice a n ca, .slice a' n' cb] w fun e w' => e = .returned (.bool (xs == ys)) ∧ ∃ m, w' = w.drewN m := by
  obtain ⟨lx, rx⟩ := hx
  obtain ⟨ly, ry⟩ := hy
  by_cases hl : n = n'
  · subst hl
    rcases rx.two with h0 | ⟨b, off, rfl, hc⟩
    · subst h0
      refine (sameInts_none a a' ca cb w).mono ?_
      rintro e w' ⟨rfl, rfl⟩
      rw [List.length_eq_zero_iff.1 lx, List.length_eq_zero_iff.1 ly]
      exact ⟨rfl, 0, rfl⟩
    · rcases ry.two with h0 | ⟨b', off', rfl, hd⟩
      · subst h0
        refine (sameInts_none _ _ ca cb w).mono ?_
        rintro e w' ⟨rfl, rfl⟩
        rw [List.length_eq_zero_iff.1 lx, List.length_eq_zero_iff.1 ly]
        exact ⟨rfl, 0, rfl⟩
      · exact sameInts_some b off b' off' ca cb n xs ys w lx ly hn hc hd
  · refine (sameInts_len a a' n n' ca cb w hl).mono ?_
    rintro e w' ⟨rfl, rfl⟩
    exact ⟨ret_bool (beq_len_ne (by omega)).symm, 0, rfl⟩
/-! ### SameTexts -/
theorem str_toList_inj {a b : ByteArray} (h : a.toList = b.toList) : a = b := by
  rw [ByteArray.toList_eq, ByteArray.toList_eq] at h
  cases a; cases b; simp at h; simp [h]
theorem str_ne {a b : ByteArray} (h : (!a.toList == b.toList) = true) : a ≠ b := by
  intro e; subst e; simp at h
theorem str_eq {a b : ByteArray} (h : (!a.toList == b.toList) = false) : a = b := by
  simp at h; exact str_toList_inj h
theorem dec_len_ne {xs ys : List ByteArray} (h : xs.length ≠ ys.length) : decide (xs = ys) = false := by
  rw [decide_eq_false_iff_not]; intro e; rw [e] at h; exact h rfl
set_option maxRecDepth 100000 in
theorem sameTexts_len (a a' : Option Addr) (n n' ca cb : Nat) (w : World) (h : n ≠ n') :
   Calls Tryd.prog 22 #[.slice a n ca, .slice a' n' cb] w fun e w' => e = .returned (.bool false) ∧ w' = w := by
  have ht : ((n : Int) != (n' : Int)) = true := by simp; omega
  go_enter Tryd.func22, Tryd.ntmps22
  go_wp2
  go_ret
  exact ⟨rfl, rfl⟩
set_option maxRecDepth 100000 in
theorem sameTexts_none (a a' : Option Addr) (ca cb : Nat) (w : World) :
   Calls Tryd.prog 22 #[.slice a 0 ca, .slice a' 0 cb] w fun e w' => e = .returned (.bool true) ∧ w' = w := by
  go_enter Tryd.func22, Tryd.ntmps22
  go_wp2
  go_rounds 1
  go_ret
  exact ⟨rfl, rfl⟩
set_option maxRecDepth 100000 in
set_option maxHeartbeats 1000000 in
theorem sameTexts_some (b off b' off' ca cb n : Nat) (xs ys : List ByteArray) (w : World) (hx : xs.length = n) (hy : ys.length = n) (hn : n ≤ maxLen)
   (hc : ∀ i, i < n → w.cell? ⟨b, off + i, none⟩ = some (.string (xs.getD i ByteArray.empty))) (hd : ∀ i, i < n → w.cell? ⟨b', off' + i, none⟩ = some (.string (ys.getD i ByteArray.empty))) :
   Calls Tryd.prog 22 #[.slice (some ⟨b, off, none⟩) n ca, .slice (some ⟨b', off', none⟩) n cb] w fun e w' => e = .returned (.bool (decide (xs = ys))) ∧ ∃ m, w' = w.drewN m := by
  unfold maxLen at hn
  go_enter Tryd.func22, Tryd.ntmps22
  go_wp2
  go_loopw [5] (fun i wr => ∃ k : Nat, k ≤ n ∧ i = .int .i64 k ∧ Hid (xs.take k = ys.take k) ∧ Hid (∃ m, wr = w.drewN m)) (fun i _ => n - (intOf i).toNat)
  case atStart => exact ⟨0, by omega, rfl, rfl, ⟨0, rfl⟩⟩
  case round =>
    obtain ⟨k, hk, rfl, he, m, rfl⟩ := hrel
    by_cases hlt : k < n
    · have hlt' : (k : Int) < n := by omega
      have h1 := hc k hlt
      have h2 := hd k hlt
      clear hc hd
      go_wp2
      go_quiet (fail)
      go_wp2
      · have hne : (!xs[k].toList == ys[k].toList) = true := by assumption
        have : (decide (xs = ys)) = false := by
          rw [decide_eq_false_iff_not]; exact ne_of_at (k := k) (by omega) (by omega) (str_ne hne)
        go_ret
        exact ⟨ret_bool this.symm, m + nq, by simp⟩
      · have heq : (!xs[k].toList == ys[k].toList) = false := by assumption
        go_roundw
        case rel => exact ⟨k + 1, by omega, by go_num, take_snoc_eq (by omega) (by omega) he (str_eq heq), ⟨_, rfl⟩⟩
        case measure => simp [intOf]; omega
    · have hlt' : ¬ (k : Int) < n := by omega
      obtain rfl : k = n := by omega
      have : (decide (xs = ys)) = true := by rw [decide_eq_true_eq]; exact take_eq_len hx hy he
      have HT := hide this
      clear this
      go_wp2
      go_ret
      exact ⟨ret_bool (unhide HT).symm, _, rfl⟩
theorem sameTexts_any (a a' : Option Addr) (n n' ca cb : Nat) (xs ys : List ByteArray) (w : World) (hx : Strs w a n ca xs) (hy : Strs w a' n' cb ys) (hn : n ≤ maxLen) :
   Calls Tryd.prog 22 #[.slice a n ca, .slice a' n' cb] w fun e w' => e = .returned (.bool (decide (xs = ys))) ∧ ∃ m, w' = w.drewN m := by
  obtain ⟨lx, rx⟩ := hx
  obtain ⟨ly, ry⟩ := hy
  by_cases hl : n = n'
  · subst hl
    rcases rx.two with h0 | ⟨b, off, rfl, hc⟩
    · subst h0
      refine (sameTexts_none a a' ca cb w).mono ?_
      rintro e w' ⟨rfl, rfl⟩
      rw [List.length_eq_zero_iff.1 lx, List.length_eq_zero_iff.1 ly]
      exact ⟨rfl, 0, rfl⟩
    · rcases ry.two with h0 | ⟨b', off', rfl, hd⟩
      · subst h0
        refine (sameTexts_none _ _ ca cb w).mono ?_
        rintro e w' ⟨rfl, rfl⟩
        rw [List.length_eq_zero_iff.1 lx, List.length_eq_zero_iff.1 ly]
        exact ⟨rfl, 0, rfl⟩
      · exact sameTexts_some b off b' off' ca cb n xs ys w lx ly hn hc hd
  · refine (sameTexts_len a a' n n' ca cb w hl).mono ?_
    rintro e w' ⟨rfl, rfl⟩
    exact ⟨ret_bool (dec_len_ne (by omega)).symm, 0, rfl⟩

/-! ### CopyInts, LendInts, KeptInts -/
theorem Tryd.infoInt : (Tryd.prog.info? 3).map (fun i => (i.zero, i.size, i.bytes)) = some (some (.int .i64 0), 1, 8) := by kernel_rfl
/-- what LendInts hands out: xs, and two marked cells behind it -/
def Lent (w : World) (base g n cap : Nat) (xs : List Int) : Prop :=
  base ≤ g ∧ n + 2 ≤ cap ∧ cap ≤ maxLen ∧ xs.length = n ∧ (∀ i, i < n → w.cell? ⟨g, i, none⟩ = some (.int .i64 (xs.getD i 0))) ∧ w.cell? ⟨g, n, none⟩ = some (.int .i64 (-7777)) ∧ w.cell? ⟨g, n + 1, none⟩ = some (.int .i64 (-8888))
theorem Lent.ints {w : World} {base g n cap : Nat} {xs : List Int} (h : Lent w base g n cap xs) : Ints w (some ⟨g, 0, none⟩) n cap xs := by
  obtain ⟨_, hc, _, hl, hx, _, _⟩ := h
  refine ⟨hl, ?_⟩
  by_cases h0 : n = 0
  · exact .inr (.inl ⟨h0, _, rfl⟩)
  · exact .inr (.inr ⟨by omega, by omega, g, 0, rfl, fun i hi => by rw [Nat.zero_add]; exact hx i hi⟩)
theorem Lent.below {w w' : World} {base g n cap : Nat} {xs : List Int} (h : Lent w base g n cap xs) (hb : Below w.heap.size w w') : Lent w' base g n cap xs := by
  obtain ⟨h1, h2, h3, h4, h5, h6, h7⟩ := h
  exact ⟨h1, h2, h3, h4, fun i hi => (hb.cell (cell_lt (h5 i hi))).trans (h5 i hi), (hb.cell (cell_lt h6)).trans h6, (hb.cell (cell_lt h7)).trans h7⟩
end Go.Proofs.YtfeepmjkamdldaaDoor
