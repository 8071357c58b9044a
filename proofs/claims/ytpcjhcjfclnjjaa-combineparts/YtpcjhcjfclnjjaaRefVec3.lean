/- The document's own Combine (ossuaryref1): what it returns, whatever the numbers and rows. -/
import Derived.Test.YtpcjhcjfclnjjaaRefVec2
namespace Go.Proofs.Ytpcjhcjfclnjjaa
open Go.RowKit
set_option linter.unusedVariables false
open Vec (alikeTo numsTo May cmb byteAt)
theorem first_bad {cs : List Int} : ∀ n, ¬ numsTo cs n → ∃ k, k < n ∧ numsTo cs k ∧ ¬ (0 ≤ cs.getD k 0 ∧ cs.getD k 0 < 256)
  | 0, h => absurd (fun i hi => by omega) h
  | n + 1, h => by
    by_cases hn : numsTo cs n
    · refine ⟨n, by omega, hn, fun hk => h (fun i hi => ?_)⟩
      by_cases q : i = n
      · rw [q]; exact hk
      · exact hn i (by omega)
    · obtain ⟨k, hk, h1, h2⟩ := first_bad n hn
      exact ⟨k, by omega, h1, h2⟩
set_option maxRecDepth 100000 in
set_option maxHeartbeats 1000000 in
theorem refCombine_len (a a' : Option Addr) (n n' ca cb : Nat) (w : World) (h : n < 1 ∨ 12 < n ∨ n' ≠ n) (hb : n ≤ 140737488355328) :
    Calls Try.prog 9 #[.slice a n ca, .slice a' n' cb] w fun e w' => e = .returned (.tuple #[.string ByteArray.empty, .int .i64 200]) ∧ w' = w := by
  by_cases h1 : n < 1
  · have h1' : (n : Int) < 1 := by omega
    go_enter Try.func9, Try.ntmps9
    go_wp2
    go_ret2
    exact ⟨rfl, rfl⟩
  · have h1' : ¬ (n : Int) < 1 := by omega
    by_cases h2 : 12 < n
    · have h2' : (12 : Int) < n := by omega
      go_enter Try.func9, Try.ntmps9
      go_wp2
      go_ret2
      exact ⟨rfl, rfl⟩
    · have h2' : ¬ (12 : Int) < n := by omega
      have h3 : ((n' : Int) != (n : Int)) = true := by simp; omega
      clear h
      go_enter Try.func9, Try.ntmps9
      go_wp2
      go_ret2
      exact ⟨rfl, rfl⟩
set_option maxRecDepth 100000 in
set_option maxHeartbeats 1000000 in
theorem refCombine_form (b off ca b' off' cb n : Nat) (cs : List Int) (ss : List ByteArray) (w : World) (hl : cs.length = n) (hl' : ss.length = n) (hp : 1 ≤ n) (hn : n ≤ 12) (hcb : n ≤ cb)
    (hno : ¬ (alikeTo ss n ∧ numsTo cs n))
    (hc : ∀ i, i < n → w.cell? ⟨b, off + i, none⟩ = some (.int .i64 (cs.getD i 0)))
    (hd : ∀ i, i < n → w.cell? ⟨b', off' + i, none⟩ = some (.string (ss.getD i ByteArray.empty))) :
    Calls Try.prog 9 #[.slice (some ⟨b, off, none⟩) n ca, .slice (some ⟨b', off', none⟩) n cb] w fun e w' => e = .returned (.tuple #[.string ByteArray.empty, .int .i64 200]) ∧ Below w.heap.size w w' := by
  have hS : Hid (Strs w (some ⟨b', off', none⟩) n cb ss) := hide ⟨hl', .inr (.inr ⟨hp, hcb, b', off', rfl, hd⟩)⟩
  have HO := hide hno
  clear hno hd
  have hp' : ¬ (n : Int) < 1 := by omega
  have hn' : ¬ (12 : Int) < n := by omega
  have hp2 : (0 : Int) < n := by omega
  go_enter Try.func9, Try.ntmps9
  go_wp2_with fail
  refine (alike_any _ _ _ ss _ (unhide hS) (by omega)).mono ?_
  rintro e w1 ⟨⟨m, rfl⟩, hr⟩
  rcases hr with ⟨hal, rfl⟩ | ⟨hnal, rfl⟩
  · obtain ⟨q, hq, hq1, hq2⟩ := first_bad n (fun h => unhide HO ⟨hal, h⟩)
    have HQ1 := hide hq1
    have HQ2 := hide hq2
    clear hal hq1 hq2
    go_wp2
    go_loop [6] (fun i => ∃ k : Nat, k ≤ q ∧ i = .int .i64 k) (fun i => n - (intOf i).toNat)
    case atStart => exact ⟨0, by omega, rfl⟩
    case round =>
      obtain ⟨k, hk, rfl⟩ := hrel
      have hlt' : (k : Int) < n := by omega
      have h1 := hc k (by omega)
      clear hc
      by_cases hlt : k < q
      · obtain ⟨h2, h3⟩ := unhide HQ1 k hlt
        obtain ⟨x, ex⟩ : ∃ x, x = cs.getD k 0 := ⟨_, rfl⟩
        rw [← ex] at h1 h2 h3
        clear ex
        go_wp2_with (go_at_call 18; refine (byteNum_yes _ _ h2 (by omega)).mono ?_; rintro e w' ⟨rfl, rfl⟩)
        go_round
        case rel => exact ⟨k + 1, by omega, by go_num⟩
        case measure => simp [intOf]; omega
      · obtain rfl : k = q := by omega
        have h2 := unhide HQ2
        obtain ⟨x, ex⟩ : ∃ x, x = cs.getD k 0 := ⟨_, rfl⟩
        rw [← ex] at h1 h2
        clear ex
        have H2 := hide h2
        clear h2
        go_wp2_with (go_at_call 18; refine (byteNum_no _ _ (by have := unhide H2; omega)).mono ?_; rintro e w' ⟨rfl, rfl⟩)
        go_ret2
        exact ⟨rfl, below_drewN w _ m⟩
  · clear hnal
    go_wp2
    go_ret2
    exact ⟨rfl, below_drewN w _ m⟩
/-- what Combine answers: the text, the error's number -/
def combR (cs : List Int) (ss : List ByteArray) (r : ByteArray × Int) : Prop := (May cs ss ∧ r = (Vec.out cs ss, 0)) ∨ (¬ May cs ss ∧ r = (ByteArray.empty, 200))
theorem combR_one {cs : List Int} {ss : List ByteArray} {r r' : ByteArray × Int} (h : combR cs ss r) (h' : combR cs ss r') : r = r' := by
  rcases h with ⟨h1, h2⟩ | ⟨h1, h2⟩ <;> rcases h' with ⟨h3, h4⟩ | ⟨h3, h4⟩
  · rw [h2, h4]
  · exact absurd h1 h3
  · exact absurd h3 h1
  · rw [h2, h4]
theorem refCombine_any (a a' : Option Addr) (n n' ca cb : Nat) (cs : List Int) (ss : List ByteArray) (w : World) (hx : Ints w a n ca cs) (hy : Strs w a' n' cb ss) (hn : n ≤ 140737488355328) :
    Calls Try.prog 9 #[.slice a n ca, .slice a' n' cb] w fun e w' => ∃ r, combR cs ss r ∧ e = .returned (.tuple #[.string r.1, .int .i64 r.2]) ∧ Below w.heap.size w w' := by
  obtain ⟨lx, rx⟩ := hx
  obtain ⟨ly, ry⟩ := hy
  by_cases h : n < 1 ∨ 12 < n ∨ n' ≠ n
  · refine (refCombine_len a a' n n' ca cb w h hn).mono ?_
    rintro e w' ⟨rfl, rfl⟩
    exact ⟨_, .inr ⟨fun hm => by obtain ⟨h1, h2, h3, _⟩ := hm; omega, rfl⟩, rfl, Below.refl _ _⟩
  · obtain rfl : n' = n := by omega
    rcases rx with ⟨_, h0, _⟩ | ⟨h0, _⟩ | ⟨_, _, b, off, rfl, hc⟩
    · omega
    · omega
    · rcases ry with ⟨_, h0, _⟩ | ⟨h0, _⟩ | ⟨_, hcb, b', off', rfl, hd⟩
      · omega
      · omega
      · by_cases hm : alikeTo ss n' ∧ numsTo cs n'
        · refine (refCombine_yes b off ca b' off' cb n' cs ss w lx ly (by omega) (by omega) hcb hm.1 hm.2 hc hd).mono ?_
          rintro e w' ⟨rfl, hb⟩
          exact ⟨_, .inl ⟨⟨by omega, by omega, by omega, by rw [ly]; exact hm.1, by rw [lx]; exact hm.2⟩, rfl⟩, rfl, hb⟩
        · refine (refCombine_form b off ca b' off' cb n' cs ss w lx ly (by omega) (by omega) hcb hm hc hd).mono ?_
          rintro e w' ⟨rfl, hb⟩
          exact ⟨_, .inr ⟨fun h => hm ⟨by have := h.2.2.2.1; rw [ly] at this; exact this, by have := h.2.2.2.2; rw [lx] at this; exact this⟩, rfl⟩, rfl, hb⟩
end Go.Proofs.Ytpcjhcjfclnjjaa
