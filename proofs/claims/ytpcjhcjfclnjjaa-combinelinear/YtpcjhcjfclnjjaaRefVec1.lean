/- The document's own Combine (ossuaryref1) returns what plain numbers say: contracts. -/
import Derived.Test.YtpcjhcjfclnjjaaProg
import Derived.Test.YtpcjhcjfclnjjaaMem
import Derived.Test.YtpcjhcjfclnjjaaVec
import Derived.Test.YtpcjhcjfclnjjaaRefGfWalks
import Derived.Deep.OwnRows
import Derived.Deep.RegionHeld3
import Derived.Deep.DrawnRows
import Derived.Laws.BytesArg
import Derived.Laws.BitsAllLaws
namespace Go.Proofs.Ytpcjhcjfclnjjaa
open Go.RowKit
set_option linter.unusedVariables false
open Vec (alikeTo numsTo May cmb byteAt)
set_option maxRecDepth 100000 in
theorem alike_none (a : Option Addr) (ca : Nat) (w : World) : Calls Try.prog 17 #[.slice a 0 ca] w fun e w' => e = .returned (.bool true) ∧ w' = w := by
  go_enter Try.func17, Try.ntmps17
  go_wp2
  go_rounds 1
  go_ret
  exact ⟨rfl, rfl⟩
set_option maxRecDepth 100000 in
set_option maxHeartbeats 1000000 in
theorem alike_some (b off ca n : Nat) (ss : List ByteArray) (w : World) (hl : ss.length = n) (hp : 0 < n) (hn : n ≤ 140737488355328)
   (hc : ∀ i, i < n → w.cell? ⟨b, off + i, none⟩ = some (.string (ss.getD i ByteArray.empty))) :
   Calls Try.prog 17 #[.slice (some ⟨b, off, none⟩) n ca] w fun e w' => (∃ m, w' = w.drewN m) ∧ ((alikeTo ss n ∧ e = .returned (.bool true)) ∨ (¬ alikeTo ss n ∧ e = .returned (.bool false))) := by
  have h0 : w.cell? ⟨b, off, none⟩ = some (.string (ss.getD 0 ByteArray.empty)) := hc 0 hp
  have hp' : (0 : Int) < n := by omega
  obtain ⟨s0, e0⟩ : ∃ s0, s0 = ss.getD 0 ByteArray.empty := ⟨_, rfl⟩
  have E0 := hide e0
  rw [← e0] at h0
  clear e0
  go_enter Try.func17, Try.ntmps17
  go_wp2
  go_loopw [3] (fun i wr => ∃ k : Nat, k ≤ n ∧ i = .int .i64 k ∧ Hid (alikeTo ss k) ∧ Hid (∃ m, wr = w.drewN m)) (fun i _ => n - (intOf i).toNat)
  case atStart => exact ⟨0, by omega, rfl, (fun i hi => by omega), ⟨0, rfl⟩⟩
  case round =>
    obtain ⟨k, hk, rfl, he, m, rfl⟩ := hrel
    by_cases hlt : k < n
    · have hlt' : (k : Int) < n := by omega
      have h1 := hc k hlt
      obtain ⟨s, es⟩ : ∃ s, s = ss.getD k ByteArray.empty := ⟨_, rfl⟩
      rw [← es] at h1
      have ES := hide es
      clear es hc
      by_cases t1 : s.size = s0.size
      · have g1 : ((s.size : Int) != (s0.size : Int)) = false := by simp [t1]
        by_cases t2 : s.size ≤ 4096
        · have g2 : ¬ (4096 : Int) < (s.size : Int) := by omega
          have T1 := hide t1
          clear t1
          go_wp2
          go_quiet (fail)
          go_wp2
          go_roundw
          case rel =>
            refine ⟨k + 1, by omega, by go_num, hide (fun i hi => ?_), ⟨m + nq, rfl⟩⟩
            by_cases q : i = k
            · rw [q, ← unhide ES, ← unhide E0]; exact ⟨unhide T1, t2⟩
            · exact unhide he i (by omega)
          case measure => simp [intOf]; omega
        · have g2 : (4096 : Int) < (s.size : Int) := by omega
          clear t1
          go_wp2
          go_quiet (fail)
          go_wp2
          go_ret
          refine ⟨⟨m + nq, by simp⟩, .inr ⟨fun h => t2 ?_, rfl⟩⟩
          have := (h k hlt).2
          rw [← unhide ES] at this; exact this
      · have g1 : ((s.size : Int) != (s0.size : Int)) = true := by simp; omega
        go_wp2
        go_quiet (fail)
        go_wp2
        go_ret
        refine ⟨⟨m + nq, by simp⟩, .inr ⟨fun h => t1 ?_, rfl⟩⟩
        have := (h k hlt).1
        rw [← unhide ES, ← unhide E0] at this; exact this
    · have hlt' : ¬ (k : Int) < n := by omega
      obtain rfl : k = n := by omega
      go_wp2
      go_ret
      exact ⟨⟨m, rfl⟩, .inl ⟨he, rfl⟩⟩
theorem alike_any (a : Option Addr) (n ca : Nat) (ss : List ByteArray) (w : World) (h : Strs w a n ca ss) (hn : n ≤ 140737488355328) :
   Calls Try.prog 17 #[.slice a n ca] w fun e w' => (∃ m, w' = w.drewN m) ∧ ((alikeTo ss n ∧ e = .returned (.bool true)) ∨ (¬ alikeTo ss n ∧ e = .returned (.bool false))) := by
  obtain ⟨hl, hr⟩ := h
  rcases hr.two with rfl | ⟨b, off, rfl, hc⟩
  · refine (alike_none a ca w).mono ?_
    rintro e w' ⟨rfl, rfl⟩
    exact ⟨⟨0, rfl⟩, .inl ⟨fun i hi => by omega, rfl⟩⟩
  · by_cases h0 : n = 0
    · subst h0
      refine (alike_none _ ca w).mono ?_
      rintro e w' ⟨rfl, rfl⟩
      exact ⟨⟨0, rfl⟩, .inl ⟨fun i hi => by omega, rfl⟩⟩
    · exact alike_some b off ca n ss w hl (by omega) hn hc

end Go.Proofs.Ytpcjhcjfclnjjaa
