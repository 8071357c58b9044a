/- Which of so many, at least so many of them (ossuarylaw8.some): a contract. -/
import Derived.Test.YtcgagkaalbljmaaDoorSomeMath
import Derived.Test.YtcgagkaalbljmaaDoorBools2
import Derived.Test.YtcgagkaalbljmaaDoorFormsT
import Derived.Test.YtcgagkaalbljmaaDoorKCore
namespace Go.Proofs.YtcgagkaalbljmaaDoor
open Go.RowKit
set_option linter.unusedVariables false
set_option linter.unusedSimpArgs false
/-- what some leaves -/
def somePost (d R : Nat) (w : World) (e : Ending) (w' : World) : Prop := ∃ (bs : List Bool) (g : Nat), e = .returned (.slice (some ⟨g, 0, none⟩) R R) ∧ bs.length = R ∧ d ≤ (rowsL bs bs.length).length ∧ Bools w' (some ⟨g, 0, none⟩) R R bs ∧ Below w.heap.size w w'
set_option maxRecDepth 100000 in
set_option maxHeartbeats 4000000 in
theorem some_any (d R : Nat) (a3 : Int) (w : World) (w3' : (Lit.int .i64 a3).wf = true) (hR1 : 1 ≤ R) (hR6 : R ≤ 6) (hd : d ≤ R) : Calls Tryd.prog 16 #[.int .i64 R, .int .i64 d, .int .i64 a3] w (somePost d R w) := by
  have hmk : ∀ w, (Instr.makeSlice 25 (.int .i64 R) (.int .i64 R)).run Tryd.prog w = .ok (.slice (some ⟨w.heap.size, 0, none⟩) R R) (w.alloc (.cells (madeCells #[.bool false] R) 4)) := fun w => run_make_row' (P := Tryd.prog) 25 4 (.bool false) 1 Tryd.underlying25 Tryd.infoBool rfl .i64 .i64 R (by omega) (by omega) w
  go_enter Tryd.func16, Tryd.ntmps16
  go_wp2
  have OB := hide (own_bools w w.heap.size R 4 (Nat.le_refl _) (by unfold maxLen; omega))
  have B4 := hide (below_alloc w (.cells (madeCells #[.bool false] R) 4))
  generalize (w.alloc (.cells (madeCells #[.bool false] R) 4)) = W4 at *
  generalize hgh : w.heap.size = gh at *
  go_loopw [8, 9] (fun mv iv wr => ∃ k c : Nat, k ≤ R ∧ c ≤ k ∧ iv = .int .i64 k ∧ mv = .int .i64 c ∧ Hid (∃ bs, SomeI d R bs k c ∧ OwnL wr gh 4 (.slice (some ⟨gh, 0, none⟩) R R) (bs.map Value.bool)) ∧ Hid (Below gh w wr)) (fun _ iv _ => R - (intOf iv).toNat)
  case atStart => exact ⟨0, 0, by omega, by omega, rfl, rfl, hide ⟨_, SomeI.start hd, unhide OB⟩, B4⟩
  case round =>
    clear OB B4
    obtain ⟨k, c, hk, hck, rfl, rfl, HX, HW⟩ := hrel
    obtain ⟨bs, hF, hOB⟩ := unhide HX
    clear HX
    by_cases hlt : k < R
    · have hlt' : (k : Int) < R := by omega
      have cb := own_bcell hOB k (by rw [hF.lb]; exact hlt)
      have fb := own_free hOB k
      have cT : ∀ b : Bool, (wr.setCell ⟨gh, k, none⟩ (.bool b)).cell? ⟨gh, k, none⟩ = some (.bool b) := fun b => by
        have h := own_put hOB k (.bool b)
        rw [← List.map_set] at h
        have h2 := own_bcell h k (by simp; rw [hF.lb]; exact hlt)
        have h3 : (bs.set k b).getD k false = b := has_set' (by rw [hF.lb]; exact hlt)
        rw [h3] at h2
        exact h2
      have cT1 := cT true
      have cT0 := cT false
      clear cT
      have OB1 := hide (own_put hOB k (.bool true))
      have OB0 := hide (own_put hOB k (.bool false))
      have HBt := hide (fun v : Value => (unhide HW).setCell (p := ⟨gh, k, none⟩) (Nat.le_refl gh) v)
      have HF := hide hF
      obtain ⟨u0, eu0⟩ : ∃ u0, u0 = bs.getD k false := ⟨_, rfl⟩
      rw [← eu0] at cb
      clear eu0 hF hOB
      by_cases tb : (bits .and .i64 (a3 / 2 ^ k) 1 == 1) = true
      · go_wp2
        go_roundw
        case rel => exact ⟨k + 1, c + 1, by omega, by omega, by go_num, by go_num, hide ⟨bs.set k true, (unhide HF).yes hlt, by rw [List.map_set]; exact unhide OB1⟩, hide (unhide HBt _)⟩
        case measure => simp [intOf]; omega
      · have tb : (bits .and .i64 (a3 / 2 ^ k) 1 == 1) = false := by simpa using tb
        by_cases tc : (R : Int) - (k : Int) ≤ (d : Int) - (c : Int)
        · go_wp2
          go_roundw
          case rel => exact ⟨k + 1, c + 1, by omega, by omega, by go_num, by go_num, hide ⟨bs.set k true, (unhide HF).yes hlt, by rw [List.map_set]; exact unhide OB1⟩, hide (unhide HBt _)⟩
          case measure => simp [intOf]; omega
        · have tc2 : decide ((R : Int) - (k : Int) ≤ (d : Int) - (c : Int)) = false := by simpa using tc
          have TC := hide tc
          clear tc
          go_wp2
          go_roundw
          case rel => exact ⟨k + 1, c, by omega, by omega, by go_num, rfl, hide ⟨bs.set k false, (unhide HF).no hlt (by have := unhide TC; omega), by rw [List.map_set]; exact unhide OB0⟩, hide (unhide HBt _)⟩
          case measure => simp [intOf]; omega
    · have hlt' : ¬ (k : Int) < R := by omega
      obtain rfl : k = R := by omega
      have HSM := hide hF.fin
      have HLB := hide hF.lb
      have HBs : Hid (Bools wr (some ⟨gh, 0, none⟩) k k bs) := hide ⟨hF.lb, .inr (.inr ⟨by omega, Nat.le_refl _, gh, 0, rfl, fun i hi => by rw [Nat.zero_add]; exact own_bcell hOB i (by rw [hF.lb]; exact hi)⟩)⟩
      clear hF hOB
      go_wp2
      go_ret
      subst hgh
      exact ⟨bs, _, rfl, unhide HLB, unhide HSM, unhide HBs, unhide HW⟩
end Go.Proofs.YtcgagkaalbljmaaDoor
