/- What the program refuses of a frame's parts: a contract. -/
import Derived.Test.YtmphbajnadbggaaAuditErr
import Derived.Test.YtmphbajnadbggaaFrRef3
import Derived.Test.YtmphbajnadbggaaTreeWalk
namespace Go.Proofs.Ytmphbajnadbggaa
open Go.RowKit
set_option linter.unusedVariables false
set_option linter.unusedSimpArgs false
def frRefPost (P : Prop) (w : World) (e : Ending) (w' : World) : Prop := ∃ v, e = .returned v ∧ ((P ∧ v = .nilIface) ∨ (¬ P ∧ ∃ p, v = refV p (errN 1400))) ∧ Below w.heap.size w w'
theorem frRef_no {P : Prop} {w : World} {e : Ending} {w' : World} (h : ¬ P) (p : ByteArray) (he : e = .returned (refV p (errN 1400))) (hb : w' = w) : frRefPost P w e w' := by
  subst hb
  exact ⟨_, he, .inr ⟨h, p, rfl⟩, Below.refl _ _⟩
set_option maxRecDepth 100000 in
set_option maxHeartbeats 2000000 in
theorem frRefuse_any (slot shard : Int) (s : ByteArray) (a : Option Addr) (n cap : Nat) (p : List Int) (w : World) (hp : Ints w a n cap p) :
    Calls Try.prog 36 #[.int .i64 slot, .int .i64 shard, .string s, .slice a n cap] w (frRefPost (FrMay slot shard s p) w) := by
  obtain rfl : p.length = n := hp.1
  have HP := hide hp
  clear hp
  by_cases a1 : slot < 0
  · have HN : Hid (¬ FrMay slot shard s p) := hide (fun h => by have := h.1.1; omega)
    go_enter Try.func36, Try.ntmps36
    go_wp2_with (go_at_call 62; refine (refusalOf_err _ _ _ _).mono ?_; rintro e w' ⟨rfl, hw'⟩; rw [hw']; clear hw' w')
    go_ret
    exact frRef_no (unhide HN) _ rfl rfl
  by_cases a2 : 24 ≤ slot
  · have HN : Hid (¬ FrMay slot shard s p) := hide (fun h => by have := h.1.2; omega)
    go_enter Try.func36, Try.ntmps36
    go_wp2_with (go_at_call 62; refine (refusalOf_err _ _ _ _).mono ?_; rintro e w' ⟨rfl, hw'⟩; rw [hw']; clear hw' w')
    go_ret
    exact frRef_no (unhide HN) _ rfl rfl
  by_cases a3 : shard < 0
  · have HN : Hid (¬ FrMay slot shard s p) := hide (fun h => by have := h.2.1.1; omega)
    go_enter Try.func36, Try.ntmps36
    go_wp2_with (go_at_call 62; refine (refusalOf_err _ _ _ _).mono ?_; rintro e w' ⟨rfl, hw'⟩; rw [hw']; clear hw' w')
    go_ret
    exact frRef_no (unhide HN) _ rfl rfl
  by_cases a4 : 6 ≤ shard
  · have HN : Hid (¬ FrMay slot shard s p) := hide (fun h => by have := h.2.1.2; omega)
    go_enter Try.func36, Try.ntmps36
    go_wp2_with (go_at_call 62; refine (refusalOf_err _ _ _ _).mono ?_; rintro e w' ⟨rfl, hw'⟩; rw [hw']; clear hw' w')
    go_ret
    exact frRef_no (unhide HN) _ rfl rfl
  by_cases a5 : s.size = 32
  case neg =>
    have HN : Hid (¬ FrMay slot shard s p) := hide (fun h => a5 h.2.2.1)
    have t5 : ((s.size : Int) != 32) = true := by simp; omega
    clear a5
    go_enter Try.func36, Try.ntmps36
    go_wp2_with (go_at_call 62; refine (refusalOf_err _ _ _ _).mono ?_; rintro e w' ⟨rfl, hw'⟩; rw [hw']; clear hw' w')
    go_ret
    exact frRef_no (unhide HN) _ rfl rfl
  have t5 : ((s.size : Int) != 32) = false := by rw [a5]; rfl
  by_cases a6 : 3 < (p.length : Int)
  · have HN : Hid (¬ FrMay slot shard s p) := hide (fun h => by have := h.2.2.2.2; omega)
    clear a5
    go_enter Try.func36, Try.ntmps36
    go_wp2_with (go_at_call 62; refine (refusalOf_err _ _ _ _).mono ?_; rintro e w' ⟨rfl, hw'⟩; rw [hw']; clear hw' w')
    go_ret
    exact frRef_no (unhide HN) _ rfl rfl
  have hp64 : p.length ≤ 64 := by omega
  by_cases a7 : Sls p
  case neg =>
    have HN : Hid (¬ FrMay slot shard s p) := hide (fun h => a7 h.2.2.2.1)
    have d1 : decide (¬ Sls p) = true := decide_eq_true a7
    clear a5 a7
    go_enter Try.func36, Try.ntmps36
    go_wp2_with (first | (go_at_call 62; refine (refusalOf_err _ _ _ _).mono ?_; rintro e w' ⟨rfl, hw'⟩; rw [hw']; clear hw' w') | (go_at_call 63; refine (containsInt_any _ _ _ p _ (unhide HP) hp64).mono ?_; rintro e w' ⟨rfl, hw'⟩; rw [d1, hw']; clear hw' w'))
    go_ret
    exact frRef_no (unhide HN) _ rfl rfl
  have HN : Hid (FrMay slot shard s p) := hide ⟨⟨by omega, by omega⟩, ⟨by omega, by omega⟩, a5, a7, by omega⟩
  have d1 : decide (¬ Sls p) = false := decide_eq_false (fun h => h a7)
  clear a5 a7
  go_enter Try.func36, Try.ntmps36
  go_wp2_with (go_at_call 63; refine (containsInt_any _ _ _ p _ (unhide HP) hp64).mono ?_; rintro e w' ⟨rfl, hw'⟩; rw [d1, hw']; clear hw' w')
  go_ret
  exact ⟨_, rfl, .inl ⟨unhide HN, rfl⟩, Below.refl _ _⟩
end Go.Proofs.Ytmphbajnadbggaa
