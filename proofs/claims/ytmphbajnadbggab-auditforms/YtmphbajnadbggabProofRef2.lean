/- The document's own paths (ossuaryref1.climb, Path, CheckPath): contracts. -/
import Derived.Test.YtmphbajnadbggabProofRef
namespace Go.Proofs.Ytmphbajnadbggab
open Go.RowKit
set_option linter.unusedVariables false
set_option linter.unusedSimpArgs false
attribute [local go_sem ↓] Go.wp_at_zero Go.wp_at_succ
/-- what Path answers -/
def PMay (xs : List Int) (i : Int) : Prop := RMay xs ∧ 0 ≤ i ∧ i < xs.length
instance pmayDec (xs : List Int) (i : Int) : Decidable (PMay xs i) := by unfold PMay; exact inferInstance
def pathP (xs : List Int) (i : Int) : List Int × Int := if PMay xs i then (nint (Tree.path (nats xs) i.toNat), 0) else ([], 1100)
theorem pathP_no {xs : List Int} {i : Int} (h : ¬ PMay xs i) : pathP xs i = ([], 1100) := by unfold pathP; rw [if_neg h]
theorem pathP_yes {xs : List Int} {i : Int} (h : PMay xs i) : pathP xs i = (nint (Tree.path (nats xs) i.toNat), 0) := by unfold pathP; rw [if_pos h]
set_option maxRecDepth 100000 in
set_option maxHeartbeats 2000000 in
theorem refPath_any (a : Option Addr) (n c : Nat) (xs : List Int) (i : Int) (w : World) (hI : Ints w a n c xs) (hn : n ≤ 140737488351232) :
    Calls Try.prog 12 #[.slice a n c, .int .i64 i] w fun e w' => ∃ v, e = .returned (.tuple #[v, .int .i64 (pathP xs i).2]) ∧ OwnL w' w.heap.size 3 v ((pathP xs i).1.map (Value.int .i64)) ∧ Below w.heap.size w w' := by
  have hl := hI.1
  by_cases h1 : (n : Int) < 1
  · rw [pathP_no (fun h => by have := h.1.1; omega)]
    clear hI
    go_enter Try.func12, Try.ntmps12
    go_wp2
    go_ret2
    exact ⟨_, rfl, OwnL.nil _ _ _, Below.refl _ _⟩
  · have HI := hide hI
    clear hI
    by_cases h2 : Sls xs ∧ n ≤ 64
    · have d2 := decide_eq_true h2
      by_cases h3 : i < 0
      · rw [pathP_no (fun h => by have := h.2.1; omega)]
        have H2 := hide h2
        clear h2
        go_enter Try.func12, Try.ntmps12
        go_wp2_with (go_at_call 14; refine (refSealNums_any _ _ _ xs 64 _ (unhide HI) hn (by decide)).mono ?_; rintro e w' ⟨rfl, rfl⟩; rw [d2])
        go_ret2
        exact ⟨_, rfl, OwnL.nil _ _ _, Below.refl _ _⟩
      · by_cases h4 : (n : Int) ≤ i
        · rw [pathP_no (fun h => by have := h.2.2; omega)]
          have H2 := hide h2
          clear h2
          go_enter Try.func12, Try.ntmps12
          go_wp2_with (go_at_call 14; refine (refSealNums_any _ _ _ xs 64 _ (unhide HI) hn (by decide)).mono ?_; rintro e w' ⟨rfl, rfl⟩; rw [d2])
          go_ret2
          exact ⟨_, rfl, OwnL.nil _ _ _, Below.refl _ _⟩
        · have hP : PMay xs i := ⟨⟨by omega, by omega, h2.1⟩, by omega, by omega⟩
          rw [pathP_yes hP]
          obtain ⟨j, rfl⟩ : ∃ j : Nat, i = (j : Int) := ⟨i.toNat, by omega⟩
          have hS := hide h2.1
          have H2 := hide h2
          have hX : nint (nats xs) = xs := nats_back h2.1
          have HX := hide hX
          have hn64 : n ≤ 64 := h2.2
          clear h2 hP hX
          rw [Int.toNat_natCast]
          obtain ⟨P, eP⟩ : ∃ P, P = nint (Tree.path (nats xs) j) := ⟨_, rfl⟩
          rw [← eP]
          have EP := hide eP
          clear eP
          go_enter Try.func12, Try.ntmps12
          go_upto_region 3 with (go_at_call 14; refine (refSealNums_any _ _ _ xs 64 _ (unhide HI) hn (by decide)).mono ?_; rintro e w' ⟨rfl, hw'⟩; rw [d2, hw']; clear hw' w')
          go_wp2_with fail
          refine (refpath_any n j _ _ (nats xs) _ (by omega) hn64 (by omega) (by rw [unhide HX]; exact unhide HI) (nats_may (unhide hS))).mono ?_
          rintro e w2 ⟨v, rfl, O2, b2⟩
          rw [← unhide EP] at O2
          have HB := hide b2
          obtain ⟨p2, c2, ev⟩ := O2.form
          rw [List.length_map] at ev
          subst ev
          have HO := hide O2
          clear O2 b2
          go_wp2
          go_ret2
          exact ⟨_, rfl, unhide HO, unhide HB⟩
    · have d2 := decide_eq_false h2
      rw [pathP_no (fun h => h2 ⟨h.1.2.2, by have := h.1.2.1; omega⟩)]
      have H2 := hide h2
      clear h2
      go_enter Try.func12, Try.ntmps12
      go_wp2_with (go_at_call 14; refine (refSealNums_any _ _ _ xs 64 _ (unhide HI) hn (by decide)).mono ?_; rintro e w' ⟨rfl, rfl⟩; rw [d2])
      go_ret2
      exact ⟨_, rfl, OwnL.nil _ _ _, Below.refl _ _⟩
/-- what Check asks -/
def Chk (r n i a : Int) (p : List Int) : Prop := 1 ≤ n ∧ n ≤ 64 ∧ 0 ≤ i ∧ i < n ∧ Sl a ∧ Sls p ∧ p.length ≤ 64 ∧ p.length = Tree.depth n.toNat i.toNat ∧ ((Tree.climb n.toNat i.toNat a.toNat (nats p) : Nat) : Int) = r
instance chkDec (r n i a : Int) (p : List Int) : Decidable (Chk r n i a p) := by unfold Chk; exact inferInstance
theorem chk_false {r n i a : Int} {p : List Int} {e : Ending} (h : ¬ Chk r n i a p) (he : e = .returned (.bool false)) : e = .returned (.bool (decide (Chk r n i a p))) := by rw [decide_eq_false h]; exact he
end Go.Proofs.Ytmphbajnadbggab
