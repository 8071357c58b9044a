/- The document's own paths (ossuaryref1.Depth, path, climb): contracts. -/
import Derived.Test.YtmphbajnadbggabTreeRef3
import Derived.Test.YtmphbajnadbggabProofMath
namespace Go.Proofs.Ytmphbajnadbggab
open Go.RowKit
set_option linter.unusedVariables false
set_option linter.unusedSimpArgs false
attribute [local go_sem ↓] Go.wp_at_zero Go.wp_at_succ
set_option maxRecDepth 100000 in
set_option maxHeartbeats 4000000 in
theorem refpath_any : ∀ (n i : Nat) (a : Option Addr) (c : Nat) (l : List Nat) (w : World), 1 ≤ n → n ≤ 64 → i < n → Ints w a n c (nint l) → Tree.May l →
    Calls Try.prog 26 #[.slice a n c, .int .i64 i] w fun e w' => ∃ v, e = .returned v ∧ OwnL w' w.heap.size 3 v ((nint (Tree.path l i)).map (Value.int .i64)) ∧ Below w.heap.size w w' := by
  intro n
  induction n using Nat.strongRecOn with
  | ind n ih =>
    intro i a c l w h1 h64 hi hI hm
    obtain ⟨hc, b, o, rfl⟩ := hI.cap (by omega)
    have hl : l.length = n := by rw [← nint_len]; exact hI.1
    by_cases h2 : n = 1
    · subst h2
      have er : Tree.path l i = [] := by
        match l, hl with
        | [x], _ => rfl
      rw [er]
      clear ih hI
      go_enter Try.func26, Try.ntmps26
      go_wp2
      go_ret
      exact ⟨_, rfl, OwnL.nil _ _ _, Below.refl _ _⟩
    · have h2' : 2 ≤ n := by omega
      have t1 : ((n : Int) == 1) = false := by simp; omega
      obtain ⟨k, ek⟩ : ∃ k, k = Tree.half n := ⟨_, rfl⟩
      have hk1 : 0 < k := by rw [ek]; exact Tree.half_pos n
      have hk2 : k < n := by rw [ek]; exact Tree.half_lt h2'
      have er := Tree.path_two (l := l) i (by omega)
      rw [hl, ← ek] at er
      have hmt : Tree.May (l.take k) := fun y hy => hm y (List.mem_of_mem_take hy)
      have hmd : Tree.May (l.drop k) := fun y hy => hm y (List.mem_of_mem_drop hy)
      have it : nint (l.take k) = (nint l).take k := by simp [nint, List.map_take]
      have id' : nint (l.drop k) = (nint l).drop k := by simp [nint, List.map_drop]
      have hIt := hI.first (k := k) (by omega)
      have hId := hI.rest (k := k) hk2
      rw [← it] at hIt
      rw [← id'] at hId
      have HT := hide hIt
      have HD := hide hId
      have EK := hide ek
      have HIH := hide ih
      have HMT := hide hmt
      have HMD := hide hmd
      clear hI hIt hId ek ih hm hmt hmd it id'
      have hk1' : (0 : Int) ≤ k := by omega
      have hkc : (k : Int) ≤ c := by omega
      have hkcn : k ≤ c := by omega
      have hkn : (k : Int) ≤ n := by omega
      have hcne : ¬ c = k := by omega
      by_cases hik : i < k
      · have hik' : (i : Int) < k := by omega
        rw [if_pos hik] at er
        obtain ⟨P, eP⟩ : ∃ P, P = Tree.path (l.take k) i := ⟨_, rfl⟩
        have hbp : P.length < 64 := by
          rw [eP, Tree.path_len k (l.take k) i (by rw [List.length_take]; omega) hk1]
          have := Tree.depth_le k i hk1 hik
          omega
        rw [← eP] at er
        have ER := hide er
        have EP := hide eP
        clear er eP
        go_enter Try.func26, Try.ntmps26
        go_wp2_with fail
        refine (refHalf_any n w h2' h64).mono ?_
        rintro e w1 ⟨rfl, rfl⟩
        rw [← unhide EK]
        go_wp2_with fail
        refine (unhide HIH k hk2 i _ _ (l.take k) _ hk1 (by omega) hik (unhide HT) (unhide HMT)).mono ?_
        rintro e w2 ⟨v2, rfl, O2, b2⟩
        rw [← unhide EP] at O2
        obtain ⟨p2, c2, ev⟩ := O2.form
        rw [List.length_map, nint_len] at ev
        subst ev
        have HO := hide O2
        have HB := hide b2
        replace HD := hide ((unhide HD).below b2)
        clear O2 b2
        go_wp2_with fail
        refine (refroot_any (n - k) _ _ (l.drop k) _ (by omega) (by omega) (unhide HD) (unhide HMD)).mono ?_
        rintro e w3 ⟨rfl, b3⟩
        replace HO := hide ((unhide HO).below b3)
        replace HB := hide (bt (unhide HB) b3)
        have hs3 := (unhide HB).size
        clear b3
        obtain ⟨y, ey⟩ : ∃ y, y = Tree.root (l.drop k) := ⟨_, rfl⟩
        rw [← ey]
        have EY := hide ey
        clear ey
        go_wp2_with (at_builtin; refine wpList_push w3 (by rfl) (.tmp 22) (.tmp 27) 26 (by rfl) w1.heap.size 3 (.int .i64 0) 8 Try.underlying26 Try.infoInt rfl _ _ (by rfl) (unhide HO) _ (by rfl) (by rfl) (by simp [nint_len]; omega) (by omega) hs3 ?_; intro v4 w4 O4 P4; have HB4 := hide (P4.below (unhide HO) (unhide HB) (Nat.le_refl _) hs3); have HO4 := hide O4; clear O4 P4 HO HB)
        go_ret
        refine ⟨_, rfl, ?_, unhide HB4⟩
        rw [unhide ER, ← unhide EY]
        have := unhide HO4
        simpa [nint] using this
      · have hik' : ¬ (i : Int) < k := by omega
        rw [if_neg hik] at er
        obtain ⟨i2, e3⟩ : ∃ i2 : Nat, (i : Int) - k = (i2 : Int) := ⟨i - k, by omega⟩
        have e3' : i - k = i2 := by omega
        rw [e3'] at er
        obtain ⟨P, eP⟩ : ∃ P, P = Tree.path (l.drop k) i2 := ⟨_, rfl⟩
        have hbp : P.length < 64 := by
          rw [eP, Tree.path_len (n - k) (l.drop k) i2 (by rw [List.length_drop]; omega) (by omega)]
          have := Tree.depth_le (n - k) i2 (by omega) (by omega)
          omega
        rw [← eP] at er
        clear e3'
        have ER := hide er
        have EP := hide eP
        clear er eP
        go_enter Try.func26, Try.ntmps26
        go_wp2_with fail
        refine (refHalf_any n w h2' h64).mono ?_
        rintro e w1 ⟨rfl, rfl⟩
        rw [← unhide EK]
        go_wp2_with fail
        refine (unhide HIH (n - k) (by omega) i2 _ _ (l.drop k) _ (by omega) (by omega) (by omega) (unhide HD) (unhide HMD)).mono ?_
        rintro e w2 ⟨v2, rfl, O2, b2⟩
        rw [← unhide EP] at O2
        obtain ⟨p2, c2, ev⟩ := O2.form
        rw [List.length_map, nint_len] at ev
        subst ev
        have HO := hide O2
        have HB := hide b2
        replace HT := hide ((unhide HT).below b2)
        clear O2 b2
        go_wp2_with fail
        refine (refroot_any k _ _ (l.take k) _ (by omega) (by omega) (unhide HT) (unhide HMT)).mono ?_
        rintro e w3 ⟨rfl, b3⟩
        replace HO := hide ((unhide HO).below b3)
        replace HB := hide (bt (unhide HB) b3)
        have hs3 := (unhide HB).size
        clear b3
        obtain ⟨y, ey⟩ : ∃ y, y = Tree.root (l.take k) := ⟨_, rfl⟩
        rw [← ey]
        have EY := hide ey
        clear ey
        go_wp2_with (at_builtin; refine wpList_push w3 (by rfl) (.tmp 36) (.tmp 41) 26 (by rfl) w1.heap.size 3 (.int .i64 0) 8 Try.underlying26 Try.infoInt rfl _ _ (by rfl) (unhide HO) _ (by rfl) (by rfl) (by simp [nint_len]; omega) (by omega) hs3 ?_; intro v4 w4 O4 P4; have HB4 := hide (P4.below (unhide HO) (unhide HB) (Nat.le_refl _) hs3); have HO4 := hide O4; clear O4 P4 HO HB)
        go_ret
        refine ⟨_, rfl, ?_, unhide HB4⟩
        rw [unhide ER, ← unhide EY]
        have := unhide HO4
        simpa [nint] using this
end Go.Proofs.Ytmphbajnadbggab
