/- The Go text of the statement ProofLengths returns true, whatever the number. -/
import Derived.Test.YtcoggfpjomgajabAwake11
import Derived.Test.YtcoggfpjomgajabProofMath2
import Derived.Test.YtcoggfpjomgajabKMatRef
namespace Go.Proofs.Ytcoggfpjomgajab
open Go.RowKit
set_option linter.unusedVariables false
set_option linter.unusedSimpArgs false
/-- how high a tree is -/
def hiN (k : Nat) : Nat := if k ≤ 1 then 0 else Nat.log2 (k - 1) + 1
theorem hi_deep : ∀ k, k ≤ 64 → ∀ i, i < k → (Tree.depth k i ≤ hiN k ∧ (k = 2 ^ hiN k → Tree.depth k i = hiN k) ∧ (i = 0 → Tree.depth k i = hiN k)) := by
  decide +kernel
theorem hi_one' : ∀ h, h ≤ 6 → ∀ k, k ≤ 64 → ((1 ≤ k ∧ k ≤ 2 ^ h ∧ (h = 0 ∨ 2 ^ (h - 1) < k)) → h = hiN k) := by
  decide +kernel
theorem hi_one (h : Nat) (hh : h ≤ 6) (k : Nat) (hk : k ≤ 64) (h1 : 1 ≤ k) (h2 : k ≤ 2 ^ h) (h3 : h = 0 ∨ 2 ^ (h - 1) < k) : h = hiN k := hi_one' h hh k hk ⟨h1, h2, h3⟩
theorem hi_less : ∀ h, h ≤ 6 → 2 ^ h < 64 → h + 1 ≤ 6 := by
  decide +kernel
theorem hi_bound : ∀ h, h ≤ 6 → 2 ^ h ≤ 64 := by
  decide +kernel
set_option maxRecDepth 100000 in
set_option maxHeartbeats 4000000 in
theorem ProofLengths_walk {w : World} (many : Int) (wf0 : (Lit.int .i64 many).wf = true) :
    Calls Try.prog 6 #[.int .i64 many] w fun e w' => e = .returned (.bool true) ∧ Below w.heap.size w w' := by
  obtain ⟨m, hm, em⟩ := modT many 64 (by decide) (by decide)
  obtain ⟨K, eK⟩ : ∃ K : Nat, 1 + (m : Int) = (K : Int) := ⟨1 + m, by omega⟩
  have hK1 : 1 ≤ K := by omega
  have hK2 : K ≤ 64 := by omega
  have hmk := fun w => run_make_row' (P := Try.prog) 22 3 (.int .i64 0) 8 Try.underlying22 Try.infoInt rfl .i64 .i64 K (by omega) (by omega) w
  go_enter Try.func6, Try.ntmps6
  go_wp2_with fail
  refine (awake11_any _).mono ?_
  rintro e w1 ⟨rfl, b1⟩
  have HB := hide b1
  clear b1
  go_wp2
  try simp only [em, eK]
  clear em eK hm
  go_loop [4, 5] (fun hv xv => ∃ h X : Nat, h ≤ 6 ∧ hv = .int .i64 h ∧ xv = .int .i64 X ∧ Hid (X = 2 ^ h) ∧ Hid (h = 0 ∨ 2 ^ (h - 1) < K)) (fun hv _ => 7 - (intOf hv).toNat)
  case atStart => exact ⟨0, 1, by omega, rfl, rfl, hide rfl, hide (.inl rfl)⟩
  case round =>
    obtain ⟨h, X, hh, rfl, rfl, HX, HH⟩ := hrel
    have hX64 : X ≤ 64 := by rw [unhide HX]; exact hi_bound h hh
    by_cases hlt : X < K
    · have hlt' : (X : Int) < K := by omega
      have hh' : h + 1 ≤ 6 := hi_less h hh (by rw [← unhide HX]; omega)
      go_wp2
      go_round
      case rel =>
        refine ⟨h + 1, 2 * X, hh', by go_num, by go_num, hide ?_, hide (.inr ?_)⟩
        · rw [unhide HX, Nat.pow_succ]; omega
        · rw [Nat.add_sub_cancel, ← unhide HX]; exact hlt
      case measure => simp [intOf]; omega
    · have hlt' : ¬ (X : Int) < K := by omega
      have hhi : h = hiN K := hi_one h hh K hK2 hK1 (by rw [← unhide HX]; omega) (unhide HH)
      have hdeep : ∀ i, i < K → (Tree.depth K i ≤ h ∧ (K = X → Tree.depth K i = h) ∧ (i = 0 → Tree.depth K i = h)) := by
        intro i hi
        have := hi_deep K hK2 i hi
        rw [← hhi, ← unhide HX] at this
        exact this
      have HD := hide hdeep
      clear hdeep hhi HH
      go_wp2
      go_loopw [6] (fun iv wr => ∃ i : Nat, i ≤ K ∧ iv = .int .i64 i ∧ Hid (Below w.heap.size w wr)) (fun iv _ => K - (intOf iv).toNat)
      case atStart => exact ⟨0, by omega, rfl, HB⟩
      case round =>
        obtain ⟨i, hi, rfl, HB⟩ := hrel
        by_cases hlt2 : i < K
        · have hlt2' : (i : Int) < K := by omega
          obtain ⟨d1, d2, d3⟩ := unhide HD i hlt2
          have hO := own_made wr wr.heap.size K 3 (Nat.le_refl _) (by unfold maxLen; omega)
          obtain ⟨p', c', e', hI⟩ := hO.ints
          simp only [Value.slice.injEq, List.length_replicate, true_and] at e'
          obtain ⟨e1, e2⟩ := e'
          rw [← e1, ← e2, List.length_replicate] at hI
          have en : List.replicate K (0 : Int) = nint (List.replicate K 0) := by simp [nint]
          rw [en] at hI
          have hp := pathP_nint (l := List.replicate K 0) (i := i) (by simp; omega) (by simp; omega) (by simp; omega) (fun x hx => by rw [List.eq_of_mem_replicate hx]; decide)
          have hpl := Tree.path_len K (List.replicate K 0) i (by simp) hK1
          obtain ⟨P, eP⟩ : ∃ P, P = Tree.path (List.replicate K 0) i := ⟨_, rfl⟩
          rw [← eP] at hp hpl
          rw [← hpl] at d1 d2 d3
          have HI := hide hI
          have HP := hide hp
          have HX2 := hide (unhide HX)
          clear hI hp eP hpl hO en e1 e2
          go_wp2_with fail
          refine (proofPath_any _ _ _ (nint (List.replicate K 0)) _ _ (unhide HI) (by omega)).mono ?_
          rintro e w3 ⟨v3, he, O3, b3⟩
          rw [unhide HP] at he O3
          subst he
          obtain ⟨p3, c3, ev⟩ := O3.form
          rw [List.length_map, nint_len] at ev
          subst ev
          replace HB := hide (bt (unhide HB) ((below_alloc wr _).trans (b3.mono (by simp))))
          clear O3 b3
          have t1 : ¬ (h : Int) < P.length := by omega
          have hX2 : wrap64 (2 ^ h) = (X : Int) := by
            have e : ((2 : Int) ^ h) = (X : Int) := by rw [unhide HX2]; simp
            rw [e]
            unfold wrap64
            omega
          by_cases hi0 : i = 0
          · subst hi0
            have hd := d3 rfl
            have t4 : ((P.length : Int) != (h : Int)) = false := by rw [hd]; simp
            by_cases hKX : K = X
            · have t2 : ((K : Int) == (X : Int)) = true := by rw [hKX]; simp
              clear d1 d2 d3 hd hKX
              go_wp2_with (go_at_call 12; refine (num_any _ _).mono ?_; rintro e w' ⟨rfl, rfl⟩)
              go_roundw
              case rel => exact ⟨0 + 1, by omega, by go_num, HB⟩
              case measure => simp [intOf]; omega
            · have t2 : ((K : Int) == (X : Int)) = false := by simp; omega
              clear d1 d2 d3 hd hKX
              go_wp2_with (go_at_call 12; refine (num_any _ _).mono ?_; rintro e w' ⟨rfl, rfl⟩)
              go_roundw
              case rel => exact ⟨0 + 1, by omega, by go_num, HB⟩
              case measure => simp [intOf]; omega
          · have t3 : ((i : Int) == 0) = false := by simp; omega
            by_cases hKX : K = X
            · have hd := d2 hKX
              have t4 : ((P.length : Int) != (h : Int)) = false := by rw [hd]; simp
              have t2 : ((K : Int) == (X : Int)) = true := by rw [hKX]; simp
              clear d1 d2 d3 hd hKX hi0
              go_wp2_with (go_at_call 12; refine (num_any _ _).mono ?_; rintro e w' ⟨rfl, rfl⟩)
              go_roundw
              case rel => exact ⟨i + 1, by omega, by go_num, HB⟩
              case measure => simp [intOf]; omega
            · have t2 : ((K : Int) == (X : Int)) = false := by simp; omega
              clear d1 d2 d3 hKX hi0
              go_wp2_with (go_at_call 12; refine (num_any _ _).mono ?_; rintro e w' ⟨rfl, rfl⟩)
              go_roundw
              case rel => exact ⟨i + 1, by omega, by go_num, HB⟩
              case measure => simp [intOf]; omega
        · have hlt2' : ¬ (i : Int) < K := by omega
          go_wp2
          go_ret
          exact ⟨rfl, unhide HB⟩
end Go.Proofs.Ytcoggfpjomgajab
