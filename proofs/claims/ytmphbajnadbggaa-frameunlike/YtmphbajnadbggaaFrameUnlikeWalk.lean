/- The Go text of the statement FrameUnlike returns true, whatever the numbers. -/
import Derived.Test.YtmphbajnadbggaaAwake14
namespace Go.Proofs.Ytmphbajnadbggaa
open Go.RowKit
set_option linter.unusedVariables false
set_option linter.unusedSimpArgs false
theorem and_15q (n : Int) : ∃ m : Nat, m < 16 ∧ bits .and .i64 n 15 = (m : Int) := by
  have h : bits .and .i64 n 15 = n % 16 := and_mask_i64 n 4 15 (by decide) (by decide)
  exact ⟨(n % 16).toNat, by omega, by rw [h]; omega⟩
theorem and_3q (n : Int) : ∃ m : Nat, m < 4 ∧ bits .and .i64 n 3 = (m : Int) := by
  have h : bits .and .i64 n 3 = n % 4 := and_mask_i64 n 2 3 (by decide) (by decide)
  exact ⟨(n % 4).toNat, by omega, by rw [h]; omega⟩
theorem and_1q (n : Int) : ∃ m : Nat, m < 2 ∧ bits .and .i64 n 1 = (m : Int) := by
  have h : bits .and .i64 n 1 = n % 2 := and_mask_i64 n 1 1 (by decide) (by decide)
  exact ⟨(n % 2).toNat, by omega, by rw [h]; omega⟩
theorem toList_ne {a b : ByteArray} (h : a ≠ b) : (a.toList == b.toList) = false := by
  have : ¬ a.toList = b.toList := fun e => h (str_eq (by simp [e]))
  simpa using this
theorem unl_may (i x : Nat) (hi : i < 16) (hx : x < 4) (b : Nat) : FrMay (i : Int) (x : Int) (textS b) [(x : Int)] := by
  refine ⟨⟨by omega, by omega⟩, ⟨by omega, by omega⟩, textS_size b, fun y hy => ?_, Nat.le_of_ble_eq_true rfl⟩
  rw [List.mem_singleton] at hy
  subst hy
  exact ⟨by omega, by omega⟩
theorem textS_inj {a b : Nat} (ha : a < 256) (hb : b < 256) (h : textS a = textS b) : a = b := by
  have h2 : byts (textS a) = byts (textS b) := by rw [h]
  have e : ∀ c, byts (textS c) = (textN c).map Int.toNat := fun c => byts_str _ (fun x hx => by
    unfold textN at hx
    obtain ⟨i, _, rfl⟩ := List.mem_map.1 hx
    omega)
  rw [e, e] at h2
  have h3 : ((textN a).map Int.toNat).getD 0 0 = ((textN b).map Int.toNat).getD 0 0 := by rw [h2]
  simp [textN, List.getD] at h3
  omega
set_option maxRecDepth 100000 in
set_option maxHeartbeats 2000000 in
theorem FrameUnlike_walk {w : World} (a : Int) (wf0 : (Lit.int .i64 a).wf = true) (b : Int) (wf1 : (Lit.int .i64 b).wf = true) (c : Int) (wf2 : (Lit.int .i64 c).wf = true) (p : Int) (wf3 : (Lit.int .i64 p).wf = true) (q : Int) (wf4 : (Lit.int .i64 q).wf = true) :
    Calls Try.prog 6 #[.int .i64 a, .int .i64 b, .int .i64 c, .int .i64 p, .int .i64 q] w fun e w' => e = .returned (.bool true) ∧ Below w.heap.size w w' := by
  obtain ⟨i, hi, ei⟩ := and_15q a
  obtain ⟨j, hj, ej⟩ := and_15q b
  obtain ⟨x, hx, ex⟩ := and_3q p
  obtain ⟨y, hy, ey⟩ := and_3q q
  obtain ⟨z, hz, ez⟩ := and_1q p
  clear wf0 wf1 wf2 wf3 wf4
  obtain ⟨u, hu, eu⟩ : ∃ u : Nat, u < 256 ∧ c % 256 = (u : Int) := ⟨(c % 256).toNat, by omega, by omega⟩
  obtain ⟨v, hv, ev, hw⟩ : ∃ v : Nat, v < 256 ∧ wrap64 (c + (z : Int)) % 256 = (v : Int) ∧ (z = 0 → v = u) ∧ (v = u → z = 0) := ⟨((c + z) % 256).toNat, by omega, by unfold wrap64; omega, by omega, by omega⟩
  go_enter Try.func6, Try.ntmps6
  go_wp2_with fail
  refine (awake14_any _).mono ?_
  rintro e w1 ⟨rfl, b1⟩
  have B := hide b1
  clear b1
  go_wp2_with fail
  rw [eu]
  refine (text_any u hu _).mono ?_
  rintro e w2 ⟨rfl, b2⟩
  replace B := hide (bt (unhide B) b2)
  clear b2
  go_wp2_with fail
  refine (framePut_any i x (textS u) _ 1 1 [(x : Int)] _ (int_lit w2 [(x : Int)] 3 w2.heap.size _ 1 rfl rfl rfl) (by decide)).mono ?_
  rintro e w3 ⟨he, b3⟩
  rw [show putF i x (textS u) [(x : Int)] = (frB i x (textS u) [(x : Int)], 0) from if_pos (unl_may i x hi hx u)] at he
  replace he : e = Ending.returned (.tuple #[.string (frB i x (textS u) [(x : Int)]), .int .i64 0]) := he
  subst he
  replace B := hide (bt (unhide B) (bt (below_alloc w2 (.cells #[.int .i64 (x : Int)] 3)) b3))
  clear b3
  obtain ⟨S, eS⟩ : ∃ S, S = frB i x (textS u) [(x : Int)] := ⟨_, rfl⟩
  rw [← eS]
  have ES := hide eS
  clear eS
  go_wp2_with fail
  refine (text_any v hv _).mono ?_
  rintro e w4 ⟨rfl, b4⟩
  replace B := hide (bt (unhide B) b4)
  clear b4
  go_wp2_with fail
  refine (framePut_any j y (textS v) _ 1 1 [(y : Int)] _ (int_lit w4 [(y : Int)] 3 w4.heap.size _ 1 rfl rfl rfl) (by decide)).mono ?_
  rintro e w5 ⟨he, b5⟩
  rw [show putF j y (textS v) [(y : Int)] = (frB j y (textS v) [(y : Int)], 0) from if_pos (unl_may j y hj hy v)] at he
  replace he : e = Ending.returned (.tuple #[.string (frB j y (textS v) [(y : Int)]), .int .i64 0]) := he
  subst he
  replace B := hide (bt (unhide B) (bt (below_alloc w4 (.cells #[.int .i64 (y : Int)] 3)) b5))
  clear b5
  obtain ⟨T, eT⟩ : ∃ T, T = frB j y (textS v) [(y : Int)] := ⟨_, rfl⟩
  rw [← eT]
  have hST : S = T ↔ i = j ∧ x = y ∧ z = 0 := by
    constructor
    · intro h
      rw [unhide ES, eT] at h
      obtain ⟨h1, h2, h3, _⟩ := fr_inj (unl_may i x hi hx u) (unl_may j y hj hy v) h
      exact ⟨by omega, by omega, hw.2 (textS_inj hu hv h3).symm⟩
    · rintro ⟨rfl, rfl, h0⟩
      rw [unhide ES, eT, hw.1 h0]
  have HW := hide hw
  have ET := hide eT
  clear hw eT
  go_upto_region 7 with fail
  by_cases h1 : i = j
  · subst h1
    by_cases h2 : x = y
    · subst h2
      by_cases h3 : z = 0
      · subst h3
        obtain rfl : S = T := hST.2 ⟨rfl, rfl, rfl⟩
        clear hST
        go_wp2
        go_ret
        exact ⟨rfl, unhide B⟩
      · have hne : S ≠ T := fun h => h3 (hST.1 h).2.2
        have t1 : (S.toList == T.toList) = false := toList_ne hne
        have t3 : ((z : Int) == 0) = false := beq_eq_false_iff_ne.2 (by omega)
        clear hST
        go_wp2
        go_ret
        exact ⟨rfl, unhide B⟩
    · have hne : S ≠ T := fun h => h2 (hST.1 h).2.1
      have t1 : (S.toList == T.toList) = false := toList_ne hne
      have t2 : ((x : Int) == (y : Int)) = false := beq_eq_false_iff_ne.2 (by omega)
      clear hST
      go_wp2
      go_ret
      exact ⟨rfl, unhide B⟩
  · have hne : S ≠ T := fun h => h1 (hST.1 h).1
    have t1 : (S.toList == T.toList) = false := toList_ne hne
    have t2 : ((i : Int) == (j : Int)) = false := beq_eq_false_iff_ne.2 (by omega)
    clear hST
    go_wp2
    go_ret
    exact ⟨rfl, unhide B⟩
end Go.Proofs.Ytmphbajnadbggaa
