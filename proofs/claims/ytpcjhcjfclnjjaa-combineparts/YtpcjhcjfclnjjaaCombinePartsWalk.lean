/- The Go text of the statement CombineParts returns true, whatever the numbers, rows and cut. -/
import Derived.Test.YtpcjhcjfclnjjaaCombineFormsWalk
import Derived.Test.YtpcjhcjfclnjjaaPush
import Derived.Test.YtpcjhcjfclnjjaaVecMath
namespace Go.Proofs.Ytpcjhcjfclnjjaa
open Go.RowKit
set_option linter.unusedVariables false
set_option linter.unusedSimpArgs false
open Vec (alikeTo numsTo May cmb byteAt)
theorem toList_append (a b : ByteArray) : (a ++ b).toList = a.toList ++ b.toList := by
  rw [ByteArray.toList_eq, ByteArray.toList_eq, ByteArray.toList_eq]; simp
theorem modk (a : Int) (m : Nat) (hm : m ≤ 1000000) : ∃ k : Nat, k ≤ m ∧ wrap64 ((IntKind.u64.wrap a).tmod ((m : Int) + 1)) = (k : Int) := by
  have h0 : 0 ≤ IntKind.u64.wrap a := wrap_u64_nonneg a
  have h1 : 0 ≤ IntKind.u64.wrap a % ((m : Int) + 1) := Int.emod_nonneg _ (by omega)
  have h2 : IntKind.u64.wrap a % ((m : Int) + 1) < (m : Int) + 1 := Int.emod_lt_of_pos _ (by omega)
  refine ⟨(IntKind.u64.wrap a % ((m : Int) + 1)).toNat, by omega, ?_⟩
  rw [Int.tmod_eq_emod_of_nonneg h0]
  unfold wrap64
  omega
set_option maxRecDepth 100000 in
set_option maxHeartbeats 4000000 in
theorem CombineParts_walk {w : World} (a0 : Option Addr) (n0 c0 : Nat) (xs : List Int) (h0 : Ints w a0 n0 c0 xs) (r0 : n0 * 8 ≤ 140737488351232) (_ : ∀ x ∈ xs, (Lit.int .i64 x).wf = true)
    (a1 : Option Addr) (n1 c1 : Nat) (ss : List ByteArray) (h1 : Strs w a1 n1 c1 ss) (r1 : n1 * 16 ≤ 140737488351232) (_ : ∀ x ∈ ss, x.size ≤ maxLen) (a2 : Int) (w2 : (Lit.int .i64 a2).wf = true) :
    Calls Try.prog 6 #[.slice a0 n0 c0, .slice a1 n1 c1, .int .i64 a2] w fun e w' => e = .returned (.bool true) ∧ Below w.heap.size w w' := by
  have H0 := hide h0
  have H1 := hide h1
  clear h0 h1
  go_enter Try.func6, Try.ntmps6
  go_wp2_with fail
  refine (awake2_any _).mono ?_
  rintro e w1 ⟨rfl, hb1⟩
  go_wp2_with fail
  refine (vecCombine_any _ _ _ _ _ _ xs ss _ ((unhide H0).below hb1) ((unhide H1).below hb1) (by omega)).mono ?_
  rintro e w3 ⟨r, hr, rfl, hb3⟩
  have hb03 := hide (bt hb1 hb3)
  clear hb1 hb3
  rcases hr with ⟨hm, rfl⟩ | ⟨_, rfl⟩
  · have HM := hide hm
    have hn1 : n1 = n0 := by rw [← (unhide H1).1, ← (unhide H0).1]; exact hm.2.2.1
    subst hn1
    have hp : 1 ≤ n1 := by rw [← (unhide H0).1]; exact hm.1
    have hp' : ¬ (n1 : Int) < 1 := by omega
    have h12 : n1 ≤ 12 := by rw [← (unhide H0).1]; exact hm.2.1
    clear hm
    obtain ⟨b, off, rfl, hc⟩ : ∃ b off, a1 = some ⟨b, off, none⟩ ∧ ∀ i, i < n1 → w3.cell? ⟨b, off + i, none⟩ = some (.string (ss.getD i ByteArray.empty)) := by
      rcases ((unhide H1).below (unhide hb03)).2.two with h | h
      · omega
      · exact h
    have hc0 : w3.cell? ⟨b, off, none⟩ = some (.string (ss.getD 0 ByteArray.empty)) := hc 0 hp
    obtain ⟨s0, e0⟩ : ∃ s0, s0 = ss.getD 0 ByteArray.empty := ⟨_, rfl⟩
    have E0 := hide e0
    rw [← e0] at hc0
    clear e0
    have hs0 : s0.size ≤ 4096 := by rw [unhide E0]; exact ((unhide HM).2.2.2.1 0 (by rw [(unhide H1).1]; exact hp)).2
    have hp2 : (0 : Int) < n1 := by omega
    have HC := hide hc
    clear hc
    have hp3 : decide ((n1 : Int) < 1) = false := by simp; omega
    obtain ⟨k, hk, ek⟩ := modk a2 s0.size (by omega)
    go_wp2_with (go_at_call 10; refine (num_any _ _).mono ?_; rintro e w' ⟨rfl, rfl⟩)
    simp only [ek]
    clear ek hp' hc0
    go_loopw [10, 11, 12] (fun v1 v2 i wr => ∃ j : Nat, j ≤ n1 ∧ i = .int .i64 j ∧ Hid (OwnL wr w'.heap.size 9 v1 (((ss.take j).map (fun s => s.extract 0 k)).map Value.string)) ∧ Hid (OwnL wr w'.heap.size 9 v2 (((ss.take j).map (fun s => s.extract k s.size)).map Value.string)) ∧ Hid (Apt v1 v2) ∧ Hid (Below w'.heap.size w' wr)) (fun _ _ i _ => n1 - (intOf i).toNat)
    case atStart => exact ⟨0, by omega, rfl, OwnL.nil _ _ _, OwnL.nil _ _ _, apt_nil _, Below.refl _ _⟩
    case round =>
      obtain ⟨j, hj, rfl, O1, O2, A, HB⟩ := hrel
      by_cases hlt : j < n1
      · have hlt' : (j : Int) < n1 := by omega
        have c1 := ((unhide HB).cell (cell_lt (unhide HC j hlt))).trans (unhide HC j hlt)
        obtain ⟨t, et⟩ : ∃ t, t = ss.getD j ByteArray.empty := ⟨_, rfl⟩
        rw [← et] at c1
        have ht : t.size = s0.size := by rw [et, unhide E0]; exact ((unhide HM).2.2.2.1 j (by rw [(unhide H1).1]; exact hlt)).1
        have HE := hide et
        clear et
        have ht1 : (k : Int) ≤ t.size := by omega
        have ht2 : ¬ (t.size : Int) < k := by omega
        have HT := hide ht
        clear ht
        have hl1 : (((ss.take j).map (fun s => s.extract 0 k)).map Value.string).length ≤ 12 := by simp; omega
        have hl2 : (((ss.take j).map (fun s => s.extract k s.size)).map Value.string).length ≤ 12 := by simp; omega
        have hsz := (unhide HB).size
        go_wp2_with (first | (at_builtin; refine wpList_push wr (by rfl) (.tmp 58) (.tmp 65) 23 (by rfl) w'.heap.size 9 (.string ByteArray.empty) 16 Try.underlying23 Try.infoStr rfl _ _ (by rfl) (unhide O1) _ (by rfl) (by rfl) (by omega) (by omega) hsz ?_; intro v1' wa O1' P1; have hszA := P1.grown.size; have HBa := hide (P1.below (unhide O1) (unhide HB) (Nat.le_refl _) hsz); have O2a := hide (P1.other (unhide O2) (unhide A)); have Aa := hide (P1.apt (unhide O2) (unhide A)); have OO1 := hide O1'; have c1a := ((unhide HBa).cell (cell_lt (unhide HC j hlt))).trans (unhide HC j hlt); rw [← unhide HE] at c1a; clear O1' P1 O1 O2 A HB) | (at_builtin; refine wpList_push wa (by rfl) (.tmp 67) (.tmp 74) 23 (by rfl) w'.heap.size 9 (.string ByteArray.empty) 16 Try.underlying23 Try.infoStr rfl _ _ (by rfl) (unhide O2a) _ (by rfl) (by rfl) (by omega) (by omega) (unhide HBa).size ?_; intro v2' wb O2' P2; have HBb := hide (P2.below (unhide O2a) (unhide HBa) (Nat.le_refl _) (unhide HBa).size); have O1b := hide (P2.other (unhide OO1) (unhide Aa).symm); have Ab := hide (P2.apt (unhide OO1) (unhide Aa).symm).symm; have O2b := hide O2'; clear O2' P2 O2a OO1 Aa HBa))
        go_roundw
        case rel =>
          refine ⟨j + 1, by omega, by go_num, ?_, ?_, Ab, HBb⟩
          · rw [List.map_map, Vec.map_snoc _ (by rw [(unhide H1).1]; exact hlt), ← unhide HE, ← List.map_map]; exact O1b
          · rw [List.map_map, Vec.map_snoc _ (by rw [(unhide H1).1]; exact hlt), ← unhide HE, ← List.map_map]; exact O2b
        case measure => simp [intOf]; omega
      · have hlt' : ¬ (j : Int) < n1 := by omega
        obtain rfl : j = n1 := by omega
        have hss : ss.take j = ss := List.take_of_length_le (by rw [(unhide H1).1]; exact Nat.le_refl _)
        have o1 := unhide O1
        have o2 := unhide O2
        rw [hss] at o1 o2
        clear O1 O2 A hss
        obtain ⟨p1, q1, e1, S1⟩ := o1.strs
        obtain ⟨p2, q2, e2, S2⟩ := o2.strs
        subst e1 e2
        simp only [List.length_map, (unhide H1).1] at S1 S2 ⊢
        have hkk : k ≤ (ss.getD 0 ByteArray.empty).size := by rw [← unhide E0]; exact hk
        have m1 := hide (Vec.may_left (unhide HM) hkk)
        have m2 := hide (Vec.may_right (unhide HM) hkk)
        have hout := hide (Vec.out_parts (unhide HM) hkk)
        have S1 := hide S1
        have S2 := hide S2
        have hb04 := hide (bt (unhide hb03) (unhide HB))
        clear o1 o2 hkk
        go_wp2_with fail
        refine (vecCombine_any _ _ _ _ _ _ xs _ _ ((unhide H0).below (unhide hb04)) (unhide S1) (by omega)).mono ?_
        rintro e w5 ⟨r, hr, rfl, hb5⟩
        rcases hr with ⟨_, rfl⟩ | ⟨hno, _⟩
        · have hb05 := hide (bt (unhide hb04) hb5)
          have S2 := hide ((unhide S2).below hb5)
          clear hb5
          go_wp2_with fail
          refine (vecCombine_any _ _ _ _ _ _ xs _ _ ((unhide H0).below (unhide hb05)) (unhide S2) (by omega)).mono ?_
          rintro e w6 ⟨r, hr, rfl, hb6⟩
          rcases hr with ⟨_, rfl⟩ | ⟨hno, _⟩
          · have hb06 := hide (bt (unhide hb05) hb6)
            clear hb6
            have z1 := Vec.out_size_le (unhide m1)
            have z2 := Vec.out_size_le (unhide m2)
            go_wp2_with (go_at_call 10; refine (num_any _ _).mono ?_; rintro e w' ⟨rfl, rfl⟩)
            go_ret
            refine ⟨ret_bool ?_, unhide hb06⟩
            rw [beq_iff_eq, toList_append]
            exact unhide hout
          · exact absurd (unhide m2) hno
        · exact absurd (unhide m1) hno
  · go_wp2_with (go_at_call 10; refine (num_any _ _).mono ?_; rintro e w' ⟨rfl, rfl⟩)
    go_ret
    exact ⟨rfl, unhide hb03⟩
end Go.Proofs.Ytpcjhcjfclnjjaa
