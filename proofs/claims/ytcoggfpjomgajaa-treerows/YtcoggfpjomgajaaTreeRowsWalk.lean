/- The Go text of the statement TreeRows returns true, whatever the leaves and the number. -/
import Derived.Test.YtcoggfpjomgajaaTreeTurnedWalk
import Derived.Test.YtcoggfpjomgajaaTreeShapesWalk
namespace Go.Proofs.Ytcoggfpjomgajaa
open Go.RowKit
set_option linter.unusedVariables false
set_option linter.unusedSimpArgs false
theorem and_3 (n : Int) : ∃ m : Nat, m ≤ 3 ∧ bits .and .i64 n 3 = (m : Int) := by
  have h : bits .and .i64 n 3 = n % 4 := and_mask_i64 n 2 3 (by decide) (by decide)
  exact ⟨(n % 4).toNat, by omega, by rw [h]; omega⟩
/-- the roots of the first k pairs -/
theorem pairs_at : ∀ (l : List Nat) (j : Nat), 2 * j + 1 < l.length → (Tree.pairs l).take (j + 1) = (Tree.pairs l).take j ++ [Seal.pairN (l.getD (2 * j) 0) (l.getD (2 * j + 1) 0)] := by
  intro l j h
  induction j generalizing l with
  | zero =>
    match l, h with
    | a :: b :: r, _ => simp [Tree.pairs]
  | succ j ih =>
    match l, h with
    | a :: b :: r, h =>
      have := ih r (by simp at h; omega)
      rw [Tree.pairs, List.take_succ_cons, List.take_succ_cons, List.cons_append, this]
      have e1 : (a :: b :: r).getD (2 * (j + 1)) 0 = r.getD (2 * j) 0 := by
        show (a :: b :: r).getD (2 * j + 2) 0 = _
        simp [List.getD]
      have e2 : (a :: b :: r).getD (2 * (j + 1) + 1) 0 = r.getD (2 * j + 1) 0 := by
        show (a :: b :: r).getD (2 * j + 1 + 2) 0 = _
        simp [List.getD]
      rw [e1, e2]
theorem drop_two (l : List Nat) (lo : Nat) (h : lo + 1 < l.length) : (l.take (lo + 2)).drop lo = [l.getD lo 0, l.getD (lo + 1) 0] := by
  apply List.ext_getElem
  · simp; omega
  · intro i h1 h2
    simp at h1 h2
    have : i = 0 ∨ i = 1 := by omega
    rcases this with rfl | rfl <;> simp [List.getD, List.getElem?_eq_getElem (show lo < l.length by omega), List.getElem?_eq_getElem h]
theorem nint_two (l : List Nat) (lo : Nat) (h : lo + 1 < l.length) : ((nint l).drop lo).take 2 = nint [l.getD lo 0, l.getD (lo + 1) 0] := by
  unfold nint
  rw [← List.map_drop, ← List.map_take]
  congr 1
  apply List.ext_getElem
  · simp; omega
  · intro i h1 h2
    simp at h1 h2
    have : i = 0 ∨ i = 1 := by omega
    rcases this with rfl | rfl <;> simp [List.getD, List.getElem?_eq_getElem (show lo < l.length by omega), List.getElem?_eq_getElem h]
theorem getD_may {l : List Nat} (h : Tree.May l) (i : Nat) : l.getD i 0 < 2147483647 := by
  rcases Nat.lt_or_ge i l.length with hi | hi
  · have e : l.getD i 0 = l[i] := by simp [List.getD, List.getElem?_eq_getElem hi]
    rw [e]
    exact h _ (List.getElem_mem hi)
  · have e : l.getD i 0 = 0 := by simp [List.getD, List.getElem?_eq_none hi]
    rw [e]
    decide
theorem shl_num (m : Nat) (h : m ≤ 3) : ∃ k : Nat, k = 2 ^ (m + 1) ∧ 2 ≤ k ∧ k ≤ 16 ∧ k % 2 = 0 ∧ wrap64 (2 * 2 ^ m) = (k : Int) := by
  have : m = 0 ∨ m = 1 ∨ m = 2 ∨ m = 3 := by omega
  rcases this with rfl | rfl | rfl | rfl
  · exact ⟨2, by decide, by decide, by decide, by decide, by decide +kernel⟩
  · exact ⟨4, by decide, by decide, by decide, by decide, by decide +kernel⟩
  · exact ⟨8, by decide, by decide, by decide, by decide, by decide +kernel⟩
  · exact ⟨16, by decide, by decide, by decide, by decide, by decide +kernel⟩
theorem pairs_may {l : List Nat} : Tree.May (Tree.pairs l) := by
  intro x hx
  match l with
  | [] => simp [Tree.pairs] at hx
  | [a] => simp [Tree.pairs] at hx
  | a :: b :: r =>
    rw [Tree.pairs] at hx
    rcases List.mem_cons.1 hx with rfl | h
    · exact Seal.pairN_lt _ _
    · exact pairs_may x h
set_option maxRecDepth 100000 in
set_option maxHeartbeats 2000000 in
theorem TreeRows_walk {w : World} (a0 : Option Addr) (n0 c0 : Nat) (xs : List Int) (h0 : Ints w a0 n0 c0 xs) (r0 : n0 * 8 ≤ 140737488351232) (wf0 : ∀ x ∈ xs, (Lit.int .i64 x).wf = true)
    (many : Int) (wf1 : (Lit.int .i64 many).wf = true) :
    Calls Try.prog 8 #[.slice a0 n0 c0, .int .i64 many] w fun e w' => e = .returned (.bool true) ∧ Below w.heap.size w w' := by
  have H0 := hide h0
  have hlen := h0.1
  clear h0
  obtain ⟨m, hm, em⟩ := and_3 many
  obtain ⟨k, ek, hk2, hk16, hke, eK⟩ := shl_num m hm
  have EK := hide ek
  clear ek
  go_enter Try.func8, Try.ntmps8
  go_wp2_with fail
  refine (awake10_any _).mono ?_
  rintro e w1 ⟨rfl, b1⟩
  have HW1 := hide b1
  have hs1 := b1.size
  clear b1
  by_cases hsh : n0 < k
  · have hsh' : (n0 : Int) < k := by omega
    go_wp2
    go_ret
    exact ⟨rfl, unhide HW1⟩
  have hsh' : ¬ (n0 : Int) < k := by omega
  go_wp2
  simp only [eK]
  clear eK em
  go_loopw [6, 8] (fun ov iv wr => ∃ j : Nat, j ≤ k ∧ iv = .int .i64 j ∧ Hid (OwnL wr w.heap.size 3 ov ((nint (lows xs j)).map (Value.int .i64))) ∧ Hid (Below w.heap.size w wr)) (fun _ iv _ => k - (intOf iv).toNat)
  case atStart => exact ⟨0, by omega, rfl, hide (OwnL.nil _ _ _), HW1⟩
  case round =>
    obtain ⟨j, hj, rfl, HO, HW⟩ := hrel
    obtain ⟨pv, cv, ev⟩ := (unhide HO).form
    rw [List.length_map, nint_len, lows_len _ _ (by omega)] at ev
    subst ev
    have hszW := (unhide HW).size
    by_cases hlt : j < k
    · have hlt1 : (j : Int) < k := by omega
      obtain ⟨b, o, ea, hcell⟩ : ∃ b off, a0 = some ⟨b, off, none⟩ ∧ ∀ i, i < n0 → wr.cell? ⟨b, off + i, none⟩ = some (.int .i64 (xs.getD i 0)) := by
        rcases ((unhide H0).below (unhide HW)).2.two with h | h
        · omega
        · exact h
      subst ea
      have cj := hcell j (by omega)
      clear hcell
      have hjn : (j : Int) < n0 := by omega
      obtain ⟨x, ex⟩ : ∃ x, x = xs.getD j 0 := ⟨_, rfl⟩
      rw [← ex] at cj
      have EX := hide ex
      clear ex
      have hlow : (x % 4294967296 / 4) = ((low30 x : Nat) : Int) := by unfold low30; omega
      have HLOW := hide hlow
      have hll := lows_len xs j (by omega)
      clear hlow
      go_wp2_with (at_builtin; refine wpList_push wr (by rfl) (.tmp 30) (.tmp 38) 22 (by rfl) w.heap.size 3 (.int .i64 0) 8 Try.underlying22 Try.infoInt rfl _ _ (by rfl) (unhide HO) _ (by rfl) (by rfl) (by simp [nint_len, hll]; omega) (by omega) hszW ?_; intro v1 wa O1 P1; have HBa := hide (P1.below (unhide HO) (unhide HW) (Nat.le_refl _) hszW); have HO1 := hide O1; clear O1 P1 HO HW)
      go_roundw
      case rel =>
        refine ⟨j + 1, by omega, by go_num, hide ?_, HBa⟩
        have := unhide HO1
        rw [unhide HLOW, unhide EX] at this
        rw [lows_snoc _ _ (by omega)]
        simpa [nint] using this
      case measure => simp [intOf]; omega
    · have hlt1 : ¬ (j : Int) < k := by omega
      obtain rfl : j = k := by omega
      obtain ⟨l, el⟩ : ∃ l, l = lows xs j := ⟨_, rfl⟩
      have hll : l.length = j := by rw [el]; exact lows_len xs j (by omega)
      have hlm : Tree.May l := by rw [el]; exact lows_may xs j
      rw [← el] at HO
      clear el
      have hO := unhide HO
      obtain ⟨g, cap, eg, hg, hcap, hcap2, _⟩ := own_form (n := ((nint l).map (Value.int .i64)).length) hO (by simp [nint_len]; omega)
      simp only [Value.slice.injEq, List.length_map, nint_len, hll, true_and] at eg
      obtain ⟨rfl, rfl⟩ := eg
      obtain ⟨p', c', e', hI⟩ := hO.ints
      simp only [Value.slice.injEq, nint_len, hll, true_and] at e'
      obtain ⟨e1, e2⟩ := e'
      subst e2
      rw [← e1, nint_len, hll] at hI
      simp only [List.length_map, nint_len, hll] at hcap
      unfold maxLen at hcap2
      have HI := hide hI
      have HM := hide hlm
      have HL := hide hll
      clear hI hO hlm hll e1 HO
      generalize hw : wr = W at *
      clear hw
      go_wp2
      go_loopw [7, 9] (fun ov iv wr => ∃ i lo : Nat, lo = 2 * i ∧ lo ≤ j ∧ iv = .int .i64 lo ∧ Hid (OwnL wr W.heap.size 3 ov ((nint ((Tree.pairs l).take i)).map (Value.int .i64))) ∧ Hid (Below W.heap.size W wr)) (fun _ iv _ => j - (intOf iv).toNat)
      case atStart => exact ⟨0, 0, rfl, by omega, rfl, hide (OwnL.nil _ _ _), hide (Below.refl _ _)⟩
      case round =>
        obtain ⟨i, lo, hlo, hloj, rfl, HO, HB⟩ := hrel
        have hpl : (Tree.pairs l).length = j / 2 := by rw [Tree.pairs_len, unhide HL]
        have hpt : ((Tree.pairs l).take i).length = i := by rw [List.length_take, hpl]; omega
        obtain ⟨pv2, cv2, ev⟩ := (unhide HO).form
        rw [List.length_map, nint_len, hpt] at ev
        subst ev
        have hszW := (unhide HB).size
        have HLO := hide hlo
        have HPL := hide hpl
        have HPT := hide hpt
        clear hlo hpl hpt
        by_cases hlt : lo < j
        · have hlt1 : (lo : Int) < j := by omega
          have hl2 : lo + 1 < l.length := by have := unhide HL; have := unhide HLO; omega
          have h2 : lo + 2 ≤ j := by have := unhide HL; omega
          have hI2 := (((unhide HI).below (unhide HB)).rest (k := lo) hlt).first (k := 2) (by omega)
          rw [Nat.zero_add, nint_two l lo hl2] at hI2
          have HI2 := hide hI2
          clear hI2
          obtain ⟨x, ex⟩ : ∃ x, x = l.getD lo 0 := ⟨_, rfl⟩
          obtain ⟨y, ey⟩ : ∃ y, y = l.getD (lo + 1) 0 := ⟨_, rfl⟩
          have hxm := getD_may (unhide HM) lo
          have hym := getD_may (unhide HM) (lo + 1)
          rw [← ex] at hxm
          rw [← ey] at hym
          have hr := rootP_nint (l := [x, y]) (by simp) (by simp) (by intro z hz; simp only [List.mem_cons, List.not_mem_nil, or_false] at hz; rcases hz with rfl | rfl <;> assumption)
          rw [root_2] at hr
          obtain ⟨r, er⟩ : ∃ r, r = Seal.pairN x y := ⟨_, rfl⟩
          rw [← er] at hr
          rw [← ex, ← ey] at HI2
          have hpa := pairs_at l i (by have := unhide HLO; omega)
          have e2i : 2 * i = lo := (unhide HLO).symm
          rw [e2i, ← ex, ← ey, ← er] at hpa
          have HR := hide hr
          have HPA := hide hpa
          have hpt := unhide HPT
          clear hr hpa ex ey er hxm hym e2i
          go_wp2_with fail
          refine (treeRoot_any _ _ _ _ _ (unhide HI2) (by decide)).mono ?_
          rintro e w3 ⟨rfl, b3⟩
          rw [unhide HR]
          have HO3 := hide ((unhide HO).below b3)
          have HB3 := hide (bt (unhide HB) b3)
          have hsz3 := (unhide HB3).size
          clear b3 HO HB
          have tn : ((0 : Int) != 0) = false := by decide
          have hi16 : i ≤ 16 := by have := unhide HLO; omega
          go_upto_region 17 with (go_at_call 14; refine (num_any _ _).mono ?_; rintro e w' ⟨rfl, hw'⟩; rw [hw']; clear hw' w')
          go_wp2_with (at_builtin; refine wpList_push w3 (by rfl) (.tmp 57) (.tmp 59) 22 (by rfl) W.heap.size 3 (.int .i64 0) 8 Try.underlying22 Try.infoInt rfl _ _ (by rfl) (unhide HO3) _ (by rfl) (by rfl) (by simp [nint_len, hpt]; omega) (by omega) hsz3 ?_; intro v1 wa O1 P1; have HBa := hide (P1.below (unhide HO3) (unhide HB3) (Nat.le_refl _) hsz3); have HO1 := hide O1; clear O1 P1 HO3 HB3)
          go_roundw
          case rel =>
            refine ⟨i + 1, lo + 2, by have := unhide HLO; omega, by omega, by go_num, hide ?_, HBa⟩
            have := unhide HO1
            rw [unhide HPA]
            simpa [nint] using this
          case measure => simp [intOf]; omega
        · have hlt1 : ¬ (lo : Int) < j := by omega
          obtain rfl : lo = j := by omega
          have hi2 : i = lo / 2 := by have := unhide HLO; omega
          have hi16 : i ≤ 16 := by omega
          have htk : (Tree.pairs l).take i = Tree.pairs l := List.take_of_length_le (by rw [unhide HPL]; omega)
          rw [htk] at HO
          have hr1 := rootP_nint (l := l) (by rw [unhide HL]; omega) (by rw [unhide HL]; omega) (unhide HM)
          have hr2 := rootP_nint (l := Tree.pairs l) (by rw [unhide HPL]; omega) (by rw [unhide HPL]; omega) pairs_may
          rw [← Tree.root_rows m l (by rw [unhide HL]; exact unhide EK)] at hr2
          obtain ⟨r, er⟩ : ∃ r, r = Tree.root l := ⟨_, rfl⟩
          rw [← er] at hr1 hr2
          have HI2 := hide ((unhide HI).below (unhide HB))
          obtain ⟨p', c', e', hI⟩ := (unhide HO).ints
          rw [nint_len, unhide HPL] at hI e'
          rw [← hi2] at hI e'
          simp only [Value.slice.injEq, true_and] at e'
          obtain ⟨e1, e2⟩ := e'
          rw [← e1, ← e2] at hI
          have HI3 := hide hI
          have HR1 := hide hr1
          have HR2 := hide hr2
          have HW3 := hide (bt (unhide HW) (unhide HB))
          have tr : ((r : Int) == (r : Int)) = true := by simp
          clear hI hr1 hr2 er e1 e2 htk hi2
          go_wp2_with fail
          refine (treeRoot_any _ _ _ (nint l) _ (unhide HI2) (by omega)).mono ?_
          rintro e w3 ⟨rfl, b3⟩
          rw [unhide HR1]
          replace HI3 := hide ((unhide HI3).below b3)
          replace HW3 := hide (bt (unhide HW3) b3)
          clear b3
          go_wp2_with fail
          refine (treeRoot_any _ _ _ (nint (Tree.pairs l)) _ (unhide HI3) (by omega)).mono ?_
          rintro e w4 ⟨rfl, b4⟩
          rw [unhide HR2]
          replace HW3 := hide (bt (unhide HW3) b4)
          clear b4
          go_wp2_with (go_at_call 14; refine (num_any _ _).mono ?_; rintro e w' ⟨rfl, rfl⟩)
          go_ret
          exact ⟨rfl, unhide HW3⟩
end Go.Proofs.Ytcoggfpjomgajaa
