/- The document's own paths (ossuaryref1.climb, Path, CheckPath): contracts. -/
import Derived.Test.YtmphbajnadbggaaProofRef
namespace Go.Proofs.Ytmphbajnadbggaa
open Go.RowKit
set_option linter.unusedVariables false
set_option linter.unusedSimpArgs false
attribute [local go_sem ↓] Go.wp_at_zero Go.wp_at_succ
set_option maxRecDepth 100000 in
set_option maxHeartbeats 4000000 in
theorem refclimb_any : ∀ (n i a : Nat) (p : List Nat) (q : Option Addr) (m c : Nat) (w : World), 1 ≤ n → n ≤ 64 → i < n → a < 2147483647 → Ints w q m c (nint p) → Tree.May p → m = Tree.depth n i →
    Calls Try.prog 56 #[.int .i64 n, .int .i64 i, .int .i64 a, .slice q m c] w fun e w' => e = .returned (.int .i64 (Tree.climb n i a p : Nat)) ∧ Below w.heap.size w w' := by
  intro n
  induction n using Nat.strongRecOn with
  | ind n ih =>
    intro i a p q m c w h1 h64 hi ha hI hm hd
    have hl : p.length = m := by rw [← nint_len]; exact hI.1
    by_cases h2 : n = 1
    · subst h2
      rw [Tree.climb_one]
      clear ih hI hd ha
      go_enter Try.func56, Try.ntmps56
      go_wp2
      go_ret
      exact ⟨rfl, Below.refl _ _⟩
    · have h2' : 2 ≤ n := by omega
      have t1 : ((n : Int) == 1) = false := by simp; omega
      have hdl := Tree.depth_le n i h1 hi
      rw [← hd] at hdl
      obtain ⟨k, ek⟩ : ∃ k, k = Tree.half n := ⟨_, rfl⟩
      have hk1 : 0 < k := by rw [ek]; exact Tree.half_pos n
      have hk2 : k < n := by rw [ek]; exact Tree.half_lt h2'
      rw [Tree.depth_two h2', ← ek] at hd
      have er := Tree.climb_two i a p h2'
      rw [← ek, hl] at er
      have hm1 : 1 ≤ m := by split at hd <;> omega
      obtain ⟨T, eT⟩ : ∃ T : Nat, (m : Int) - 1 = (T : Int) := ⟨m - 1, by omega⟩
      have eT' : m - 1 = T := by omega
      have hTm : T < m := by omega
      rw [eT'] at er
      obtain ⟨hc, b, o, rfl⟩ := hI.cap (by omega)
      have cT : w.cell? ⟨b, o + T, none⟩ = some (.int .i64 ((p.getD T 0 : Nat) : Int)) := by
        rcases hI.2 with ⟨e, _⟩ | ⟨e, _⟩ | ⟨_, _, b', o', e, hcell⟩
        · simp at e
        · omega
        · simp only [Option.some.injEq, Addr.mk.injEq, and_true] at e
          obtain ⟨rfl, rfl⟩ := e
          have : w.cell? ⟨b, o + T, none⟩ = some (.int .i64 ((nint p).getD T 0)) := hcell T hTm
          rw [nint_at] at this
          exact this
      have hIt := hI.first (k := T) (by omega)
      have it : nint (p.take T) = (nint p).take T := by simp [nint, List.map_take]
      rw [← it] at hIt
      have hmt : Tree.May (p.take T) := fun y hy => hm y (List.mem_of_mem_take hy)
      have hyl : p.getD T 0 < 2147483647 := by
        have e : p.getD T 0 = p[T]'(by omega) := by simp [List.getD, List.getElem?_eq_getElem (show T < p.length by omega)]
        rw [e]; exact hm _ (List.getElem_mem _)
      obtain ⟨y, ey⟩ : ∃ y, y = p.getD T 0 := ⟨_, rfl⟩
      rw [← ey] at hyl cT er
      have HT := hide hIt
      have EK := hide ek
      have HIH := hide ih
      have HMT := hide hmt
      have HA := hide ha
      have HY := hide hyl
      have hT1 : (0 : Int) ≤ T := by omega
      have hTc : (T : Int) ≤ c := by omega
      have hTc' : T ≤ c := by omega
      have hTm' : (T : Int) < m := by omega
      clear hI hIt ek ih hm hmt it ha hyl ey eT'
      by_cases hik : i < k
      · have hik' : (i : Int) < k := by omega
        rw [if_pos hik] at er hd
        have hd' : T = Tree.depth k i := by omega
        have hxl : Tree.climb k i a (p.take T) < 2147483647 := Tree.climb_lt hk1 (unhide HA)
        obtain ⟨X, eX⟩ : ∃ X, X = Tree.climb k i a (p.take T) := ⟨_, rfl⟩
        rw [← eX] at er hxl
        have ER := hide er
        have EX := hide eX
        have HX := hide hxl
        have HD := hide hd'
        clear er eX hxl hd hd'
        go_enter Try.func56, Try.ntmps56
        go_wp2_with fail
        refine (refHalf_any n w h2' h64).mono ?_
        rintro e w1 ⟨rfl, rfl⟩
        rw [← unhide EK]
        have kT := kept_cell (B := w1.heap.size) cT (cell_lt cT)
        clear cT
        go_upto_region 6 with fail
        refine wp_region_ord (S := Below w1.heap.size w1) [(true, 0), (true, 1), (true, 2), (true, 3), (true, 4), (true, 5), (true, 7), (true, 8), (true, 9), (true, 10), (false, 6), (false, 11), (true, 12)] (by kernel_rfl) (by kernel_rfl) (by kernel_rfl) (by kernel_rfl) ((Below.refl _ _).drew) ?_
        simp only [withOps, List.map_cons, List.map_nil, List.getElem?_cons_succ, List.getElem?_cons_zero]
        repeat (refine walkH_read (by rfl) (by (intro gx; go_simp; try (with_reducible rfl))) ?_; try simp only [Act.put, List.setIfInBounds_toArray, List.set_cons_zero, List.set_cons_succ])
        refine walkH_do rfl (fun K hK => ?_)
        go_simp
        refine (unhide HIH k hk2 i a (p.take T) _ T c _ hk1 (by omega) hik (unhide HA) ((unhide HT).below ((Below.refl _ _).drew)) (unhide HMT) (unhide HD)).mono ?_
        rintro e w2 ⟨rfl, b2⟩
        rw [← unhide EX]
        have hb2 : Below w1.heap.size w1 w2 := ((Below.refl _ _).drew).trans b2
        refine hK _ _ hb2 ?_
        clear hK K
        try simp only [Act.put, List.setIfInBounds_toArray, List.set_cons_zero, List.set_cons_succ]
        repeat (refine walkH_read (by rfl) (by (intro gx; go_simp; try (with_reducible rfl))) ?_; try simp only [Act.put, List.setIfInBounds_toArray, List.set_cons_zero, List.set_cons_succ])
        refine walkH_do rfl (fun K hK => ?_)
        go_simp
        refine (refPair_any X y w2 (wf_nat (unhide HX)) (wf_nat (unhide HY))).mono ?_
        rintro e w4 ⟨rfl, rfl⟩
        have ep : Seal.pair (X : Int) (y : Int) = Tree.climb n i a p := by
          rw [unhide ER]
          unfold Seal.pair
          rw [Seal.md_small (unhide HX), Seal.md_small (unhide HY)]
        rw [ep]
        refine hK _ _ hb2 ?_
        clear hK K
        try simp only [Act.put, List.setIfInBounds_toArray, List.set_cons_zero, List.set_cons_succ]
        repeat (refine walkH_read (by rfl) (by (intro gx; go_simp; try (with_reducible rfl))) ?_; try simp only [Act.put, List.setIfInBounds_toArray, List.set_cons_zero, List.set_cons_succ])
        refine (show walkH _ _ _ _ [] _ _ from NoPanic.normal ?_)
        go_wp2
        go_ret
        exact ⟨rfl, hb2⟩
      · have hik' : ¬ (i : Int) < k := by omega
        rw [if_neg hik] at er hd
        obtain ⟨n2, e2⟩ : ∃ n2 : Nat, (n : Int) - k = (n2 : Int) := ⟨n - k, by omega⟩
        obtain ⟨i2, e3⟩ : ∃ i2 : Nat, (i : Int) - k = (i2 : Int) := ⟨i - k, by omega⟩
        have e2' : n - k = n2 := by omega
        have e3' : i - k = i2 := by omega
        rw [e2', e3'] at er hd
        have hd' : T = Tree.depth n2 i2 := by omega
        have hxl : Tree.climb n2 i2 a (p.take T) < 2147483647 := Tree.climb_lt (by omega) (unhide HA)
        obtain ⟨X, eX⟩ : ∃ X, X = Tree.climb n2 i2 a (p.take T) := ⟨_, rfl⟩
        rw [← eX] at er hxl
        have ER := hide er
        have EX := hide eX
        have HX := hide hxl
        have HD := hide hd'
        have w2n : IntKind.wrap .i64 ((n2 : Nat) : Int) = (n2 : Int) := by simp only [IntKind.wrap_i64]; omega
        have w2i : IntKind.wrap .i64 ((i2 : Nat) : Int) = (i2 : Int) := by simp only [IntKind.wrap_i64]; omega
        clear er eX hxl hd hd' e2' e3'
        go_enter Try.func56, Try.ntmps56
        go_wp2_with fail
        refine (refHalf_any n w h2' h64).mono ?_
        rintro e w1 ⟨rfl, rfl⟩
        rw [← unhide EK]
        have kT := kept_cell (B := w1.heap.size) cT (cell_lt cT)
        clear cT
        go_upto_region 7 with fail
        refine wp_region_ord (S := Below w1.heap.size w1) [(true, 0), (true, 1), (true, 2), (true, 3), (true, 4), (true, 5), (true, 6), (true, 7), (true, 8), (true, 9), (true, 10), (true, 11), (true, 12), (true, 13), (false, 14), (false, 15), (true, 16)] (by kernel_rfl) (by kernel_rfl) (by kernel_rfl) (by kernel_rfl) ((Below.refl _ _).drew) ?_
        simp only [withOps, List.map_cons, List.map_nil, List.getElem?_cons_succ, List.getElem?_cons_zero]
        repeat (refine walkH_read (by rfl) (by (intro gx; go_simp; try (with_reducible rfl))) ?_; try simp only [Act.put, List.setIfInBounds_toArray, List.set_cons_zero, List.set_cons_succ])
        refine walkH_do rfl (fun K hK => ?_)
        go_simp
        refine (unhide HIH n2 (by omega) i2 a (p.take T) _ T c _ (by omega) (by omega) (by omega) (unhide HA) ((unhide HT).below ((Below.refl _ _).drew)) (unhide HMT) (unhide HD)).mono ?_
        rintro e w2 ⟨rfl, b2⟩
        rw [← unhide EX]
        have hb2 : Below w1.heap.size w1 w2 := ((Below.refl _ _).drew).trans b2
        refine hK _ _ hb2 ?_
        clear hK K
        try simp only [Act.put, List.setIfInBounds_toArray, List.set_cons_zero, List.set_cons_succ]
        repeat (refine walkH_read (by rfl) (by (intro gx; go_simp; try (with_reducible rfl))) ?_; try simp only [Act.put, List.setIfInBounds_toArray, List.set_cons_zero, List.set_cons_succ])
        refine walkH_do rfl (fun K hK => ?_)
        go_simp
        refine (refPair_any y X w2 (wf_nat (unhide HY)) (wf_nat (unhide HX))).mono ?_
        rintro e w4 ⟨rfl, rfl⟩
        have ep : Seal.pair (y : Int) (X : Int) = Tree.climb n i a p := by
          rw [unhide ER]
          unfold Seal.pair
          rw [Seal.md_small (unhide HX), Seal.md_small (unhide HY)]
        rw [ep]
        refine hK _ _ hb2 ?_
        clear hK K
        try simp only [Act.put, List.setIfInBounds_toArray, List.set_cons_zero, List.set_cons_succ]
        repeat (refine walkH_read (by rfl) (by (intro gx; go_simp; try (with_reducible rfl))) ?_; try simp only [Act.put, List.setIfInBounds_toArray, List.set_cons_zero, List.set_cons_succ])
        refine (show walkH _ _ _ _ [] _ _ from NoPanic.normal ?_)
        go_wp2
        go_ret
        exact ⟨rfl, hb2⟩
/-- what Path answers -/
def PMay (xs : List Int) (i : Int) : Prop := RMay xs ∧ 0 ≤ i ∧ i < xs.length
instance pmayDec (xs : List Int) (i : Int) : Decidable (PMay xs i) := by unfold PMay; exact inferInstance
def pathP (xs : List Int) (i : Int) : List Int × Int := if PMay xs i then (nint (Tree.path (nats xs) i.toNat), 0) else ([], 1100)
theorem pathP_no {xs : List Int} {i : Int} (h : ¬ PMay xs i) : pathP xs i = ([], 1100) := by unfold pathP; rw [if_neg h]
theorem pathP_yes {xs : List Int} {i : Int} (h : PMay xs i) : pathP xs i = (nint (Tree.path (nats xs) i.toNat), 0) := by unfold pathP; rw [if_pos h]
set_option maxRecDepth 100000 in
set_option maxHeartbeats 2000000 in
theorem refPath_any (a : Option Addr) (n c : Nat) (xs : List Int) (i : Int) (w : World) (hI : Ints w a n c xs) (hn : n ≤ 140737488351232) :
    Calls Try.prog 31 #[.slice a n c, .int .i64 i] w fun e w' => ∃ v, e = .returned (.tuple #[v, .int .i64 (pathP xs i).2]) ∧ OwnL w' w.heap.size 3 v ((pathP xs i).1.map (Value.int .i64)) ∧ Below w.heap.size w w' := by
  have hl := hI.1
  by_cases h1 : (n : Int) < 1
  · rw [pathP_no (fun h => by have := h.1.1; omega)]
    clear hI
    go_enter Try.func31, Try.ntmps31
    go_wp2
    go_ret2
    exact ⟨_, rfl, OwnL.nil _ _ _, Below.refl _ _⟩
  · have HI := hide hI
    clear hI
    by_cases h2 : Sls xs ∧ n ≤ 64
    · have d2 := decide_eq_true h2
      by_cases h3 : i < 0
      · rw [pathP_no (fun h => by have := h.2.1; omega)]
        have H2 := hide h2
        clear h2
        go_enter Try.func31, Try.ntmps31
        go_wp2_with (go_at_call 40; refine (refSealNums_any _ _ _ xs 64 _ (unhide HI) hn (by decide)).mono ?_; rintro e w' ⟨rfl, rfl⟩; rw [d2])
        go_ret2
        exact ⟨_, rfl, OwnL.nil _ _ _, Below.refl _ _⟩
      · by_cases h4 : (n : Int) ≤ i
        · rw [pathP_no (fun h => by have := h.2.2; omega)]
          have H2 := hide h2
          clear h2
          go_enter Try.func31, Try.ntmps31
          go_wp2_with (go_at_call 40; refine (refSealNums_any _ _ _ xs 64 _ (unhide HI) hn (by decide)).mono ?_; rintro e w' ⟨rfl, rfl⟩; rw [d2])
          go_ret2
          exact ⟨_, rfl, OwnL.nil _ _ _, Below.refl _ _⟩
        · have hP : PMay xs i := ⟨⟨by omega, by omega, h2.1⟩, by omega, by omega⟩
          rw [pathP_yes hP]
          obtain ⟨j, rfl⟩ : ∃ j : Nat, i = (j : Int) := ⟨i.toNat, by omega⟩
          have hS := hide h2.1
          have H2 := hide h2
          have hX : nint (nats xs) = xs := nats_back h2.1
          have HX := hide hX
          have hn64 : n ≤ 64 := h2.2
          clear h2 hP hX
          rw [Int.toNat_natCast]
          obtain ⟨P, eP⟩ : ∃ P, P = nint (Tree.path (nats xs) j) := ⟨_, rfl⟩
          rw [← eP]
          have EP := hide eP
          clear eP
          go_enter Try.func31, Try.ntmps31
          go_upto_region 3 with (go_at_call 40; refine (refSealNums_any _ _ _ xs 64 _ (unhide HI) hn (by decide)).mono ?_; rintro e w' ⟨rfl, hw'⟩; rw [d2, hw']; clear hw' w')
          go_wp2_with fail
          refine (refpath_any n j _ _ (nats xs) _ (by omega) hn64 (by omega) (by rw [unhide HX]; exact unhide HI) (nats_may (unhide hS))).mono ?_
          rintro e w2 ⟨v, rfl, O2, b2⟩
          rw [← unhide EP] at O2
          have HB := hide b2
          obtain ⟨p2, c2, ev⟩ := O2.form
          rw [List.length_map] at ev
          subst ev
          have HO := hide O2
          clear O2 b2
          go_wp2
          go_ret2
          exact ⟨_, rfl, unhide HO, unhide HB⟩
    · have d2 := decide_eq_false h2
      rw [pathP_no (fun h => h2 ⟨h.1.2.2, by have := h.1.2.1; omega⟩)]
      have H2 := hide h2
      clear h2
      go_enter Try.func31, Try.ntmps31
      go_wp2_with (go_at_call 40; refine (refSealNums_any _ _ _ xs 64 _ (unhide HI) hn (by decide)).mono ?_; rintro e w' ⟨rfl, rfl⟩; rw [d2])
      go_ret2
      exact ⟨_, rfl, OwnL.nil _ _ _, Below.refl _ _⟩
/-- what Check asks -/
def Chk (r n i a : Int) (p : List Int) : Prop := 1 ≤ n ∧ n ≤ 64 ∧ 0 ≤ i ∧ i < n ∧ Sl a ∧ Sls p ∧ p.length ≤ 64 ∧ p.length = Tree.depth n.toNat i.toNat ∧ ((Tree.climb n.toNat i.toNat a.toNat (nats p) : Nat) : Int) = r
instance chkDec (r n i a : Int) (p : List Int) : Decidable (Chk r n i a p) := by unfold Chk; exact inferInstance
theorem chk_false {r n i a : Int} {p : List Int} {e : Ending} (h : ¬ Chk r n i a p) (he : e = .returned (.bool false)) : e = .returned (.bool (decide (Chk r n i a p))) := by rw [decide_eq_false h]; exact he
set_option maxRecDepth 100000 in
set_option maxHeartbeats 4000000 in
theorem refCheckPath_any (r n i a : Int) (q : Option Addr) (m c : Nat) (p : List Int) (w : World) (hI : Ints w q m c p) (hm : m ≤ 140737488351232) :
    Calls Try.prog 57 #[.int .i64 r, .int .i64 n, .int .i64 i, .int .i64 a, .slice q m c] w fun e w' => e = .returned (.bool (decide (Chk r n i a p))) ∧ Below w.heap.size w w' := by
  have hl := hI.1
  have HI := hide hI
  clear hI
  by_cases c1 : n < 1
  · have hno : ¬ Chk r n i a p := fun h => by have := h.1; omega
    have HN := hide hno
    clear hno
    go_enter Try.func57, Try.ntmps57
    go_wp2
    go_ret
    exact ⟨chk_false (unhide HN) rfl, Below.refl _ _⟩
  by_cases c2 : 64 < n
  · have hno : ¬ Chk r n i a p := fun h => by have := h.2.1; omega
    have HN := hide hno
    clear hno
    go_enter Try.func57, Try.ntmps57
    go_wp2
    go_ret
    exact ⟨chk_false (unhide HN) rfl, Below.refl _ _⟩
  by_cases c3 : i < 0
  · have hno : ¬ Chk r n i a p := fun h => by have := h.2.2.1; omega
    have HN := hide hno
    clear hno
    go_enter Try.func57, Try.ntmps57
    go_wp2
    go_ret
    exact ⟨chk_false (unhide HN) rfl, Below.refl _ _⟩
  by_cases c4 : n ≤ i
  · have hno : ¬ Chk r n i a p := fun h => by have := h.2.2.2.1; omega
    have HN := hide hno
    clear hno
    go_enter Try.func57, Try.ntmps57
    go_wp2
    go_ret
    exact ⟨chk_false (unhide HN) rfl, Below.refl _ _⟩
  by_cases c5 : Sl a
  case neg =>
    have hno : ¬ Chk r n i a p := fun h => c5 h.2.2.2.2.1
    have HN := hide hno
    have d5 := decide_eq_false c5
    clear hno c5
    go_enter Try.func57, Try.ntmps57
    go_wp2_with (go_at_call 66; refine (refSealNum_any a _).mono ?_; rintro e w' ⟨rfl, rfl⟩; rw [d5])
    go_ret
    exact ⟨chk_false (unhide HN) rfl, Below.refl _ _⟩
  have d5 := decide_eq_true c5
  by_cases c6 : Sls p ∧ m ≤ 64
  case neg =>
    have hno : ¬ Chk r n i a p := fun h => c6 ⟨h.2.2.2.2.2.1, by have := h.2.2.2.2.2.2.1; omega⟩
    have HN := hide hno
    have d6 := decide_eq_false c6
    clear hno c5 c6
    go_enter Try.func57, Try.ntmps57
    go_wp2_with (first | (go_at_call 66; refine (refSealNum_any a _).mono ?_; rintro e w' ⟨rfl, rfl⟩; rw [d5]) | (go_at_call 40; refine (refSealNums_any _ _ _ p 64 _ (unhide HI) hm (by decide)).mono ?_; rintro e w' ⟨rfl, rfl⟩; rw [d6]))
    go_ret
    exact ⟨chk_false (unhide HN) rfl, Below.refl _ _⟩
  have d6 := decide_eq_true c6
  obtain ⟨N, rfl⟩ : ∃ N : Nat, n = (N : Int) := ⟨n.toNat, by omega⟩
  obtain ⟨J, rfl⟩ : ∃ J : Nat, i = (J : Int) := ⟨i.toNat, by omega⟩
  obtain ⟨A, rfl⟩ : ∃ A : Nat, a = (A : Int) := ⟨a.toNat, by have := c5.1; omega⟩
  have hA : A < 2147483647 := by have := c5.2; omega
  have hmb := Tree.depth_le N J (by omega) (by omega)
  obtain ⟨D, eD⟩ : ∃ D, D = Tree.depth N J := ⟨_, rfl⟩
  rw [← eD] at hmb
  by_cases c7 : m = D
  case neg =>
    have hno : ¬ Chk r N J A p := fun h => by
      have := h.2.2.2.2.2.2.2.1
      rw [Int.toNat_natCast, Int.toNat_natCast, ← eD] at this
      omega
    have HN := hide hno
    have ED := hide eD
    have t7 : ((m : Int) != (D : Int)) = true := by simp; omega
    clear hno c5 c6 eD hA
    go_enter Try.func57, Try.ntmps57
    go_wp2_with (first | (go_at_call 66; refine (refSealNum_any (A : Int) _).mono ?_; rintro e w' ⟨rfl, rfl⟩; rw [d5]) | (go_at_call 40; refine (refSealNums_any _ _ _ p 64 _ (unhide HI) hm (by decide)).mono ?_; rintro e w' ⟨rfl, rfl⟩; rw [d6]) | (go_at_call 55; refine (refDepth_any N J _ (by omega) (by omega) (by omega)).mono ?_; rintro e w' ⟨rfl, rfl⟩; rw [← unhide ED]))
    go_ret
    exact ⟨chk_false (unhide HN) rfl, Below.refl _ _⟩
  subst c7
  have t7 : ((m : Int) != (m : Int)) = false := by simp
  have hX : nint (nats p) = p := nats_back c6.1
  have hmm := nats_may c6.1
  have hchk : decide (Chk r N J A p) = (((Tree.climb N J A (nats p) : Nat) : Int) == r) := by
    have : Chk r N J A p ↔ ((Tree.climb N J A (nats p) : Nat) : Int) = r := by
      constructor
      · intro h
        have := h.2.2.2.2.2.2.2.2
        simpa using this
      · intro h
        exact ⟨by omega, by omega, by omega, by omega, c5, c6.1, by have := c6.2; omega, by rw [Int.toNat_natCast, Int.toNat_natCast, ← eD]; exact hl, by simpa using h⟩
    rw [decide_eq_decide.2 this]
    by_cases e : ((Tree.climb N J A (nats p) : Nat) : Int) = r
    · rw [decide_eq_true e]; simp [e]
    · rw [decide_eq_false e]; simp [e]
  rw [hchk]
  obtain ⟨X, eX⟩ : ∃ X, X = Tree.climb N J A (nats p) := ⟨_, rfl⟩
  rw [← eX]
  have EX := hide eX
  have ED := hide eD
  have HX := hide hX
  have HM := hide hmm
  have HA := hide hA
  have C6 := hide c6
  clear eX eD hX hmm c5 c6 hchk hA
  go_enter Try.func57, Try.ntmps57
  go_upto_region 3 with (first | (go_at_call 66; refine (refSealNum_any (A : Int) _).mono ?_; rintro e w' ⟨rfl, hw'⟩; rw [d5, hw']; clear hw' w') | (go_at_call 40; refine (refSealNums_any _ _ _ p 64 _ (unhide HI) hm (by decide)).mono ?_; rintro e w' ⟨rfl, hw'⟩; rw [d6, hw']; clear hw' w') | (go_at_call 55; refine (refDepth_any N J _ (by omega) (by omega) (by omega)).mono ?_; rintro e w' ⟨rfl, hw'⟩; rw [← unhide ED, hw']; clear hw' w'))
  go_wp2_with fail
  refine (refclimb_any N J A (nats p) _ _ _ _ (by omega) (by omega) (by omega) (unhide HA) (by rw [unhide HX]; exact unhide HI) (unhide HM) (unhide ED)).mono ?_
  rintro e w2 ⟨rfl, b2⟩
  rw [← unhide EX]
  go_wp2
  go_ret
  exact ⟨rfl, b2⟩
end Go.Proofs.Ytmphbajnadbggaa
