/- The program's paths: Path, Check. -/
import Derived.Test.YtmphbajnadbggabProofRef2
import Derived.Test.YtmphbajnadbggabTreeWalk
namespace Go.Proofs.Ytmphbajnadbggab
open Go.RowKit
set_option linter.unusedVariables false
set_option linter.unusedSimpArgs false
set_option maxRecDepth 100000 in
set_option maxHeartbeats 2000000 in
theorem proofsteps_any : ∀ (n i : Nat) (w : World), 1 ≤ n → n ≤ 64 → i < n → Calls Try.prog 46 #[.int .i64 n, .int .i64 i] w fun e w' => e = .returned (.int .i64 (Tree.depth n i : Nat)) ∧ w' = w := by
  intro n
  induction n using Nat.strongRecOn with
  | ind n ih =>
    intro i w h1 h64 hi
    by_cases h2 : n = 1
    · subst h2
      rw [Tree.depth_one]
      clear ih
      go_enter Try.func46, Try.ntmps46
      go_wp2
      go_ret
      exact ⟨rfl, rfl⟩
    · have h2' : 2 ≤ n := by omega
      have t1 : ((n : Int) == 1) = false := by simp; omega
      obtain ⟨k, ek⟩ : ∃ k, k = Tree.half n := ⟨_, rfl⟩
      have hk1 : 0 < k := by rw [ek]; exact Tree.half_pos n
      have hk2 : k < n := by rw [ek]; exact Tree.half_lt h2'
      have er := Tree.depth_two (i := i) h2'
      rw [← ek] at er
      have EK := hide ek
      have HIH := hide ih
      clear ek ih
      by_cases hik : i < k
      · have hik' : (i : Int) < k := by omega
        rw [if_pos hik] at er
        have hb := Tree.depth_le k i hk1 hik
        obtain ⟨D, eD⟩ : ∃ D, D = Tree.depth k i := ⟨_, rfl⟩
        rw [← eD] at er hb
        rw [er]
        have ED := hide eD
        clear eD er
        go_enter Try.func46, Try.ntmps46
        go_wp2_with fail
        refine (firstSide_any n w h2' h64).mono ?_
        rintro e w1 ⟨rfl, rfl⟩
        rw [← unhide EK]
        go_wp2_with fail
        refine (unhide HIH k hk2 i _ hk1 (by omega) hik).mono ?_
        rintro e w2 ⟨rfl, rfl⟩
        rw [← unhide ED]
        go_wp2
        go_ret
        exact ⟨by simp [Int.add_comm], rfl⟩
      · have hik' : ¬ (i : Int) < k := by omega
        rw [if_neg hik] at er
        have hb := Tree.depth_le (n - k) (i - k) (by omega) (by omega)
        obtain ⟨D, eD⟩ : ∃ D, D = Tree.depth (n - k) (i - k) := ⟨_, rfl⟩
        rw [← eD] at er hb
        rw [er]
        obtain ⟨n2, e2⟩ : ∃ n2 : Nat, (n : Int) - k = (n2 : Int) := ⟨n - k, by omega⟩
        obtain ⟨i2, e3⟩ : ∃ i2 : Nat, (i : Int) - k = (i2 : Int) := ⟨i - k, by omega⟩
        have e2' : n - k = n2 := by omega
        have e3' : i - k = i2 := by omega
        rw [e2', e3'] at eD
        have ED := hide eD
        clear eD er e2' e3'
        go_enter Try.func46, Try.ntmps46
        go_wp2_with fail
        refine (firstSide_any n w h2' h64).mono ?_
        rintro e w1 ⟨rfl, rfl⟩
        rw [← unhide EK]
        go_wp2_with fail
        refine (unhide HIH n2 (by omega) i2 _ (by omega) (by omega) (by omega)).mono ?_
        rintro e w2 ⟨rfl, rfl⟩
        rw [← unhide ED]
        go_wp2
        go_ret
        exact ⟨by simp [Int.add_comm], rfl⟩
theorem rootP_row {l : List Nat} (h1 : 1 ≤ l.length) (h64 : l.length ≤ 64) (hm : Tree.May l) : rootP (nint l) = (((Tree.root l : Nat) : Int), 0) := by
  have hs : Sls (nint l) := by
    intro x hx
    unfold nint at hx
    obtain ⟨y, hy, rfl⟩ := List.mem_map.1 hx
    have := hm y hy
    exact ⟨by omega, by omega⟩
  have hn : nats (nint l) = l := by
    unfold nats nint
    rw [List.map_map]
    conv => rhs; rw [← List.map_id l]
    refine List.map_congr_left fun x hx => ?_
    simp
  have e : rootP (nint l) = (((Tree.root (nats (nint l)) : Nat) : Int), 0) := if_pos ⟨by rw [nint_len]; exact h1, by rw [nint_len]; exact h64, hs⟩
  rw [e, hn]
set_option maxRecDepth 100000 in
set_option maxHeartbeats 4000000 in
theorem proofsides_any : ∀ (n i : Nat) (a : Option Addr) (c : Nat) (l : List Nat) (w : World), 1 ≤ n → n ≤ 64 → i < n → Ints w a n c (nint l) → Tree.May l →
    Calls Try.prog 44 #[.slice a n c, .int .i64 i] w fun e w' => ∃ v, e = .returned v ∧ OwnL w' w.heap.size 3 v ((nint (Tree.path l i)).map (Value.int .i64)) ∧ Below w.heap.size w w' := by
  intro n
  induction n using Nat.strongRecOn with
  | ind n ih =>
    intro i a c l w h1 h64 hi hI hm
    obtain ⟨hc, b, o, rfl⟩ := hI.cap (by omega)
    have hl : l.length = n := by rw [← nint_len]; exact hI.1
    by_cases h2 : n = 1
    · subst h2
      have er : Tree.path l i = [] := by
        match l, hl with
        | [x], _ => rfl
      rw [er]
      clear ih hI
      go_enter Try.func44, Try.ntmps44
      go_wp2
      go_ret
      exact ⟨_, rfl, OwnL.nil _ _ _, Below.refl _ _⟩
    · have h2' : 2 ≤ n := by omega
      have t1 : ((n : Int) == 1) = false := by simp; omega
      obtain ⟨k, ek⟩ : ∃ k, k = Tree.half n := ⟨_, rfl⟩
      have hk1 : 0 < k := by rw [ek]; exact Tree.half_pos n
      have hk2 : k < n := by rw [ek]; exact Tree.half_lt h2'
      have er := Tree.path_two (l := l) i (by omega)
      rw [hl, ← ek] at er
      have hmt : Tree.May (l.take k) := fun y hy => hm y (List.mem_of_mem_take hy)
      have hmd : Tree.May (l.drop k) := fun y hy => hm y (List.mem_of_mem_drop hy)
      have it : nint (l.take k) = (nint l).take k := by simp [nint, List.map_take]
      have id' : nint (l.drop k) = (nint l).drop k := by simp [nint, List.map_drop]
      have hIt := hI.first (k := k) (by omega)
      have hId := hI.rest (k := k) hk2
      rw [← it] at hIt
      rw [← id'] at hId
      have rt := rootP_row (l := l.take k) (by rw [List.length_take]; omega) (by rw [List.length_take]; omega) hmt
      have rd := rootP_row (l := l.drop k) (by rw [List.length_drop]; omega) (by rw [List.length_drop]; omega) hmd
      have HT := hide hIt
      have HD := hide hId
      have EK := hide ek
      have HIH := hide ih
      have HMT := hide hmt
      have HMD := hide hmd
      clear hI hIt hId ek ih hm hmt hmd it id'
      have hk1' : (0 : Int) ≤ k := by omega
      have hkc : (k : Int) ≤ c := by omega
      have hkcn : k ≤ c := by omega
      have hkn : (k : Int) ≤ n := by omega
      have hcne : ¬ c = k := by omega
      by_cases hik : i < k
      · have hik' : ¬ (k : Int) ≤ i := by omega
        rw [if_pos hik] at er
        obtain ⟨P, eP⟩ : ∃ P, P = Tree.path (l.take k) i := ⟨_, rfl⟩
        have hbp : P.length < 64 := by
          rw [eP, Tree.path_len k (l.take k) i (by rw [List.length_take]; omega) hk1]
          have := Tree.depth_le k i hk1 hik
          omega
        rw [← eP] at er
        obtain ⟨y, ey⟩ : ∃ y, y = Tree.root (l.drop k) := ⟨_, rfl⟩
        rw [← ey] at er rd
        have ER := hide er
        have EP := hide eP
        have RD := hide rd
        clear er eP rt rd ey
        go_enter Try.func44, Try.ntmps44
        go_wp2_with fail
        refine (firstSide_any n w h2' h64).mono ?_
        rintro e w1 ⟨rfl, rfl⟩
        rw [← unhide EK]
        go_upto_region 4 with fail
        refine wp_region_ord (S := Below w1.heap.size w1) [(true, 0), (true, 1), (true, 2), (true, 3), (true, 4), (true, 5), (true, 6), (true, 7), (true, 8), (true, 9)] (by kernel_rfl) (by kernel_rfl) (by kernel_rfl) (by kernel_rfl) ((Below.refl _ _).drew) ?_
        simp only [withOps, List.map_cons, List.map_nil, List.getElem?_cons_succ, List.getElem?_cons_zero]
        repeat (refine walkH_read (by rfl) (by (intro gx; go_simp; try (with_reducible rfl))) ?_; try simp only [Act.put, List.setIfInBounds_toArray, List.set_cons_zero, List.set_cons_succ])
        refine (show walkH _ _ _ _ [] _ _ from NoPanic.normal ?_)
        go_wp2_with fail
        refine (treeRoot_any _ _ _ (nint (l.drop k)) w1.drew ((unhide HD).below ((Below.refl _ _).drew)) (by omega)).mono ?_
        rintro e w2 ⟨rfl, b2⟩
        rw [unhide RD]
        have hb2 : Below w1.heap.size w1 w2 := ((Below.refl _ _).drew).trans b2
        have HB := hide hb2
        replace HT := hide ((unhide HT).below hb2)
        clear b2 hb2
        go_wp2_with fail
        refine (unhide HIH k hk2 i _ _ (l.take k) _ hk1 (by omega) hik (unhide HT) (unhide HMT)).mono ?_
        rintro e w3 ⟨v2, rfl, O2, b3⟩
        rw [← unhide EP] at O2
        replace O2 := O2.mono (unhide HB).size
        obtain ⟨p2, c2, ev⟩ := O2.form
        rw [List.length_map, nint_len] at ev
        subst ev
        have HO := hide O2
        replace HB := hide (bt (unhide HB) b3)
        have hs3 := (unhide HB).size
        clear O2 b3
        go_wp2_with (at_builtin; refine wpList_push w3 (by rfl) (.tmp 43) (.tmp 45) 26 (by rfl) w1.heap.size 3 (.int .i64 0) 8 Try.underlying26 Try.infoInt rfl _ _ (by rfl) (unhide HO) _ (by rfl) (by rfl) (by simp [nint_len]; omega) (by omega) hs3 ?_; intro v4 w4 O4 P4; have HB4 := hide (P4.below (unhide HO) (unhide HB) (Nat.le_refl _) hs3); have HO4 := hide O4; clear O4 P4 HO HB)
        go_ret
        refine ⟨_, rfl, ?_, unhide HB4⟩
        rw [unhide ER]
        have := unhide HO4
        simpa [nint] using this
      · have hik' : (k : Int) ≤ i := by omega
        rw [if_neg hik] at er
        obtain ⟨i2, e3⟩ : ∃ i2 : Nat, (i : Int) - k = (i2 : Int) := ⟨i - k, by omega⟩
        have e3' : i - k = i2 := by omega
        rw [e3'] at er
        obtain ⟨P, eP⟩ : ∃ P, P = Tree.path (l.drop k) i2 := ⟨_, rfl⟩
        have hbp : P.length < 64 := by
          rw [eP, Tree.path_len (n - k) (l.drop k) i2 (by rw [List.length_drop]; omega) (by omega)]
          have := Tree.depth_le (n - k) i2 (by omega) (by omega)
          omega
        rw [← eP] at er
        obtain ⟨y, ey⟩ : ∃ y, y = Tree.root (l.take k) := ⟨_, rfl⟩
        rw [← ey] at er rt
        have ER := hide er
        have EP := hide eP
        have RT := hide rt
        have w2i : IntKind.wrap .i64 ((i2 : Nat) : Int) = (i2 : Int) := by simp only [IntKind.wrap_i64]; omega
        clear er eP rt rd ey e3'
        go_enter Try.func44, Try.ntmps44
        go_wp2_with fail
        refine (firstSide_any n w h2' h64).mono ?_
        rintro e w1 ⟨rfl, rfl⟩
        rw [← unhide EK]
        go_upto_region 4 with fail
        refine wp_region_ord (S := Below w1.heap.size w1) [(true, 0), (true, 1), (true, 2), (true, 3), (true, 4), (true, 5), (true, 6), (true, 7), (true, 8), (true, 9)] (by kernel_rfl) (by kernel_rfl) (by kernel_rfl) (by kernel_rfl) ((Below.refl _ _).drew) ?_
        simp only [withOps, List.map_cons, List.map_nil, List.getElem?_cons_succ, List.getElem?_cons_zero]
        repeat (refine walkH_read (by rfl) (by (intro gx; go_simp; try (with_reducible rfl))) ?_; try simp only [Act.put, List.setIfInBounds_toArray, List.set_cons_zero, List.set_cons_succ])
        refine (show walkH _ _ _ _ [] _ _ from NoPanic.normal ?_)
        go_upto_region 6 with fail
        refine wp_region_ord (S := Below w1.heap.size w1) [(true, 0), (true, 1), (true, 2), (true, 3), (true, 4), (true, 5), (true, 6), (true, 7), (true, 8), (true, 9), (true, 10), (true, 11)] (by kernel_rfl) (by kernel_rfl) (by kernel_rfl) (by kernel_rfl) ((Below.refl _ _).drew.drew) ?_
        simp only [withOps, List.map_cons, List.map_nil, List.getElem?_cons_succ, List.getElem?_cons_zero]
        repeat (refine walkH_read (by rfl) (by (intro gx; go_simp; try (with_reducible rfl))) ?_; try simp only [Act.put, List.setIfInBounds_toArray, List.set_cons_zero, List.set_cons_succ])
        refine (show walkH _ _ _ _ [] _ _ from NoPanic.normal ?_)
        go_wp2_with fail
        refine (treeRoot_any _ _ _ (nint (l.take k)) w1.drew.drew ((unhide HT).below ((Below.refl _ _).drew.drew)) (by omega)).mono ?_
        rintro e w2 ⟨rfl, b2⟩
        rw [unhide RT]
        have hb2 : Below w1.heap.size w1 w2 := ((Below.refl _ _).drew.drew).trans b2
        have HB := hide hb2
        replace HD := hide ((unhide HD).below hb2)
        clear b2 hb2
        go_wp2_with fail
        refine (unhide HIH (n - k) (by omega) i2 _ _ (l.drop k) _ (by omega) (by omega) (by omega) (unhide HD) (unhide HMD)).mono ?_
        rintro e w3 ⟨v2, rfl, O2, b3⟩
        rw [← unhide EP] at O2
        replace O2 := O2.mono (unhide HB).size
        obtain ⟨p2, c2, ev⟩ := O2.form
        rw [List.length_map, nint_len] at ev
        subst ev
        have HO := hide O2
        replace HB := hide (bt (unhide HB) b3)
        have hs3 := (unhide HB).size
        clear O2 b3
        go_wp2_with (at_builtin; refine wpList_push w3 (by rfl) (.tmp 43) (.tmp 45) 26 (by rfl) w1.heap.size 3 (.int .i64 0) 8 Try.underlying26 Try.infoInt rfl _ _ (by rfl) (unhide HO) _ (by rfl) (by rfl) (by simp [nint_len]; omega) (by omega) hs3 ?_; intro v4 w4 O4 P4; have HB4 := hide (P4.below (unhide HO) (unhide HB) (Nat.le_refl _) hs3); have HO4 := hide O4; clear O4 P4 HO HB)
        go_ret
        refine ⟨_, rfl, ?_, unhide HB4⟩
        rw [unhide ER]
        have := unhide HO4
        simpa [nint] using this
set_option maxRecDepth 100000 in
set_option maxHeartbeats 4000000 in
theorem proofclimb_any : ∀ (n i a : Nat) (p : List Nat) (q : Option Addr) (m c : Nat) (w : World), 1 ≤ n → n ≤ 64 → i < n → a < 2147483647 → Ints w q m c (nint p) → Tree.May p → m = Tree.depth n i →
    Calls Try.prog 47 #[.int .i64 n, .int .i64 i, .int .i64 a, .slice q m c] w fun e w' => e = .returned (.int .i64 (Tree.climb n i a p : Nat)) ∧ Below w.heap.size w w' := by
  intro n
  induction n using Nat.strongRecOn with
  | ind n ih =>
    intro i a p q m c w h1 h64 hi ha hI hm hd
    have hl : p.length = m := by rw [← nint_len]; exact hI.1
    by_cases h2 : n = 1
    · subst h2
      rw [Tree.climb_one]
      clear ih hI hd ha
      go_enter Try.func47, Try.ntmps47
      go_wp2
      go_ret
      exact ⟨rfl, Below.refl _ _⟩
    · have h2' : 2 ≤ n := by omega
      have t1 : ((n : Int) == 1) = false := by simp; omega
      have hdl := Tree.depth_le n i h1 hi
      rw [← hd] at hdl
      obtain ⟨k, ek⟩ : ∃ k, k = Tree.half n := ⟨_, rfl⟩
      have hk1 : 0 < k := by rw [ek]; exact Tree.half_pos n
      have hk2 : k < n := by rw [ek]; exact Tree.half_lt h2'
      rw [Tree.depth_two h2', ← ek] at hd
      have er := Tree.climb_two i a p h2'
      rw [← ek, hl] at er
      have hm1 : 1 ≤ m := by split at hd <;> omega
      obtain ⟨T, eT⟩ : ∃ T : Nat, (m : Int) - 1 = (T : Int) := ⟨m - 1, by omega⟩
      have eT' : m - 1 = T := by omega
      have hTm : T < m := by omega
      rw [eT'] at er
      obtain ⟨hc, b, o, rfl⟩ := hI.cap (by omega)
      have cT : w.cell? ⟨b, o + T, none⟩ = some (.int .i64 ((p.getD T 0 : Nat) : Int)) := by
        rcases hI.2 with ⟨e, _⟩ | ⟨e, _⟩ | ⟨_, _, b', o', e, hcell⟩
        · simp at e
        · omega
        · simp only [Option.some.injEq, Addr.mk.injEq, and_true] at e
          obtain ⟨rfl, rfl⟩ := e
          have : w.cell? ⟨b, o + T, none⟩ = some (.int .i64 ((nint p).getD T 0)) := hcell T hTm
          rw [nint_at] at this
          exact this
      have hIt := hI.first (k := T) (by omega)
      have it : nint (p.take T) = (nint p).take T := by simp [nint, List.map_take]
      rw [← it] at hIt
      have hmt : Tree.May (p.take T) := fun y hy => hm y (List.mem_of_mem_take hy)
      have hyl : p.getD T 0 < 2147483647 := by
        have e : p.getD T 0 = p[T]'(by omega) := by simp [List.getD, List.getElem?_eq_getElem (show T < p.length by omega)]
        rw [e]; exact hm _ (List.getElem_mem _)
      obtain ⟨y, ey⟩ : ∃ y, y = p.getD T 0 := ⟨_, rfl⟩
      rw [← ey] at hyl cT er
      have HT := hide hIt
      have EK := hide ek
      have HIH := hide ih
      have HMT := hide hmt
      have HA := hide ha
      have HY := hide hyl
      have hT1 : (0 : Int) ≤ T := by omega
      have hTc : (T : Int) ≤ c := by omega
      have hTc' : T ≤ c := by omega
      have hTm' : (T : Int) < m := by omega
      have wT : IntKind.wrap .i64 ((T : Nat) : Int) = (T : Int) := by simp only [IntKind.wrap_i64]; omega
      clear hI hIt ek ih hm hmt it ha hyl ey eT'
      by_cases hik : i < k
      · have hik' : (i : Int) < k := by omega
        rw [if_pos hik] at er hd
        have hd' : T = Tree.depth k i := by omega
        have hxl : Tree.climb k i a (p.take T) < 2147483647 := Tree.climb_lt hk1 (unhide HA)
        obtain ⟨X, eX⟩ : ∃ X, X = Tree.climb k i a (p.take T) := ⟨_, rfl⟩
        rw [← eX] at er hxl
        have ER := hide er
        have EX := hide eX
        have HX := hide hxl
        have HD := hide hd'
        clear er eX hxl hd hd'
        go_enter Try.func47, Try.ntmps47
        have kT := kept_cell (B := w.heap.size) cT (cell_lt cT)
        clear cT
        go_upto_region 3 with fail
        refine wp_region_ord (S := Below w.heap.size w) [(true, 0), (true, 1), (true, 2), (true, 3), (true, 4), (true, 5), (true, 6), (true, 7), (true, 8), (true, 9), (true, 10), (true, 11), (true, 12)] (by kernel_rfl) (by kernel_rfl) (by kernel_rfl) (by kernel_rfl) ((Below.refl _ _).drew) ?_
        simp only [withOps, List.map_cons, List.map_nil, List.getElem?_cons_succ, List.getElem?_cons_zero]
        repeat (refine walkH_read (by rfl) (by (intro gx; go_simp; try (with_reducible rfl))) ?_; try simp only [Act.put, List.setIfInBounds_toArray, List.set_cons_zero, List.set_cons_succ])
        refine (show walkH _ _ _ _ [] _ _ from NoPanic.normal ?_)
        go_wp2_with fail
        refine (firstSide_any n w.drew h2' h64).mono ?_
        rintro e w1 ⟨rfl, rfl⟩
        rw [← unhide EK]
        replace HT := hide ((unhide HT).below ((Below.refl _ _).drew))
        go_wp2_with fail
        refine (unhide HIH k hk2 i a (p.take T) _ T c _ hk1 (by omega) hik (unhide HA) (unhide HT) (unhide HMT) (unhide HD)).mono ?_
        rintro e w2 ⟨rfl, b2⟩
        rw [← unhide EX]
        have hb2 : Below w.heap.size w w2 := ((Below.refl _ _).drew).trans b2
        have HB := hide hb2
        clear b2 hb2
        go_wp2_with fail
        refine (sealPair_any X y w2 (wf_nat (unhide HX)) (wf_nat (unhide HY))).mono ?_
        rintro e w4 ⟨rfl, rfl⟩
        have ep : Seal.pair (X : Int) (y : Int) = Tree.climb n i a p := by
          rw [unhide ER]
          unfold Seal.pair
          rw [Seal.md_small (unhide HX), Seal.md_small (unhide HY)]
        rw [ep]
        go_wp2
        go_ret
        exact ⟨rfl, unhide HB⟩
      · have hik' : ¬ (i : Int) < k := by omega
        rw [if_neg hik] at er hd
        obtain ⟨n2, e2⟩ : ∃ n2 : Nat, (n : Int) - k = (n2 : Int) := ⟨n - k, by omega⟩
        obtain ⟨i2, e3⟩ : ∃ i2 : Nat, (i : Int) - k = (i2 : Int) := ⟨i - k, by omega⟩
        have e2' : n - k = n2 := by omega
        have e3' : i - k = i2 := by omega
        rw [e2', e3'] at er hd
        have hd' : T = Tree.depth n2 i2 := by omega
        have hxl : Tree.climb n2 i2 a (p.take T) < 2147483647 := Tree.climb_lt (by omega) (unhide HA)
        obtain ⟨X, eX⟩ : ∃ X, X = Tree.climb n2 i2 a (p.take T) := ⟨_, rfl⟩
        rw [← eX] at er hxl
        have ER := hide er
        have EX := hide eX
        have HX := hide hxl
        have HD := hide hd'
        have w2n : IntKind.wrap .i64 ((n2 : Nat) : Int) = (n2 : Int) := by simp only [IntKind.wrap_i64]; omega
        have w2i : IntKind.wrap .i64 ((i2 : Nat) : Int) = (i2 : Int) := by simp only [IntKind.wrap_i64]; omega
        clear er eX hxl hd hd' e2' e3'
        go_enter Try.func47, Try.ntmps47
        have kT := kept_cell (B := w.heap.size) cT (cell_lt cT)
        clear cT
        go_upto_region 3 with fail
        refine wp_region_ord (S := Below w.heap.size w) [(true, 0), (true, 1), (true, 2), (true, 3), (true, 4), (true, 5), (true, 6), (true, 7), (true, 8), (true, 9), (true, 10), (true, 11), (true, 12)] (by kernel_rfl) (by kernel_rfl) (by kernel_rfl) (by kernel_rfl) ((Below.refl _ _).drew) ?_
        simp only [withOps, List.map_cons, List.map_nil, List.getElem?_cons_succ, List.getElem?_cons_zero]
        repeat (refine walkH_read (by rfl) (by (intro gx; go_simp; try (with_reducible rfl))) ?_; try simp only [Act.put, List.setIfInBounds_toArray, List.set_cons_zero, List.set_cons_succ])
        refine (show walkH _ _ _ _ [] _ _ from NoPanic.normal ?_)
        go_wp2_with fail
        refine (firstSide_any n w.drew h2' h64).mono ?_
        rintro e w1 ⟨rfl, rfl⟩
        rw [← unhide EK]
        replace HT := hide ((unhide HT).below ((Below.refl _ _).drew))
        go_wp2_with fail
        refine (unhide HIH n2 (by omega) i2 a (p.take T) _ T c _ (by omega) (by omega) (by omega) (unhide HA) (unhide HT) (unhide HMT) (unhide HD)).mono ?_
        rintro e w2 ⟨rfl, b2⟩
        rw [← unhide EX]
        have hb2 : Below w.heap.size w w2 := ((Below.refl _ _).drew).trans b2
        have HB := hide hb2
        clear b2 hb2
        go_wp2_with fail
        refine (sealPair_any y X w2 (wf_nat (unhide HY)) (wf_nat (unhide HX))).mono ?_
        rintro e w4 ⟨rfl, rfl⟩
        have ep : Seal.pair (y : Int) (X : Int) = Tree.climb n i a p := by
          rw [unhide ER]
          unfold Seal.pair
          rw [Seal.md_small (unhide HX), Seal.md_small (unhide HY)]
        rw [ep]
        go_wp2
        go_ret
        exact ⟨rfl, unhide HB⟩
set_option maxRecDepth 100000 in
set_option maxHeartbeats 2000000 in
theorem proofPath_any (a : Option Addr) (n c : Nat) (xs : List Int) (i : Int) (w : World) (hI : Ints w a n c xs) (hn : n ≤ 140737488351232) :
    Calls Try.prog 37 #[.slice a n c, .int .i64 i] w fun e w' => ∃ v, e = .returned (.tuple #[v, .int .i64 (pathP xs i).2]) ∧ OwnL w' w.heap.size 3 v ((pathP xs i).1.map (Value.int .i64)) ∧ Below w.heap.size w w' := by
  have hl := hI.1
  have HI := hide hI
  clear hI
  by_cases hR : RMay xs
  · have e : rootP xs = (((Tree.root (nats xs) : Nat) : Int), 0) := if_pos hR
    obtain ⟨R, eR⟩ : ∃ R : Int, R = ((Tree.root (nats xs) : Nat) : Int) := ⟨_, rfl⟩
    rw [← eR] at e
    have E := hide e
    clear e eR
    by_cases h3 : i < 0
    · rw [pathP_no (fun h => by have := h.2.1; omega)]
      clear hR
      go_enter Try.func37, Try.ntmps37
      go_wp2_with fail
      refine (treeRoot_any _ _ _ xs w (unhide HI) hn).mono ?_
      rintro e w1 ⟨rfl, b1⟩
      rw [unhide E]
      have HB := hide b1
      clear b1
      go_wp2
      go_ret2
      exact ⟨_, rfl, OwnL.nil _ _ _, unhide HB⟩
    · by_cases h4 : (n : Int) ≤ i
      · rw [pathP_no (fun h => by have := h.2.2; omega)]
        clear hR
        go_enter Try.func37, Try.ntmps37
        go_wp2_with fail
        refine (treeRoot_any _ _ _ xs w (unhide HI) hn).mono ?_
        rintro e w1 ⟨rfl, b1⟩
        rw [unhide E]
        have HB := hide b1
        clear b1
        go_wp2
        go_ret2
        exact ⟨_, rfl, OwnL.nil _ _ _, unhide HB⟩
      · have hP : PMay xs i := ⟨hR, by omega, by omega⟩
        rw [pathP_yes hP]
        obtain ⟨j, rfl⟩ : ∃ j : Nat, i = (j : Int) := ⟨i.toNat, by omega⟩
        have hX : nint (nats xs) = xs := nats_back hR.2.2
        have hM := nats_may hR.2.2
        have HX := hide hX
        have HM := hide hM
        have hn1 : 1 ≤ n := by have := hR.1; omega
        have hn64 : n ≤ 64 := by have := hR.2.1; omega
        clear hP hX hR hM
        rw [Int.toNat_natCast]
        obtain ⟨P, eP⟩ : ∃ P, P = nint (Tree.path (nats xs) j) := ⟨_, rfl⟩
        rw [← eP]
        have EP := hide eP
        clear eP
        go_enter Try.func37, Try.ntmps37
        go_wp2_with fail
        refine (treeRoot_any _ _ _ xs w (unhide HI) hn).mono ?_
        rintro e w1 ⟨rfl, b1⟩
        rw [unhide E]
        have HB := hide b1
        replace HI := hide ((unhide HI).below b1)
        clear b1
        go_wp2_with fail
        refine (proofsides_any n j _ _ (nats xs) _ hn1 hn64 (by omega) (by rw [unhide HX]; exact unhide HI) (unhide HM)).mono ?_
        rintro e w2 ⟨v, rfl, O2, b2⟩
        rw [← unhide EP] at O2
        replace O2 := O2.mono (unhide HB).size
        replace HB := hide (bt (unhide HB) b2)
        obtain ⟨p2, c2, ev⟩ := O2.form
        rw [List.length_map] at ev
        subst ev
        have HO := hide O2
        clear O2 b2
        go_wp2
        go_ret2
        exact ⟨_, rfl, unhide HO, unhide HB⟩
  · have e : rootP xs = (0, 1000) := if_neg hR
    rw [pathP_no (fun h => hR h.1)]
    have E := hide e
    clear e hR
    go_enter Try.func37, Try.ntmps37
    go_wp2_with fail
    refine (treeRoot_any _ _ _ xs w (unhide HI) hn).mono ?_
    rintro e w1 ⟨rfl, b1⟩
    rw [unhide E]
    have HB := hide b1
    clear b1
    go_wp2
    go_ret2
    exact ⟨_, rfl, OwnL.nil _ _ _, unhide HB⟩
set_option maxRecDepth 100000 in
set_option maxHeartbeats 4000000 in
theorem proofCheck_any (r n i a : Int) (q : Option Addr) (m c : Nat) (p : List Int) (w : World) (hI : Ints w q m c p) (hm : m ≤ 140737488351232) :
    Calls Try.prog 41 #[.int .i64 r, .int .i64 n, .int .i64 i, .int .i64 a, .slice q m c] w fun e w' => e = .returned (.bool (decide (Chk r n i a p))) ∧ Below w.heap.size w w' := by
  have hl := hI.1
  have HI := hide hI
  clear hI
  by_cases c1 : n < 1
  · have hno : ¬ Chk r n i a p := fun h => by have := h.1; omega
    have HN := hide hno
    clear hno
    go_enter Try.func41, Try.ntmps41
    go_wp2
    go_ret
    exact ⟨chk_false (unhide HN) rfl, Below.refl _ _⟩
  by_cases c2 : 64 < n
  · have hno : ¬ Chk r n i a p := fun h => by have := h.2.1; omega
    have HN := hide hno
    clear hno
    go_enter Try.func41, Try.ntmps41
    go_wp2
    go_ret
    exact ⟨chk_false (unhide HN) rfl, Below.refl _ _⟩
  by_cases c3 : i < 0
  · have hno : ¬ Chk r n i a p := fun h => by have := h.2.2.1; omega
    have HN := hide hno
    clear hno
    go_enter Try.func41, Try.ntmps41
    go_wp2
    go_ret
    exact ⟨chk_false (unhide HN) rfl, Below.refl _ _⟩
  by_cases c4 : n ≤ i
  · have hno : ¬ Chk r n i a p := fun h => by have := h.2.2.2.1; omega
    have HN := hide hno
    clear hno
    go_enter Try.func41, Try.ntmps41
    go_wp2
    go_ret
    exact ⟨chk_false (unhide HN) rfl, Below.refl _ _⟩
  obtain ⟨N, rfl⟩ : ∃ N : Nat, n = (N : Int) := ⟨n.toNat, by omega⟩
  obtain ⟨J, rfl⟩ : ∃ J : Nat, i = (J : Int) := ⟨i.toNat, by omega⟩
  have hmb := Tree.depth_le N J (by omega) (by omega)
  obtain ⟨D, eD⟩ : ∃ D, D = Tree.depth N J := ⟨_, rfl⟩
  rw [← eD] at hmb
  by_cases c7 : m = D
  case neg =>
    have hno : ¬ Chk r N J a p := fun h => by
      have := h.2.2.2.2.2.2.2.1
      rw [Int.toNat_natCast, Int.toNat_natCast, ← eD] at this
      omega
    have HN := hide hno
    have ED := hide eD
    have t7 : ((m : Int) != (D : Int)) = true := by simp; omega
    clear hno eD
    go_enter Try.func41, Try.ntmps41
    go_wp2_with (go_at_call 46; refine (proofsteps_any N J _ (by omega) (by omega) (by omega)).mono ?_; rintro e w' ⟨rfl, rfl⟩; rw [← unhide ED])
    go_ret
    exact ⟨chk_false (unhide HN) rfl, Below.refl _ _⟩
  subst c7
  have t7 : ((m : Int) != (m : Int)) = false := by simp
  by_cases c5 : Sl a
  case neg =>
    have hno : ¬ Chk r N J a p := fun h => c5 h.2.2.2.2.1
    have HN := hide hno
    have d5 : decide (¬ Sl a) = true := decide_eq_true c5
    have ED := hide eD
    clear hno c5 eD
    go_enter Try.func41, Try.ntmps41
    go_wp2_with (first | (go_at_call 46; refine (proofsteps_any N J _ (by omega) (by omega) (by omega)).mono ?_; rintro e w' ⟨rfl, rfl⟩; rw [← unhide ED]) | (go_at_call 34; refine (treeOutside_any a _).mono ?_; rintro e w' ⟨rfl, rfl⟩; rw [d5]))
    go_ret
    exact ⟨chk_false (unhide HN) rfl, Below.refl _ _⟩
  have d5 : decide (¬ Sl a) = false := decide_eq_false (fun h => h c5)
  by_cases c6 : Sls p
  case neg =>
    have hno : ¬ Chk r N J a p := fun h => c6 h.2.2.2.2.2.1
    have HN := hide hno
    have d6 : decide (¬ Sls p) = true := decide_eq_true c6
    have ED := hide eD
    clear hno c5 c6 eD
    go_enter Try.func41, Try.ntmps41
    go_wp2_with (first | (go_at_call 46; refine (proofsteps_any N J _ (by omega) (by omega) (by omega)).mono ?_; rintro e w' ⟨rfl, rfl⟩; rw [← unhide ED]) | (go_at_call 34; refine (treeOutside_any a _).mono ?_; rintro e w' ⟨rfl, rfl⟩; rw [d5]) | (go_at_call 33; refine (containsInt_any _ _ _ p _ (unhide HI) (by omega)).mono ?_; rintro e w' ⟨rfl, rfl⟩; rw [d6]))
    go_ret
    exact ⟨chk_false (unhide HN) rfl, Below.refl _ _⟩
  have d6 : decide (¬ Sls p) = false := decide_eq_false (fun h => h c6)
  obtain ⟨A, rfl⟩ : ∃ A : Nat, a = (A : Int) := ⟨a.toNat, by have := c5.1; omega⟩
  have hA : A < 2147483647 := by have := c5.2; omega
  have hX : nint (nats p) = p := nats_back c6
  have hmm := nats_may c6
  have hchk : decide (Chk r N J A p) = (((Tree.climb N J A (nats p) : Nat) : Int) == r) := by
    have : Chk r N J A p ↔ ((Tree.climb N J A (nats p) : Nat) : Int) = r := by
      constructor
      · intro h
        have := h.2.2.2.2.2.2.2.2
        simpa using this
      · intro h
        exact ⟨by omega, by omega, by omega, by omega, c5, c6, by omega, by rw [Int.toNat_natCast, Int.toNat_natCast, ← eD]; exact hl, by simpa using h⟩
    rw [decide_eq_decide.2 this]
    by_cases e : ((Tree.climb N J A (nats p) : Nat) : Int) = r
    · rw [decide_eq_true e]; simp [e]
    · rw [decide_eq_false e]; simp [e]
  rw [hchk]
  obtain ⟨X, eX⟩ : ∃ X, X = Tree.climb N J A (nats p) := ⟨_, rfl⟩
  rw [← eX]
  have EX := hide eX
  have ED := hide eD
  have HX := hide hX
  have HM := hide hmm
  have HA := hide hA
  clear eX eD hX hmm c5 c6 hchk hA
  go_enter Try.func41, Try.ntmps41
  go_upto_region 5 with (first | (go_at_call 46; refine (proofsteps_any N J _ (by omega) (by omega) (by omega)).mono ?_; rintro e w' ⟨rfl, hw'⟩; rw [← unhide ED, hw']; clear hw' w') | (go_at_call 34; refine (treeOutside_any (A : Int) _).mono ?_; rintro e w' ⟨rfl, hw'⟩; rw [d5, hw']; clear hw' w') | (go_at_call 33; refine (containsInt_any _ _ _ p _ (unhide HI) (by omega)).mono ?_; rintro e w' ⟨rfl, hw'⟩; rw [d6, hw']; clear hw' w'))
  go_wp2_with fail
  refine (proofclimb_any N J A (nats p) _ _ _ _ (by omega) (by omega) (by omega) (unhide HA) (by rw [unhide HX]; exact unhide HI) (unhide HM) (unhide ED)).mono ?_
  rintro e w2 ⟨rfl, b2⟩
  rw [← unhide EX]
  go_wp2
  go_ret
  exact ⟨rfl, b2⟩
end Go.Proofs.Ytmphbajnadbggab
