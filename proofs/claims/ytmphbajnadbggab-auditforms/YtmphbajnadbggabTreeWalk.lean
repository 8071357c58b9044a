/- The program's trees: Leaves, Root. -/
import Derived.Test.YtmphbajnadbggabTreeRef3
import Derived.Test.YtmphbajnadbggabTreeBits
import Derived.Test.YtmphbajnadbggabSealWalk
namespace Go.Proofs.Ytmphbajnadbggab
open Go.RowKit
set_option linter.unusedVariables false
set_option linter.unusedSimpArgs false
set_option maxRecDepth 100000 in
set_option maxHeartbeats 1000000 in
theorem treeOutside_any (a : Int) (w : World) : Calls Try.prog 34 #[.int .i64 a] w fun e w' => e = .returned (.bool (decide (¬ Sl a))) ∧ w' = w := by
  by_cases h1 : a < 0
  · have e : decide (¬ Sl a) = true := decide_eq_true (fun h => by have := h.1; omega)
    rw [e]
    have t1 : decide (a < (0 : Int)) = true := decide_eq_true h1
    clear e
    go_enter Try.func34, Try.ntmps34
    go_wp2
    go_ret
    exact ⟨rfl, rfl⟩
  · have t1 : decide (a < (0 : Int)) = false := decide_eq_false h1
    by_cases h2 : (2147483647 : Int) ≤ a
    · have e : decide (¬ Sl a) = true := decide_eq_true (fun h => by have := h.2; omega)
      rw [e]
      have t2 : decide ((2147483647 : Int) ≤ a) = true := decide_eq_true h2
      clear e h2
      go_enter Try.func34, Try.ntmps34
      go_wp2
      go_ret
      exact ⟨rfl, rfl⟩
    · have e : decide (¬ Sl a) = false := decide_eq_false (fun h => h ⟨by omega, by omega⟩)
      rw [e]
      have t2 : decide ((2147483647 : Int) ≤ a) = false := decide_eq_false h2
      clear e h2
      go_enter Try.func34, Try.ntmps34
      go_wp2
      go_ret
      exact ⟨rfl, rfl⟩
set_option maxRecDepth 100000 in
set_option maxHeartbeats 1000000 in
theorem indexInt_any (a : Option Addr) (n ca : Nat) (xs : List Int) (w : World) (hI : Ints w a n ca xs) (hn : n ≤ 64) :
    Calls Try.prog 42 #[.slice a n ca, .func (.func 34) #[] #[]] w fun e w' => ∃ r : Int, e = .returned (.int .i64 r) ∧ decide (0 ≤ r) = decide (¬ Sls xs) ∧ w' = w := by
  have hl := hI.1
  have HI := hide hI
  clear hI
  go_enter Try.func42, Try.ntmps42
  go_wp2
  go_loopw [8] (fun iv wr => ∃ i : Nat, i ≤ n ∧ iv = .int .i64 i ∧ wr = w ∧ Hid (Sls (xs.take i))) (fun iv _ => n - (intOf iv).toNat)
  case atStart => exact ⟨0, by omega, rfl, rfl, hide (fun x hx => by simp at hx)⟩
  case round =>
    obtain ⟨i, hi, rfl, hw, HN⟩ := hrel
    subst hw
    by_cases hlt : i < n
    · have hlt' : (i : Int) < n := by omega
      obtain ⟨b, o, rfl, hcell⟩ : ∃ b off, a = some ⟨b, off, none⟩ ∧ ∀ i, i < n → wr.cell? ⟨b, off + i, none⟩ = some (.int .i64 (xs.getD i 0)) := by
        rcases (unhide HI).2.two with h | h
        · omega
        · exact h
      have ci := hcell i hlt
      clear hcell
      obtain ⟨x, ex⟩ : ∃ x, x = xs.getD i 0 := ⟨_, rfl⟩
      rw [← ex] at ci
      have hx : x ∈ xs := by
        have hil : i < xs.length := by omega
        rw [ex, List.getD, List.getElem?_eq_getElem hil]; exact List.getElem_mem hil
      have EX := hide ex
      have HX := hide hx
      clear ex hx
      have hE : ∀ (args : Array Value) (w : World), (callFunc 34 args).run Try.prog w = .ok (.enter 34 args) w := fun args w => rfl
      go_wp2_with fail
      refine (treeOutside_any x _).mono ?_
      rintro e w' ⟨rfl, rfl⟩
      by_cases hs : Sl x
      · rw [decide_eq_false (show ¬ ¬ Sl x from fun h => h hs)]
        go_wp2
        go_roundw
        case rel =>
          refine ⟨i + 1, by omega, by go_num, trivial, hide (fun y hy => ?_)⟩
          have hil : i < xs.length := by omega
          rw [List.take_succ_eq_append_getElem hil] at hy
          rcases List.mem_append.1 hy with h | h
          · exact unhide HN y h
          · rw [List.mem_singleton] at h
            have : x = xs[i] := by rw [unhide EX, List.getD, List.getElem?_eq_getElem hil]; rfl
            rw [h, ← this]; exact hs
        case measure => simp [intOf]; omega
      · rw [decide_eq_true hs]
        go_wp2
        go_ret
        refine ⟨_, rfl, ?_, rfl⟩
        rw [decide_eq_true (by omega)]
        exact (decide_eq_true (show ¬ Sls xs from fun h => hs (h x (unhide HX)))).symm
    · have hlt' : ¬ (i : Int) < n := by omega
      obtain rfl : i = n := by omega
      have hall : Sls xs := by have := unhide HN; rwa [List.take_of_length_le (by omega)] at this
      have HALL := hide hall
      clear hall
      go_wp2
      go_ret
      refine ⟨_, rfl, ?_, rfl⟩
      rw [decide_eq_true (unhide HALL)]
      rfl
set_option maxRecDepth 100000 in
theorem containsInt_any (a : Option Addr) (n ca : Nat) (xs : List Int) (w : World) (hI : Ints w a n ca xs) (hn : n ≤ 64) :
    Calls Try.prog 33 #[.slice a n ca, .func (.func 34) #[] #[]] w fun e w' => e = .returned (.bool (decide (¬ Sls xs))) ∧ w' = w := by
  have H := hide (indexInt_any a n ca xs w hI hn)
  clear hn hI
  go_enter Try.func33, Try.ntmps33
  go_wp2_with fail
  refine (unhide H).mono ?_
  rintro e w' ⟨r, rfl, hr, rfl⟩
  have HR := hide hr
  clear hr
  go_wp2
  go_ret
  refine ⟨?_, rfl⟩
  rw [← unhide HR]; rfl
set_option maxRecDepth 100000 in
set_option maxHeartbeats 2000000 in
theorem treeroot_any : ∀ (n : Nat) (a : Option Addr) (c : Nat) (l : List Nat) (w : World), 1 ≤ n → n ≤ 64 → Ints w a n c (nint l) → Tree.May l → Calls Try.prog 48 #[.slice a n c] w fun e w' => e = .returned (.int .i64 (Tree.root l : Nat)) ∧ Below w.heap.size w w' := by
  intro n
  induction n using Nat.strongRecOn with
  | ind n ih =>
    intro a c l w h1 h64 hI hm
    obtain ⟨hc, b, o, rfl⟩ := hI.cap (by omega)
    have hl : l.length = n := by rw [← nint_len]; exact hI.1
    by_cases h2 : n = 1
    · subst h2
      have c0 : w.cell? ⟨b, o, none⟩ = some (.int .i64 ((l.getD 0 0 : Nat) : Int)) := by
        rcases hI.2 with ⟨e, _⟩ | ⟨e, _⟩ | ⟨_, _, b', o', e, hcell⟩
        · simp at e
        · omega
        · simp only [Option.some.injEq, Addr.mk.injEq, and_true] at e
          obtain ⟨rfl, rfl⟩ := e
          have : w.cell? ⟨b, o + 0, none⟩ = some (.int .i64 ((nint l).getD 0 0)) := hcell 0 (by omega)
          rw [nint_at] at this
          exact this
      have er : Tree.root l = l.getD 0 0 := by
        match l, hl with
        | [x], _ => rfl
      rw [er]
      obtain ⟨x, ex⟩ : ∃ x, x = l.getD 0 0 := ⟨_, rfl⟩
      rw [← ex] at c0 ⊢
      clear ex er hI ih
      go_enter Try.func48, Try.ntmps48
      go_wp2
      go_ret
      exact ⟨rfl, Below.refl _ _⟩
    · have h2' : 2 ≤ n := by omega
      have t1 : ((n : Int) == 1) = false := by simp; omega
      obtain ⟨k, ek⟩ : ∃ k, k = Tree.half n := ⟨_, rfl⟩
      have hk1 : 0 < k := by rw [ek]; exact Tree.half_pos n
      have hk2 : k < n := by rw [ek]; exact Tree.half_lt h2'
      have er := Tree.root_two (l := l) (by omega)
      rw [hl, ← ek] at er
      have hmt : Tree.May (l.take k) := fun y hy => hm y (List.mem_of_mem_take hy)
      have hmd : Tree.May (l.drop k) := fun y hy => hm y (List.mem_of_mem_drop hy)
      have it : nint (l.take k) = (nint l).take k := by simp [nint, List.map_take]
      have id' : nint (l.drop k) = (nint l).drop k := by simp [nint, List.map_drop]
      have nt : l.take k ≠ [] := fun e => by have := congrArg List.length e; rw [List.length_take, List.length_nil] at this; omega
      have nd : l.drop k ≠ [] := fun e => by have := congrArg List.length e; rw [List.length_drop, List.length_nil] at this; omega
      have hx1 := Tree.root_lt nt hmt
      have hx2 := Tree.root_lt nd hmd
      have HI := hide hI
      have EK := hide ek
      have ERR := hide er
      have HIH := hide ih
      have HMT := hide hmt
      have HMD := hide hmd
      clear hI ek er ih hm hmt hmd nt nd
      have hk1' : (0 : Int) ≤ k := by omega
      have hkc : (k : Int) ≤ c := by omega
      have hkcn : k ≤ c := by omega
      have hkn : (k : Int) ≤ n := by omega
      have hcne : ¬ c = k := by omega
      go_enter Try.func48, Try.ntmps48
      go_wp2_with fail
      refine (firstSide_any n w h2' h64).mono ?_
      rintro e w1 ⟨rfl, rfl⟩
      rw [← unhide EK]
      go_upto_region 4 with fail
      refine wp_region_ord (S := Below w1.heap.size w1) [(true, 0), (true, 1), (true, 2), (true, 4), (true, 5), (true, 6), (false, 3), (false, 7), (false, 8), (true, 9)] (by kernel_rfl) (by kernel_rfl) (by kernel_rfl) (by kernel_rfl) ((Below.refl _ _).drew) ?_
      simp only [withOps, List.map_cons, List.map_nil, List.getElem?_cons_succ, List.getElem?_cons_zero]
      repeat (refine walkH_read (by rfl) (by (intro gx; go_simp; try (with_reducible rfl))) ?_; try simp only [Act.put, List.setIfInBounds_toArray, List.set_cons_zero, List.set_cons_succ])
      refine walkH_do rfl (fun K hK => ?_)
      go_simp
      refine (unhide HIH k hk2 _ _ (l.take k) _ hk1 (by omega) (by rw [it]; exact ((unhide HI).first (by omega)).below ((Below.refl _ _).drew)) (unhide HMT)).mono ?_
      rintro e w2 ⟨rfl, b2⟩
      have hb2 : Below w1.heap.size w1 w2 := ((Below.refl _ _).drew).trans b2
      obtain ⟨X, eX⟩ : ∃ X, X = Tree.root (l.take k) := ⟨_, rfl⟩
      rw [← eX] at hx1 ⊢
      have EX := hide eX
      clear eX
      refine hK _ _ hb2 ?_
      clear hK K
      try simp only [Act.put, List.setIfInBounds_toArray, List.set_cons_zero, List.set_cons_succ]
      repeat (refine walkH_read (by rfl) (by (intro gx; go_simp; try (with_reducible rfl))) ?_; try simp only [Act.put, List.setIfInBounds_toArray, List.set_cons_zero, List.set_cons_succ])
      refine walkH_do rfl (fun K hK => ?_)
      go_simp
      refine (unhide HIH (n - k) (by omega) _ _ (l.drop k) _ (by omega) (by omega) (by rw [id']; exact ((unhide HI).rest hk2).below hb2) (unhide HMD)).mono ?_
      rintro e w3 ⟨rfl, b3⟩
      have hb3 : Below w1.heap.size w1 w3 := bt hb2 b3
      obtain ⟨Y, eY⟩ : ∃ Y, Y = Tree.root (l.drop k) := ⟨_, rfl⟩
      rw [← eY] at hx2 ⊢
      have EY := hide eY
      clear eY
      refine hK _ _ hb3 ?_
      clear hK K
      try simp only [Act.put, List.setIfInBounds_toArray, List.set_cons_zero, List.set_cons_succ]
      repeat (refine walkH_read (by rfl) (by (intro gx; go_simp; try (with_reducible rfl))) ?_; try simp only [Act.put, List.setIfInBounds_toArray, List.set_cons_zero, List.set_cons_succ])
      refine walkH_do rfl (fun K hK => ?_)
      go_simp
      refine (sealPair_any X Y w3 (wf_nat hx1) (wf_nat hx2)).mono ?_
      rintro e w4 ⟨rfl, rfl⟩
      have ep : Seal.pair (X : Int) (Y : Int) = Tree.root l := by
        rw [unhide ERR, ← unhide EX, ← unhide EY]
        unfold Seal.pair
        rw [Seal.md_small hx1, Seal.md_small hx2]
      rw [ep]
      refine hK _ _ hb3 ?_
      clear hK K
      try simp only [Act.put, List.setIfInBounds_toArray, List.set_cons_zero, List.set_cons_succ]
      repeat (refine walkH_read (by rfl) (by (intro gx; go_simp; try (with_reducible rfl))) ?_; try simp only [Act.put, List.setIfInBounds_toArray, List.set_cons_zero, List.set_cons_succ])
      refine (show walkH _ _ _ _ [] _ _ from NoPanic.normal ?_)
      go_wp2
      go_ret
      exact ⟨rfl, hb3⟩
set_option maxRecDepth 100000 in
set_option maxHeartbeats 1000000 in
theorem treeRoot_any (a : Option Addr) (n c : Nat) (xs : List Int) (w : World) (hI : Ints w a n c xs) (hn : n ≤ 140737488351232) : Calls Try.prog 43 #[.slice a n c] w fun e w' => e = .returned (.tuple #[.int .i64 (rootP xs).1, .int .i64 (rootP xs).2]) ∧ Below w.heap.size w w' := by
  have hl := hI.1
  have HI := hide hI
  clear hI
  by_cases h0 : n < 1
  · have h0' : (n : Int) < 1 := by omega
    have e : rootP xs = (0, 1000) := if_neg (fun h => by have := h.1; omega)
    rw [e]
    clear e
    go_enter Try.func43, Try.ntmps43
    go_wp2
    go_ret2
    exact ⟨rfl, Below.refl _ _⟩
  · have h0' : ¬ (n : Int) < 1 := by omega
    by_cases h64 : 64 < n
    · have h64' : (64 : Int) < n := by omega
      have e : rootP xs = (0, 1000) := if_neg (fun h => by have := h.2.1; omega)
      rw [e]
      clear e
      go_enter Try.func43, Try.ntmps43
      go_wp2
      go_ret2
      exact ⟨rfl, Below.refl _ _⟩
    · have h64' : ¬ (64 : Int) < n := by omega
      have hms := containsInt_any a n c xs w (unhide HI) (by omega)
      by_cases hm : Sls xs
      · have e : rootP xs = (((Tree.root (nats xs) : Nat) : Int), 0) := if_pos ⟨by omega, by omega, hm⟩
        rw [e]
        rw [decide_eq_false (show ¬ ¬ Sls xs from fun h => h hm)] at hms
        have hrt := fun W (hb : Below w.heap.size w W) => treeroot_any n a c (nats xs) W (by omega) (by omega) (by rw [nats_back hm]; exact (unhide HI).below hb) (nats_may hm)
        obtain ⟨X, eX⟩ : ∃ X, X = Tree.root (nats xs) := ⟨_, rfl⟩
        rw [← eX] at hrt ⊢
        have HMS := hide hms
        have HRT := hide hrt
        clear eX e hms hrt hm
        go_enter Try.func43, Try.ntmps43
        go_wp2_with fail
        refine (unhide HMS).mono ?_
        rintro e w1 ⟨rfl, rfl⟩
        go_wp2_with fail
        refine (unhide HRT w1 (Below.refl _ _)).mono ?_
        rintro e w2 ⟨rfl, b2⟩
        have B2 := hide b2
        clear b2
        go_wp2
        go_ret2
        exact ⟨rfl, unhide B2⟩
      · have e : rootP xs = (0, 1000) := if_neg (fun h => hm h.2.2)
        rw [e]
        rw [decide_eq_true hm] at hms
        have HMS := hide hms
        clear e hms hm
        go_enter Try.func43, Try.ntmps43
        go_wp2_with fail
        refine (unhide HMS).mono ?_
        rintro e w1 ⟨rfl, rfl⟩
        go_wp2
        go_ret2
        exact ⟨rfl, Below.refl _ _⟩
set_option maxRecDepth 100000 in
set_option maxHeartbeats 2000000 in
theorem treeLeaves_any (s : ByteArray) (w : World) (hs : s.size ≤ 140737488351232) : Calls Try.prog 19 #[.string s] w fun e w' => ∃ v, e = .returned v ∧ OwnL w' w.heap.size 3 v ((nint (leavesL s)).map (Value.int .i64)) ∧ Below w.heap.size w w' := by
  go_enter Try.func19, Try.ntmps19
  go_wp2
  go_loopw [3, 4] (fun ov iv wr => ∃ j lo : Nat, lo = 8 * j ∧ j ≤ (s.size + 7) / 8 ∧ iv = .int .i64 lo ∧ Hid (OwnL wr w.heap.size 3 ov ((nint (leavesTo s j)).map (Value.int .i64))) ∧ Hid (Below w.heap.size w wr)) (fun _ iv _ => s.size - (intOf iv).toNat)
  case atStart => exact ⟨0, 0, rfl, by omega, rfl, hide (OwnL.nil _ _ _), hide (Below.refl _ _)⟩
  case round =>
    obtain ⟨j, lo, hlo, hj, rfl, HO, HW⟩ := hrel
    obtain ⟨pv, cv, ev⟩ := (unhide HO).form
    rw [List.length_map, nint_len, leavesTo_len] at ev
    subst ev
    have hszW := (unhide HW).size
    have HLO := hide hlo
    clear hlo
    by_cases hlt : lo < s.size
    · have hlt' : (lo : Int) < s.size := by omega
      obtain ⟨hi, ehi⟩ : ∃ hi : Nat, hi = min (lo + 8) s.size := ⟨_, rfl⟩
      have h1 : lo ≤ hi := by omega
      have h2 : hi ≤ s.size := by omega
      have hmin := fun w => run_min_of (P := Try.prog) #[3, 3] 3 ((lo : Int) + 8) (s.size : Int) hi (by split <;> omega) w
      have hsl := fun w => run_slice_lh (P := Try.prog) w 9 s Try.underlying9 lo hi (hi : Int) rfl h1 h2
      obtain ⟨x, ex⟩ : ∃ x, x = s.extract lo hi := ⟨_, rfl⟩
      rw [← ex] at hsl
      have hxs : x.size ≤ 140737488351232 := by rw [ex, ByteArray.size_extract]; omega
      have eblk : x = blk s j := by rw [ex, ehi]; unfold blk; rw [← unhide HLO]
      have EB := hide eblk
      obtain ⟨y, ey⟩ : ∃ y, y = Seal.of (byts x) := ⟨_, rfl⟩
      have EY := hide ey
      have hjs : 8 * j < s.size := by have := unhide HLO; omega
      clear ex ehi eblk ey
      go_wp2_with fail
      refine (sealOf_any x _ hxs).mono ?_
      rintro e w1 ⟨rfl, rfl⟩
      rw [← unhide EY]
      go_wp2_with (at_builtin; refine wpList_push w1 (by rfl) (.tmp 11) (.tmp 21) 26 (by rfl) w.heap.size 3 (.int .i64 0) 8 Try.underlying26 Try.infoInt rfl _ _ (by rfl) (unhide HO) _ (by rfl) (by rfl) (by simp [nint_len, leavesTo_len]; omega) (by omega) hszW ?_; intro v1 wa O1 P1; have HBa := hide (P1.below (unhide HO) (unhide HW) (Nat.le_refl _) hszW); have HO1 := hide O1; clear O1 P1 HO HW)
      go_roundw
      case rel =>
        refine ⟨j + 1, lo + 8, by have := unhide HLO; omega, by omega, by go_num, hide ?_, HBa⟩
        have := unhide HO1
        rw [leavesTo_snoc, ← unhide EB, ← unhide EY]
        simpa [nint] using this
      case measure => simp [intOf]; omega
    · have hlt' : ¬ (lo : Int) < s.size := by omega
      have hje : j = (s.size + 7) / 8 := by have := unhide HLO; omega
      have HJE := hide hje
      clear hje
      go_wp2
      go_ret
      refine ⟨_, rfl, ?_, unhide HW⟩
      have e : leavesL s = leavesTo s j := by unfold leavesL; rw [← unhide HJE]
      rw [e]
      exact unhide HO
end Go.Proofs.Ytmphbajnadbggab
