/- The Go text of the statement CombineLinear returns true, whatever the numbers, rows and place. -/
import Derived.Test.YtpcjhcjfclnjjaaCombinePartsWalk
import Derived.Test.YtpcjhcjfclnjjaaVecMath2
import Derived.Laws.Cover1
namespace Go.Proofs.Ytpcjhcjfclnjjaa
open Go.RowKit
set_option linter.unusedVariables false
set_option linter.unusedSimpArgs false
open Vec (alikeTo numsTo May cmb byteAt)
theorem run_min3 {P : Program} (ts : Array TypeId) (t : TypeId) (a b : Nat) : ∃ m : Nat, m ≤ a ∧ m ≤ b ∧ m ≤ 100 ∧ ∀ w : World,
    (Builtin.min_ ts t #[.int .i64 (a : Int), .int .i64 (b : Int), .int .i64 100]).run P w = .ok (.int .i64 (m : Int)) w := by
  refine ⟨min (min a b) 100, by omega, by omega, by omega, fun w => ?_⟩
  have h : (if (100 : Int) < (if (b : Int) < (a : Int) then (b : Int) else (a : Int)) then (100 : Int) else (if (b : Int) < (a : Int) then (b : Int) else (a : Int))) = ((min (min a b) 100 : Nat) : Int) := by
    split <;> split at * <;> omega
  have h2 : (Builtin.min_ ts t #[.int .i64 (a : Int), .int .i64 (b : Int), .int .i64 100]).run P w = .ok (.int .i64 (if (100 : Int) < (if (b : Int) < (a : Int) then (b : Int) else (a : Int)) then (100 : Int) else (if (b : Int) < (a : Int) then (b : Int) else (a : Int)))) w := run_min_int3 w ts t .i64 .i64 .i64 (a : Int) (b : Int) 100
  rw [h2, h]
def dAt (xs : List Int) (t : Nat) : Int := if t < xs.length then xs.getD t 0 % 256 else 0
def dsL (xs : List Int) (j : Nat) : List Int := (List.range j).map (dAt xs)
theorem dAt_in (xs : List Int) {j : Nat} (h : j < xs.length) : bits .and .i64 (xs.getD j 0) 255 = dAt xs j := by
  rw [and_255]; unfold dAt; rw [if_pos h]
theorem dAt_out (xs : List Int) {j : Nat} (h : ¬ j < xs.length) : (0 : Int) = dAt xs j := by unfold dAt; rw [if_neg h]
theorem extract_to (s : ByteArray) (m : Nat) (h : m ≤ s.size) : (s.extract 0 m).size = m := by
  rw [Vec.extract_size _ _ _ (Nat.zero_le _) h]; omega
theorem dsL_snoc (xs : List Int) (j : Nat) : dsL xs (j + 1) = dsL xs j ++ [dAt xs j] := by
  unfold dsL; rw [List.range_succ, List.map_append]; rfl
theorem rep_snoc {α : Type} (j : Nat) (a : α) : List.replicate (j + 1) a = List.replicate j a ++ [a] := List.replicate_succ'
theorem may_two {A Bt : ByteArray} {m : Nat} (hA : A.size = m) (hB : Bt.size = m) (hm : m ≤ 4096) : May [1, 1] [A, Bt] := by
  refine ⟨by decide, by decide, rfl, fun i hi => ?_, fun i hi => ?_⟩
  · have : i = 0 ∨ i = 1 := by simp at hi; omega
    rcases this with rfl | rfl
    · exact ⟨rfl, by simp; omega⟩
    · simp; omega
  · have : i = 0 ∨ i = 1 := by simp at hi; omega
    rcases this with rfl | rfl <;> decide
theorem two_comb {A Bt W : ByteArray} {m : Nat} {r : ByteArray × Int} (hA : A.size = m) (hB : Bt.size = m) (hm : m ≤ 100) (hW : W = Vec.out [1, 1] [A, Bt]) (h : combR [1, 1] [A, Bt] r) : r = (W, 0) := by
  rcases h with ⟨_, rfl⟩ | ⟨h, _⟩
  · rw [hW]
  · exact absurd (may_two hA hB (by omega)) h
theorem dsL_length (xs : List Int) (j : Nat) : (dsL xs j).length = j := by simp [dsL]
theorem dAt_range (xs : List Int) (t : Nat) : 0 ≤ dAt xs t ∧ dAt xs t < 256 := by unfold dAt; split <;> omega
theorem dsL_nums (xs : List Int) (j : Nat) : numsTo (dsL xs j) j := by
  intro i hi
  have : (dsL xs j).getD i 0 = dAt xs i := by simp [dsL, List.getD, hi]
  rw [this]; exact dAt_range xs i
theorem one_nums (n i : Nat) : numsTo ((List.replicate n (0 : Int)).set i 1) n := by
  intro t ht
  rw [Vec.set_get n i t ht]; split <;> omega
theorem may_comb {cs : List Int} {ss : List ByteArray} {r : ByteArray × Int} (hm : May cs ss) (h : combR cs ss r) : r = (Vec.out cs ss, 0) := by
  rcases h with ⟨_, rfl⟩ | ⟨h, _⟩
  · rfl
  · exact absurd hm h
theorem modn (a : Int) (k : Nat) (hk : 0 < k) (hm : k ≤ 1000000) : ∃ i : Nat, i < k ∧ wrap64 ((IntKind.u64.wrap a).tmod (k : Int)) = (i : Int) := by
  have h0 : 0 ≤ IntKind.u64.wrap a := wrap_u64_nonneg a
  have h1 : 0 ≤ IntKind.u64.wrap a % (k : Int) := Int.emod_nonneg _ (by omega)
  have h2 : IntKind.u64.wrap a % (k : Int) < (k : Int) := Int.emod_lt_of_pos _ (by omega)
  refine ⟨(IntKind.u64.wrap a % (k : Int)).toNat, by omega, ?_⟩
  rw [Int.tmod_eq_emod_of_nonneg h0]
  unfold wrap64
  omega
theorem and7 (n : Nat) : ∃ k : Nat, 1 ≤ k ∧ k ≤ 8 ∧ wrap64 (1 + bits .and .i64 (n : Int) 7) = (k : Int) := by
  have h := and_mask_i64 (n : Int) 3 7 (by decide) (by decide)
  have h' : bits .and .i64 (n : Int) 7 = (n : Int) % 8 := h
  refine ⟨1 + n % 8, by omega, by omega, ?_⟩
  rw [h']; unfold wrap64; omega
set_option maxRecDepth 100000 in
set_option maxHeartbeats 4000000 in
theorem CombineLinear_walk {w : World} (a0 : Option Addr) (n0 c0 : Nat) (xs : List Int) (h0 : Ints w a0 n0 c0 xs) (r0 : n0 * 8 ≤ 140737488351232) (_ : ∀ x ∈ xs, (Lit.int .i64 x).wf = true)
    (s1 : ByteArray) (w1 : s1.size ≤ 140737488351232) (s2 : ByteArray) (w2 : s2.size ≤ 140737488351232) (a3 : Int) (w3 : (Lit.int .i64 a3).wf = true) :
    Calls Try.prog 4 #[.slice a0 n0 c0, .string s1, .string s2, .int .i64 a3] w fun e w' => e = .returned (.bool true) ∧ Below w.heap.size w w' := by
  have H0 := hide h0
  clear h0
  obtain ⟨m, hm1, hm2, hm3, hmin⟩ := run_min3 (P := Try.prog) #[3, 3, 3] 3 s1.size s2.size
  obtain ⟨k, hk1, hk2, ek⟩ := and7 n0
  obtain ⟨i, hi, ei⟩ := modn a3 k (by omega) (by omega)
  have hm1' : (m : Int) ≤ s1.size := by omega
  have hm2' : (m : Int) ≤ s2.size := by omega
  go_enter Try.func4, Try.ntmps4
  go_wp2_with fail
  refine (awake2_any _).mono ?_
  rintro e w1 ⟨rfl, hb1⟩
  go_wp2_with fail
  simp only [ek, ei]
  clear ek ei hmin hm1' hm2'
  have ZA := hide (extract_to s1 m hm1)
  have ZB := hide (extract_to s2 m hm2)
  generalize s1.extract 0 m = A at *
  generalize s2.extract 0 m = Bt at *
  obtain ⟨W, hW⟩ : ∃ W, W = Vec.out [1, 1] [A, Bt] := ⟨_, rfl⟩
  have HW := hide hW
  clear hW hm1 hm2
  go_loopw [11, 12, 13, 14, 15, 17] (fun us vs ws ds on jv wr => ∃ j : Nat, j ≤ k ∧ jv = .int .i64 j ∧ Hid (Fam wr w1.heap.size [(9, us, List.replicate j (.string A)), (9, vs, List.replicate j (.string Bt)), (9, ws, List.replicate j (.string W)), (3, ds, (dsL xs j).map (Value.int .i64)), (3, on, List.replicate j (.int .i64 0))]) ∧ Hid (Below w1.heap.size w1 wr)) (fun _ _ _ _ _ jv _ => k - (intOf jv).toNat)
  case atStart => exact ⟨0, by omega, rfl, Fam.none w1 _ [9, 9, 9, 3, 3], Below.refl _ _⟩
  case round =>
    obtain ⟨j, hj, rfl, F, HB⟩ := hrel
    by_cases hlt : j < k
    · have hlt' : (j : Int) < k := by omega
      have hsz := (unhide HB).size
      have hll : (List.replicate j (Value.string A)).length ≤ 8 := by simp; omega
      by_cases hjn : j < n0
      · have hjn' : (j : Int) < n0 := by omega
        obtain ⟨b, off, rfl, hc⟩ : ∃ b off, a0 = some ⟨b, off, none⟩ ∧ ∀ i, i < n0 → wr.cell? ⟨b, off + i, none⟩ = some (.int .i64 (xs.getD i 0)) := by
          rcases ((unhide H0).below (bt hb1 (unhide HB))).2.two with h | h
          · omega
          · exact h
        have c1 := hc j hjn
        clear hc
        obtain ⟨x, ex⟩ : ∃ x, x = xs.getD j 0 := ⟨_, rfl⟩
        have ed := dAt_in xs (j := j) (by rw [(unhide H0).1]; exact hjn)
        rw [← ex] at c1 ed
        clear ex
        go_wp2_with (first | (at_builtin; refine wpList_push wr (by rfl) (.tmp 68) (.tmp 70) 22 (by rfl) w1.heap.size 3 (.int .i64 0) 8 Try.underlying22 Try.infoInt rfl _ _ (by rfl) ((unhide F).own 3 rfl) _ (by rfl) (by rfl) (by simp [dsL]; omega) (by omega) (unhide HB).size ?_; intro v1 wa O1 P1; have HBa := hide (P1.below ((unhide F).own 3 rfl) (unhide HB) (Nat.le_refl _) (unhide HB).size); have Fa := hide ((unhide F).push 3 rfl O1 P1); clear O1 P1 F HB) | (at_builtin; refine wpList_push wa (by rfl) (.tmp 72) (.tmp 74) 23 (by rfl) w1.heap.size 9 (.string ByteArray.empty) 16 Try.underlying23 Try.infoStr rfl _ _ (by rfl) ((unhide Fa).own 0 rfl) _ (by rfl) (by rfl) (by simp [dsL]; omega) (by omega) (unhide HBa).size ?_; intro v2 wb O2 P2; have HBb := hide (P2.below ((unhide Fa).own 0 rfl) (unhide HBa) (Nat.le_refl _) (unhide HBa).size); have Fb := hide ((unhide Fa).push 0 rfl O2 P2); clear O2 P2 Fa HBa) | (at_builtin; refine wpList_push wb (by rfl) (.tmp 76) (.tmp 78) 23 (by rfl) w1.heap.size 9 (.string ByteArray.empty) 16 Try.underlying23 Try.infoStr rfl _ _ (by rfl) ((unhide Fb).own 1 rfl) _ (by rfl) (by rfl) (by simp [dsL]; omega) (by omega) (unhide HBb).size ?_; intro v3 wc O3 P3; have HBc := hide (P3.below ((unhide Fb).own 1 rfl) (unhide HBb) (Nat.le_refl _) (unhide HBb).size); have Fc := hide ((unhide Fb).push 1 rfl O3 P3); clear O3 P3 Fb HBb) | (at_builtin; refine wpList_push wc (by rfl) (.tmp 80) (.tmp 81) 22 (by rfl) w1.heap.size 3 (.int .i64 0) 8 Try.underlying22 Try.infoInt rfl _ _ (by rfl) ((unhide Fc).own 4 rfl) _ (by rfl) (by rfl) (by simp [dsL]; omega) (by omega) (unhide HBc).size ?_; intro v4 wd O4 P4; have HBd := hide (P4.below ((unhide Fc).own 4 rfl) (unhide HBc) (Nat.le_refl _) (unhide HBc).size); have Fd := hide ((unhide Fc).push 4 rfl O4 P4); clear O4 P4 Fc HBc) | (go_at_call 8; refine (vecCombine_two wd [1, 1] [A, Bt] 2 2 _ _ rfl rfl rfl rfl (by omega)).mono ?_; rintro e we ⟨r, hr, rfl, hbe⟩; obtain rfl := two_comb (unhide ZA) (unhide ZB) hm3 (unhide HW) hr; have HBe := hide ((unhide HBd).trans (hbe.mono (unhide HBd).size)); have Fe := hide ((unhide Fd).below hbe); clear hr hbe Fd HBd) | (go_at_call 10; refine (num_any _ _).mono ?_; rintro e w' ⟨rfl, rfl⟩) | (at_builtin; refine wpList_push _ (by rfl) (.tmp 94) (.tmp 96) 23 (by rfl) w1.heap.size 9 (.string ByteArray.empty) 16 Try.underlying23 Try.infoStr rfl _ _ (by rfl) ((unhide Fe).own 2 rfl) _ (by rfl) (by rfl) (by simp [dsL]; omega) (by omega) (unhide HBe).size ?_; intro v5 wf O5 P5; have HBf := hide (P5.below ((unhide Fe).own 2 rfl) (unhide HBe) (Nat.le_refl _) (unhide HBe).size); have Ff := hide ((unhide Fe).push 2 rfl O5 P5); clear O5 P5 Fe HBe))
        go_roundw
        case rel =>
          refine ⟨j + 1, by omega, by go_num, ?_, HBf⟩
          have := unhide Ff
          simp only [List.set_cons_zero, List.set_cons_succ] at this
          rw [dsL_snoc, List.map_append, rep_snoc, rep_snoc, rep_snoc, rep_snoc]
          exact this
        case measure => simp [intOf]; omega
      · have hjn' : ¬ (j : Int) < n0 := by omega
        have HD := hide (dAt_out xs (j := j) (by rw [(unhide H0).1]; exact hjn))
        go_wp2_with (first | (at_builtin; refine wpList_push wr (by rfl) (.tmp 68) (.tmp 70) 22 (by rfl) w1.heap.size 3 (.int .i64 0) 8 Try.underlying22 Try.infoInt rfl _ _ (by rfl) ((unhide F).own 3 rfl) _ (by rfl) (by rfl) (by simp [dsL]; omega) (by omega) (unhide HB).size ?_; intro v1 wa O1 P1; have HBa := hide (P1.below ((unhide F).own 3 rfl) (unhide HB) (Nat.le_refl _) (unhide HB).size); have Fa := hide ((unhide F).push 3 rfl O1 P1); clear O1 P1 F HB) | (at_builtin; refine wpList_push wa (by rfl) (.tmp 72) (.tmp 74) 23 (by rfl) w1.heap.size 9 (.string ByteArray.empty) 16 Try.underlying23 Try.infoStr rfl _ _ (by rfl) ((unhide Fa).own 0 rfl) _ (by rfl) (by rfl) (by simp [dsL]; omega) (by omega) (unhide HBa).size ?_; intro v2 wb O2 P2; have HBb := hide (P2.below ((unhide Fa).own 0 rfl) (unhide HBa) (Nat.le_refl _) (unhide HBa).size); have Fb := hide ((unhide Fa).push 0 rfl O2 P2); clear O2 P2 Fa HBa) | (at_builtin; refine wpList_push wb (by rfl) (.tmp 76) (.tmp 78) 23 (by rfl) w1.heap.size 9 (.string ByteArray.empty) 16 Try.underlying23 Try.infoStr rfl _ _ (by rfl) ((unhide Fb).own 1 rfl) _ (by rfl) (by rfl) (by simp [dsL]; omega) (by omega) (unhide HBb).size ?_; intro v3 wc O3 P3; have HBc := hide (P3.below ((unhide Fb).own 1 rfl) (unhide HBb) (Nat.le_refl _) (unhide HBb).size); have Fc := hide ((unhide Fb).push 1 rfl O3 P3); clear O3 P3 Fb HBb) | (at_builtin; refine wpList_push wc (by rfl) (.tmp 80) (.tmp 81) 22 (by rfl) w1.heap.size 3 (.int .i64 0) 8 Try.underlying22 Try.infoInt rfl _ _ (by rfl) ((unhide Fc).own 4 rfl) _ (by rfl) (by rfl) (by simp [dsL]; omega) (by omega) (unhide HBc).size ?_; intro v4 wd O4 P4; have HBd := hide (P4.below ((unhide Fc).own 4 rfl) (unhide HBc) (Nat.le_refl _) (unhide HBc).size); have Fd := hide ((unhide Fc).push 4 rfl O4 P4); clear O4 P4 Fc HBc) | (go_at_call 8; refine (vecCombine_two wd [1, 1] [A, Bt] 2 2 _ _ rfl rfl rfl rfl (by omega)).mono ?_; rintro e we ⟨r, hr, rfl, hbe⟩; obtain rfl := two_comb (unhide ZA) (unhide ZB) hm3 (unhide HW) hr; have HBe := hide ((unhide HBd).trans (hbe.mono (unhide HBd).size)); have Fe := hide ((unhide Fd).below hbe); clear hr hbe Fd HBd) | (go_at_call 10; refine (num_any _ _).mono ?_; rintro e w' ⟨rfl, rfl⟩) | (at_builtin; refine wpList_push _ (by rfl) (.tmp 94) (.tmp 96) 23 (by rfl) w1.heap.size 9 (.string ByteArray.empty) 16 Try.underlying23 Try.infoStr rfl _ _ (by rfl) ((unhide Fe).own 2 rfl) _ (by rfl) (by rfl) (by simp [dsL]; omega) (by omega) (unhide HBe).size ?_; intro v5 wf O5 P5; have HBf := hide (P5.below ((unhide Fe).own 2 rfl) (unhide HBe) (Nat.le_refl _) (unhide HBe).size); have Ff := hide ((unhide Fe).push 2 rfl O5 P5); clear O5 P5 Fe HBe))
        go_roundw
        case rel =>
          refine ⟨j + 1, by omega, by go_num, ?_, HBf⟩
          have := unhide Ff
          simp only [List.set_cons_zero, List.set_cons_succ] at this
          rw [dsL_snoc, List.map_append, rep_snoc, rep_snoc, rep_snoc, rep_snoc]
          rw [← unhide HD]
          exact this
        case measure => simp [intOf]; omega
    · have hlt' : ¬ (j : Int) < k := by omega
      obtain rfl : j = k := by omega
      have F := unhide F
      have HB := unhide HB
      obtain ⟨g, cap, ev, hg, hcap, hmx, hcell⟩ := own_form (F.own 4 rfl) (by simp; omega)
      subst ev
      have hcl : wr.cell? ⟨g, i, none⟩ = some (.int .i64 0) := hcell i _ (by simp [hi])
      have hfr : wr.frozen? ⟨g, i, none⟩ = false := World.ownsRow.frozenAt (F.own 4 rfl) i
      have hi' : (i : Int) < j := by omega
      have hst := World.ownsRow.stored (F.own 4 rfl) i (.int .i64 1)
      have F2 := hide (F.push (v' := .slice (some ⟨g, 0, none⟩) (List.replicate j (Value.int .i64 0)).length cap) (ys := (List.replicate j (Value.int .i64 0)).set i (.int .i64 1)) 4 rfl (by simpa [OwnL] using hst.1) ⟨hst.2, .inl rfl⟩)
      have HB2 := hide (HB.setCell (p := ⟨g, i, none⟩) hg (.int .i64 1))
      clear hst F HB hcell
      simp only [List.length_replicate] at F2 ⊢
      go_wp2_with fail
      generalize wr.setCell ⟨g, i, none⟩ (.int .i64 1) = wS at *
      have F2 := unhide F2
      have q0 := (F2.own 0 rfl)
      have q1 := (F2.own 1 rfl)
      have q2 := (F2.own 2 rfl)
      have q3 := (F2.own 3 rfl)
      have q4 := (F2.own 4 rfl)
      rw [← List.map_replicate] at q0 q1 q2
      have q4' : OwnL wS w1.heap.size 3 (.slice (some ⟨g, 0, none⟩) j cap) (((List.replicate j (0 : Int)).set i 1).map (Value.int .i64)) := by
        rw [List.map_set, List.map_replicate]; exact q4
      obtain ⟨p0, z0, e0, Q0⟩ := q0.strs
      obtain ⟨p1, z1, e1, Q1⟩ := q1.strs
      obtain ⟨p2, z2, e2, Q2⟩ := q2.strs
      obtain ⟨p3, z3, e3, Q3⟩ := q3.ints
      obtain ⟨p4, z4, e4, Q4⟩ := q4'.ints
      simp only [List.length_replicate, List.length_set, dsL_length] at e0 e1 e2 e3 e4 Q0 Q1 Q2 Q3 Q4
      subst e0 e1 e2 e3
      simp at e4
      obtain ⟨rfl, rfl⟩ := e4
      have Q0 := hide Q0
      have Q1 := hide Q1
      have Q2 := hide Q2
      have Q3 := hide Q3
      have Q4 := hide Q4
      clear q0 q1 q2 q3 q4 q4' F2
      have hbS := hide (hb1.trans ((unhide HB2).mono hb1.size))
      have zW : W.size = m := by rw [unhide HW, Vec.two_size, unhide ZA]
      have M1 := hide (Vec.may_rep (dsL_length xs j) hk1 (by omega) (A := A) (by rw [unhide ZA]; omega) (dsL_nums xs j))
      have M2 := hide (Vec.may_rep (dsL_length xs j) hk1 (by omega) (A := Bt) (by rw [unhide ZB]; omega) (dsL_nums xs j))
      have M3 := hide (Vec.may_rep (dsL_length xs j) hk1 (by omega) (A := W) (by rw [zW]; omega) (dsL_nums xs j))
      have M4 := hide (Vec.may_rep (cs := (List.replicate j (0 : Int)).set i 1) (by simp) hk1 (by omega) (A := A) (by rw [unhide ZA]; omega) (one_nums j i))
      have EL := hide (Vec.linear (dsL_length xs j) hk1 ((unhide ZA).trans (unhide ZB).symm))
      have EA := hide (Vec.alone (A := A) hi)
      have SX := hide (Vec.out_rep_size (dsL xs j) A j hk1)
      have SY := hide (Vec.out_rep_size (dsL xs j) Bt j hk1)
      clear zW
      refine (vecCombine_any _ _ _ _ _ _ _ _ _ (unhide Q3) (unhide Q0) (by omega)).mono ?_
      rintro e w3 ⟨r, hr, rfl, hb3⟩
      obtain rfl := may_comb (unhide M1) hr
      clear hr
      go_wp2_with fail
      refine (vecCombine_any _ _ _ _ _ _ _ _ _ ((unhide Q3).below hb3) ((unhide Q1).below hb3) (by omega)).mono ?_
      rintro e w4 ⟨r, hr, rfl, hb4⟩
      obtain rfl := may_comb (unhide M2) hr
      have hbS4 := bt hb3 hb4
      clear hr hb3 hb4
      go_wp2_with fail
      refine (vecCombine_any _ _ _ _ _ _ _ _ _ ((unhide Q3).below hbS4) ((unhide Q2).below hbS4) (by omega)).mono ?_
      rintro e w5 ⟨r, hr, rfl, hb5⟩
      obtain rfl := may_comb (unhide M3) hr
      have hbS5 := bt hbS4 hb5
      clear hr hb5 hbS4
      generalize EX : Vec.out (dsL xs j) (List.replicate j A) = X at *
      generalize EY : Vec.out (dsL xs j) (List.replicate j Bt) = Y at *
      clear EX EY
      go_wp2_with fail
      refine (vecCombine_two w5 [1, 1] [X, Y] 2 2 _ _ rfl rfl rfl rfl (by omega)).mono ?_
      rintro e w6 ⟨r, hr, rfl, hb6⟩
      obtain rfl := two_comb (m := m) ((unhide SX).trans (unhide ZA)) ((unhide SY).trans (unhide ZB)) hm3 rfl hr
      have hbS6 := bt hbS5 hb6
      clear hr hb6 hbS5
      go_wp2_with fail
      refine (vecCombine_any _ _ _ _ _ _ _ _ _ ((unhide Q4).below hbS6) ((unhide Q0).below hbS6) (by omega)).mono ?_
      rintro e w7 ⟨r, hr, rfl, hb7⟩
      obtain rfl := may_comb (unhide M4) hr
      have hbS7 := hide (bt hbS6 hb7)
      clear hr hb7 hbS6
      have t1 := unhide EL
      rw [← unhide HW] at t1
      rw [t1, unhide EA]
      go_wp2_with (go_at_call 10; refine (num_any _ _).mono ?_; rintro e w' ⟨rfl, rfl⟩)
      go_ret
      exact ⟨rfl, bt (unhide hbS) (unhide hbS7)⟩
end Go.Proofs.Ytpcjhcjfclnjjaa
