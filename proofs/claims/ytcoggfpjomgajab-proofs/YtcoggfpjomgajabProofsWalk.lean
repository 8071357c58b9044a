/- The Go text of the statement Proofs returns true, whatever the leaves and the claims. -/
import Derived.Test.YtcoggfpjomgajabAwake11
import Derived.Test.YtcoggfpjomgajabKMatRef
namespace Go.Proofs.Ytcoggfpjomgajab
open Go.RowKit
set_option linter.unusedVariables false
set_option linter.unusedSimpArgs false
theorem pathP_len (xs : List Int) (i : Int) : (pathP xs i).1.length < 64 := by
  unfold pathP
  split
  · rename_i h
    have h1 := h.1.1
    have h2 := h.1.2.1
    have hl : (nats xs).length = xs.length := by simp [nats]
    have h3 := h.2.2
    have h4 := h.2.1
    rw [nint_len, Tree.path_len xs.length (nats xs) i.toNat hl h1]
    have := Tree.depth_le xs.length i.toNat h1 (by omega)
    omega
  · decide
set_option maxRecDepth 100000 in
set_option maxHeartbeats 2000000 in
theorem Proofs_walk {w : World} (a0 : Option Addr) (n0 c0 : Nat) (xs : List Int) (h0 : Ints w a0 n0 c0 xs) (r0 : n0 * 8 ≤ 140737488351232) (_ : ∀ x ∈ xs, (Lit.int .i64 x).wf = true)
    (at_ : Int) (wf1 : (Lit.int .i64 at_).wf = true) (root : Int) (wf2 : (Lit.int .i64 root).wf = true) (count : Int) (wf3 : (Lit.int .i64 count).wf = true) (leaf : Int) (wf4 : (Lit.int .i64 leaf).wf = true)
    (a5 : Option Addr) (n5 c5 : Nat) (ps : List Int) (h5 : Ints w a5 n5 c5 ps) (r5 : n5 * 8 ≤ 140737488351232) (_ : ∀ x ∈ ps, (Lit.int .i64 x).wf = true) :
    Calls Try.prog 3 #[.slice a0 n0 c0, .int .i64 at_, .int .i64 root, .int .i64 count, .int .i64 leaf, .slice a5 n5 c5] w fun e w' => e = .returned (.bool true) ∧ Below w.heap.size w w' := by
  have H0 := hide h0
  have H5 := hide h5
  clear h0 h5
  go_enter Try.func3, Try.ntmps3
  go_wp2_with fail
  refine (lendInts_any _ _ _ xs _ (unhide H0) r0).mono ?_
  rintro e w1 ⟨g, cap, rfl, hl, b1⟩
  have HB := hide b1
  have HL := hide hl
  have X5 := hide ((unhide H5).below b1)
  clear hl b1
  go_wp2_with fail
  refine (lendInts_any _ _ _ ps _ (unhide X5) r5).mono ?_
  rintro e w2 ⟨g', cap', rfl, hl, b2⟩
  have HM := hide hl
  replace HL := hide ((unhide HL).below b2)
  replace HB := hide (bt (unhide HB) b2)
  clear hl b2 X5
  go_wp2_with fail
  have hq : (pathP xs at_).1.length ≤ maxLen := by have := pathP_len xs at_; unfold maxLen; omega
  obtain ⟨P, eP⟩ : ∃ P, P = (pathP xs at_).1 := ⟨_, rfl⟩
  obtain ⟨q, eq⟩ : ∃ q, q = (pathP xs at_).2 := ⟨_, rfl⟩
  rw [← eP] at hq
  have EP := hide eP
  have EQ := hide eq
  clear eP eq
  refine (proofPath_any _ _ _ xs at_ _ (unhide HL).ints (by omega)).mono ?_
  rintro e w3 ⟨v3, rfl, O3, b3⟩
  rw [← unhide EP] at O3
  rw [← unhide EQ]
  have hg2 : g < w2.heap.size := by
    obtain ⟨_, _, _, _, _, h6, _⟩ := unhide HL
    exact cell_lt h6
  have hg2' : g' < w2.heap.size := by
    obtain ⟨_, _, _, _, _, h6, _⟩ := unhide HM
    exact cell_lt h6
  have B23 := hide b3
  replace HB := hide (bt (unhide HB) b3)
  have HO := hide O3
  clear b3 O3
  obtain ⟨p3, c3, ev⟩ := (unhide HO).form
  rw [List.length_map] at ev
  subst ev
  go_wp2_with fail
  refine (refPath_any _ _ _ xs at_ _ ((unhide H0).below (unhide HB)) (by omega)).mono ?_
  rintro e w4 ⟨v4, rfl, O4, b4⟩
  rw [← unhide EP] at O4
  rw [← unhide EQ]
  replace B23 := hide (bt (unhide B23) b4)
  replace HB := hide (bt (unhide HB) b4)
  replace HO := hide ((unhide HO).below b4)
  obtain ⟨p4, c4, rfl, S4⟩ := O4.ints
  have HS4 := hide S4
  obtain ⟨p3', c3', e3, S3⟩ := (unhide HO).ints
  simp only [Value.slice.injEq, true_and] at e3
  obtain ⟨rfl, rfl⟩ := e3
  have HS3 := hide S3
  clear S3 S4 O4 b4
  have tq : (q != q) = false := by simp
  go_wp2_with fail
  refine (sameInts_any _ _ _ _ _ _ P P _ (unhide HS3) (unhide HS4) hq).mono ?_
  rintro e w5 ⟨rfl, m, rfl⟩
  simp only [BEq.rfl]
  have bd := below_drewN w4 w4.heap.size m
  replace B23 := hide (bt (unhide B23) bd)
  replace HB := hide (bt (unhide HB) bd)
  replace HO := hide ((unhide HO).below bd)
  clear bd HS3 HS4
  generalize w4.drewN m = w5 at *
  go_wp2_with (go_at_call 12; refine (num_any _ _).mono ?_; rintro e w' ⟨rfl, hw'⟩; rw [hw']; clear hw' w')
  have HM5 := hide ((unhide HM).below (unhide B23))
  refine (proofCheck_any _ _ _ _ _ _ _ ps _ (unhide HM5).ints (by omega)).mono ?_
  rintro e w6 ⟨rfl, b6⟩
  obtain ⟨B, eB⟩ : ∃ B, B = decide (Chk root count at_ leaf ps) := ⟨_, rfl⟩
  rw [← eB]
  have EB := hide eB
  clear eB
  replace B23 := hide (bt (unhide B23) b6)
  replace HB := hide (bt (unhide HB) b6)
  replace HO := hide ((unhide HO).below b6)
  clear b6 HM5
  go_wp2_with fail
  refine (refCheckPath_any _ _ _ _ _ _ _ ps _ ((unhide H5).below (unhide HB)) (by omega)).mono ?_
  rintro e w7 ⟨rfl, b7⟩
  rw [← unhide EB]
  replace B23 := hide (bt (unhide B23) b7)
  replace HB := hide (bt (unhide HB) b7)
  replace HO := hide ((unhide HO).below b7)
  clear b7
  have tB : (B != B) = false := by simp
  go_wp2_with fail
  refine (spoilInts_any w2.heap.size 3 _ P _ (unhide HO) hq).mono ?_
  rintro e w8 ⟨rfl, _, _, b8⟩
  have B28 := (unhide B23).trans b8
  have HL8 := hide ((unhide HL).below B28)
  have HM8 := hide ((unhide HM).below B28)
  replace HB := hide ((unhide HB).trans (b8.mono (by have := hg2; have := (unhide HL).1; omega)))
  clear B28 b8
  go_wp2_with fail
  refine (keptInts_yes _ _ _ _ _ _ xs _ ((unhide H0).below (unhide HB)) (unhide HL8) r0).mono ?_
  rintro e w9 ⟨rfl, m9, rfl⟩
  have bd := below_drewN w8 w8.heap.size m9
  replace HM8 := hide ((unhide HM8).below bd)
  replace HB := hide (bt (unhide HB) bd)
  clear bd
  generalize w8.drewN m9 = w9 at *
  go_wp2_with fail
  refine (keptInts_yes _ _ _ _ _ _ ps _ ((unhide H5).below (unhide HB)) (unhide HM8) r5).mono ?_
  rintro e w10 ⟨rfl, m10, rfl⟩
  replace HB := hide (bt (unhide HB) (below_drewN w9 w9.heap.size m10))
  generalize w9.drewN m10 = w10 at *
  go_wp2_with fail
  refine (awake11_any _).mono ?_
  rintro e w11 ⟨rfl, b11⟩
  replace HB := hide (bt (unhide HB) b11)
  clear b11
  go_wp2
  go_ret
  exact ⟨rfl, unhide HB⟩
end Go.Proofs.Ytcoggfpjomgajab
