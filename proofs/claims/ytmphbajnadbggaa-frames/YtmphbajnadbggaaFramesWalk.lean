/- The Go text of the statement Frames returns true, whatever the slot, the shard, the bytes, the path and the sector. -/
import Derived.Test.YtmphbajnadbggaaAwake14
import Derived.Test.YtmphbajnadbggaaKMatRef
namespace Go.Proofs.Ytmphbajnadbggaa
open Go.RowKit
set_option linter.unusedVariables false
set_option linter.unusedSimpArgs false
theorem getF_len (t : ByteArray) (sl sh : Int) : (getF t sl sh).2.1.length ≤ 3 := by
  unfold getF
  split
  · simp only [getPath_len, frCount]; omega
  · simp
set_option maxRecDepth 100000 in
set_option maxHeartbeats 2000000 in
theorem Frames_walk {w : World} (a0 : Int) (w0 : (Lit.int .i64 a0).wf = true) (a1 : Int) (w1 : (Lit.int .i64 a1).wf = true) (s : ByteArray) (hs : s.size ≤ 140737488351232) (a3 : Option Addr) (n3 c3 : Nat) (xs : List Int) (h3 : Ints w a3 n3 c3 xs) (r3 : n3 * 8 ≤ 140737488351232) (_ : ∀ x ∈ xs, (Lit.int .i64 x).wf = true) (t : ByteArray) (ht : t.size ≤ 140737488351232) :
    Calls Try.prog 3 #[.int .i64 a0, .int .i64 a1, .string s, .slice a3 n3 c3, .string t] w fun e w' => e = .returned (.bool true) ∧ Below w.heap.size w w' := by
  have H3 := hide h3
  have W0 := hide w0
  clear h3 w0 w1
  have hgl := getF_len t a0 a1
  obtain ⟨pr, epr⟩ : ∃ pr, pr = putF a0 a1 s xs := ⟨_, rfl⟩
  obtain ⟨gr, egr⟩ : ∃ gr, gr = getF t a0 a1 := ⟨_, rfl⟩
  rw [← egr] at hgl
  obtain ⟨f1, f2⟩ := pr
  obtain ⟨g1, L, g3⟩ := gr
  have hLl : L.length ≤ maxLen := by unfold maxLen; simp only at hgl; omega
  have EP := hide epr
  have EG := hide egr
  clear epr egr hgl
  go_enter Try.func3, Try.ntmps3
  go_wp2_with fail
  refine (lendInts_any _ _ _ xs _ (unhide H3) r3).mono ?_
  rintro e w1 ⟨g, cap, rfl, hl, hb1⟩
  have HB := hide hb1
  have HL := hide hl
  have X1 := hide ((unhide H3).below hb1)
  clear hl hb1
  go_wp2_with fail
  refine (framePut_any a0 a1 s _ _ _ xs _ (unhide HL).ints (by omega)).mono ?_
  rintro e w2 ⟨he, b2⟩
  rw [← unhide EP] at he
  replace he : e = Ending.returned (.tuple #[.string f1, .int .i64 f2]) := he
  subst he
  replace HL := hide ((unhide HL).below b2)
  replace X1 := hide ((unhide X1).below b2)
  replace HB := hide (bt (unhide HB) b2)
  clear b2
  go_wp2_with fail
  refine (refPutFrame_any a0 a1 s _ _ _ xs _ (unhide X1) (by omega)).mono ?_
  rintro e w3 ⟨he, b3⟩
  rw [← unhide EP] at he
  replace he : e = Ending.returned (.tuple #[.string f1, .int .i64 f2]) := he
  subst he
  replace HL := hide ((unhide HL).below b3)
  replace X1 := hide ((unhide X1).below b3)
  replace HB := hide (bt (unhide HB) b3)
  clear b3
  go_wp2_with fail
  refine (frameGet_any t a0 a1 _ (unhide W0)).mono ?_
  rintro e w4 ⟨v4, he, O4, b4⟩
  rw [← unhide EG] at he O4
  replace he : e = Ending.returned (.tuple #[.string g1, v4, .int .i64 g3]) := he
  replace O4 : OwnL w4 w3.heap.size 3 v4 (L.map (Value.int .i64)) := O4
  subst he
  go_wp2_with fail
  refine (refGetFrame_any t a0 a1 _ (unhide W0)).mono ?_
  rintro e w5 ⟨v5, he, O5, b5⟩
  rw [← unhide EG] at he O5
  replace he : e = Ending.returned (.tuple #[.string g1, v5, .int .i64 g3]) := he
  replace O5 : OwnL w5 w4.heap.size 3 v5 (L.map (Value.int .i64)) := O5
  subst he
  have B35 := hide (bt b4 b5)
  have HO := O4.below b5
  obtain ⟨p4', c4', rfl, S4⟩ := HO.ints
  obtain ⟨p5, c5, rfl, S5⟩ := O5.ints
  have HO' := hide HO
  have S4' := hide S4
  have S5' := hide S5
  have hg3 : g < w3.heap.size := by
    obtain ⟨_, _, _, _, _, h6, _⟩ := unhide HL
    exact cell_lt h6
  clear HO S4 S5 O4 O5 b4 b5
  have t1 : (f2 == f2) = true := by simp
  have t2 : (g3 == g3) = true := by simp
  go_wp2_with fail
  refine (num_any _ _).mono ?_
  rintro e wn ⟨rfl, rfl⟩
  go_wp2_with fail
  refine (sameInts_any _ _ _ _ _ _ L L _ (unhide S4') (unhide S5') hLl).mono ?_
  rintro e w6 ⟨rfl, m, hw6⟩
  have B36 := hide ((unhide B35).trans (show Below _ _ w6 by rw [hw6]; exact below_drewN _ w3.heap.size m))
  have HO6 := hide ((unhide HO').below (show Below _ _ w6 by rw [hw6]; exact below_drewN _ _ m))
  clear hw6
  simp only [BEq.rfl]
  go_wp2_with fail
  refine (num_any _ _).mono ?_
  rintro e wn ⟨rfl, rfl⟩
  go_wp2_with fail
  refine (spoilInts_any w3.heap.size 3 _ L _ (unhide HO6) hLl).mono ?_
  rintro e w7 ⟨rfl, _, _, b7⟩
  have B37 := (unhide B36).trans b7
  have HL7 := hide ((unhide HL).below B37)
  have B07 := hide (bt (unhide HB) B37)
  have X7 := hide ((unhide H3).below (unhide B07))
  clear B37 b7
  go_wp2_with fail
  refine (keptInts_yes _ _ _ _ _ _ xs _ (unhide X7) (unhide HL7) r3).mono ?_
  rintro e w8 ⟨rfl, m8, rfl⟩
  go_wp2_with fail
  refine (awake14_any _).mono ?_
  rintro e w9 ⟨rfl, b9⟩
  go_wp2
  go_ret
  exact ⟨rfl, bt (bt (unhide B07) (below_drewN _ _ m8)) b9⟩
end Go.Proofs.Ytmphbajnadbggaa
