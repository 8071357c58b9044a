/- The Go text of the statement Trees returns true, whatever the text and the leaves. -/
import Derived.Test.YtcoggfpjomgajaaAwake10
import Derived.Test.YtcoggfpjomgajaaKMatRef
namespace Go.Proofs.Ytcoggfpjomgajaa
open Go.RowKit
set_option linter.unusedVariables false
set_option linter.unusedSimpArgs false
theorem Lent.keep {w w' : World} {base g n cap : Nat} {xs : List Int} (h : Lent w base g n cap xs) (hg : g < w.heap.size) (hk : w'.heap[g]? = w.heap[g]?) : Lent w' base g n cap xs := by
  obtain ⟨h1, h2, h3, h4, h5, h6, h7⟩ := h
  have e : ∀ i, w'.cell? ⟨g, i, none⟩ = w.cell? ⟨g, i, none⟩ := fun i => by simp [World.cell?, hk]
  exact ⟨h1, h2, h3, h4, fun i hi => (e i).trans (h5 i hi), (e _).trans h6, (e _).trans h7⟩
set_option maxRecDepth 100000 in
set_option maxHeartbeats 1000000 in
theorem Trees_walk {w : World} (s : ByteArray) (hs : s.size ≤ 140737488351232) (a1 : Option Addr) (n1 c1 : Nat) (xs : List Int) (h1 : Ints w a1 n1 c1 xs) (r1 : n1 * 8 ≤ 140737488351232) (_ : ∀ x ∈ xs, (Lit.int .i64 x).wf = true) :
    Calls Try.prog 3 #[.string s, .slice a1 n1 c1] w fun e w' => e = .returned (.bool true) ∧ Below w.heap.size w w' := by
  have H1 := hide h1
  clear h1
  go_enter Try.func3, Try.ntmps3
  go_wp2_with fail
  refine (lendInts_any _ _ _ xs _ (unhide H1) r1).mono ?_
  rintro e w1 ⟨g, cap, rfl, hl, hb1⟩
  have HB := hide hb1
  have HL := hide hl
  have X1 := hide ((unhide H1).below hb1)
  clear hl hb1
  go_wp2_with fail
  refine (treeRoot_any _ _ _ xs _ (unhide HL).ints (by omega)).mono ?_
  rintro e w2 ⟨rfl, b2⟩
  replace HL := hide ((unhide HL).below b2)
  replace X1 := hide ((unhide X1).below b2)
  replace HB := hide (bt (unhide HB) b2)
  clear b2
  obtain ⟨r, er⟩ : ∃ r, r = (rootP xs).1 := ⟨_, rfl⟩
  obtain ⟨q, eq⟩ : ∃ q, q = (rootP xs).2 := ⟨_, rfl⟩
  rw [← er, ← eq]
  have ER := hide er
  have EQ := hide eq
  clear er eq
  go_wp2_with fail
  refine (refRoot_any _ _ _ xs _ (unhide X1) (by omega)).mono ?_
  rintro e w3 ⟨rfl, b3⟩
  rw [← unhide ER, ← unhide EQ]
  replace HL := hide ((unhide HL).below b3)
  replace X1 := hide ((unhide X1).below b3)
  replace HB := hide (bt (unhide HB) b3)
  clear b3
  have hll : (nint (leavesL s)).length = (s.size + 7) / 8 := by rw [nint_len, leavesL, leavesTo_len]
  go_wp2_with fail
  refine (treeLeaves_any s _ (by omega)).mono ?_
  rintro e w4 ⟨v4, rfl, O4, b4⟩
  go_wp2_with fail
  refine (refLeaves_any s _ (by omega)).mono ?_
  rintro e w5 ⟨v5, rfl, O5, b5⟩
  generalize nint (leavesL s) = L at *
  have hLl : L.length ≤ maxLen := by unfold maxLen; omega
  clear hll
  have hg3 : g < w3.heap.size := by
    obtain ⟨_, _, _, _, _, h6, _⟩ := unhide HL
    exact cell_lt h6
  have B35 := hide (bt b4 b5)
  have HO := O4.below b5
  obtain ⟨p4, c4, rfl, S4⟩ := HO.ints
  obtain ⟨p5, c5, rfl, S5⟩ := O5.ints
  have HO' := hide HO
  have S4' := hide S4
  have S5' := hide S5
  clear HO S4 S5 O4 O5 b4 b5
  have t1 : (r == r) = true := by simp
  have t2 : (q == q) = true := by simp
  go_wp2_with (go_at_call 14; refine (num_any _ _).mono ?_; rintro e w' ⟨rfl, rfl⟩)
  refine (sameInts_any _ _ _ _ _ _ L L _ (unhide S4') (unhide S5') hLl).mono ?_
  rintro e w6 ⟨rfl, m, rfl⟩
  simp only [BEq.rfl]
  go_wp2_with fail
  refine (spoilInts_any w3.heap.size 3 _ L _ ((unhide HO').below (below_drewN _ _ m)) hLl).mono ?_
  rintro e w7 ⟨rfl, _, _, b7⟩
  have B37 := (bt (unhide B35) (below_drewN _ _ m)).trans b7
  have HL7 := hide ((unhide HL).below B37)
  have B07 := hide (bt (unhide HB) B37)
  have X7 := hide ((unhide H1).below (unhide B07))
  clear B37 b7
  go_wp2_with fail
  refine (keptInts_yes _ _ _ _ _ _ xs _ (unhide X7) (unhide HL7) r1).mono ?_
  rintro e w8 ⟨rfl, m8, rfl⟩
  go_wp2_with fail
  refine (awake10_any _).mono ?_
  rintro e w9 ⟨rfl, b9⟩
  go_wp2
  go_ret
  exact ⟨rfl, bt (bt (unhide B07) (below_drewN _ _ m8)) b9⟩
end Go.Proofs.Ytcoggfpjomgajaa
