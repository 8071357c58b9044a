/- Seals: every call answers as the document's own. -/
import Derived.Test.YthikknnkghaolaaAwake9
namespace Go.Proofs.Ythikknnkghaolaa
open Go.RowKit
set_option linter.unusedVariables false
set_option linter.unusedSimpArgs false
set_option maxRecDepth 100000 in
set_option maxHeartbeats 1000000 in
theorem Seals_walk {w : World} (s : ByteArray) (hs : s.size ≤ 140737488351232) (a : Int) (ha : (Lit.int .i64 a).wf = true) (b : Int) (hb : (Lit.int .i64 b).wf = true) :
    Calls Try.prog 3 #[.string s, .int .i64 a, .int .i64 b] w fun e w' => e = .returned (.bool true) ∧ Below w.heap.size w w' := by
  obtain ⟨x, ex⟩ : ∃ x, x = Seal.of (byts s) := ⟨_, rfl⟩
  obtain ⟨y, ey⟩ : ∃ y, y = Seal.pair a b := ⟨_, rfl⟩
  have HA := hide ha
  have HBB := hide hb
  clear ha hb
  go_enter Try.func3, Try.ntmps3
  go_wp2_with fail
  refine (sealOf_any s _ hs).mono ?_
  rintro e w1 ⟨rfl, rfl⟩
  go_wp2_with fail
  refine (refOf_any s _ hs).mono ?_
  rintro e w2 ⟨rfl, rfl⟩
  rw [← ex]
  have EX := hide ex
  clear ex
  go_wp2_with fail
  refine (sealPair_any a b _ (unhide HA) (unhide HBB)).mono ?_
  rintro e w3 ⟨rfl, rfl⟩
  go_wp2_with fail
  refine (refPair_any a b _ (unhide HA) (unhide HBB)).mono ?_
  rintro e w4 ⟨rfl, rfl⟩
  rw [← ey]
  have EY := hide ey
  clear ey
  go_wp2_with fail
  refine (awake9_any _).mono ?_
  rintro e w5 ⟨rfl, rfl⟩
  go_wp2
  go_ret
  exact ⟨rfl, Below.refl _ _⟩
end Go.Proofs.Ythikknnkghaolaa
