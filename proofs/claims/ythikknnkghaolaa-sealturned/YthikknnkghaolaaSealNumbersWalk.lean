/- SealNumbers: seals, pairs are numbers that may be; numbers that differ by Prime are one. -/
import Derived.Test.YthikknnkghaolaaAwake9
import Derived.Laws.BitsAllLaws
namespace Go.Proofs.Ythikknnkghaolaa
open Go.RowKit
set_option linter.unusedVariables false
set_option linter.unusedSimpArgs false
theorem md_add (x : Int) : Seal.md (x + 2147483647) = Seal.md x := by unfold Seal.md; omega
theorem pair_add (x b : Int) : Seal.pair (x + 2147483647) b = Seal.pair x b := by unfold Seal.pair; rw [md_add]
theorem wf_small {x : Int} (h1 : -9223372036854775808 ≤ x) (h2 : x < 9223372036854775808) : (Lit.int .i64 x).wf = true := by
  have e1 : IntKind.i64.min = -9223372036854775808 := by decide
  have e2 : IntKind.i64.max = 9223372036854775807 := by decide
  show (decide (IntKind.i64.min ≤ x) && decide (x ≤ IntKind.i64.max)) = true
  rw [e1, e2]
  simp
  omega
set_option maxRecDepth 100000 in
set_option maxHeartbeats 1000000 in
theorem SealNumbers_walk {w : World} (s : ByteArray) (hs : s.size ≤ 140737488351232) (a : Int) (ha : (Lit.int .i64 a).wf = true) (b : Int) (hb : (Lit.int .i64 b).wf = true) :
    Calls Try.prog 6 #[.string s, .int .i64 a, .int .i64 b] w fun e w' => e = .returned (.bool true) ∧ Below w.heap.size w w' := by
  have HBB := hide hb
  clear hb
  go_enter Try.func6, Try.ntmps6
  go_wp2_with fail
  refine (awake9_any _).mono ?_
  rintro e w5 ⟨rfl, rfl⟩
  go_wp2_with fail
  have hx : -2147483648 ≤ wrap64 (wrap32 (IntKind.u64.wrap a % 4294967296)) ∧ wrap64 (wrap32 (IntKind.u64.wrap a % 4294967296)) < 2147483648 := by
    unfold wrap64 wrap32
    omega
  generalize wrap64 (wrap32 (IntKind.u64.wrap a % 4294967296)) = x at *
  obtain ⟨hx1, hx2⟩ := hx
  obtain ⟨y, ey⟩ : ∃ y, y = Seal.pair x b := ⟨_, rfl⟩
  have hy : y < 2147483647 := by rw [ey]; exact Seal.pair_lt _ _
  obtain ⟨z, ez⟩ : ∃ z, z = Seal.of (byts s) := ⟨_, rfl⟩
  have hz : z < 2147483647 := by rw [ez]; exact Seal.of_lt _
  have EY := hide ey
  have EZ := hide ez
  clear ey ez
  refine (sealPair_any x b _ (wf_small (by omega) (by omega)) (unhide HBB)).mono ?_
  rintro e w6 ⟨rfl, rfl⟩
  rw [← unhide EY]
  go_wp2_with fail
  refine (sealPair_any (x + 2147483647) b _ (wf_small (by omega) (by omega)) (unhide HBB)).mono ?_
  rintro e w7 ⟨rfl, rfl⟩
  rw [pair_add, ← unhide EY]
  go_wp2_with fail
  refine (sealOf_any s _ hs).mono ?_
  rintro e w8 ⟨rfl, rfl⟩
  rw [← unhide EZ]
  have hy' : (y : Int) < 2147483647 := by omega
  have hz' : (z : Int) < 2147483647 := by omega
  go_wp2_with (go_at_call 13; refine (num_any _ _).mono ?_; rintro e w' ⟨rfl, rfl⟩)
  go_ret
  exact ⟨rfl, Below.refl _ _⟩
end Go.Proofs.Ythikknnkghaolaa
