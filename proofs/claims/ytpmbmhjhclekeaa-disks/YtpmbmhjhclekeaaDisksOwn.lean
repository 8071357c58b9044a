/- Whatever the disk, or a new one, and whatever up to 40 acts on it: each call answers as the document does, the disk ahead reads as before, also once the disk that came out is spoilt, and May says what the document says. No condition. -/
import Derived.Test.YtpmbmhjhclekeaaRows
import Derived.Test.YtpmbmhjhclekeaaDisksWalk
import Derived.Test.YtpmbmhjhclekeaaMemOpen
import Derived.Test.YtpmbmhjhclekeaaOpenC
import Derived.Test.YtpmbmhjhclekeaaOpenD
import Derived.Test.YtpmbmhjhclekeaaOpenA
import Derived.WalkKit
import Derived.ProofKit
import Derived.OpenShut
import Derived.ShutString
import Derived.ChangeOld
import Derived.Below
import Derived.SizedLaws
import Derived.SliceStrings
namespace Go.Proofs.Ytpmbmhjhclekeaa.disks
open Go.ChangeShapes Go.WideShapes Go.ChangeAt Go.RowKit
open Go.ChangeMaps (open_string shut_string)
set_option linter.unusedVariables false

theorem own : ownKnob Try.prog.godebug = none := by kernel_rfl
theorem laidOut : laidOutB Try.prog = true := by kernel_rfl


set_option maxRecDepth 100000 in
theorem lifted (os : Os) (started : os.Started) (H : Type) (enc : TypeId × Value → H) :
    ReturnsInHanded {} Try.checked os 3 .any (Rows.disksSpec.pre6 enc Try.prog Try.f3 Rows.disksRow.domain false) (Rows.disksSpec.post enc Try.prog Try.f3 false true false false) := by
  refine returnsInHanded_of_change_sized (C := Try.checked) own started (by kernel_rfl) Try.func3
    (ChangeSpec.witness6 (enc := enc) (C := Try.checked) false ⟨#[], #[.agg #[.bool false, .slice none 0 0, .slice none 0 0], .int .i64 0, .slice none 0 0], []⟩ 8 (by kernel_rfl) (by kernel_rfl) (by kernel_rfl) (by kernel_rfl)) ?_
  intro W base args ds gs before hval0 hW hcnd hsz0 _
  have hval : ∀ (j : Nat) t v, Try.f3.params[j]? = some t → args[j]? = some v → Value.okWide Try.prog W .any base t v := hval0
  have hsz : (DataW.weightsEach Try.prog (Try.f3.params.toList ++ Rows.disksSpec.plain.varTypes Try.prog) (ds ++ gs)).all (· ≤ reachBytes) = true := hsz0
  have hW' := hW
  obtain ⟨p, q, hA0, hV, rfl, hfz, hnd⟩ := hW
  have hA : DataW.TrodAll enc Try.prog W 0 (fun _ => true) true Try.f3.params.toList args.toList ds p := hA0
  rw [Try.params3] at hA hval hsz
  obtain ⟨v0, vs0, d0, ds0, p0, q0p, hargs, rfl, rfl, h0, t0⟩ := trodAll_cons hA
  obtain ⟨v1, vs1, d1, ds1, p1, q1p, rfl, rfl, rfl, h1, t1⟩ := trodAll_cons t0
  obtain ⟨v2, vs2, d2, ds2, p2, q2p, rfl, rfl, rfl, h2, t2⟩ := trodAll_cons t1
  obtain ⟨rfl, rfl, rfl⟩ := trodAll_nil t2
  obtain rfl : args = #[v0, v1, v2] := by cases args; simp_all
  obtain ⟨rfl, rfl⟩ := trodVars_none hV
  obtain ⟨cs0, rfl⟩ := okWide_struct Try.underlying25 (hval 0 25 v0 rfl rfl)
  have k0 := h0
  have lt0 : ∀ x ∈ p0, x.block < W.heap.size := by obtain ⟨m, hm⟩ := k0; exact DataW.trod_lt m _ _ _ hm
  obtain ⟨d0k, sa0, n0, sc0, ca0, m0, cc0, rfl, gs0, gc0, rs0, rc0, qs0, qc0⟩ : ∃ (d : Dsk) (sa : Option Addr) (n sc : Nat) (ca : Option Addr) (m cc : Nat), cs0 = #[.bool d.lost, .slice sa n sc, .slice ca m cc] ∧ Strs W sa n sc d.secs ∧ WrV W ca m cc d.cache ∧ n * 16 ≤ 140737488351232 ∧ m * 24 ≤ 140737488351232 ∧ (∀ x ∈ d.secs, x.size ≤ 140737488351232) ∧ ∀ x ∈ d.cache, (Lit.int .i64 x.1).wf = true ∧ x.2.size ≤ 140737488351232 := by
    obtain ⟨fuel, hf⟩ := h0
    have := opens_disk (enc := enc) Try.underlying25 (by kernel_rfl) rfl rfl rfl rfl rfl rfl Try.underlying4 (by kernel_rfl) Try.underlying22 (by kernel_rfl) Try.underlying9 (by kernel_rfl) (by kernel_rfl) Try.underlying23 (by kernel_rfl) Try.underlying62 (by kernel_rfl) (by kernel_rfl) rfl rfl rfl rfl Try.underlying3 (by kernel_rfl) W fuel _ _ hf (fun n hn => by
      have := List.all_eq_true.1 hsz _ (DataW.weights_mem_each (j := 0) rfl rfl n hn)
      simpa using this)
    obtain ⟨d, sa, n, sc, ca, m, cc, h, h1, h2, h3, h4, h5, h6⟩ := this
    exact ⟨d, sa, n, sc, ca, m, cc, by cases cs0; simpa [Value.cells] using h, h1, h2, h3, h4, h5, h6⟩
  obtain ⟨a1, rfl, rfl, rfl, w1⟩ := open_int Try.underlying3 (hval 1 3 v1 rfl rfl) h1
  obtain ⟨a2, n2, c2, rfl⟩ := okWide_slice Try.underlying26 (hval 2 26 v2 rfl rfl)
  have k2 := h2
  have lt2 : ∀ x ∈ p2, x.block < W.heap.size := by obtain ⟨m, hm⟩ := k2; exact DataW.trod_lt m _ _ _ hm
  obtain ⟨x2, g2, r2⟩ : ∃ zs : List ActR, ActV W a2 n2 c2 zs ∧ n2 * 48 ≤ 140737488351232 := by
    obtain ⟨fuel, hf⟩ := h2
    have := opens_acts (enc := enc) Try.underlying26 Try.underlying35 (by kernel_rfl) (by kernel_rfl) rfl rfl rfl rfl rfl rfl rfl rfl rfl rfl Try.underlying3 (by kernel_rfl) Try.underlying9 (by kernel_rfl) W fuel _ _ hf (fun n hn => by
      have := List.all_eq_true.1 hsz _ (DataW.weights_mem_each (j := 2) rfl rfl n hn)
      simpa using this)
    obtain ⟨a, n, cap, zs, hc, hB, h1⟩ := this
    simp [Value.cells] at hc
    obtain ⟨rfl, rfl, rfl⟩ := hc
    exact ⟨zs, hB, h1⟩
  clear hA0 hval0
  refine (Disks_walk (w := W) d0k sa0 n0 sc0 ca0 m0 cc0 gs0 gc0 rs0 rc0 qs0 qc0 a1 w1 a2 n2 c2 x2 g2 r2).mono fun e W' ⟨he, bel⟩ => ?_
  subst he
  exact ⟨_, rfl, _, _, _, [], _, [], hW', trodAll_mk1 (shut_bool Try.underlying4 _), (trodAll_cons_mk (Below.trod laidOut (by kernel_rfl) (of_decide_eq_true (by kernel_rfl)) k0 bel lt0) (trodAll_cons_mk (shut_int Try.underlying3 w1) (trodAll_cons_mk (Below.trod laidOut (by kernel_rfl) (of_decide_eq_true (by kernel_rfl)) k2 bel lt2) trodAll_mk0))), rfl, bel.frame _, fun h => by cases h⟩

theorem over : Rows.disksRow.holds Try.pinned (OpenSpec.ofChange Rows.disksSpec) :=
  OpenClaim.holds_of_wide 3 Try.f3 rfl rfl rfl rfl rfl rfl rfl ⟨rfl, rfl, rfl, rfl, rfl⟩ rfl rfl rfl rfl rfl (by kernel_rfl) Try.func3 (by kernel_rfl)
    (of_decide_eq_true (by kernel_rfl)) (by unfold Func.isWrapper; first | (rw [if_pos (by decide +kernel)]; kernel_rfl) | (rw [if_neg (by decide +kernel)]; exact ⟨rfl, rfl⟩))
    (fun os started H enc _ => lifted os started H enc)

theorem proved : Rows.DisksSaid := over
end Go.Proofs.Ytpmbmhjhclekeaa.disks
namespace Go.Proofs.Ytpmbmhjhclekeaa
theorem disks_holds : Rows.DisksSaid := disks.proved
#print axioms disks_holds
end Go.Proofs.Ytpmbmhjhclekeaa
