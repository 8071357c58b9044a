/- What the statements' condition gives the walks: the twelve cells of package gen's variable. -/
import Derived.Test.YtcgagkaalbljmaaDoorRows
import Derived.Test.YtcgagkaalbljmaaDoorKGen
import Derived.ProofKit
import Derived.LaidMore
import Derived.OpenShut
import Derived.Stop.Joined
namespace Go.Proofs.YtcgagkaalbljmaaDoor
open Go.ChangeShapes Go.WideShapes Go.ChangeAt Go.RowKit
set_option linter.unusedVariables false
abbrev laid1 : List (String × DataW Unit) := [("ossuary/gen.made", Rows.laid_ossuary_gen_made)]
theorem gMade : Tryd.prog.globalNamed "ossuary/gen.made" = some 0 := by kernel_rfl
theorem tMade : (Tryd.prog.globals[0]?).map (·.type) = some 82 := by kernel_rfl
theorem door_met (os : Os) (args : Array Value) : laidMetH Tryd.prog laid1 ((World.doorLaid Tryd.prog 400 os).forCall (fun _ _ => 0) ⟨#[], args, []⟩).memory :=
  laidMetH_of_parts3 (fuel := 8) (laidMet_of_run' 8 (by kernel_rfl) (by kernel_rfl)) (by kernel_rfl) (by kernel_rfl)
theorem at_of_one {l : List Value} {j : Nat} {x : Value} (h : (l.drop j).take 1 = [x]) : l[j]? = some x := by
  have := congrArg (·[0]?) h
  simpa [List.getElem?_take, List.getElem?_drop] using this
theorem made_of_laid {W : World} (h : laidMetH Tryd.prog laid1 W) : Made W := by
  rw [MakeChecks.laidMetH_plain _ _ _ (by kernel_rfl)] at h
  obtain ⟨ps, ⟨g0, t0, cs0, f0, p0, q0, hg0, ht0, hv0, hd0, _, _⟩, _, _⟩ := h
  obtain rfl := Option.some.inj (gMade.symm.trans hg0)
  obtain rfl := Option.some.inj (tMade.symm.trans ht0)
  have cT : Tryd.prog.cellsOf 81 = 3 := by kernel_rfl
  have cB : Tryd.prog.cellsOf 4 = 1 := by kernel_rfl
  obtain ⟨xs, m1, rfl, hx, hlen, hn, hel⟩ := DataW.trod_array Tryd.underlying82 hd0
  simp only [Prod.mk.injEq] at hx
  obtain ⟨hx, _⟩ := hx
  have hrow : ∀ i, i < 4 → ∃ q, xs[i]? = some (.agg [.lit (.bool true), .lit (.bool true), .lit (.bool true)], q) := by
    intro i hi
    obtain ⟨x, ex⟩ : ∃ x, xs[i]? = some x := ⟨_, List.getElem?_eq_getElem (by omega)⟩
    have hx' : (xs.map (·.1))[i]? = some x.1 := by simp [ex]
    have e : xs.map (·.1) = [.agg [.lit (.bool true), .lit (.bool true), .lit (.bool true)], .agg [.lit (.bool true), .lit (.bool true), .lit (.bool true)], .agg [.lit (.bool true), .lit (.bool true), .lit (.bool true)], .agg [.lit (.bool true), .lit (.bool true), .lit (.bool true)]] := by
      have := hx.symm
      simp only [Rows.laid_ossuary_gen_made, DataW.agg.injEq] at this
      exact this
    rw [e] at hx'
    refine ⟨x.2, ?_⟩
    rw [ex]
    have h4 : i = 0 ∨ i = 1 ∨ i = 2 ∨ i = 3 := by omega
    rcases h4 with rfl | rfl | rfl | rfl <;> (simp at hx'; rw [hx'])
  have hcell : ∀ i, i < 4 → ∀ j, j < 3 → cs0.toList[i * 3 + j]? = some (.bool true) := by
    intro i hi j hj
    obtain ⟨q, hq⟩ := hrow i hi
    have h1 := hel i hi
    rw [hq, cT] at h1
    obtain ⟨ys, m2, rfl, hy, _, hny, hel2⟩ := DataW.trod_array Tryd.underlying81 h1
    simp only [Prod.mk.injEq, DataW.agg.injEq] at hy
    obtain ⟨hy, _⟩ := hy
    obtain ⟨y, ey⟩ : ∃ y, ys[j]? = some y := ⟨_, List.getElem?_eq_getElem (by omega)⟩
    have hy' : (ys.map (·.1))[j]? = some y.1 := by simp [ey]
    rw [← hy] at hy'
    have h2 := hel2 j hj
    rw [ey, cB] at h2
    obtain ⟨b, hb, eb⟩ := DataW.trod_bool Tryd.underlying4 h2
    have hb1 : b = true := by
      rw [eb] at hy'
      have h3 : j = 0 ∨ j = 1 ∨ j = 2 := by omega
      rcases h3 with rfl | rfl | rfl <;> (simp at hy'; exact hy')
    subst hb1
    rw [Nat.mul_one] at hb
    have := at_of_one hb
    rw [List.getElem?_take, if_pos hj, List.getElem?_drop] at this
    exact this
  intro k hk
  rw [World.var?_cell hg0 hv0 k, ← Array.getElem?_toList]
  have := hcell (k / 3) (by omega) (k % 3) (by omega)
  rwa [show k / 3 * 3 + k % 3 = k by omega] at this
end Go.Proofs.YtcgagkaalbljmaaDoor
