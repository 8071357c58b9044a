/- Plain facts on slices that came in. -/
import Derived.Test.YtmphbajnadbggabKCore
namespace Go.Proofs.Ytmphbajnadbggab
open Go.RowKit
set_option linter.unusedVariables false
/-- a slice of bytes reads xs -/
def Bytes (w : World) (a : Option Addr) (n cap : Nat) (xs : List Int) : Prop := xs.length = n ∧ IsRow w a n cap (fun i => .int .u8 (xs.getD i 0))
theorem row_le {w : World} {a : Option Addr} {n cap : Nat} {f : Nat → Value} (h : IsRow w a n cap f) : n ≤ cap := by
  rcases h with h | h | h <;> omega
theorem getD_take {α : Type} {zs : List α} {n i : Nat} (d : α) (h : i < n) : (zs.take n).getD i d = zs.getD i d := by
  simp [List.getD, h]
theorem row_of_add {w : World} {x : Addr} {n cap : Nat} {f : Nat → Value} (hl : n ≤ cap) (hc : ∀ i, i < n → w.cell? (x.add i) = some (f i)) : IsRow w (some x) n cap f := by
  by_cases h0 : n = 0
  · exact .inr (.inl ⟨h0, x, rfl⟩)
  · obtain ⟨b, off, spot⟩ := x
    have h := hc 0 (by omega)
    have hs : spot = none := by simpa [Addr.add] using World.cell?_spot h
    subst hs
    refine .inr (.inr ⟨by omega, hl, b, off, rfl, fun i hi => ?_⟩)
    have := hc i hi
    have e : (⟨b, off, none⟩ : Addr).add i = ⟨b, off + i, none⟩ := by unfold Addr.add; split <;> simp_all
    rw [e] at this; exact this
end Go.Proofs.Ytmphbajnadbggab
