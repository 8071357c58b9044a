/- Opening structs and slices of structs that came in. -/
import Derived.Test.YtmphbajnadbggabOpenC
import Derived.Test.YtmphbajnadbggabRecMem
namespace Go.Proofs.Ytmphbajnadbggab
open Go.RowKit Go.ChangeShapes Go.WideShapes
set_option linter.unusedVariables false
set_option linter.unusedSimpArgs false
theorem rec_of_add {w : World} {x : Addr} {n cap z : Nat} {f : Nat → Value} (hz : 0 < z) (hl : n ≤ cap) (hc : ∀ i, i < n * z → w.cell? (x.add i) = some (f i)) : RecV w (some x) n cap z f := by
  by_cases h0 : n = 0
  · exact .inr (.inl ⟨h0, x, rfl⟩)
  · obtain ⟨b, off, spot⟩ := x
    have h := hc 0 (Nat.mul_pos (by omega) hz)
    have hs : spot = none := by simpa [Addr.add] using World.cell?_spot h
    subst hs
    refine .inr (.inr ⟨by omega, hl, b, off, rfl, fun i hi => ?_⟩)
    have := hc i hi
    rw [add_row] at this; exact this
theorem addr_two (x : Addr) (i j : Nat) : (x.add i).add j = x.add (i + j) := by
  unfold Addr.add
  by_cases hi : i = 0
  · subst hi; simp
  · by_cases hj : j = 0
    · subst hj; simp
    · rw [if_neg hi, if_neg hj, if_neg (by omega)]
      simp [Nat.add_assoc]
/-- a slice of structs: its cells, and what each struct's are -/
theorem SliceR.recs {R : World → List Value → Prop} {w : World} {a : Option Addr} {n cap z : Nat} (hz : 0 < z) (h : SliceR R z w a n cap) :
    ∃ f : Nat → Value, RecV w a n cap z f ∧ n ≤ cap ∧ n ≤ maxLen ∧ ∀ i, i < n → ∃ cs, cs.length = z ∧ R w cs ∧ ∀ j, j < z → cs[j]? = some (f (i * z + j)) := by
  rcases h with ⟨rfl, rfl, rfl⟩ | ⟨x, rfl, hl, hm, hc⟩
  · exact ⟨fun _ => undef, .inl ⟨rfl, rfl, rfl⟩, Nat.le_refl _, Nat.zero_le _, fun i hi => by omega⟩
  · have each : ∀ i, i < n → ∃ cs : List Value, cs.length = z ∧ R w cs ∧ ∀ j, j < z → ∃ v, cs[j]? = some v ∧ w.cell? (x.add (i * z + j)) = some v := fun i hi => by
      obtain ⟨cs, h1, h2⟩ := hc i (by omega)
      obtain ⟨_, h3, h4⟩ := World.cells?_some h1
      refine ⟨cs, h3, h2, fun j hj => ?_⟩
      have h5 := h4 j hj
      rw [List.getElem?_eq_getElem (by omega)] at h5
      exact ⟨cs[j], List.getElem?_eq_getElem _, by rw [← addr_two]; exact h5⟩
    let cs : Nat → List Value := fun i => if h : i < n then (each i h).choose else []
    have hcs : ∀ i, i < n → (cs i).length = z ∧ R w (cs i) ∧ ∀ j, j < z → ∃ v, (cs i)[j]? = some v ∧ w.cell? (x.add (i * z + j)) = some v := fun i hi => by
      have := (each i hi).choose_spec
      simp only [cs, dif_pos hi]; exact this
    refine ⟨fun k => (cs (k / z)).getD (k % z) undef, rec_of_add hz hl (fun k hk => ?_), hl, Nat.le_trans hl hm, fun i hi => ?_⟩
    · have hd : k / z < n := Nat.div_lt_of_lt_mul (by rw [Nat.mul_comm]; exact hk)
      have hm' : k % z < z := Nat.mod_lt _ hz
      obtain ⟨v, h1, h2⟩ := (hcs _ hd).2.2 _ hm'
      have e : k / z * z + k % z = k := by rw [Nat.mul_comm]; exact Nat.div_add_mod k z
      rw [e] at h2
      rw [h2]
      simp [List.getD, h1]
    · obtain ⟨h1, h2, h3⟩ := hcs i hi
      refine ⟨cs i, h1, h2, fun j hj => ?_⟩
      have e1 : (i * z + j) / z = i := by rw [Nat.mul_comm, Nat.mul_add_div hz]; simp [Nat.div_eq_of_lt hj]
      have e2 : (i * z + j) % z = j := by rw [Nat.mul_comm, Nat.mul_add_mod]; exact Nat.mod_eq_of_lt hj
      show (cs i)[j]? = some ((cs ((i * z + j) / z)).getD ((i * z + j) % z) undef)
      rw [e1, e2]
      obtain ⟨v, h4, _⟩ := h3 j hj
      rw [h4]
      simp [List.getD, h4]
section
variable {H : Type} {enc : TypeId × Value → H} {P : Program}
/-- a struct of fields of one cell each -/
theorem opens_flat {t : TypeId} {fs : Array Field} {n : Nat} {R : Nat → World → List Value → Prop} (ht : P.underlying t = some (.struct fs)) (ct : P.cellsOf t = n) (hn : fs.size = n) (ho : ∀ (i : Nat) f, fs[i]? = some f → f.offset = i ∧ P.cellsOf f.type = 1)
    (hR : ∀ (i : Nat) f, fs[i]? = some f → Opens enc P f.type (R i)) : Opens enc P t (fun w cs => cs.length = n ∧ ∀ i, i < n → ∃ v, cs[i]? = some v ∧ R i w [v]) := by
  refine (opens_struct ht hR).mono ?_
  rintro w cs ⟨hl, h⟩
  rw [ct] at hl
  refine ⟨hl, fun i hi => ?_⟩
  have hf : fs[i]? = some (fs[i]'(by omega)) := Array.getElem?_eq_getElem _
  have := h i _ hf
  obtain ⟨o1, o2⟩ := ho i _ hf
  rw [o1, o2] at this
  have e : (cs.drop i).take 1 = [cs[i]'(by omega)] := by
    rw [List.drop_eq_getElem_cons (by omega)]
    rfl
  rw [e] at this
  exact ⟨cs[i]'(by omega), List.getElem?_eq_getElem _, this⟩
end
end Go.Proofs.Ytmphbajnadbggab
