/- Answers to a question: a block, its path, a number: slices of them, of the call's own and such zs can be read. -/
import Derived.Test.YtmphbajnadbggabRecMem
namespace Go.Proofs.Ytmphbajnadbggab
open Go.RowKit
set_option linter.unusedVariables false
set_option linter.unusedSimpArgs false
structure Ans where
  blk : ByteArray
  path : List Int
  keyed : Int
def ans0 : Ans := ⟨⟨#[]⟩, [], 0⟩
/-- the cells of answers whose paths lie where us say -/
def ansCells (us : List Value) (zs : List Ans) : List Value := (us.zip zs).flatMap fun p => [.string p.2.blk, p.1, .int .i64 p.2.keyed]
theorem ansCells_snoc {us : List Value} {zs : List Ans} (u : Value) (a : Ans) (h : us.length = zs.length) : ansCells (us ++ [u]) (zs ++ [a]) = ansCells us zs ++ [.string a.blk, u, .int .i64 a.keyed] := by
  unfold ansCells
  rw [List.zip_append h, List.flatMap_append]
  rfl
theorem flat_at {α : Type} {f : α → List Value} {z : Nat} (hf : ∀ x, (f x).length = z) : ∀ (l : List α) (i j : Nat) (hi : i < l.length), j < z → (l.flatMap f)[i * z + j]? = (f l[i])[j]?
  | x :: r, 0, j, _, hj => by
    rw [List.flatMap_cons, Nat.zero_mul, Nat.zero_add, List.getElem?_append_left (by rw [hf]; exact hj)]
    rfl
  | x :: r, i + 1, j, hi, hj => by
    rw [List.flatMap_cons, List.getElem?_append_right (by rw [hf, Nat.add_mul]; omega), hf]
    have e : (i + 1) * z + j - z = i * z + j := by rw [Nat.add_mul]; omega
    rw [e]
    exact flat_at hf r i j (by simpa using hi) hj
theorem ansCells_at {us : List Value} {zs : List Ans} (h : us.length = zs.length) {i : Nat} (hi : i < zs.length) : (ansCells us zs)[i * 3]? = some (.string (zs.getD i ans0).blk) ∧ (ansCells us zs)[i * 3 + 1]? = us[i]? ∧ (ansCells us zs)[i * 3 + 2]? = some (.int .i64 (zs.getD i ans0).keyed) := by
  have hl : i < (us.zip zs).length := by rw [List.length_zip]; omega
  have e1 : (us.zip zs)[i] = (us[i]'(by omega), zs[i]) := by simp
  have e2 : zs.getD i ans0 = zs[i] := by simp [List.getD, List.getElem?_eq_getElem hi]
  have e3 : us[i]? = some (us[i]'(by omega)) := List.getElem?_eq_getElem (by omega)
  have hf : ∀ x : Value × Ans, ([.string x.2.blk, x.1, .int .i64 x.2.keyed] : List Value).length = 3 := fun _ => rfl
  refine ⟨?_, ?_, ?_⟩
  · have := flat_at hf (us.zip zs) i 0 hl (by decide)
    rw [Nat.add_zero, e1] at this
    unfold ansCells
    rw [this, e2]; rfl
  · have := flat_at hf (us.zip zs) i 1 hl (by decide)
    rw [e1] at this
    unfold ansCells
    rw [this, e3]; rfl
  · have := flat_at hf (us.zip zs) i 2 hl (by decide)
    rw [e1] at this
    unfold ansCells
    rw [this, e2]; rfl
/-- the rows of answers of the call's own, each path in a block of its own -/
structure AnsO (w : World) (B : Nat) (T E : TypeId) (v : Value) (us : List Value) (zs : List Ans) : Prop where
  len : us.length = zs.length
  outer : w.ownsRow B T 3 v zs.length (ansCells us zs)
  row : ∀ (j : Nat) x, us[j]? = some x → OwnL w B E x (((zs.getD j ans0).path).map (Value.int .i64))
  apart : ∀ (i j : Nat) x y, us[i]? = some x → us[j]? = some y → i ≠ j → Apt x y
theorem AnsO.nil (w : World) (B : Nat) (T E : TypeId) : AnsO w B T E (.slice none 0 0) [] [] := ⟨rfl, World.ownsRow_nil w B T 3, fun j v h => by simp at h, fun i j x y h => by simp at h⟩
theorem AnsO.below {w w' : World} {B : Nat} {T E : TypeId} {v : Value} {us : List Value} {zs : List Ans} (h : AnsO w B T E v us zs) (hb : Below w.heap.size w w') : AnsO w' B T E v us zs :=
  ⟨h.len, ownZ_below h.outer hb, fun j x hx => (h.row j x hx).below hb, h.apart⟩
/-- one answer more -/
theorem AnsO.push {w w' : World} {B : Nat} {T E : TypeId} {v v' u : Value} {us : List Value} {zs : List Ans} {a : Ans} (h : AnsO w B T E v us zs) (hu : OwnL w B E u (a.path.map (Value.int .i64))) (hnew : ∀ (j : Nat) x, us[j]? = some x → Apt u x) (hne : T ≠ E)
    (ho' : w'.ownsRow B T 3 v' (zs.length + 1) (ansCells us zs ++ [.string a.blk, u, .int .i64 a.keyed])) (p : Pushed w w' v v') : AnsO w' B T E v' (us ++ [u]) (zs ++ [a]) := by
  have hcase : ∀ (j : Nat) x, (us ++ [u])[j]? = some x → (j < us.length ∧ us[j]? = some x) ∨ (j = us.length ∧ x = u) := by
    intro j x hx
    by_cases hj : j < us.length
    · rw [List.getElem?_append_left hj] at hx; exact .inl ⟨hj, hx⟩
    · rw [List.getElem?_append_right (by omega)] at hx
      have hj0 : j - us.length = 0 := by
        by_cases h0 : j - us.length = 0
        · exact h0
        · rw [List.getElem?_eq_none (by simp; omega)] at hx; cases hx
      rw [hj0] at hx
      simp at hx
      exact .inr ⟨by omega, hx.symm⟩
  refine ⟨by simp [h.len], ?_, fun j x hx => ?_, fun i j x y hx hy hij => ?_⟩
  · rw [ansCells_snoc u a h.len, List.length_append]; exact ho'
  · rcases hcase j x hx with ⟨hj, hx⟩ | ⟨rfl, rfl⟩
    · rw [getD_snoc_left _ _ _ _ (by rw [← h.len]; exact hj)]
      exact p.other (h.row j x hx) (apt_typesZ h.outer (h.row j x hx) hne)
    · rw [h.len, getD_snoc_right]
      exact p.other hu (apt_typesZ h.outer hu hne)
  · rcases hcase i x hx with ⟨hi, hx1⟩ | ⟨hi, hx1⟩
    · rcases hcase j y hy with ⟨hj, hy1⟩ | ⟨hj, hy1⟩
      · exact h.apart i j x y hx1 hy1 hij
      · subst hy1; exact (hnew i x hx1).symm
    · rcases hcase j y hy with ⟨hj, hy1⟩ | ⟨hj, hy1⟩
      · subst hx1; exact hnew j y hy1
      · exact absurd (hi.trans hj.symm) hij
/-- a slice of answers that can be read -/
def AnsV (w : World) (a : Option Addr) (n cap : Nat) (zs : List Ans) : Prop :=
  zs.length = n ∧ ∃ us : List Value, us.length = n ∧ RecV w a n cap 3 (fun i => (ansCells us zs).getD i undef) ∧ ∀ j, j < n → ∃ p c, us[j]? = some (.slice p (zs.getD j ans0).path.length c) ∧ Ints w p (zs.getD j ans0).path.length c (zs.getD j ans0).path
theorem AnsV.below {w w' : World} {a : Option Addr} {n cap : Nat} {zs : List Ans} (h : AnsV w a n cap zs) (hb : Below w.heap.size w w') : AnsV w' a n cap zs := by
  obtain ⟨h1, us, h2, h3, h4⟩ := h
  refine ⟨h1, us, h2, h3.below hb, fun j hj => ?_⟩
  obtain ⟨p, c, e, hI⟩ := h4 j hj
  exact ⟨p, c, e, hI.below hb⟩
/-- the three cells of an answer -/
theorem AnsV.at {w : World} {a : Option Addr} {n cap : Nat} {zs : List Ans} (h : AnsV w a n cap zs) {j : Nat} (hj : j < n) : ∃ b o p c, a = some ⟨b, o, none⟩ ∧ n ≤ cap ∧ w.cell? ⟨b, o + j * 3, none⟩ = some (.string (zs.getD j ans0).blk) ∧ w.cell? ⟨b, o + j * 3 + 1, none⟩ = some (.slice p (zs.getD j ans0).path.length c) ∧ w.cell? ⟨b, o + j * 3 + 2, none⟩ = some (.int .i64 (zs.getD j ans0).keyed) ∧ Ints w p (zs.getD j ans0).path.length c (zs.getD j ans0).path := by
  obtain ⟨h1, us, h2, h3, h4⟩ := h
  obtain ⟨p, c, e, hI⟩ := h4 j hj
  obtain ⟨t1, t2, t3⟩ := ansCells_at (us := us) (zs := zs) (by omega) (i := j) (by omega)
  rcases h3.two with h0 | ⟨hc, b, o, ea, hcell⟩
  · omega
  · refine ⟨b, o, p, c, ea, hc, ?_, ?_, ?_, hI⟩
    · rw [hcell (j * 3) (by omega)]; simp [List.getD, t1]
    · rw [Nat.add_assoc, hcell (j * 3 + 1) (by omega)]; simp [List.getD, t2, e]
    · rw [Nat.add_assoc, hcell (j * 3 + 2) (by omega)]; simp [List.getD, t3]
theorem AnsO.ansV {w : World} {B : Nat} {T E : TypeId} {v : Value} {us : List Value} {zs : List Ans} (h : AnsO w B T E v us zs) : ∃ a cap, v = .slice a zs.length cap ∧ AnsV w a zs.length cap zs := by
  have hl := ownZ_len h.outer
  obtain ⟨a, cap, e, hr⟩ := ownZ_rec (f := fun i => (ansCells us zs).getD i undef) h.outer (fun i hi => by simp [List.getD, List.getElem?_eq_getElem (show i < (ansCells us zs).length by omega)])
  refine ⟨a, cap, e, rfl, us, h.len, hr, fun j hj => ?_⟩
  have hx : us[j]? = some (us[j]'(by rw [h.len]; exact hj)) := List.getElem?_eq_getElem _
  have ho := h.row j _ hx
  obtain ⟨p, c, ev, hI⟩ := ho.ints
  exact ⟨p, c, by rw [hx, ev], hI⟩
/-- what has grown far off leaves the answers -/
theorem AnsO.far {w0 w w' : World} {B : Nat} {T E : TypeId} {v : Value} {us : List Value} {zs : List Ans} {row : Option Nat} (h0 : AnsO w0 B T E v us zs) (h : AnsO w B T E v us zs) (hg : w.grownBy w' row) (hfar : ∀ g, row = some g → w0.heap.size ≤ g) : AnsO w' B T E v us zs := by
  refine ⟨h.len, World.ownsRow.kept h.outer hg ?_, fun j x hx => World.ownsRow.kept (h.row j x hx) hg ?_, h.apart⟩
  · cases hv : v.ownBlock with
    | none => exact .inl rfl
    | some g =>
      refine .inr (fun e => ?_)
      have h1 := (World.ownsRow.lt h0.outer g hv).2
      have h2 := hfar g e.symm
      omega
  · cases hv : x.ownBlock with
    | none => exact .inl rfl
    | some g =>
      refine .inr (fun e => ?_)
      have h1 := ((h0.row j x hx).lt hv).2
      have h2 := hfar g e.symm
      omega
end Go.Proofs.Ytmphbajnadbggab
