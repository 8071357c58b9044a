/- Answers of the call's own, of which a block or a number is put anew. -/
import Derived.Test.YtmphbajnadbggabAnsLaw3
namespace Go.Proofs.Ytmphbajnadbggab
open Go.RowKit
set_option linter.unusedVariables false
set_option linter.unusedSimpArgs false
theorem ansCells_len {us : List Value} {zs : List Ans} (h : us.length = zs.length) : (ansCells us zs).length = zs.length * 3 := by
  unfold ansCells
  have : ∀ l : List (Value × Ans), (l.flatMap fun p => [Value.string p.2.blk, p.1, .int .i64 p.2.keyed]).length = l.length * 3 := by
    intro l
    induction l with
    | nil => rfl
    | cons x l ih => rw [List.flatMap_cons, List.length_append, ih, List.length_cons]; simp; omega
  rw [this, List.length_zip, h, Nat.min_self]
theorem cells3_ext {xs ys : List Value} {n : Nat} (hx : xs.length = n * 3) (hy : ys.length = n * 3) (h : ∀ i, i < n → xs[i * 3]? = ys[i * 3]? ∧ xs[i * 3 + 1]? = ys[i * 3 + 1]? ∧ xs[i * 3 + 2]? = ys[i * 3 + 2]?) : xs = ys := by
  apply List.ext_getElem?
  intro i
  by_cases hi : i < n * 3
  · have hd : i / 3 < n := by omega
    obtain ⟨h0, h1, h2⟩ := h _ hd
    have : i = i / 3 * 3 ∨ i = i / 3 * 3 + 1 ∨ i = i / 3 * 3 + 2 := by omega
    rcases this with e | e | e
    · rw [e]; exact h0
    · rw [e]; exact h1
    · rw [e]; exact h2
  · rw [List.getElem?_eq_none (by omega), List.getElem?_eq_none (by omega)]
theorem set_getD {zs : List Ans} {j i : Nat} {z : Ans} (hj : j < zs.length) : (zs.set j z).getD i ans0 = if i = j then z else zs.getD i ans0 := by
  simp only [List.getD, List.getElem?_set]
  by_cases e : i = j
  · subst e; simp [hj]
  · simp [e, Ne.symm e]
theorem ansCells_blk {us : List Value} {zs : List Ans} (h : us.length = zs.length) {j : Nat} (hj : j < zs.length) (t : ByteArray) :
    (ansCells us zs).set (j * 3) (.string t) = ansCells us (zs.set j ⟨t, (zs.getD j ans0).path, (zs.getD j ans0).keyed⟩) := by
  have h' : us.length = (zs.set j ⟨t, (zs.getD j ans0).path, (zs.getD j ans0).keyed⟩).length := by rw [List.length_set]; exact h
  refine cells3_ext (n := zs.length) (by rw [List.length_set, ansCells_len h]) (by rw [ansCells_len h', List.length_set]) (fun i hi => ?_)
  obtain ⟨a0, a1, a2⟩ := ansCells_at h hi
  obtain ⟨b0, b1, b2⟩ := ansCells_at h' (i := i) (by rw [List.length_set]; exact hi)
  rw [b0, b1, b2, set_getD hj]
  have hl := ansCells_len h
  refine ⟨?_, ?_, ?_⟩
  · by_cases e : i = j
    · subst e; rw [List.getElem?_set_self (by omega)]; simp
    · rw [List.getElem?_set_ne (by omega), a0]; simp [e]
  · rw [List.getElem?_set_ne (by omega), a1]
  · rw [List.getElem?_set_ne (by omega), a2]
    by_cases e : i = j
    · subst e; simp
    · simp [e]
theorem ansCells_key {us : List Value} {zs : List Ans} (h : us.length = zs.length) {j : Nat} (hj : j < zs.length) (k : Int) :
    (ansCells us zs).set (j * 3 + 2) (.int .i64 k) = ansCells us (zs.set j ⟨(zs.getD j ans0).blk, (zs.getD j ans0).path, k⟩) := by
  have h' : us.length = (zs.set j ⟨(zs.getD j ans0).blk, (zs.getD j ans0).path, k⟩).length := by rw [List.length_set]; exact h
  refine cells3_ext (n := zs.length) (by rw [List.length_set, ansCells_len h]) (by rw [ansCells_len h', List.length_set]) (fun i hi => ?_)
  obtain ⟨a0, a1, a2⟩ := ansCells_at h hi
  obtain ⟨b0, b1, b2⟩ := ansCells_at h' (i := i) (by rw [List.length_set]; exact hi)
  rw [b0, b1, b2, set_getD hj]
  have hl := ansCells_len h
  refine ⟨?_, ?_, ?_⟩
  · rw [List.getElem?_set_ne (by omega), a0]
    by_cases e : i = j
    · subst e; simp
    · simp [e]
  · rw [List.getElem?_set_ne (by omega), a1]
  · by_cases e : i = j
    · subst e; rw [List.getElem?_set_self (by omega)]; simp
    · rw [List.getElem?_set_ne (by omega), a2]; simp [e]
theorem ansCells_mid {us : List Value} {zs : List Ans} (h : us.length = zs.length) {j : Nat} (hj : j < zs.length) {u : Value} (hu : us[j]? = some u) : (ansCells us zs).set (j * 3 + 1) u = ansCells us zs := by
  apply List.ext_getElem?
  intro i
  by_cases e : j * 3 + 1 = i
  · subst e
    rw [List.getElem?_set_self (by rw [ansCells_len h]; omega), (ansCells_at h hj).2.1, hu]
  · rw [List.getElem?_set_ne e]
/-- a cell of the answers themselves is put anew -/
theorem AnsO.put {w : World} {B : Nat} {T E : TypeId} {g n cap : Nat} {us : List Value} {zs zs' : List Ans} (h : AnsO w B T E (.slice (some ⟨g, 0, none⟩) n cap) us zs) (hne : T ≠ E) (i : Nat) (x : Value) (hn : zs.length = n) (hl : zs'.length = zs.length) (hc : (ansCells us zs).set i x = ansCells us zs')
    (hp : ∀ j, (zs'.getD j ans0).path = (zs.getD j ans0).path) : AnsO (w.setCell ⟨g, i, none⟩ x) B T E (.slice (some ⟨g, 0, none⟩) n cap) us zs' := by
  subst hn
  have hst := (World.ownsRow.stored h.outer i x).1
  rw [hc] at hst
  refine ⟨by rw [hl]; exact h.len, by rw [hl]; exact hst, fun j y hy => ?_, h.apart⟩
  have hr := h.row j y hy
  rw [hp]
  exact ownsRow_setCell_other (a := ⟨g, i, none⟩) hr (fun e => apt_typesZ hr h.outer (Ne.symm hne) g e rfl) x
theorem AnsO.putBlk {w : World} {B : Nat} {T E : TypeId} {g n cap : Nat} {us : List Value} {zs : List Ans} (h : AnsO w B T E (.slice (some ⟨g, 0, none⟩) n cap) us zs) (hne : T ≠ E) (hn : zs.length = n) {j : Nat} (hj : j < zs.length) (t : ByteArray) :
    AnsO (w.setCell ⟨g, j * 3, none⟩ (.string t)) B T E (.slice (some ⟨g, 0, none⟩) n cap) us (zs.set j ⟨t, (zs.getD j ans0).path, (zs.getD j ans0).keyed⟩) :=
  h.put hne _ _ hn (by rw [List.length_set]) (ansCells_blk h.len hj t) (fun i => by
    rw [set_getD hj]
    by_cases e : i = j
    · subst e; simp
    · simp [e])
theorem AnsO.putKey {w : World} {B : Nat} {T E : TypeId} {g n cap : Nat} {us : List Value} {zs : List Ans} (h : AnsO w B T E (.slice (some ⟨g, 0, none⟩) n cap) us zs) (hne : T ≠ E) (hn : zs.length = n) {j : Nat} (hj : j < zs.length) (k : Int) :
    AnsO (w.setCell ⟨g, j * 3 + 2, none⟩ (.int .i64 k)) B T E (.slice (some ⟨g, 0, none⟩) n cap) us (zs.set j ⟨(zs.getD j ans0).blk, (zs.getD j ans0).path, k⟩) :=
  h.put hne _ _ hn (by rw [List.length_set]) (ansCells_key h.len hj k) (fun i => by
    rw [set_getD hj]
    by_cases e : i = j
    · subst e; simp
    · simp [e])
/-- a whole answer is put anew, its path as it was -/
theorem AnsO.putAll {w : World} {B : Nat} {T E : TypeId} {g n cap : Nat} {us : List Value} {zs : List Ans} (h : AnsO w B T E (.slice (some ⟨g, 0, none⟩) n cap) us zs) (hne : T ≠ E) (hn : zs.length = n) {j : Nat} (hj : j < zs.length) (t : ByteArray) {u : Value} (hu : us[j]? = some u) (k : Int) :
    AnsO (((w.setCell ⟨g, j * 3, none⟩ (.string t)).setCell ⟨g, j * 3 + 1, none⟩ u).setCell ⟨g, j * 3 + 2, none⟩ (.int .i64 k)) B T E (.slice (some ⟨g, 0, none⟩) n cap) us (zs.set j ⟨t, (zs.getD j ans0).path, k⟩) := by
  have h1 := h.putBlk hne hn hj t
  have h2 := h1.put (zs' := zs.set j ⟨t, (zs.getD j ans0).path, (zs.getD j ans0).keyed⟩) hne (j * 3 + 1) u (by rw [List.length_set]; exact hn) rfl (ansCells_mid h1.len (by rw [List.length_set]; exact hj) hu) (fun _ => rfl)
  have h3 := h2.putKey hne (by rw [List.length_set]; exact hn) (j := j) (by rw [List.length_set]; exact hj) k
  rw [set_getD hj, if_pos rfl, List.set_set] at h3
  exact h3
theorem ans_eta {zs : List Ans} {j : Nat} (hj : j < zs.length) : zs.set j ⟨(zs.getD j ans0).blk, (zs.getD j ans0).path, (zs.getD j ans0).keyed⟩ = zs := by
  have : zs.getD j ans0 = zs[j] := by simp [List.getD, hj]
  rw [this]
  exact List.set_getElem_self hj
theorem AnsO.mid {w : World} {B : Nat} {T E : TypeId} {g n cap : Nat} {us : List Value} {zs : List Ans} (h : AnsO w B T E (.slice (some ⟨g, 0, none⟩) n cap) us zs) (hn : zs.length = n) {j : Nat} (hj : j < zs.length) {v : Value} (hc : w.cell? ⟨g, j * 3 + 1, none⟩ = some v) : us[j]? = some v := by
  have ho := h.outer
  obtain ⟨g', c', e, _, _, _, hcell⟩ := ownZ_form ho (by omega)
  simp only [Value.slice.injEq, Option.some.injEq, Addr.mk.injEq, and_true] at e
  obtain ⟨e1, _⟩ := e
  have hx : us[j]? = some (us[j]'(by rw [h.len]; exact hj)) := List.getElem?_eq_getElem _
  have h1 := hcell (j * 3 + 1) _ ((ansCells_at h.len hj).2.1.trans hx)
  rw [← e1, hc] at h1
  rw [hx]
  exact congrArg some (Option.some.inj h1).symm
/-- all but the first answer -/
theorem AnsV.tail {w : World} {b o n cap : Nat} {zs : List Ans} (h : AnsV w (some ⟨b, o, none⟩) n cap zs) (h0 : 0 < n) : AnsV w (if cap = 1 then some ⟨b, o, none⟩ else some ⟨b, o + 3, none⟩) (n - 1) (cap - 1) (zs.drop 1) := by
  obtain ⟨h1, us, h2, h3, h4⟩ := h
  refine ⟨by rw [List.length_drop, h1], us.drop 1, by rw [List.length_drop, h2], (h3.tail h0).congr (fun i hi => ?_), fun j hj => ?_⟩
  · match zs, us, h1, h2 with
    | z :: zs, u :: us, h1, h2 =>
      show (ansCells (u :: us) (z :: zs)).getD (3 + i) undef = (ansCells us zs).getD i undef
      have e : ansCells (u :: us) (z :: zs) = [Value.string z.blk, u, .int .i64 z.keyed] ++ ansCells us zs := rfl
      rw [e, List.getD, List.getD, List.getElem?_append_right (by simp)]
      simp
    | [], _, h1, _ => simp at h1; omega
    | _ :: _, [], _, h2 => simp at h2; omega
  · obtain ⟨p, c, e, hI⟩ := h4 (1 + j) (by omega)
    have e2 : (zs.drop 1).getD j ans0 = zs.getD (1 + j) ans0 := by simp [List.getD, Nat.add_comm]
    refine ⟨p, c, ?_, ?_⟩
    · rw [e2, List.getElem?_drop]; exact e
    · rw [e2]; exact hI
theorem ans_back {zs : List Ans} {j : Nat} (hj : j < zs.length) (z : Ans) (t : ByteArray) (k : Int) (ht : t = (zs.getD j ans0).blk) (hk : k = (zs.getD j ans0).keyed) : (zs.set j z).set j ⟨t, (zs.getD j ans0).path, k⟩ = zs := by
  rw [List.set_set, ht, hk]
  exact ans_eta hj
end Go.Proofs.Ytmphbajnadbggab
