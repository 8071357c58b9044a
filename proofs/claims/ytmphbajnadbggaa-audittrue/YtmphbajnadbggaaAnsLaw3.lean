/- SpoilAnswers (ossuarylaw0): a contract. -/
import Derived.Test.YtmphbajnadbggaaAnsLaw2
namespace Go.Proofs.Ytmphbajnadbggaa
open Go.RowKit
set_option linter.unusedVariables false
set_option linter.unusedSimpArgs false
attribute [local go_sem ↓] Go.wp_at_zero Go.wp_at_succ
theorem ownZ_keep {w w' : World} {B : Nat} {e : TypeId} {z n : Nat} {v : Value} {xs : List Value} (h : w.ownsRow B e z v n xs) (hk : ∀ g, v.ownBlock = some g → w'.heap[g]? = w.heap[g]?) : w'.ownsRow B e z v n xs := by
  refine ⟨h.1, ?_⟩
  rcases h.2 with h | ⟨g, cap, cur, rfl, hb, hh, r⟩
  · exact .inl h
  · exact .inr ⟨g, cap, cur, rfl, hb, (hk g rfl).trans hh, r⟩
/-- answers of the call's own, whatever they hold -/
structure AnsS (w : World) (B : Nat) (T E : TypeId) (g n cap : Nat) (us : List Value) (ls : List Nat) (cs : List Value) : Prop where
  len : us.length = n
  lens : ls.length = n
  outer : w.ownsRow B T 3 (.slice (some ⟨g, 0, none⟩) n cap) n cs
  mid : ∀ j, j < n → cs[j * 3 + 1]? = us[j]?
  last : ∀ j, j < n → ∃ x : Int, cs[j * 3 + 2]? = some (.int .i64 x)
  row : ∀ (j : Nat) x, us[j]? = some x → ∃ ys : List Int, ys.length = ls.getD j 0 ∧ OwnL w B E x (ys.map (Value.int .i64))
  apart : ∀ (i j : Nat) x y, us[i]? = some x → us[j]? = some y → i ≠ j → Apt x y
theorem AnsS.row' {w w' : World} {B : Nat} {T E : TypeId} {g n cap : Nat} {us : List Value} {ls : List Nat} {cs : List Value} (h : AnsS w B T E g n cap us ls cs) (hne : T ≠ E) {k : Nat} {v : Value} (hv : us[k]? = some v) {ys : List Int} (hl : ys.length = ls.getD k 0) (hy : OwnL w' B E v (ys.map (Value.int .i64)))
    (hf : ∀ k, v.ownBlock ≠ some k → k < w.heap.size → w'.heap[k]? = w.heap[k]?) : AnsS w' B T E g n cap us ls cs := by
  obtain ⟨ys0, _, hrow⟩ := h.row k v hv
  refine ⟨h.len, h.lens, ownZ_keep h.outer (fun g' hg => hf g' (fun e => apt_typesZ hrow h.outer (Ne.symm hne) g' e hg) (World.ownsRow.lt h.outer g' hg).2), h.mid, h.last, fun j x hx => ?_, h.apart⟩
  by_cases hjk : j = k
  · subst hjk
    rw [hv] at hx
    cases hx
    exact ⟨ys, hl, hy⟩
  · obtain ⟨zs, hz, ho⟩ := h.row j x hx
    exact ⟨zs, hz, ho.keep (fun g' hg => hf g' (fun e => h.apart k j v x hv hx (Ne.symm hjk) g' e hg) (ho.lt hg).2)⟩
theorem AnsS.last' {w : World} {B : Nat} {T E : TypeId} {g n cap : Nat} {us : List Value} {ls : List Nat} {cs : List Value} (h : AnsS w B T E g n cap us ls cs) (hne : T ≠ E) (k : Nat) (x : Int) : AnsS (w.setCell ⟨g, k * 3 + 2, none⟩ (.int .i64 x)) B T E g n cap us ls (cs.set (k * 3 + 2) (.int .i64 x)) := by
  have hst := World.ownsRow.stored h.outer (k * 3 + 2) (.int .i64 x)
  refine ⟨h.len, h.lens, hst.1, fun j hj => ?_, fun j hj => ?_, fun j y hy => ?_, h.apart⟩
  · rw [List.getElem?_set_ne (by omega)]; exact h.mid j hj
  · by_cases e : k = j
    · subst e
      have hl := ownZ_len h.outer
      exact ⟨x, by rw [List.getElem?_set_self (by omega)]⟩
    · rw [List.getElem?_set_ne (by omega)]; exact h.last j hj
  · obtain ⟨zs, hz, ho⟩ := h.row j y hy
    refine ⟨zs, hz, ownsRow_setCell_other ho (fun e => ?_) _⟩
    exact apt_typesZ ho h.outer (Ne.symm hne) _ e rfl
theorem AnsO.spoil {w : World} {B : Nat} {T E : TypeId} {g n cap : Nat} {us : List Value} {zs : List Ans} (h : AnsO w B T E (.slice (some ⟨g, 0, none⟩) n cap) us zs) (hn : zs.length = n) : AnsS w B T E g n cap us (zs.map fun z => z.path.length) (ansCells us zs) := by
  subst hn
  refine ⟨h.len, by simp, h.outer, fun j hj => (ansCells_at h.len hj).2.1, fun j hj => ⟨_, (ansCells_at h.len hj).2.2⟩, fun j x hx => ⟨(zs.getD j ans0).path, ?_, h.row j x hx⟩, h.apart⟩
  have hj : j < zs.length := by rw [← h.len]; exact (List.getElem?_eq_some_iff.1 hx).1
  simp [List.getD, List.getElem?_eq_getElem hj]
set_option maxRecDepth 100000 in
set_option maxHeartbeats 4000000 in
theorem spoilAnswers_some (B g n cap : Nat) (us : List Value) (ls : List Nat) (cs : List Value) (w : World) (h : AnsS w B 64 3 g n cap us ls cs) (hn : n ≤ maxLen) (hls : ∀ j, j < n → ls.getD j 0 ≤ maxLen) (hB : B ≤ w.heap.size) (hgB : B ≤ g) :
    Calls Try.prog 26 #[.slice (some ⟨g, 0, none⟩) n cap] w fun e w' => e = .returned (.tuple #[]) ∧ Below B w w' := by
  unfold maxLen at hn
  have H := hide h
  have HLS := hide hls
  clear h hls
  go_enter Try.func26, Try.ntmps26
  go_wp2
  go_loopw [2] (fun iv wr => ∃ k : Nat, k ≤ n ∧ iv = .int .i64 k ∧ Hid (∃ cs, AnsS wr B 64 3 g n cap us ls cs) ∧ Hid (Below B w wr)) (fun iv _ => n - (intOf iv).toNat)
  case atStart => exact ⟨0, by omega, rfl, hide ⟨cs, unhide H⟩, hide (Below.refl _ _)⟩
  case round =>
    obtain ⟨k, hk, rfl, HA, HW⟩ := hrel
    by_cases hlt : k < n
    · have hlt' : (k : Int) < n := by omega
      obtain ⟨cs1, hA⟩ := unhide HA
      have hcl := ownZ_len hA.outer
      obtain ⟨v, hv⟩ : ∃ v, us[k]? = some v := ⟨_, List.getElem?_eq_getElem (show k < us.length by rw [hA.len]; exact hlt)⟩
      obtain ⟨ys, hyl, hO⟩ := hA.row k v hv
      obtain ⟨p, c, ev⟩ := hO.form
      rw [List.length_map] at ev
      subst ev
      have c1 : wr.cell? ⟨g, k * 3 + 1, none⟩ = some (.slice p ys.length c) := by
        rw [World.ownsRow.cellAt hA.outer (k * 3 + 1) (by omega), hA.mid k hlt, hv]
      have hym : ys.length ≤ maxLen := by rw [hyl]; exact unhide HLS k hlt
      have HA' := hide hA
      have HV := hide hv
      have HYL := hide hyl
      have HO := hide hO
      have HYM := hide hym
      have hszW := (unhide HW).size
      clear hA hv hyl hO hym HA
      go_wp2_with fail
      refine (spoilInts_any B 3 _ ys _ (unhide HO) (unhide HYM)).mono ?_
      rintro e w4 ⟨rfl, ⟨zs, hzl, hoz⟩, hf, b4⟩
      have hA4 := (unhide HA').row' (by decide) (unhide HV) (hzl.trans (unhide HYL)) hoz hf
      obtain ⟨x, hx⟩ := hA4.last k hlt
      have c2 : w4.cell? ⟨g, k * 3 + 2, none⟩ = some (.int .i64 x) := by
        rw [World.ownsRow.cellAt hA4.outer (k * 3 + 2) (by omega), hx]
      have f2 := World.ownsRow.frozenAt hA4.outer (k * 3 + 2)
      have hA5 := fun y => hA4.last' (by decide) k y
      have HA5 := hide hA5
      have HW4 := hide ((unhide HW).trans b4)
      clear hA4 hA5 hf hoz b4 hx c1
      go_wp2
      go_roundw
      case rel => exact ⟨k + 1, by omega, by go_num, hide ⟨_, unhide HA5 _⟩, hide ((unhide HW4).setCell (by show B ≤ g; omega) _)⟩
      case measure => simp [intOf]; omega
    · have hlt' : ¬ (k : Int) < n := by omega
      go_wp2
      exact bodyPost_end (v := .tuple #[]) (by simp [results, Try.results26, go_sem]) rfl ⟨rfl, unhide HW⟩
set_option maxRecDepth 100000 in
theorem spoilAnswers_none (a : Option Addr) (cap : Nat) (w : World) : Calls Try.prog 26 #[.slice a 0 cap] w fun e w' => e = .returned (.tuple #[]) ∧ w' = w := by
  go_enter Try.func26, Try.ntmps26
  go_wp2
  go_rounds 1
  exact bodyPost_end (v := .tuple #[]) (by simp [results, Try.results26, go_sem]) rfl ⟨rfl, rfl⟩
theorem spoilAnswers_any (B : Nat) (v : Value) (us : List Value) (zs : List Ans) (w : World) (h : AnsO w B 64 3 v us zs) (hn : zs.length ≤ maxLen) (hls : ∀ j, j < zs.length → (zs.getD j ans0).path.length ≤ maxLen) (hB : B ≤ w.heap.size) :
    Calls Try.prog 26 #[v] w fun e w' => e = .returned (.tuple #[]) ∧ Below B w w' := by
  by_cases h0 : zs.length = 0
  · obtain ⟨a, cap, e⟩ := ownZ_slice h.outer
    rw [h0] at e
    subst e
    refine (spoilAnswers_none a cap w).mono ?_
    rintro e w' ⟨rfl, rfl⟩
    exact ⟨rfl, Below.refl _ _⟩
  · obtain ⟨g, cap, e, hg, _⟩ := ownZ_form h.outer (by omega)
    subst e
    refine spoilAnswers_some B g zs.length cap us _ _ w (h.spoil rfl) hn (fun j hj => ?_) hB hg
    have := hls j hj
    simpa [List.getD, List.getElem?_eq_getElem hj] using this
end Go.Proofs.Ytmphbajnadbggaa
