/- 'append(s, x)' of one element onto a slice of the call's own, and what it does to the call's other slices: nothing. -/
import Derived.Test.YtfeepmjkamdldaaDoorMem
import Derived.Deep.AppendLies
import Derived.Maps.AppendAt
namespace Go.Proofs.YtfeepmjkamdldaaDoor
open Go.RowKit
set_option linter.unusedVariables false
/-- v is a slice of the call's own (blocks from B on) that holds xs -/
def OwnL (w : World) (B : Nat) (e : TypeId) (v : Value) (xs : List Value) : Prop := w.ownsRow B e 1 v xs.length xs
/-- two slices that lie in different blocks -/
def Apt (v v' : Value) : Prop := ∀ g, v.ownBlock = some g → v'.ownBlock ≠ some g
theorem Apt.symm {v v' : Value} (h : Apt v v') : Apt v' v := fun g e e' => h g e' e
theorem apt_nil (v : Value) : Apt v (.slice none 0 0) := fun g _ => by simp [Value.ownBlock]
theorem OwnL.nil (w : World) (B : Nat) (e : TypeId) : OwnL w B e (.slice none 0 0) [] := World.ownsRow_nil w B e 1
theorem OwnL.lt {w : World} {B : Nat} {e : TypeId} {v : Value} {xs : List Value} (h : OwnL w B e v xs) {g : Nat} (hg : v.ownBlock = some g) : B ≤ g ∧ g < w.heap.size := World.ownsRow.lt h g hg
theorem OwnL.alloc {w : World} {B : Nat} {e : TypeId} {v : Value} {xs : List Value} (h : OwnL w B e v xs) (o : Obj) : OwnL (w.alloc o) B e v xs := World.ownsRow.alloc h o
theorem OwnL.below {w w' : World} {B : Nat} {e : TypeId} {v : Value} {xs : List Value} (h : OwnL w B e v xs) (hb : Below w.heap.size w w') : OwnL w' B e v xs :=
  World.ownsRow.kept (row := none) h ⟨hb.os, hb.tape, hb.output, hb.size, fun k hk _ => hb.block k hk⟩ (by cases hv : v.ownBlock <;> simp)
/-- behind 'append(v, u)': v' lies where v lay, or in a new block; no other old block has turned -/
structure Pushed (w w' : World) (v v' : Value) : Prop where
  grown : w.grownBy w' v.ownBlock
  lies : v'.ownBlock = v.ownBlock ∨ ∃ g, v'.ownBlock = some g ∧ w.heap.size ≤ g
theorem Pushed.other {w w' : World} {v v' v2 : Value} {B : Nat} {e : TypeId} {ys : List Value} (p : Pushed w w' v v') (h : OwnL w B e v2 ys) (a : Apt v v2) : OwnL w' B e v2 ys :=
  World.ownsRow.kept h p.grown (by
    cases hv : v2.ownBlock with
    | none => exact .inl rfl
    | some g => exact .inr (fun he => a g he.symm hv))
theorem Pushed.apt {w w' : World} {v v' v2 : Value} {B : Nat} {e : TypeId} {ys : List Value} (p : Pushed w w' v v') (h : OwnL w B e v2 ys) (a : Apt v v2) : Apt v' v2 := by
  intro g hg hg2
  rcases p.lies with he | ⟨g', he, hle⟩
  · exact a g (by rw [← he]; exact hg) hg2
  · have hlt := (h.lt hg2).2
    rw [he] at hg
    simp at hg
    omega
theorem Pushed.below {W w w' : World} {v v' : Value} {B B' : Nat} {e : TypeId} {xs : List Value} (p : Pushed w w' v v') (h : OwnL w B e v xs) (hb : Below B' W w) (hB : B' ≤ B) (hs : B' ≤ w.heap.size) : Below B' W w' :=
  hb.grown p.grown hs (fun k hk => Nat.le_trans hB (h.lt hk).1)
theorem wpList_push {P : Program} (w0 : World) {ops : Array Oper} {rest : List Oper} {o : Oper} {a : Act} {Q : Exit → Act → World → Prop} (hgd : o.guard = none) (s x : Operand) (t : TypeId)
    (ho : o.op = .call { callee := .builtin .append, args := #[s, x], argTypes := #[t, t] })
    (B : Nat) (e : TypeId) (z : Value) (bytes : Nat) (ht : P.underlying t = some (.slice e)) (hinfo : (P.info? e).map (fun i => (i.zero, i.size, i.bytes)) = some (some z, 1, bytes)) (hzs : z.cells.size = 1)
    (v : Value) (xs : List Value) (hs : a.eval s = v) (hown : OwnL w0 B e v xs) (u : Value) (hu : u.oneCell' = true)
    (hx : a.eval x = .slice (some ⟨w0.heap.size, 0, none⟩) 1 1)
    (hbytes : (xs.length + 1) * bytes ≤ 140737488355328) (hb8 : 0 < bytes) (hbase : B ≤ w0.heap.size)
    (h : ∀ v' w', OwnL w' B e v' (xs ++ [u]) → Pushed w0 w' v v' → wpList P ops Q rest (a.put o.dst v') w') : wpList P ops Q (o :: rest) a (w0.alloc (.cells #[u] e)) := by
  obtain ⟨i0, hi, hz0, hz1, hz2⟩ := info_parts hinfo
  have hb1 : (xs.length + 1) * 1 ≤ (xs.length + 1) * bytes := Nat.mul_le_mul_left _ hb8
  refine wpList_append_lies _ hgd s x t ho B e i0 z 1 bytes ht hi hz0 hz1 hz2 hzs (by decide) v xs.length xs hs (hown.alloc _) ⟨w0.heap.size, 0, none⟩ 1 1 [u] hx rfl (news_alloc w0 [u] e) (by simpa using hu) (by decide) (by unfold maxLen; omega) hbytes (by simp; omega) (w0.heap.size + 1) (by simp) ?_
  intro g cap w' h1 h2 h3 h4
  refine h _ w' (by simpa [OwnL] using h1) ⟨?_, ?_⟩
  · exact ⟨h2.os, h2.tape, h2.output, Nat.le_trans (by simp) h2.size, fun k hk hne => by
      rw [h2.block k (by simp; omega) hne]; exact Below.heap_alloc _ _ _ hk⟩
  · rcases h3 with h3 | h3
    · exact .inl (by rw [h3]; rfl)
    · exact .inr ⟨g, rfl, by omega⟩
theorem OwnL.strs {w : World} {B : Nat} {e : TypeId} {v : Value} {ss : List ByteArray} (h : OwnL w B e v (ss.map Value.string)) : ∃ a cap, v = .slice a ss.length cap ∧ Strs w a ss.length cap ss := own_strs (by simpa [OwnL] using h) rfl
theorem OwnL.ints {w : World} {B : Nat} {e : TypeId} {v : Value} {ss : List Int} (h : OwnL w B e v (ss.map (Value.int .i64))) : ∃ a cap, v = .slice a ss.length cap ∧ Ints w a ss.length cap ss := own_ints (by simpa [OwnL] using h) rfl
/-- the same at whatever world, the element lying at ad -/
theorem wp_push {P : Program} (w : World) {o : Oper} {a : Act} {K : Act → World → Prop} {Q : Exit → Act → World → Prop} (s x : Operand) (t : TypeId)
    (ho : o.op = .call { callee := .builtin .append, args := #[s, x], argTypes := #[t, t] })
    (B : Nat) (e : TypeId) (z : Value) (bytes : Nat) (ht : P.underlying t = some (.slice e)) (hinfo : (P.info? e).map (fun i => (i.zero, i.size, i.bytes)) = some (some z, 1, bytes)) (hzs : z.cells.size = 1)
    (v : Value) (xs : List Value) (hs : a.eval s = v) (hown : OwnL w B e v xs) (u : Value) (hu : u.oneCell' = true) (b off : Nat)
    (hx : a.eval x = .slice (some ⟨b, off, none⟩) 1 1) (hcell : w.cell? ⟨b, off, none⟩ = some u)
    (hbytes : (xs.length + 1) * bytes ≤ 140737488355328) (hb8 : 0 < bytes) (hbase : B ≤ w.heap.size)
    (h : ∀ v' w', OwnL w' B e v' (xs ++ [u]) → Pushed w w' v v' → K (a.put o.dst v') w') : o.wp P a w K Q := by
  obtain ⟨i0, hi, hz0, hz1, hz2⟩ := info_parts hinfo
  have hb1 : (xs.length + 1) * 1 ≤ (xs.length + 1) * bytes := Nat.mul_le_mul_left _ hb8
  refine wp_append_lies w s x t ho B e i0 z 1 bytes ht hi hz0 hz1 hz2 hzs (by decide) v xs.length xs hs hown ⟨b, off, none⟩ 1 1 [u] hx rfl ?_ (by simpa using hu) (by decide) (by unfold maxLen; omega) hbytes hbase w.heap.size rfl ?_
  · intro j y hj
    match j with
    | 0 => simp at hj; subst hj; rw [add_row]; exact hcell
    | j + 1 => simp at hj
  · intro g cap w' h1 h2 h3 h4
    refine h _ w' (by simpa [OwnL] using h1) ⟨h2, ?_⟩
    rcases h3 with h3 | h3
    · exact .inl (by rw [h3]; rfl)
    · exact .inr ⟨g, rfl, by omega⟩
/-- as a step of a region whose order is open -/
theorem step_push {P : Program} {ops : Array Oper} {E : Prop} (w : World) {o : Oper} {a : Act} {K : Act → World → Prop} {Q : Exit → Act → World → Prop} (hg : o.guard = none) (s x : Operand) (t : TypeId)
    (ho : o.op = .call { callee := .builtin .append, args := #[s, x], argTypes := #[t, t] })
    (B : Nat) (e : TypeId) (z : Value) (bytes : Nat) (ht : P.underlying t = some (.slice e)) (hinfo : (P.info? e).map (fun i => (i.zero, i.size, i.bytes)) = some (some z, 1, bytes)) (hzs : z.cells.size = 1)
    (v : Value) (xs : List Value) (hs : a.eval s = v) (hown : OwnL w B e v xs) (u : Value) (hu : u.oneCell' = true) (b off : Nat)
    (hx : a.eval x = .slice (some ⟨b, off, none⟩) 1 1) (hcell : w.cell? ⟨b, off, none⟩ = some u)
    (hbytes : (xs.length + 1) * bytes ≤ 140737488355328) (hb8 : 0 < bytes) (hbase : B ≤ w.heap.size)
    (h : ∀ v' w', OwnL w' B e v' (xs ++ [u]) → Pushed w w' v v' → K (a.put o.dst v') w') : if Region.wanted o (yielded ops a.tmps) = true then o.wp P a w K Q else E := by
  rw [if_pos (by simp [Region.wanted, hg])]
  exact wp_push w s x t ho B e z bytes ht hinfo hzs v xs hs hown u hu b off hx hcell hbytes hb8 hbase h
/-- 'append(s, x...)', s a row of the call's own, x whatever row that can be read -/
theorem wp_append_row {P : Program} (w : World) {o : Oper} {a : Act} {K : Act → World → Prop} {Q : Exit → Act → World → Prop} (s x : Operand) (t : TypeId)
    (ho : o.op = .call { callee := .builtin .append, args := #[s, x], argTypes := #[t, t] })
    (B : Nat) (e : TypeId) (z : Value) (bytes : Nat) (ht : P.underlying t = some (.slice e)) (hinfo : (P.info? e).map (fun i => (i.zero, i.size, i.bytes)) = some (some z, 1, bytes)) (hzs : z.cells.size = 1)
    (v : Value) (xs : List Value) (hs : a.eval s = v) (hown : OwnL w B e v xs)
    (ad : Option Addr) (m c : Nat) (f : Nat → Value) (news : List Value) (hx : a.eval x = .slice ad m c) (hrow : IsRow w ad m c f) (hl : news.length = m) (hf : ∀ i, i < m → news[i]? = some (f i)) (h1 : ∀ u ∈ news, u.oneCell' = true)
    (hbytes : (xs.length + m) * bytes ≤ 140737488355328) (hb8 : 0 < bytes) (hbase : B ≤ w.heap.size)
    (h : ∀ v' w', OwnL w' B e v' (xs ++ news) → Pushed w w' v v' → K (a.put o.dst v') w') : o.wp P a w K Q := by
  obtain ⟨i0, hi, hz0, hz1, hz2⟩ := info_parts hinfo
  have hb1 : (xs.length + m) * 1 ≤ (xs.length + m) * bytes := Nat.mul_le_mul_left _ hb8
  have hsome : ∀ ad', ad = some ad' → (∀ j u, news[j]? = some u → w.cell? (ad'.add j) = some u) → o.wp P a w K Q := by
    intro ad' e1 hn
    subst e1
    obtain ⟨v', w', hr, h2, h3, h4, h5⟩ := run_append_own_at (P := P) w B t o.type e i0 z 1 bytes ht hi hz0 hz1 hz2 hzs (by decide) v xs.length xs hown ad' m c news (by omega) hn h1 (by unfold maxLen; omega) hbytes hbase
    unfold Oper.wp execOp
    simp only [ho, resolve, invoke, builtin, Sem.run_bind, Sem.run_pure, Result.andThen_ok, List.map_toArray, List.map_cons, List.map_nil, hs, hx, hr]
    refine h v' w' (by simpa [OwnL, hl] using h2) ⟨h3, ?_⟩
    rcases h5 with h5 | h5
    · exact .inl h5
    · exact .inr ⟨_, h5, Nat.le_refl _⟩
  rcases hrow with ⟨rfl, rfl, rfl⟩ | ⟨rfl, ad', rfl⟩ | ⟨hp, _, b, off, rfl, hc⟩
  · have e0 : news = [] := List.length_eq_zero_iff.1 hl
    subst e0
    have hrun := run_append_owned_none (P := P) (w := w) B t o.type e i0 1 ht hi v xs.length xs hown
    unfold Oper.wp
    simp [execOp, ho, resolve, invoke, builtin, hs, hx, hrun, Result.andThen]
    exact h v w (by simpa using hown) ⟨World.grownBy.refl _ _, .inl rfl⟩
  · have e0 : news = [] := List.length_eq_zero_iff.1 hl
    subst e0
    exact hsome ad' rfl (by simp)
  · refine hsome _ rfl ?_
    intro j u hj
    by_cases hlt : j < m
    · rw [hf j hlt] at hj
      rw [add_row, hc j hlt]; exact hj
    · rw [List.getElem?_eq_none (by omega)] at hj; simp at hj
theorem step_append_row {P : Program} {ops : Array Oper} {E : Prop} (w : World) {o : Oper} {a : Act} {K : Act → World → Prop} {Q : Exit → Act → World → Prop} (hg : o.guard = none) (s x : Operand) (t : TypeId)
    (ho : o.op = .call { callee := .builtin .append, args := #[s, x], argTypes := #[t, t] })
    (B : Nat) (e : TypeId) (z : Value) (bytes : Nat) (ht : P.underlying t = some (.slice e)) (hinfo : (P.info? e).map (fun i => (i.zero, i.size, i.bytes)) = some (some z, 1, bytes)) (hzs : z.cells.size = 1)
    (v : Value) (xs : List Value) (hs : a.eval s = v) (hown : OwnL w B e v xs)
    (ad : Option Addr) (m c : Nat) (f : Nat → Value) (news : List Value) (hx : a.eval x = .slice ad m c) (hrow : IsRow w ad m c f) (hl : news.length = m) (hf : ∀ i, i < m → news[i]? = some (f i)) (h1 : ∀ u ∈ news, u.oneCell' = true)
    (hbytes : (xs.length + m) * bytes ≤ 140737488355328) (hb8 : 0 < bytes) (hbase : B ≤ w.heap.size)
    (h : ∀ v' w', OwnL w' B e v' (xs ++ news) → Pushed w w' v v' → K (a.put o.dst v') w') : if Region.wanted o (yielded ops a.tmps) = true then o.wp P a w K Q else E := by
  rw [if_pos (by simp [Region.wanted, hg])]
  exact wp_append_row w s x t ho B e z bytes ht hinfo hzs v xs hs hown ad m c f news hx hrow hl hf h1 hbytes hb8 hbase h
theorem Pushed.block {w w' : World} {v v' : Value} {B k : Nat} {e : TypeId} {xs : List Value} (p : Pushed w w' v v') (h : OwnL w B e v xs) (hk : k < B) (hs : k < w.heap.size) : w'.heap[k]? = w.heap[k]? :=
  p.grown.block k hs (fun he => by have := (h.lt he.symm).1; omega)
/-- several slices of the call's own, each in a block of its own -/
def Fam (w : World) (B : Nat) (l : List (TypeId × Value × List Value)) : Prop :=
  (∀ (i : Nat) p, l[i]? = some p → OwnL w B p.1 p.2.1 p.2.2) ∧ ∀ (i j : Nat) p q, l[i]? = some p → l[j]? = some q → i ≠ j → Apt p.2.1 q.2.1
theorem Fam.own {w : World} {B : Nat} {l : List (TypeId × Value × List Value)} (h : Fam w B l) (i : Nat) {e : TypeId} {v : Value} {xs : List Value} (hi : l[i]? = some (e, v, xs)) : OwnL w B e v xs := h.1 i _ hi
theorem Fam.push {w w' : World} {B : Nat} {l : List (TypeId × Value × List Value)} (h : Fam w B l) (i : Nat) {e : TypeId} {v v' : Value} {xs ys : List Value} (hi : l[i]? = some (e, v, xs)) (ho : OwnL w' B e v' ys) (p : Pushed w w' v v') :
    Fam w' B (l.set i (e, v', ys)) := by
  have hil : i < l.length := (List.getElem?_eq_some_iff.1 hi).1
  constructor
  · intro j q hq
    rw [List.getElem?_set] at hq
    by_cases hji : i = j
    · subst hji
      rw [if_pos rfl, if_pos hil] at hq
      simp at hq; subst hq; exact ho
    · rw [if_neg hji] at hq
      exact p.other (h.1 j q hq) (h.2 i j _ q hi hq hji)
  · intro j k q r hq hr hjk
    rw [List.getElem?_set] at hq hr
    by_cases hij : i = j
    · subst hij
      rw [if_pos rfl, if_pos hil] at hq
      rw [if_neg hjk] at hr
      simp at hq; subst hq
      exact p.apt (h.1 k r hr) (h.2 i k _ r hi hr hjk)
    · rw [if_neg hij] at hq
      by_cases hik : i = k
      · subst hik
        rw [if_pos rfl, if_pos hil] at hr
        simp at hr; subst hr
        exact (p.apt (h.1 j q hq) (h.2 i j _ q hi hq hij)).symm
      · rw [if_neg hik] at hr
        exact h.2 j k q r hq hr hjk
theorem Fam.below {w w' : World} {B : Nat} {l : List (TypeId × Value × List Value)} (h : Fam w B l) (hb : Below w.heap.size w w') : Fam w' B l := ⟨fun i p hp => (h.1 i p hp).below hb, h.2⟩
theorem Fam.alloc {w : World} {B : Nat} {l : List (TypeId × Value × List Value)} (h : Fam w B l) (o : Obj) : Fam (w.alloc o) B l := h.below (below_alloc w o)
theorem Fam.none (w : World) (B : Nat) (es : List TypeId) : Fam w B (es.map (fun e => (e, .slice none 0 0, []))) := by
  constructor
  · intro i p hp
    rw [List.getElem?_map] at hp
    cases he : es[i]? with
    | none => rw [he] at hp; cases hp
    | some e => rw [he] at hp; simp at hp; subst hp; exact OwnL.nil _ _ _
  · intro i j p q hp hq _
    rw [List.getElem?_map] at hq
    cases he : es[j]? with
    | none => rw [he] at hq; cases hq
    | some e => rw [he] at hq; simp at hq; subst hq; exact apt_nil _
end Go.Proofs.YtfeepmjkamdldaaDoor
