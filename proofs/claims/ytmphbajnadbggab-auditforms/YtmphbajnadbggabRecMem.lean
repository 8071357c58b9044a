/- Slices whose elements have several cells (structs): of the call's own, and such as can be read. -/
import Derived.Test.YtmphbajnadbggabKMatRef
namespace Go.Proofs.Ytmphbajnadbggab
open Go.RowKit
set_option linter.unusedVariables false
set_option linter.unusedSimpArgs false
/-- the cells f 0 .. f (n * z - 1) of n structs lie where a leads -/
def RecV (w : World) (a : Option Addr) (n cap z : Nat) (f : Nat → Value) : Prop :=
  (a = none ∧ n = 0 ∧ cap = 0) ∨ (n = 0 ∧ ∃ ad, a = some ad) ∨ (0 < n ∧ n ≤ cap ∧ ∃ b off, a = some ⟨b, off, none⟩ ∧ ∀ i, i < n * z → w.cell? ⟨b, off + i, none⟩ = some (f i))
theorem RecV.two {w : World} {a : Option Addr} {n cap z : Nat} {f : Nat → Value} (h : RecV w a n cap z f) : n = 0 ∨ (n ≤ cap ∧ ∃ b off, a = some ⟨b, off, none⟩ ∧ ∀ i, i < n * z → w.cell? ⟨b, off + i, none⟩ = some (f i)) := by
  rcases h with h | h | h
  · exact .inl h.2.1
  · exact .inl h.1
  · exact .inr h.2
theorem RecV.below {w w' : World} {a : Option Addr} {n cap z : Nat} {f : Nat → Value} (h : RecV w a n cap z f) (hb : Below w.heap.size w w') : RecV w' a n cap z f := by
  rcases h with h | h | ⟨h1, h2, b, off, e, hc⟩
  · exact .inl h
  · exact .inr (.inl h)
  · exact .inr (.inr ⟨h1, h2, b, off, e, fun i hi => (hb.cell (cell_lt (hc i hi))).trans (hc i hi)⟩)
theorem RecV.congr {w : World} {a : Option Addr} {n cap z : Nat} {f g : Nat → Value} (h : RecV w a n cap z f) (hfg : ∀ i, i < n * z → f i = g i) : RecV w a n cap z g := by
  rcases h with h | h | ⟨h1, h2, b, off, e, hc⟩
  · exact .inl h
  · exact .inr (.inl h)
  · exact .inr (.inr ⟨h1, h2, b, off, e, fun i hi => by rw [hc i hi, hfg i hi]⟩)
/-- all but the first -/
theorem RecV.tail {w : World} {b o n cap z : Nat} {f : Nat → Value} (h : RecV w (some ⟨b, o, none⟩) n cap z f) (h0 : 0 < n) : RecV w (if cap = 1 then some ⟨b, o, none⟩ else some ⟨b, o + z, none⟩) (n - 1) (cap - 1) z (fun i => f (z + i)) := by
  rcases h.two with h' | ⟨hc, b', o', e, hcell⟩
  · omega
  · simp only [Option.some.injEq, Addr.mk.injEq, and_true] at e
    obtain ⟨rfl, rfl⟩ := e
    by_cases h1 : n = 1
    · refine .inr (.inl ⟨by omega, ?_⟩)
      split <;> exact ⟨_, rfl⟩
    · rw [if_neg (by omega)]
      refine .inr (.inr ⟨by omega, by omega, b, o + z, rfl, fun i hi => ?_⟩)
      have := hcell (z + i) (by rw [Nat.sub_mul, Nat.one_mul] at hi; omega)
      rw [← this, Nat.add_assoc]
theorem ownZ_below {w w' : World} {B : Nat} {e : TypeId} {z n : Nat} {v : Value} {xs : List Value} (h : w.ownsRow B e z v n xs) (hb : Below w.heap.size w w') : w'.ownsRow B e z v n xs :=
  World.ownsRow.kept (row := none) h ⟨hb.os, hb.tape, hb.output, hb.size, fun k hk _ => hb.block k hk⟩ (by cases hv : v.ownBlock <;> simp)
theorem ownZ_form {w : World} {base : Nat} {e : TypeId} {z : Nat} {v : Value} {n : Nat} {xs : List Value} (h : w.ownsRow base e z v n xs) (hn : 0 < n) :
    ∃ g cap, v = .slice (some ⟨g, 0, none⟩) n cap ∧ base ≤ g ∧ n ≤ cap ∧ cap ≤ maxLen ∧ ∀ i u, xs[i]? = some u → w.cell? ⟨g, i, none⟩ = some u := by
  have hc := fun g (e : v.ownBlock = some g) => h.cells e
  rcases h.2 with ⟨_, h0⟩ | ⟨g, cap, cur, rfl, hb, _, hle, hm, _⟩
  · omega
  · refine ⟨g, cap, rfl, hb, hle, hm, fun i u hu => ?_⟩
    have := hc g rfl i u hu
    rw [add_row, Nat.zero_add] at this; exact this
theorem ownZ_len {w : World} {base : Nat} {e : TypeId} {z : Nat} {v : Value} {n : Nat} {xs : List Value} (h : w.ownsRow base e z v n xs) : xs.length = n * z := h.1
theorem ownZ_slice {w : World} {base : Nat} {e : TypeId} {z : Nat} {v : Value} {n : Nat} {xs : List Value} (h : w.ownsRow base e z v n xs) : ∃ a cap, v = .slice a n cap := by
  rcases h.2 with ⟨rfl, h0⟩ | ⟨g, cap, cur, rfl, _⟩
  · exact ⟨none, 0, by rw [h0]⟩
  · exact ⟨_, cap, rfl⟩
theorem ownZ_rec {w : World} {base : Nat} {e : TypeId} {z : Nat} {v : Value} {n : Nat} {xs : List Value} {f : Nat → Value} (h : w.ownsRow base e z v n xs) (hf : ∀ i, i < n * z → xs[i]? = some (f i)) : ∃ a cap, v = .slice a n cap ∧ RecV w a n cap z f := by
  by_cases hn : 0 < n
  · obtain ⟨g, cap, rfl, _, hle, _, hc⟩ := ownZ_form h hn
    exact ⟨_, cap, rfl, .inr (.inr ⟨hn, hle, g, 0, rfl, fun i hi => by rw [Nat.zero_add]; exact hc i _ (hf i hi)⟩)⟩
  · obtain rfl : n = 0 := by omega
    rcases h.2 with ⟨rfl, _⟩ | ⟨g, cap, cur, rfl, _⟩
    · exact ⟨none, 0, rfl, .inl ⟨rfl, rfl, rfl⟩⟩
    · exact ⟨_, cap, rfl, .inr (.inl ⟨rfl, _, rfl⟩)⟩
theorem Pushed.otherZ {w w' : World} {v v' v2 : Value} {B : Nat} {e : TypeId} {z n : Nat} {ys : List Value} (p : Pushed w w' v v') (h : w.ownsRow B e z v2 n ys) (a : Apt v v2) : w'.ownsRow B e z v2 n ys :=
  World.ownsRow.kept h p.grown (by
    cases hv : v2.ownBlock with
    | none => exact .inl rfl
    | some g => exact .inr (fun he => a g he.symm hv))
theorem Pushed.belowZ {W w w' : World} {v v' : Value} {B B' : Nat} {e : TypeId} {z n : Nat} {xs : List Value} (p : Pushed w w' v v') (h : w.ownsRow B e z v n xs) (hb : Below B' W w) (hB : B' ≤ B) (hs : B' ≤ w.heap.size) : Below B' W w' :=
  hb.grown p.grown hs (fun k hk => Nat.le_trans hB (World.ownsRow.lt h k hk).1)
/-- 'append(s, T{..})' onto a slice of structs of the call's own -/
theorem wpList_pushZ {P : Program} (w0 : World) {ops : Array Oper} {rest : List Oper} {o : Oper} {a : Act} {Q : Exit → Act → World → Prop} (hgd : o.guard = none) (s x : Operand) (t : TypeId)
    (ho : o.op = .call { callee := .builtin .append, args := #[s, x], argTypes := #[t, t] })
    (B : Nat) (e : TypeId) (z : Value) (k bytes : Nat) (ht : P.underlying t = some (.slice e)) (hinfo : (P.info? e).map (fun i => (i.zero, i.size, i.bytes)) = some (some z, k, bytes)) (hzs : z.cells.size = k) (hk : 0 < k)
    (v : Value) (n : Nat) (xs : List Value) (hs : a.eval s = v) (hown : w0.ownsRow B e k v n xs) (us : List Value) (hus : us.length = k) (hu : ∀ u ∈ us, u.oneCell' = true)
    (hx : a.eval x = .slice (some ⟨w0.heap.size, 0, none⟩) 1 1)
    (hbytes : (n + 1) * bytes ≤ 140737488355328) (hb8 : 0 < bytes) (hbase : B ≤ w0.heap.size)
    (h : ∀ v' w', w'.ownsRow B e k v' (n + 1) (xs ++ us) → Pushed w0 w' v v' → wpList P ops Q rest (a.put o.dst v') w') : wpList P ops Q (o :: rest) a (w0.alloc (.cells us.toArray e)) := by
  obtain ⟨i0, hi, hz0, hz1, hz2⟩ := info_parts hinfo
  have hb1 : (n + 1) * 1 ≤ (n + 1) * bytes := Nat.mul_le_mul_left _ hb8
  refine wpList_append_lies _ hgd s x t ho B e i0 z k bytes ht hi hz0 hz1 hz2 hzs hk v n xs hs (World.ownsRow.alloc hown _) ⟨w0.heap.size, 0, none⟩ 1 1 us hx (by omega) (news_alloc w0 us e) hu (by decide) (by unfold maxLen; omega) hbytes (by simp; omega) (w0.heap.size + 1) (by simp) ?_
  intro g cap w' h1 h2 h3 h4
  refine h _ w' h1 ⟨?_, ?_⟩
  · exact ⟨h2.os, h2.tape, h2.output, Nat.le_trans (by simp) h2.size, fun k hk hne => by
      rw [h2.block k (by simp; omega) hne]; exact Below.heap_alloc _ _ _ hk⟩
  · rcases h3 with h3 | h3
    · exact .inl (by rw [h3]; rfl)
    · exact .inr ⟨g, rfl, by omega⟩
/-- the same at whatever world, the struct lying at b -/
theorem wp_pushZ {P : Program} (w : World) {o : Oper} {a : Act} {K : Act → World → Prop} {Q : Exit → Act → World → Prop} (s x : Operand) (t : TypeId)
    (ho : o.op = .call { callee := .builtin .append, args := #[s, x], argTypes := #[t, t] })
    (B : Nat) (e : TypeId) (z : Value) (k bytes : Nat) (ht : P.underlying t = some (.slice e)) (hinfo : (P.info? e).map (fun i => (i.zero, i.size, i.bytes)) = some (some z, k, bytes)) (hzs : z.cells.size = k) (hk : 0 < k)
    (v : Value) (n : Nat) (xs : List Value) (hs : a.eval s = v) (hown : w.ownsRow B e k v n xs) (us : List Value) (hus : us.length = k) (hu : ∀ u ∈ us, u.oneCell' = true) (b : Nat)
    (hx : a.eval x = .slice (some ⟨b, 0, none⟩) 1 1) (hcell : w.heap[b]? = some (.cells us.toArray e (0, 0)))
    (hbytes : (n + 1) * bytes ≤ 140737488355328) (hb8 : 0 < bytes) (hbase : B ≤ w.heap.size)
    (h : ∀ v' w', w'.ownsRow B e k v' (n + 1) (xs ++ us) → Pushed w w' v v' → K (a.put o.dst v') w') : o.wp P a w K Q := by
  obtain ⟨i0, hi, hz0, hz1, hz2⟩ := info_parts hinfo
  have hb1 : (n + 1) * 1 ≤ (n + 1) * bytes := Nat.mul_le_mul_left _ hb8
  refine wp_append_lies w s x t ho B e i0 z k bytes ht hi hz0 hz1 hz2 hzs hk v n xs hs hown ⟨b, 0, none⟩ 1 1 us hx (by omega) ?_ hu (by decide) (by unfold maxLen; omega) hbytes hbase w.heap.size rfl ?_
  · intro j y hj
    rw [add_row, Nat.zero_add, cell_of_row _ _ j us.toArray e (0, 0) hcell]
    simpa using hj
  · intro g cap w' h1 h2 h3 h4
    refine h _ w' h1 ⟨h2, ?_⟩
    rcases h3 with h3 | h3
    · exact .inl (by rw [h3]; rfl)
    · exact .inr ⟨g, rfl, by omega⟩
theorem step_pushZ {P : Program} {ops : Array Oper} {E : Prop} (w : World) {o : Oper} {a : Act} {K : Act → World → Prop} {Q : Exit → Act → World → Prop} (hg : o.guard = none) (s x : Operand) (t : TypeId)
    (ho : o.op = .call { callee := .builtin .append, args := #[s, x], argTypes := #[t, t] })
    (B : Nat) (e : TypeId) (z : Value) (k bytes : Nat) (ht : P.underlying t = some (.slice e)) (hinfo : (P.info? e).map (fun i => (i.zero, i.size, i.bytes)) = some (some z, k, bytes)) (hzs : z.cells.size = k) (hk : 0 < k)
    (v : Value) (n : Nat) (xs : List Value) (hs : a.eval s = v) (hown : w.ownsRow B e k v n xs) (us : List Value) (hus : us.length = k) (hu : ∀ u ∈ us, u.oneCell' = true) (b : Nat)
    (hx : a.eval x = .slice (some ⟨b, 0, none⟩) 1 1) (hcell : w.heap[b]? = some (.cells us.toArray e (0, 0)))
    (hbytes : (n + 1) * bytes ≤ 140737488355328) (hb8 : 0 < bytes) (hbase : B ≤ w.heap.size)
    (h : ∀ v' w', w'.ownsRow B e k v' (n + 1) (xs ++ us) → Pushed w w' v v' → K (a.put o.dst v') w') : if Region.wanted o (yielded ops a.tmps) = true then o.wp P a w K Q else E := by
  rw [if_pos (by simp [Region.wanted, hg])]
  exact wp_pushZ w s x t ho B e z k bytes ht hinfo hzs hk v n xs hs hown us hus hu b hx hcell hbytes hb8 hbase h
theorem apt_typesZ {w : World} {B B' : Nat} {e e' : TypeId} {z z' n n' : Nat} {v v' : Value} {xs ys : List Value} (h : w.ownsRow B e z v n xs) (h' : w.ownsRow B' e' z' v' n' ys) (hne : e ≠ e') : Apt v v' := by
  intro g hg hg'
  rcases h.2 with ⟨rfl, _⟩ | ⟨g1, cap, cur, rfl, _, hh, _⟩
  · simp [Value.ownBlock] at hg
  · rcases h'.2 with ⟨rfl, _⟩ | ⟨g2, cap', cur', rfl, _, hh', _⟩
    · simp [Value.ownBlock] at hg'
    · simp [Value.ownBlock] at hg hg'
      subst hg hg'
      rw [hh] at hh'
      simp at hh'
      exact hne hh'.2
end Go.Proofs.Ytmphbajnadbggab
