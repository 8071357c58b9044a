/- Plain facts on slices that lie in memory: a slice reads a list; what is below stays. -/
import Derived.WalkKit
import Derived.ProofKit
import Derived.Handy
import Derived.Deep.QuietTactic
import Derived.BigQuiet
import Derived.Laws.AppendOwnNone
namespace Go.Proofs.YtfeepmjkamdldaaDoor
open Go.RowKit
set_option linter.unusedVariables false
theorem hide {p : Prop} (h : p) : Hid p := h
theorem unhide {p : Prop} (h : Hid p) : p := h.out
theorem ret_int {k : IntKind} {a b : Int} (h : a = b) : Ending.returned (.int k a) = .returned (.int k b) := by rw [h]
theorem ret_bool {a b : Bool} (h : a = b) : Ending.returned (.bool a) = .returned (.bool b) := by rw [h]
theorem int_eq {k : IntKind} {a b : Int} (h : a = b) : Value.int k a = .int k b := by rw [h]
theorem ret_two {k l : IntKind} {a b c d : Int} (h : a = b) (g : c = d) : Ending.returned (.tuple #[.int k a, .int l c]) = .returned (.tuple #[.int k b, .int l d]) := by rw [h, g]

/-- the cells f 0 .. f (n - 1) lie where a leads (of an empty row nothing is asked, but that nil has no room) -/
def IsRow (w : World) (a : Option Addr) (n cap : Nat) (f : Nat → Value) : Prop :=
  (a = none ∧ n = 0 ∧ cap = 0) ∨ (n = 0 ∧ ∃ ad, a = some ad) ∨ (0 < n ∧ n ≤ cap ∧ ∃ b off, a = some ⟨b, off, none⟩ ∧ ∀ i, i < n → w.cell? ⟨b, off + i, none⟩ = some (f i))
/-- a slice of ints reads xs -/
def Ints (w : World) (a : Option Addr) (n cap : Nat) (xs : List Int) : Prop := xs.length = n ∧ IsRow w a n cap (fun i => .int .i64 (xs.getD i 0))
/-- a slice of strings reads ss -/
def Strs (w : World) (a : Option Addr) (n cap : Nat) (ss : List ByteArray) : Prop := ss.length = n ∧ IsRow w a n cap (fun i => .string (ss.getD i ByteArray.empty))
theorem IsRow.two {w : World} {a : Option Addr} {n cap : Nat} {f : Nat → Value} (h : IsRow w a n cap f) : n = 0 ∨ ∃ b off, a = some ⟨b, off, none⟩ ∧ ∀ i, i < n → w.cell? ⟨b, off + i, none⟩ = some (f i) := by
  rcases h with h | h | h
  · exact .inl h.2.1
  · exact .inl h.1
  · exact .inr h.2.2

theorem cell_lt {w : World} {p : Addr} {v : Value} (h : w.cell? p = some v) : p.block < w.heap.size := by
  by_cases hb : p.block < w.heap.size
  · exact hb
  · exfalso
    have : w.heap[p.block]? = none := by simp; omega
    simp [World.cell?, this] at h
theorem IsRow.below {w w' : World} {a : Option Addr} {n cap : Nat} {f : Nat → Value} (h : IsRow w a n cap f) (hb : Below w.heap.size w w') : IsRow w' a n cap f := by
  rcases h with h | h | ⟨h1, h2, b, off, e, hc⟩
  · exact .inl h
  · exact .inr (.inl h)
  · exact .inr (.inr ⟨h1, h2, b, off, e, fun i hi => (hb.cell (cell_lt (hc i hi))).trans (hc i hi)⟩)
theorem Ints.below {w w' : World} {a : Option Addr} {n cap : Nat} {xs : List Int} (h : Ints w a n cap xs) (hb : Below w.heap.size w w') : Ints w' a n cap xs := ⟨h.1, h.2.below hb⟩
theorem Strs.below {w w' : World} {a : Option Addr} {n cap : Nat} {xs : List ByteArray} (h : Strs w a n cap xs) (hb : Below w.heap.size w w') : Strs w' a n cap xs := ⟨h.1, h.2.below hb⟩
theorem below_drewN (w : World) (B m : Nat) : Below B w (w.drewN m) := ⟨rfl, rfl, rfl, Nat.le_refl _, fun _ _ => rfl⟩

theorem take_eq_len {α : Type} {xs ys : List α} {n : Nat} (hx : xs.length = n) (hy : ys.length = n) (h : xs.take n = ys.take n) : xs = ys := by
  rw [List.take_of_length_le (by omega), List.take_of_length_le (by omega)] at h; exact h
theorem take_snoc_eq {α : Type} {xs ys : List α} {k : Nat} (hx : k < xs.length) (hy : k < ys.length) (h : xs.take k = ys.take k) (e : xs[k] = ys[k]) : xs.take (k + 1) = ys.take (k + 1) := by
  rw [List.take_succ_eq_append_getElem hx, List.take_succ_eq_append_getElem hy, h, e]
theorem ne_of_at {α : Type} {xs ys : List α} {k : Nat} (hx : k < xs.length) (hy : k < ys.length) (e : xs[k] ≠ ys[k]) : xs ≠ ys := by
  intro h; subst h; exact e rfl

theorem add_row (b off j : Nat) : (⟨b, off, none⟩ : Addr).add j = ⟨b, off + j, none⟩ := by unfold Addr.add; split <;> simp_all
/-- 'append(s, x...)', s a row of the call's own (nil among them), x whatever row that can be read, nil or not -/
theorem wpList_append_row {P : Program} (w : World) {ops : Array Oper} {rest : List Oper} {o : Oper} {a : Act} {Q : Exit → Act → World → Prop} (hgd : o.guard = none) (s x : Operand) (t : TypeId)
    (ho : o.op = .call { callee := .builtin .append, args := #[s, x], argTypes := #[t, t] })
    (base : Nat) (e : TypeId) (z : Value) (bytes : Nat) (ht : P.underlying t = some (.slice e)) (hinfo : (P.info? e).map (fun i => (i.zero, i.size, i.bytes)) = some (some z, 1, bytes)) (hzs : z.cells.size = 1)
    (v : Value) (n : Nat) (xs : List Value) (hs : a.eval s = v) (hown : w.ownsRow base e 1 v n xs)
    (ad : Option Addr) (m c : Nat) (f : Nat → Value) (news : List Value) (hx : a.eval x = .slice ad m c) (hrow : IsRow w ad m c f) (hl : news.length = m) (hf : ∀ i, i < m → news[i]? = some (f i)) (h1 : ∀ u ∈ news, u.oneCell' = true)
    (h63 : n + m ≤ maxLen) (hbytes : (n + m) * bytes ≤ 140737488355328) (hbase : base ≤ w.heap.size)
    (h : ∀ v' w', w'.ownsRow base e 1 v' (n + m) (xs ++ news) → w.grownBy w' v.ownBlock → wpList P ops Q rest (a.put o.dst v') w') : wpList P ops Q (o :: rest) a w := by
  obtain ⟨i0, hi, hz0, hz1, hz2⟩ := info_parts hinfo
  rcases hrow with ⟨rfl, rfl, rfl⟩ | ⟨rfl, ad', rfl⟩ | ⟨hp, _, b, off, rfl, hc⟩
  · have e0 : news = [] := List.length_eq_zero_iff.1 hl
    subst e0
    refine wpList_append_own_none hgd s x t ho base e i0 1 ht hi v n xs hs hown hx ?_
    exact h v w (by simpa using hown) (World.grownBy.refl _ _)
  · have e0 : news = [] := List.length_eq_zero_iff.1 hl
    subst e0
    exact wpList_append_own w hgd s x t ho base e i0 z 1 bytes ht hi hz0 hz1 hz2 hzs (by decide) v n xs hs hown ad' 0 c [] hx rfl (by simp) (by simp) h63 hbytes hbase (fun v' w' h2 h3 _ => h v' w' h2 h3)
  · refine wpList_append_own w hgd s x t ho base e i0 z 1 bytes ht hi hz0 hz1 hz2 hzs (by decide) v n xs hs hown ⟨b, off, none⟩ m c news hx (by omega) ?_ h1 h63 hbytes hbase (fun v' w' h2 h3 _ => h v' w' h2 h3)
    intro j u hj
    by_cases hlt : j < m
    · rw [hf j hlt] at hj
      rw [add_row, hc j hlt]; exact hj
    · rw [List.getElem?_eq_none (by omega)] at hj; simp at hj
theorem own_form {w : World} {base : Nat} {e : TypeId} {v : Value} {n : Nat} {xs : List Value} (h : w.ownsRow base e 1 v n xs) (hn : 0 < n) :
    ∃ g cap, v = .slice (some ⟨g, 0, none⟩) n cap ∧ base ≤ g ∧ n ≤ cap ∧ cap ≤ maxLen ∧ ∀ i u, xs[i]? = some u → w.cell? ⟨g, i, none⟩ = some u := by
  have hc := fun g (e : v.ownBlock = some g) => h.cells e
  rcases h.2 with ⟨_, h0⟩ | ⟨g, cap, cur, rfl, hb, _, hle, hm, _⟩
  · omega
  · refine ⟨g, cap, rfl, hb, hle, hm, fun i u hu => ?_⟩
    have := hc g rfl i u hu
    rw [add_row, Nat.zero_add] at this; exact this
theorem news_alloc (w : World) (cs : List Value) (T : TypeId) : ∀ j u, cs[j]? = some u → (w.alloc (.cells cs.toArray T)).cell? ((⟨w.heap.size, 0, none⟩ : Addr).add j) = some u := by
  intro j u hj
  rw [add_row, Nat.zero_add, cell_of_row _ _ j cs.toArray T (0, 0) (heap_alloc_new w _)]
  simpa using hj
theorem own_row {w : World} {base : Nat} {e : TypeId} {v : Value} {n : Nat} {xs : List Value} {f : Nat → Value} (h : w.ownsRow base e 1 v n xs) (hf : ∀ i, i < n → xs[i]? = some (f i)) :
    ∃ a cap, v = .slice a n cap ∧ IsRow w a n cap f := by
  by_cases hn : 0 < n
  · obtain ⟨g, cap, rfl, _, hle, _, hc⟩ := own_form h hn
    exact ⟨_, cap, rfl, .inr (.inr ⟨hn, hle, g, 0, rfl, fun i hi => by rw [Nat.zero_add]; exact hc i _ (hf i hi)⟩)⟩
  · obtain rfl : n = 0 := by omega
    rcases h.2 with ⟨rfl, _⟩ | ⟨g, cap, cur, rfl, _⟩
    · exact ⟨none, 0, rfl, .inl ⟨rfl, rfl, rfl⟩⟩
    · exact ⟨_, cap, rfl, .inr (.inl ⟨rfl, _, rfl⟩)⟩
theorem int_at {xs : List Int} {n : Nat} (hl : xs.length = n) : ∀ i, i < n → (xs.map (Value.int .i64))[i]? = some (.int .i64 (xs.getD i 0)) := by
  intro i hi
  rw [List.getElem?_map, List.getElem?_eq_getElem (by omega)]
  simp [List.getElem?_eq_getElem (show i < xs.length by omega)]
theorem str_at {xs : List ByteArray} {n : Nat} (hl : xs.length = n) : ∀ i, i < n → (xs.map Value.string)[i]? = some (.string (xs.getD i ByteArray.empty)) := by
  intro i hi
  rw [List.getElem?_map, List.getElem?_eq_getElem (by omega)]
  simp [List.getElem?_eq_getElem (show i < xs.length by omega)]
theorem strs_oneCell (zs : List ByteArray) : ∀ u ∈ zs.map Value.string, u.oneCell' = true := by
  intro u hu
  obtain ⟨z, _, rfl⟩ := List.mem_map.1 hu
  rfl
theorem own_ints {w : World} {base : Nat} {e : TypeId} {v : Value} {n : Nat} {xs : List Int} (h : w.ownsRow base e 1 v n (xs.map (Value.int .i64))) (hl : xs.length = n) : ∃ a cap, v = .slice a n cap ∧ Ints w a n cap xs := by
  obtain ⟨a, cap, e, r⟩ := own_row h (int_at hl)
  exact ⟨a, cap, e, hl, r⟩
theorem own_strs {w : World} {base : Nat} {e : TypeId} {v : Value} {n : Nat} {xs : List ByteArray} (h : w.ownsRow base e 1 v n (xs.map Value.string)) (hl : xs.length = n) : ∃ a cap, v = .slice a n cap ∧ Strs w a n cap xs := by
  obtain ⟨a, cap, e, r⟩ := own_row h (str_at hl)
  exact ⟨a, cap, e, hl, r⟩
theorem below_alloc (w : World) (o : Obj) : Below w.heap.size w (w.alloc o) := (Below.refl _ _).alloc (Nat.le_refl _) o
theorem bt {w w1 w2 : World} (h : Below w.heap.size w w1) (k : Below w1.heap.size w1 w2) : Below w.heap.size w w2 := h.trans (k.mono h.size)
theorem below_two (w : World) (o o' : Obj) : Below w.heap.size w ((w.alloc o).alloc o') := ((Below.refl _ _).alloc (Nat.le_refl _) o).alloc (by simp) o'
theorem own_empty (w : World) (e : TypeId) : (w.alloc (.cells #[] e)).ownsRow w.heap.size e 1 (.slice (some ⟨w.heap.size, 0, none⟩) 0 0) 0 [] := World.ownsRow_made w #[] 0 (Nat.le_refl _) (by decide) rfl
end Go.Proofs.YtfeepmjkamdldaaDoor
