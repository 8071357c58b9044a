/- What the statement Disks asks: acts that can be read, what acts answer, boxes whose blocks are told apart. -/
import Derived.Test.YtpmbmhjhclekeaaDskLoop
import Derived.Test.YtpmbmhjhclekeaaDskLaw3
namespace Go.Proofs.Ytpmbmhjhclekeaa
open Go.RowKit
set_option linter.unusedVariables false
set_option linter.unusedSimpArgs false
attribute [local go_sem ↓] Go.wp_at_zero Go.wp_at_succ
structure ActR where
  kind : Int
  at_ : Int
  text : ByteArray
  place : Int
  by_ : Int
def act0 : ActR := ⟨0, 0, ByteArray.empty, 0, 0⟩
def actC (z : ActR) : List Value := [.int .i64 z.kind, .int .i64 z.at_, .string z.text, .int .i64 z.place, .int .i64 z.by_]
def actCells (l : List ActR) : List Value := l.flatMap actC
theorem actCells_at : ∀ (l : List ActR) (i : Nat), i < l.length → ∀ j, j < 5 → (actCells l)[i * 5 + j]? = (actC (l.getD i act0))[j]?
  | [], i, h => by simp at h
  | x :: l, 0, _ => fun j hj => by
    show (actC x ++ actCells l)[0 * 5 + j]? = (actC x)[j]?
    rw [List.getElem?_append_left (by show 0 * 5 + j < 5; omega)]
    congr 1; omega
  | x :: l, i + 1, h => fun j hj => by
    show (actC x ++ actCells l)[(i + 1) * 5 + j]? = _
    rw [List.getElem?_append_right (by show 5 ≤ _; omega)]
    have e : (i + 1) * 5 + j - (actC x).length = i * 5 + j := by show (i + 1) * 5 + j - 5 = _; omega
    rw [e, actCells_at l i (by simpa using h) j hj]
    rfl
/-- acts that can be read -/
def ActV (w : World) (a : Option Addr) (n cap : Nat) (l : List ActR) : Prop := l.length = n ∧ RecV w a n cap 5 (fun i => (actCells l).getD i undef)
theorem ActV.at {w : World} {a : Option Addr} {n cap : Nat} {l : List ActR} (h : ActV w a n cap l) {j : Nat} (hj : j < n) : ∃ b o, a = some ⟨b, o, none⟩ ∧ ∀ j, j < n →
    w.cell? ⟨b, o + j * 5, none⟩ = some (.int .i64 (l.getD j act0).kind) ∧ w.cell? ⟨b, o + j * 5 + 1, none⟩ = some (.int .i64 (l.getD j act0).at_) ∧ w.cell? ⟨b, o + j * 5 + 2, none⟩ = some (.string (l.getD j act0).text) ∧ w.cell? ⟨b, o + j * 5 + 3, none⟩ = some (.int .i64 (l.getD j act0).place) ∧ w.cell? ⟨b, o + j * 5 + 4, none⟩ = some (.int .i64 (l.getD j act0).by_) := by
  rcases h.2.two with h0 | ⟨hc, b, o, ea, hcell⟩
  · omega
  · refine ⟨b, o, ea, fun j hj => ?_⟩
    have hx : ∀ i, i < 5 → w.cell? ⟨b, o + j * 5 + i, none⟩ = some ((actC (l.getD j act0)).getD i undef) := fun i hi => by
      rw [Nat.add_assoc, hcell (j * 5 + i) (by omega)]
      have := actCells_at l j (by rw [h.1]; exact hj) i hi
      simp only [List.getD, this]
    exact ⟨hx 0 (by decide), hx 1 (by decide), hx 2 (by decide), hx 3 (by decide), hx 4 (by decide)⟩
/-- what an act answers is small -/
def Small (d : Dsk) : Prop := d.secs.length ≤ 72 ∧ d.cache.length ≤ 256 ∧ ∀ s ∈ d.secs, s.size = 64
theorem small0 : Small dsk0 := ⟨by decide, by decide, fun s hs => by cases hs⟩
theorem small_of {d : Dsk} (h : stateD d = 0) : Small d := by
  obtain ⟨-, h1, h2, h3, h4, -⟩ := may_live h
  refine ⟨h2, h3, fun s hs => ?_⟩
  obtain ⟨i, hi, rfl⟩ := List.getElem_of_mem hs
  have := h4 i hi
  simpa [List.getD, hi] using this
theorem small_write (d : Dsk) (a : Int) (s : ByteArray) : Small (writeD d a s).1 := by
  unfold writeD
  split
  · rename_i h
    obtain ⟨h1, h2, h3⟩ := small_of h
    split
    · rename_i h'
      exact ⟨h1, by simp; omega, h3⟩
    · exact small0
  · exact small0
theorem small_rot (d : Dsk) (a p b : Int) : Small (rotD d a p b).1 := by
  unfold rotD
  split
  · rename_i h
    obtain ⟨h1, h2, h3⟩ := small_of h
    split
    · rename_i h'
      refine ⟨by simpa using h1, h2, fun s hs => ?_⟩
      rcases mem_set hs with hs | hs
      · exact h3 s hs
      · rw [hs, rotS_size]
        have hl : a.toNat < d.secs.length := by omega
        have e : d.secs.getD a.toNat ByteArray.empty = d.secs[a.toNat] := by simp [List.getD, hl]
        rw [e]
        exact h3 _ (List.getElem_mem _)
    · exact small0
  · exact small0
theorem small_crash (d : Dsk) (k : Int) : Small (crashD d k).1 := by
  unfold crashD
  split
  · rename_i h
    obtain ⟨h1, h2, h3⟩ := small_of h
    obtain ⟨-, -, -, -, -, h6⟩ := may_live h
    refine ⟨by show (keepTo d k _).length ≤ 72; rw [keepTo_len]; exact h1, Nat.zero_le _, ?_⟩
    show ∀ s ∈ keepTo d k d.cache.length, s.size = 64
    have : ∀ m, m ≤ d.cache.length → ∀ s ∈ keepTo d k m, s.size = 64 := by
      intro m
      induction m with
      | zero => exact fun _ => h3
      | succ m ih =>
        intro hm s hs
        rw [keepTo] at hs
        split at hs
        · rcases mem_set hs with hs | hs
          · exact ih (by omega) s hs
          · rw [hs]; exact (h6 m (by omega)).2.2
        · exact ih (by omega) s hs
    exact this _ (Nat.le_refl _)
  · exact small0
theorem small_lose (d : Dsk) : Small (loseD d).1 := by
  unfold loseD
  split
  · exact ⟨by decide, by decide, fun s hs => by cases hs⟩
  · exact small0
theorem small_new (x : Int) : Small (newD x).1 := by
  unfold newD
  split
  · refine ⟨by simp; omega, Nat.zero_le _, fun s hs => ?_⟩
    rw [List.eq_of_mem_replicate hs]; exact zerosB_size 64
  · exact small0
/-- such as the contracts ask for -/
def FitD (d : Dsk) : Prop := d.secs.length * 16 ≤ 140737488351232 ∧ d.cache.length * 24 ≤ 140737488351232
theorem Small.fit {d : Dsk} (h : Small d) : FitD d := ⟨by have := h.1; omega, by have := h.2.1; omega⟩
theorem FitD.lens {d : Dsk} (h : FitD d) : (d.secs.length ≤ maxLen ∧ d.cache.length ≤ maxLen) ∧ d.secs.length ≤ 140737488351232 ∧ d.cache.length ≤ 140737488351232 := by
  obtain ⟨h1, h2⟩ := h
  unfold maxLen
  omega
/-- a disk in a box, all of whose blocks are of a kind -/
structure DVarK (K : Nat → Prop) (w : World) (g : Nat) (d : Dsk) : Prop where
  box : ∃ sa sc ca cc, w.heap[g]? = some (.cells #[.bool d.lost, .slice sa d.secs.length sc, .slice ca d.cache.length cc] 25 (0, 0)) ∧ Strs w sa d.secs.length sc d.secs ∧ WrV w ca d.cache.length cc d.cache ∧ (∀ ad, sa = some ad → 0 < d.secs.length → K ad.block) ∧ (∀ ad, ca = some ad → 0 < d.cache.length → K ad.block)
  kept : K g
theorem DVarK.var {K : Nat → Prop} {w : World} {g B : Nat} {d : Dsk} (h : DVarK K w g d) (hB : B ≤ g) : DVar w B g d := by
  obtain ⟨⟨sa, sc, ca, cc, hb, hS, hC, -, -⟩, -⟩ := h
  exact ⟨⟨sa, sc, ca, cc, hb, hS, hC⟩, hB, lt_of_block hb⟩
theorem Strs.blk {w : World} {b o n sc : Nat} {r : Option Addr} {ss : List ByteArray} {a : Option Addr} {ad : Addr} (h : Strs w a n sc ss) (e : a = some ad) (hn : 0 < n) : ad.block < w.heap.size := by
  rcases h.2.two with h0 | ⟨b, off, e', hc⟩
  · omega
  · rw [e] at e'
    cases e'
    exact cell_lt (hc 0 hn)
theorem WrV.blk {w : World} {n sc : Nat} {ss : List (Int × ByteArray)} {a : Option Addr} {ad : Addr} (h : WrV w a n sc ss) (e : a = some ad) (hn : 0 < n) : ad.block < w.heap.size := by
  obtain ⟨b, o, e', -, hc⟩ := h.at hn
  rw [e] at e'
  cases e'
  exact cell_lt (hc 0 hn).1
/-- what is there now lies below what comes -/
theorem DVar.old {w : World} {B g : Nat} {d : Dsk} {K : Nat → Prop} (h : DVar w B g d) (hK : ∀ k, k < w.heap.size → K k) : DVarK K w g d := by
  obtain ⟨⟨sa, sc, ca, cc, hb, hS, hC⟩, hl⟩ := h
  exact ⟨⟨sa, sc, ca, cc, hb, hS, hC, fun ad e hn => hK _ (hS.blk (b := 0) (o := 0) (r := none) e hn), fun ad e hn => hK _ (hC.blk e hn)⟩, hK _ hl.2⟩
theorem DVarK.below {K : Nat → Prop} {w w' : World} {g : Nat} {d : Dsk} (h : DVarK K w g d) (hb : Below w.heap.size w w') : DVarK K w' g d := by
  obtain ⟨⟨sa, sc, ca, cc, h1, h2, h3, h4, h5⟩, h6⟩ := h
  exact ⟨⟨sa, sc, ca, cc, (hb.block _ (lt_of_block h1)).trans h1, h2.below hb, h3.below hb, h4, h5⟩, h6⟩
/-- another box is put anew -/
theorem DVarK.putOther {K : Nat → Prop} {w : World} {g k : Nat} {d : Dsk} {l : Bool} {a a' : Option Addr} {m c m' c' : Nat} {T : TypeId} (h : DVarK K w g d) (h' : w.heap[k]? = some (.cells #[.bool l, .slice a m c, .slice a' m' c'] T (0, 0))) (hne : g ≠ k) (x y z : Value) :
    DVarK K (((w.setCell ⟨k, 0, none⟩ x).setCell ⟨k, 1, none⟩ y).setCell ⟨k, 2, none⟩ z) g d := by
  obtain ⟨⟨a1, a2, a3, a4, hb, hS, hC, h4, h5⟩, h6⟩ := h
  exact ⟨⟨a1, a2, a3, a4, (heap_put3 w k x y z g hne).trans hb, hS.put h' _ _ _, hC.put h' _ _ _, h4, h5⟩, h6⟩
/-- a world in which those blocks are as they were -/
theorem DVarK.keep {K : Nat → Prop} {w w' : World} {g : Nat} {d : Dsk} (h : DVarK K w g d) (hk : ∀ k, K k → k < w.heap.size → w'.heap[k]? = w.heap[k]?) : DVarK K w' g d := by
  obtain ⟨⟨sa, sc, ca, cc, hb, hS, hC, h4, h5⟩, h6⟩ := h
  have hcell : ∀ b o, K b → b < w.heap.size → w'.cell? ⟨b, o, none⟩ = w.cell? ⟨b, o, none⟩ := fun b o hb hl => by
    unfold World.cell?
    simp only [hk b hb hl]
  refine ⟨⟨sa, sc, ca, cc, (hk g h6 (lt_of_block hb)).trans hb, ⟨hS.1, ?_⟩, ⟨hC.1, ?_⟩, h4, h5⟩, h6⟩
  · rcases hS.2 with h | h | ⟨h1, h2, b, off, e, hc⟩
    · exact .inl h
    · exact .inr (.inl h)
    · exact .inr (.inr ⟨h1, h2, b, off, e, fun i hi => by rw [hcell b _ (h4 _ e h1) (cell_lt (hc 0 h1))]; exact hc i hi⟩)
  · rcases hC.2 with h | h | ⟨h1, h2, b, off, e, hc⟩
    · exact .inl h
    · exact .inr (.inl h)
    · exact .inr (.inr ⟨h1, h2, b, off, e, fun i hi => by rw [hcell b _ (h5 _ e h1) (cell_lt (hc 0 (by omega)))]; exact hc i hi⟩)
/-- a disk of the call's own, put into a box: its blocks are new -/
theorem dsk_new {w : World} {M : Nat} {d : Dsk} {v : Value} (O : DskO w M 9 62 v d) {K : Nat → Prop} (hK : ∀ k, M ≤ k → K k) : ∃ pa ka pc kc, v = .agg #[.bool d.lost, .slice pa d.secs.length ka, .slice pc d.cache.length kc] ∧ Strs w pa d.secs.length ka d.secs ∧ WrV w pc d.cache.length kc d.cache ∧
    OwnL w M 9 (.slice pa d.secs.length ka) (d.secs.map Value.string) ∧ w.ownsRow M 62 2 (.slice pc d.cache.length kc) d.cache.length (wrCells d.cache) ∧ (∀ ad, pa = some ad → 0 < d.secs.length → K ad.block) ∧ (∀ ad, pc = some ad → 0 < d.cache.length → K ad.block) := by
  obtain ⟨va, vc, e, h1, h2⟩ := O
  obtain ⟨pa, ka, rfl, hS⟩ := h1.strs
  obtain ⟨pc, kc, rfl, hC⟩ := own_wr h2
  refine ⟨pa, ka, pc, kc, e, hS, hC, h1, h2, fun ad e hn => ?_, fun ad e hn => ?_⟩
  · subst e
    rcases h1.2 with ⟨e, _⟩ | ⟨g, cap, cur, e, hb, _⟩
    · simp at e
    · simp only [Value.slice.injEq, Option.some.injEq] at e
      rw [e.1]
      exact hK g hb
  · subst e
    rcases h2.2 with ⟨e, _⟩ | ⟨g, cap, cur, e, hb, _⟩
    · simp at e
    · simp only [Value.slice.injEq, Option.some.injEq] at e
      rw [e.1]
      exact hK g hb
end Go.Proofs.Ytpmbmhjhclekeaa
namespace Go.Proofs.Ytpmbmhjhclekeaa
open Go.RowKit
set_option linter.unusedVariables false
set_option linter.unusedSimpArgs false
theorem DVarK.mono {K K' : Nat → Prop} {w : World} {g : Nat} {d : Dsk} (h : DVarK K w g d) (hk : ∀ k, K k → K' k) : DVarK K' w g d := by
  obtain ⟨⟨a1, a2, a3, a4, hb, hS, hC, h4, h5⟩, h6⟩ := h
  exact ⟨⟨a1, a2, a3, a4, hb, hS, hC, fun ad e hn => hk _ (h4 ad e hn), fun ad e hn => hk _ (h5 ad e hn)⟩, hk _ h6⟩
theorem DVarK.lt {K : Nat → Prop} {w : World} {g : Nat} {d : Dsk} (h : DVarK K w g d) : g < w.heap.size := by
  obtain ⟨⟨a1, a2, a3, a4, hb, -⟩, -⟩ := h
  exact lt_of_block hb
/-- the box is put anew: what it reads lies in blocks of the kind -/
theorem DVarK.put {K : Nat → Prop} {w : World} {g : Nat} {d e : Dsk} (h : DVarK K w g d) {sa ca : Option Addr} {sc cc : Nat} (hS : Strs w sa e.secs.length sc e.secs) (hC : WrV w ca e.cache.length cc e.cache) (h4 : ∀ ad, sa = some ad → 0 < e.secs.length → K ad.block) (h5 : ∀ ad, ca = some ad → 0 < e.cache.length → K ad.block) :
    DVarK K (((w.setCell ⟨g, 0, none⟩ (.bool e.lost)).setCell ⟨g, 1, none⟩ (.slice sa e.secs.length sc)).setCell ⟨g, 2, none⟩ (.slice ca e.cache.length cc)) g e := by
  obtain ⟨⟨a1, a2, a3, a4, hb, -⟩, h6⟩ := h
  exact ⟨⟨sa, sc, ca, cc, dsk_put hb, hS.put hb _ _ _, hC.put hb _ _ _, h4, h5⟩, h6⟩
/-- a block elsewhere -/
theorem heap_of_put {w : World} {k g : Nat} {o : Obj} (h : w.heap[k]? = some o) (hne : k ≠ g) (x y z : Value) : (((w.setCell ⟨g, 0, none⟩ x).setCell ⟨g, 1, none⟩ y).setCell ⟨g, 2, none⟩ z).heap[k]? = some o := (heap_put3 w g x y z k hne).trans h
/-- a disk of the call's own in a box: it may be spoiled -/
def DOwn (w : World) (B1 M g : Nat) (d : Dsk) : Prop := ∃ pa ka pc kc, w.heap[g]? = some (.cells #[.bool d.lost, .slice pa d.secs.length ka, .slice pc d.cache.length kc] 25 (0, 0)) ∧ OwnL w B1 9 (.slice pa d.secs.length ka) (d.secs.map Value.string) ∧ w.ownsRow B1 62 2 (.slice pc d.cache.length kc) d.cache.length (wrCells d.cache) ∧
  (∀ k, (Value.slice pa d.secs.length ka).ownBlock = some k → k < M) ∧ (∀ k, (Value.slice pc d.cache.length kc).ownBlock = some k → k < M)
theorem DOwn.below {w w' : World} {B1 M g : Nat} {d : Dsk} (h : DOwn w B1 M g d) (hb : Below w.heap.size w w') : DOwn w' B1 M g d := by
  obtain ⟨pa, ka, pc, kc, h1, h2, h3, h4, h5⟩ := h
  exact ⟨pa, ka, pc, kc, (hb.block _ (lt_of_block h1)).trans h1, h2.below hb, ownZ_below h3 hb, h4, h5⟩
/-- what it reads -/
theorem DOwn.read {w : World} {B1 M g : Nat} {d : Dsk} (h : DOwn w B1 M g d) : ∃ sa sc ca cc, w.heap[g]? = some (.cells #[.bool d.lost, .slice sa d.secs.length sc, .slice ca d.cache.length cc] 25 (0, 0)) ∧ Strs w sa d.secs.length sc d.secs ∧ WrV w ca d.cache.length cc d.cache ∧ OwnL w B1 9 (.slice sa d.secs.length sc) (d.secs.map Value.string) ∧ w.ownsRow B1 62 2 (.slice ca d.cache.length cc) d.cache.length (wrCells d.cache) ∧
  (∀ k, (Value.slice sa d.secs.length sc).ownBlock = some k → B1 ≤ k ∧ k < M) ∧ (∀ k, (Value.slice ca d.cache.length cc).ownBlock = some k → B1 ≤ k ∧ k < M) := by
  obtain ⟨pa, ka, pc, kc, h1, h2, h3, h4, h5⟩ := h
  obtain ⟨pa', ka', e, hS⟩ := h2.strs
  obtain ⟨pc', kc', e', hC⟩ := own_wr h3
  simp only [Value.slice.injEq] at e e'
  obtain ⟨rfl, -, rfl⟩ := e
  obtain ⟨rfl, -, rfl⟩ := e'
  exact ⟨pa, ka, pc, kc, h1, hS, hC, h2, h3, fun k hk => ⟨(h2.lt hk).1, h4 k hk⟩, fun k hk => ⟨(World.ownsRow.lt h3 k hk).1, h5 k hk⟩⟩
/-- another box below is put anew -/
theorem DOwn.putOther {w : World} {B1 M g r : Nat} {d : Dsk} (h : DOwn w B1 M g d) (hr : r < B1) (hne : g ≠ r) (x y z : Value) : DOwn (((w.setCell ⟨r, 0, none⟩ x).setCell ⟨r, 1, none⟩ y).setCell ⟨r, 2, none⟩ z) B1 M g d := by
  obtain ⟨pa, ka, pc, kc, h1, h2, h3, h4, h5⟩ := h
  have hne3 : ∀ a : Addr, a.block = r → (Value.slice pc d.cache.length kc).ownBlock ≠ some a.block := fun a ha e => by have := (World.ownsRow.lt h3 _ e).1; omega
  exact ⟨pa, ka, pc, kc, (heap_put3 w r x y z g hne).trans h1, ((h2.setBelow (a := ⟨r, 0, none⟩) hr x).setBelow (a := ⟨r, 1, none⟩) hr y).setBelow (a := ⟨r, 2, none⟩) hr z,
    ownsRow_setCell_other (ownsRow_setCell_other (ownsRow_setCell_other h3 (hne3 ⟨r, 0, none⟩ rfl) x) (hne3 ⟨r, 1, none⟩ rfl) y) (hne3 ⟨r, 2, none⟩ rfl) z, h4, h5⟩
/-- the box below is filled with a disk of the call's own -/
theorem DOwn.fill {w : World} {B1 g : Nat} {d : Dsk} {x y z : Value} (hb : w.heap[g]? = some (.cells #[x, y, z] 25 (0, 0))) (hg : g < B1) {pa pc : Option Addr} {ka kc : Nat} (h2 : OwnL w B1 9 (.slice pa d.secs.length ka) (d.secs.map Value.string)) (h3 : w.ownsRow B1 62 2 (.slice pc d.cache.length kc) d.cache.length (wrCells d.cache)) :
    DOwn (((w.setCell ⟨g, 0, none⟩ (.bool d.lost)).setCell ⟨g, 1, none⟩ (.slice pa d.secs.length ka)).setCell ⟨g, 2, none⟩ (.slice pc d.cache.length kc)) B1 w.heap.size g d := by
  have hne3 : ∀ a : Addr, a.block = g → (Value.slice pc d.cache.length kc).ownBlock ≠ some a.block := fun a ha e => by have := (World.ownsRow.lt h3 _ e).1; omega
  exact ⟨pa, ka, pc, kc, dsk_put hb, ((h2.setBelow (a := ⟨g, 0, none⟩) hg _).setBelow (a := ⟨g, 1, none⟩) hg _).setBelow (a := ⟨g, 2, none⟩) hg _,
    ownsRow_setCell_other (ownsRow_setCell_other (ownsRow_setCell_other h3 (hne3 ⟨g, 0, none⟩ rfl) _) (hne3 ⟨g, 1, none⟩ rfl) _) (hne3 ⟨g, 2, none⟩ rfl) _, fun k hk => (h2.lt hk).2, fun k hk => (World.ownsRow.lt h3 k hk).2⟩
theorem dvk_put {K : Nat → Prop} {w : World} {g : Nat} {e : Dsk} {l : Bool} {a a' : Option Addr} {m c m' c' : Nat} (hb : w.heap[g]? = some (.cells #[.bool l, .slice a m c, .slice a' m' c'] 25 (0, 0))) (hK : K g) {sa ca : Option Addr} {sc cc : Nat} (hS : Strs w sa e.secs.length sc e.secs) (hC : WrV w ca e.cache.length cc e.cache) (h4 : ∀ ad, sa = some ad → 0 < e.secs.length → K ad.block) (h5 : ∀ ad, ca = some ad → 0 < e.cache.length → K ad.block) :
    DVarK K (((w.setCell ⟨g, 0, none⟩ (.bool e.lost)).setCell ⟨g, 1, none⟩ (.slice sa e.secs.length sc)).setCell ⟨g, 2, none⟩ (.slice ca e.cache.length cc)) g e :=
  ⟨⟨sa, sc, ca, cc, dsk_put hb, hS.put hb _ _ _, hC.put hb _ _ _, h4, h5⟩, hK⟩
theorem DOwn.upto {w : World} {B1 M M' g : Nat} {d : Dsk} (h : DOwn w B1 M g d) (hM : M ≤ M') : DOwn w B1 M' g d := by
  obtain ⟨pa, ka, pc, kc, h1, h2, h3, h4, h5⟩ := h
  exact ⟨pa, ka, pc, kc, h1, h2, h3, fun k hk => Nat.lt_of_lt_of_le (h4 k hk) hM, fun k hk => Nat.lt_of_lt_of_le (h5 k hk) hM⟩
/-- a zero disk in a box -/
theorem down0 {w : World} {B1 M g : Nat} (hb : w.heap[g]? = some (.cells #[.bool false, .slice none 0 0, .slice none 0 0] 25 (0, 0))) : DOwn w B1 M g dsk0 :=
  ⟨none, 0, none, 0, hb, OwnL.nil _ _ _, World.ownsRow_nil w B1 _ 2, fun k e => by simp [Value.ownBlock] at e, fun k e => by simp [Value.ownBlock] at e⟩
end Go.Proofs.Ytpmbmhjhclekeaa
namespace Go.Proofs.Ytpmbmhjhclekeaa
open Go.RowKit
/-- an act in a box -/
theorem box_act {w : World} {g : Nat} {a b c d e : Value} {T : TypeId} (h : w.heap[g]? = some (.cells #[a, b, c, d, e] T (0, 0))) : w.cell? ⟨g, 0, none⟩ = some a ∧ w.cell? ⟨g, 1, none⟩ = some b ∧ w.cell? ⟨g, 2, none⟩ = some c ∧ w.cell? ⟨g, 3, none⟩ = some d ∧ w.cell? ⟨g, 4, none⟩ = some e :=
  ⟨by rw [cell_of_row _ _ 0 _ _ _ h]; rfl, by rw [cell_of_row _ _ 1 _ _ _ h]; rfl, by rw [cell_of_row _ _ 2 _ _ _ h]; rfl, by rw [cell_of_row _ _ 3 _ _ _ h]; rfl, by rw [cell_of_row _ _ 4 _ _ _ h]; rfl⟩
end Go.Proofs.Ytpmbmhjhclekeaa
namespace Go.Proofs.Ytpmbmhjhclekeaa
open Go.RowKit
theorem Small.sz {d : Dsk} (h : Small d) (i : Nat) : (d.secs.getD i ByteArray.empty).size ≤ 140737488355328 := by
  by_cases hi : i < d.secs.length
  · have e : d.secs.getD i ByteArray.empty = d.secs[i] := by simp [List.getD, hi]
    rw [e, h.2.2 _ (List.getElem_mem _)]
    decide
  · have e : d.secs.getD i ByteArray.empty = ByteArray.empty := by simp [List.getD, Nat.le_of_not_lt hi]
    rw [e]; decide
end Go.Proofs.Ytpmbmhjhclekeaa
