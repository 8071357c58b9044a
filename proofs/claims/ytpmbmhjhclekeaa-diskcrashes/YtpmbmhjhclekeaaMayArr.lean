/- An array of arrays of bools in a block of one's own; what of a disk's box other stores leave. -/
import Derived.Test.YtpmbmhjhclekeaaDskLoop
import Derived.Test.YtpmbmhjhclekeaaCrashMath
namespace Go.Proofs.Ytpmbmhjhclekeaa
open Go.RowKit
set_option linter.unusedVariables false
set_option linter.unusedSimpArgs false
attribute [local go_sem ↓] Go.wp_at_zero Go.wp_at_succ
def mayC (f : Nat → Bool) : List Value := (List.range 768).map (fun j => .bool (f j))
theorem mayC_len (f : Nat → Bool) : (mayC f).length = 768 := by simp [mayC]
theorem mayC_at {f : Nat → Bool} {j : Nat} (h : j < 768) : (mayC f)[j]? = some (.bool (f j)) := by simp [mayC, h]
theorem mayC_one (f : Nat → Bool) : ∀ v ∈ mayC f, v.oneCell' = true := by
  intro v hv
  simp only [mayC, List.mem_map] at hv
  obtain ⟨c, _, rfl⟩ := hv
  rfl
theorem mayC_ext {f : Nat → Bool} {C : List Value} (hl : C.length = 768) (h : ∀ j, j < 768 → C[j]? = some (.bool (f j))) : C = mayC f := by
  apply List.ext_getElem?
  intro j
  by_cases hj : j < 768
  · rw [h j hj, mayC_at hj]
  · rw [List.getElem?_eq_none (by omega), List.getElem?_eq_none (by rw [mayC_len]; omega)]
def MayAt (w : World) (g : Nat) (f : Nat → Bool) : Prop := w.heap[g]? = some (.cells (mayC f).toArray 59 (0, 0))
theorem MayAt.cell {w : World} {g j : Nat} {f : Nat → Bool} (h : MayAt w g f) (hj : j < 768) : w.cell? ⟨g, j, none⟩ = some (.bool (f j)) := cell_of_list h (mayC_at hj)
theorem MayAt.lt {w : World} {g : Nat} {f : Nat → Bool} (h : MayAt w g f) : g < w.heap.size := (Array.getElem?_eq_some_iff.1 h).1
theorem MayAt.below {w w' : World} {g : Nat} {f : Nat → Bool} (h : MayAt w g f) (hb : Below w.heap.size w w') : MayAt w' g f := (hb.block _ h.lt).trans h
theorem MayAt.thereAll {w : World} {g : Nat} {f : Nat → Bool} (h : MayAt w g f) : w.there g 0 768 := there_of_list h (by rw [mayC_len]; omega)
theorem MayAt.noStr {w : World} {g : Nat} {f : Nat → Bool} (h : MayAt w g f) (o : Nat) (s : ByteArray) : w.cell? ⟨g, o, none⟩ ≠ some (.string s) := by
  rw [cell_of_row _ _ o _ _ _ h]
  by_cases ho : o < 768
  · simp only [List.getElem?_toArray, mayC_at ho]
    simp
  · simp only [List.getElem?_toArray]
    rw [List.getElem?_eq_none (by rw [mayC_len]; omega)]
    simp
theorem MayAt.set {w : World} {g : Nat} {f : Nat → Bool} (h : MayAt w g f) (p : Nat) (hp : p < 768) : MayAt (w.setCell ⟨g, p, none⟩ (.bool true)) g (fSet p f) := by
  have h1 := block_setCell (o := p) h (.bool true)
  have e : (mayC f).set p (.bool true) = mayC (fSet p f) := mayC_ext (by simp [mayC_len]) (fun j hj => by
    by_cases e : j = p
    · subst e
      rw [List.getElem?_set_self (by rw [mayC_len]; exact hj)]
      simp [fSet]
    · rw [List.getElem?_set_ne (fun h => e h.symm), mayC_at hj]
      simp [fSet, e])
  rw [e] at h1
  exact h1
theorem MayAt.setAll {w : World} {g : Nat} {f q : Nat → Bool} (h : MayAt w g f) : MayAt (w.setCells g 0 (mayC q)) g q := by
  obtain ⟨C', e1, e2, e3, e4, e5⟩ := setCells_block g (mayC q) 0 w (mayC f) _ _ h (by rw [mayC_len, mayC_len]; omega)
  rw [mayC_len] at e2
  have : C' = mayC q := mayC_ext e2 (fun j hj => by
    have := e5 j (by rw [mayC_len]; exact hj)
    rw [Nat.zero_add] at this
    rw [this, mayC_at hj])
  rw [MayAt, e1, this]
theorem info_may : (Try.prog.info? 59).map (·.size) = some 768 := by kernel_rfl
theorem step_store_may {ops : Array Oper} {rest : List Oper} {op : Oper} {a : Act} {w : World} {Q : Exit → Act → World → Prop} (hgd : op.guard = none) (x y : Operand) (ho : op.op = .store 59 x y)
    (b : Nat) (hx : a.eval x = .pointer (some ⟨b, 0, none⟩)) (f q : Nat → Bool) (hy : a.eval y = .agg (mayC f).toArray) (hc : MayAt w b q)
    (h : wpList Try.prog ops Q rest (a.put op.dst undef) (w.setCells b 0 (mayC f))) : wpList Try.prog ops Q (op :: rest) a w :=
  wpList_store_mid hgd _ x y ho b 0 _ hx hy (by simpa [mayC_len] using hc.thereAll) (by rw [info_may]; simp [mayC_len]) (all_oneCell_toArray (mayC_one f)) (by simpa using h)
theorem zero_may (w : World) : (zeroValue 59).run Try.prog w = .ok (.agg (mayC (fun _ => false)).toArray) w :=
  (zero_of_info (P := Try.prog) (t := 59) (v := .agg (mayC (fun _ => false)).toArray) (n := 768) (by kernel_rfl)).1 w
theorem build_may (w : World) : (Instr.build 59 #[]).run Try.prog w = .ok (.agg (mayC (fun _ => false)).toArray) w := by kernel_rfl
/-- a disk's box, behind stores into one block that holds no text -/
theorem DVar.chg {w w' : World} {B g k : Nat} {d : Dsk} (h : DVar w B g d) (hne : g ≠ k) (hns : ∀ o s, w.cell? ⟨k, o, none⟩ ≠ some (.string s)) (hk : ∀ j, j ≠ k → w'.heap[j]? = w.heap[j]?) (hs : w.heap.size ≤ w'.heap.size) : DVar w' B g d := by
  obtain ⟨⟨a1, a2, a3, a4, hb, hS, hC⟩, hl⟩ := h
  have hcl : ∀ b o, b ≠ k → w'.cell? ⟨b, o, none⟩ = w.cell? ⟨b, o, none⟩ := fun b o hbk => by
    unfold World.cell?
    simp only [hk b hbk]
  refine ⟨⟨a1, a2, a3, a4, (hk g hne).trans hb, ⟨hS.1, ?_⟩, hC.1, ?_⟩, hl.1, Nat.lt_of_lt_of_le hl.2 hs⟩
  · rcases hS.2 with h | h | ⟨h1, h2, b, off, e, hc⟩
    · exact .inl h
    · exact .inr (.inl h)
    · have hbk : b ≠ k := by
        rintro rfl
        exact hns _ _ (hc 0 h1)
      exact .inr (.inr ⟨h1, h2, b, off, e, fun i hi => by rw [hcl b _ hbk]; exact hc i hi⟩)
  · have hw := hC
    rcases hC.2 with h | h | ⟨h1, h2, b, off, e, hc⟩
    · exact .inl h
    · exact .inr (.inl h)
    · have hbk : b ≠ k := by
        rintro rfl
        obtain ⟨b', o', e', -, ht⟩ := hw.at h1
        have := (ht 0 h1).2
        rw [e] at e'
        simp only [Option.some.injEq, Addr.mk.injEq, and_true] at e'
        obtain ⟨rfl, rfl⟩ := e'
        exact hns _ _ this
      exact .inr (.inr ⟨h1, h2, b, off, e, fun i hi => by rw [hcl b _ hbk]; exact hc i hi⟩)
theorem MayAt.putOther {w : World} {B' g k : Nat} {f : Nat → Bool} {e : Dsk} (h : MayAt w g f) (h' : DVar w B' k e) (hne : g ≠ k) (x y z : Value) : MayAt (((w.setCell ⟨k, 0, none⟩ x).setCell ⟨k, 1, none⟩ y).setCell ⟨k, 2, none⟩ z) g f :=
  (heap_put3 w k x y z g hne).trans h
end Go.Proofs.Ytpmbmhjhclekeaa
