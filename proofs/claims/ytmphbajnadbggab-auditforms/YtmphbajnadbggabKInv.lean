/- Texts one behind the other: InvW1, InvW2, InvW3, InvW4, InvW5, InvWalk. -/
import Derived.Test.YtmphbajnadbggabKRegs
import Derived.Test.YtmphbajnadbggabKCore
import Derived.Test.YtmphbajnadbggabKMatRef
import Derived.Test.YtmphbajnadbggabKInvRef
import Derived.Test.YtmphbajnadbggabKMat
import Derived.Deep.Cut
import Derived.Deep.DrawnRows
/- Package invert's lines: plus, divided. -/
namespace Go.Proofs.Ytmphbajnadbggab
open Go.RowKit
set_option linter.unusedVariables false
set_option linter.unusedSimpArgs false
attribute [local go_sem ↓] Go.wp_at_zero Go.wp_at_succ
/-- what plus answers -/
def plusF (x : Nat) (f g : Nat → Nat) : Nat → Nat := fun s => f s ^^^ Gf.mul x (g s)
/-- what plus has put in so far -/
def plusTo (n x : Nat) (f g : Nat → Nat) : Nat → Nat := fun s => if s < n then f s ^^^ Gf.mul x (g s) else f s
theorem plusTo_step (n x : Nat) (f g : Nat → Nat) : putOne n (f n ^^^ Gf.mul x (g n)) (plusTo n x f g) = plusTo (n + 1) x f g := by
  funext s
  unfold putOne plusTo
  by_cases h : s = n
  · subst h; simp
  · by_cases h2 : s < n
    · simp [h, h2, show s < n + 1 by omega]
    · simp [h, h2, show ¬ s < n + 1 by omega]
theorem three_blocks (w : World) (a b c : Obj) : ((((w.alloc a).alloc b).alloc c).heap[w.heap.size]? = some a) ∧ ((((w.alloc a).alloc b).alloc c).heap[w.heap.size + 1]? = some b) ∧ ((((w.alloc a).alloc b).alloc c).heap[w.heap.size + 1 + 1]? = some c) ∧ Below w.heap.size w (((w.alloc a).alloc b).alloc c) := by
  have s1 : (w.alloc a).heap.size = w.heap.size + 1 := by simp
  have s2 : ((w.alloc a).alloc b).heap.size = w.heap.size + 1 + 1 := by simp
  refine ⟨?_, ?_, ?_, by go_grown⟩
  · exact ((below_two (w.alloc a) b c).block _ (by omega)).trans (heap_alloc_new w a)
  · rw [← s1]
    exact ((below_alloc ((w.alloc a).alloc b) c).block _ (by omega)).trans (heap_alloc_new _ b)
  · rw [← s2]
    exact heap_alloc_new _ c
theorem zero_line : #[Value.int IntKind.i64 0, Value.int IntKind.i64 0, Value.int IntKind.i64 0, Value.int IntKind.i64 0, Value.int IntKind.i64 0, Value.int IntKind.i64 0, Value.int IntKind.i64 0, Value.int IntKind.i64 0, Value.int IntKind.i64 0, Value.int IntKind.i64 0, Value.int IntKind.i64 0, Value.int IntKind.i64 0, Value.int IntKind.i64 0, Value.int IntKind.i64 0, Value.int IntKind.i64 0, Value.int IntKind.i64 0, Value.int IntKind.i64 0, Value.int IntKind.i64 0, Value.int IntKind.i64 0, Value.int IntKind.i64 0, Value.int IntKind.i64 0, Value.int IntKind.i64 0, Value.int IntKind.i64 0, Value.int IntKind.i64 0] = (lineC (fun _ => 0)).toArray := by kernel_rfl
theorem plusTo_all (x : Nat) (f g : Nat → Nat) : lineC (plusTo 24 x f g) = lineC (plusF x f g) := lineC_congr (fun c hc => by simp [plusTo, plusF, hc])
end Go.Proofs.Ytmphbajnadbggab
/- Package invert's pairs: pivot. -/
namespace Go.Proofs.Ytmphbajnadbggab
open Go.RowKit
set_option linter.unusedVariables false
set_option linter.unusedSimpArgs false
attribute [local go_sem ↓] Go.wp_at_zero Go.wp_at_succ
section
variable {Q : Exit → Act → World → Prop} {S : World → Prop} {ops : Array Oper}
end
theorem range_kept {B b o : Nat} {W : World} {cs : List Value} (h : W.rangeAt b o cs) (hb : b < B) : ∀ w, Below B W w → w.rangeAt b o cs := fun w hw j v hv => (hw.cell hb).trans (h j v hv)
def pivPost (w : World) (f : Nat → Nat → Nat) (k c : Nat) (e : Ending) (w' : World) : Prop := w' = w ∧ ((∃ r, c ≤ r ∧ r < k ∧ f r c ≠ 0 ∧ e = .returned (.tuple #[.int .i64 r, .bool true])) ∨ ((∀ r, c ≤ r → r < k → f r c = 0) ∧ e = .returned (.tuple #[.int .i64 0, .bool false])))
end Go.Proofs.Ytmphbajnadbggab
/- Package invert's pairs: what a settled column says, settle. -/
namespace Go.Proofs.Ytmphbajnadbggab
open Go.RowKit
set_option linter.unusedVariables false
set_option linter.unusedSimpArgs false
attribute [local go_sem ↓] Go.wp_at_zero Go.wp_at_succ
def BytP (F : Nat → Nat → Nat) : Prop := ∀ r s, r < 12 → s < 24 → F r s < 256
/-- the two halves of a pair, c columns of the first being those of the identity -/
def St (k : Nat) (E : Nat → Nat → Nat) (c : Nat) (F : Nat → Nat → Nat) : Prop := Two k E F (fun r s => F r (k + s)) ∧ UnitTo k F c ∧ BytP F
theorem St.byt {k c : Nat} {E F : Nat → Nat → Nat} (h : St k E c F) (hk : k ≤ 12) : BytK k F := fun r s hr hs => h.2.2 r s (by omega) (by omega)
theorem St.byt2 {k c : Nat} {E F : Nat → Nat → Nat} (h : St k E c F) (hk : k ≤ 12) : BytK k (fun r s => F r (k + s)) := fun r s hr hs => h.2.2 r (k + s) (by omega) (by omega)
theorem put_swap (c t : Nat) (F : Nat → Nat → Nat) : putRow t (F c) (putRow c (F t) F) = fun r s => F (sw c t r) s := by
  funext r s
  unfold putRow sw
  by_cases h : r = t
  · by_cases h2 : r = c
    · subst h; subst h2; simp
    · subst h; simp [h2]
  · by_cases h2 : r = c
    · subst h2; simp [h]
    · simp [h, h2]
theorem put_scale (c x : Nat) (F : Nat → Nat → Nat) : putRow c (plusF x (fun _ => 0) (F c)) F = sc c x F := by
  funext r s
  unfold putRow plusF sc
  by_cases h : r = c
  · subst h; simp [Gf.mul_comm]
  · simp [h]
theorem put_add (i c x : Nat) (F : Nat → Nat → Nat) : putRow i (plusF x (F i) (F c)) F = ad i c x F := by
  funext r s
  unfold putRow plusF ad
  by_cases h : r = i
  · subst h; simp [Gf.mul_comm]
  · simp [h]
theorem St.swap {k c t : Nat} {E F : Nat → Nat → Nat} (h : St k E c F) (hk : k ≤ 12) (hc : c < k) (ht : c ≤ t) (htk : t < k) : St k E c (putRow t (F c) (putRow c (F t) F)) := by
  rw [put_swap]
  exact ⟨h.1.swap hc htk (h.byt hk) (h.byt2 hk), h.2.1.swap hc ht htk, fun r s hr hs => h.2.2 _ s (sw_lt (by omega) (by omega) hr) hs⟩
theorem St.scale {k c : Nat} {E F : Nat → Nat → Nat} (h : St k E c F) (hk : k ≤ 12) (hc : c < k) (h0 : F c c ≠ 0) : St k E c (putRow c (plusF (Gf.inv (F c c)) (fun _ => 0) (F c)) F) ∧ ColTo k (putRow c (plusF (Gf.inv (F c c)) (fun _ => 0) (F c)) F) c 0 := by
  rw [put_scale]
  have hb := h.byt hk
  refine ⟨⟨h.1.scale (Gf.inv_lt _) (Gf.inv_ne (hb c c hc hc) h0) hb (h.byt2 hk), h.2.1.scale hc, fun r s hr hs => ?_⟩, ColTo.scaled hb hc h0⟩
  unfold sc
  split
  · exact Gf.mul_lt _ _
  · exact h.2.2 r s hr hs
theorem St.add {k c i : Nat} {E F : Nat → Nat → Nat} (h : St k E c F) (hC : ColTo k F c i) (hk : k ≤ 12) (hc : c < k) (hi : i < k) (hic : i ≠ c) : St k E c (putRow i (plusF (F i c) (F i) (F c)) F) ∧ ColTo k (putRow i (plusF (F i c) (F i) (F c)) F) c (i + 1) := by
  rw [put_add]
  have hb := h.byt hk
  refine ⟨⟨h.1.add hic hc (hb i c hi hc) hb (h.byt2 hk), h.2.1.add hc, fun r s hr hs => ?_⟩, hC.added hb hi hic hc⟩
  unfold ad
  split
  · exact Gf.xor_lt (h.2.2 r s hr hs) (Gf.mul_lt _ _)
  · exact h.2.2 r s hr hs
theorem St.next {k c : Nat} {E F : Nat → Nat → Nat} (h : St k E c F) (hC : ColTo k F c k) : St k E (c + 1) F := ⟨h.1, h.2.1.next hC, h.2.2⟩
end Go.Proofs.Ytmphbajnadbggab
/- Package invert's pairs: inverse. -/
namespace Go.Proofs.Ytmphbajnadbggab
open Go.RowKit
set_option linter.unusedVariables false
set_option linter.unusedSimpArgs false
attribute [local go_sem ↓] Go.wp_at_zero Go.wp_at_succ
/-- copy of the first numbers of a longer row, onto a row of the call's own -/
theorem step_copy_front {P : Program} {ops : Array Oper} {o : Oper} {a : Act} {w : World} {K : Act → World → Prop} {Q : Exit → Act → World → Prop} {X : Prop} (hgd : o.guard = none) (d s : Operand) (dT sT : TypeId)
    (ho : o.op = .call { callee := .builtin .copy, args := #[d, s], argTypes := #[dT, sT] }) (elem : TypeId) (hu : P.underlying dT = some (.slice elem)) (hsz : (P.info? elem).map (·.size) = some 1)
    (B E g k m cap cap' b off : Nat) (hm : k ≤ m) (xs ys : List Value) (hd : a.eval d = .slice (some ⟨g, 0, none⟩) k cap) (hs : a.eval s = .slice (some ⟨b, off, none⟩) m cap') (hx : OwnL w B E (.slice (some ⟨g, 0, none⟩) k cap) xs) (hy : ys.length = k)
    (hsrc : ∀ j v, ys[j]? = some v → w.cell? ⟨b, off + j, none⟩ = some v) (h1 : ∀ v ∈ ys, v.oneCell' = true)
    (h : ∀ w', OwnL w' B E (.slice (some ⟨g, 0, none⟩) k cap) ys → (∀ j, j ≠ g → j < w.heap.size → w'.heap[j]? = w.heap[j]?) → Below B w w' → K (a.put o.dst (goInt k)) w') :
    if Region.wanted o (yielded ops a.tmps) = true then Oper.wp P o a w K Q else X := by
  rw [if_pos (by simp [Region.wanted, hgd])]
  rcases hx.2 with ⟨e, _⟩ | ⟨g', cap1, cur, e, hb, hh, hn, hm', hc, ht⟩
  · simp at e
  · have hlen := own_len hx
    simp only [Value.slice.injEq, Option.some.injEq, Addr.mk.injEq, and_true, true_and] at e
    obtain ⟨rfl, e2, rfl⟩ := e
    rw [hlen] at hn
    have hrun := run_copy_row (P := P) w dT sT o.type elem g 0 k cap ⟨b, off, none⟩ m cap' cur E ys hu hsz hh (by rw [hy]; simp [Nat.min_eq_right hm]) (fun j v hv => by
      rw [addr_add]; exact hsrc j v hv) (by rw [hy]; omega) h1
    have hK := h (w.setRow g (cur.toList.take 0 ++ ys ++ cur.toList.drop (0 + ys.length)).toArray)
      ⟨by simp, .inr ⟨g, cap, (cur.toList.take 0 ++ ys ++ cur.toList.drop (0 + ys.length)).toArray, by rw [hy], hb, setRow_heap w g cur _ E (0, 0) hh, by rw [hy]; exact hn, hm', by simp [hy]; omega, by simp⟩⟩
      (fun j hj _ => setRow_other w g j _ hj) (below_setRow (Below.refl B w) hb _)
    unfold Oper.wp
    have hK' : K (a.put o.dst (goInt ys.length)) (w.setRow g (cur.toList.take 0 ++ ys ++ cur.toList.drop (0 + ys.length)).toArray) := by rw [hy] at *; exact hK
    simp [execOp, ho, resolve, invoke, builtin, hd, hs, hrun, Result.andThen, Oper.upon]
    simp at hK'
    first | exact hK' | exact .inl hK'
theorem inF_put (R C : Nat) (f : Nat → Nat → Nat) (i : Nat) (h : i < R) : (inF R C f i 0).set i (colsF C (f i)) = outF R C f (i + 1) := by
  rw [← inF_end]
  unfold inF
  rw [rowsF_set R _ i _ h]
  refine rowsF_congr fun r hr => ?_
  by_cases e : r = i
  · subst e
    simp only [if_true, Nat.lt_irrefl, if_false]
    exact colsF_congr fun c hc => by rw [if_pos hc]
  · simp only [e, if_false]
end Go.Proofs.Ytmphbajnadbggab
/- Package invert's pairs: besideIdentity. -/
namespace Go.Proofs.Ytmphbajnadbggab
open Go.RowKit
set_option linter.unusedVariables false
set_option linter.unusedSimpArgs false
attribute [local go_sem ↓] Go.wp_at_zero Go.wp_at_succ
/-- a matrix beside the identity, of the first i rows -/
def begF (k : Nat) (E : Nat → Nat → Nat) (i : Nat) : Nat → Nat → Nat := fun r c => if r < i then (if c < k then E r c else if c = k + r then 1 else 0) else 0
theorem begF_zero (k : Nat) (E : Nat → Nat → Nat) : begF k E 0 = fun _ _ => 0 := by
  funext r c
  simp [begF]
theorem begF_step (k : Nat) (E : Nat → Nat → Nat) (i : Nat) : putAt i (k + i) 1 (fun r c => if r = i ∧ c < k then E i c else begF k E i r c) = begF k E (i + 1) := by
  funext r c
  unfold putAt begF
  by_cases h : r = i
  · subst h
    by_cases h2 : c < k
    · simp [h2, show c ≠ k + r by omega]
    · by_cases h3 : c = k + r
      · subst h3
        simp
        intro h; omega
      · simp [h2, h3]
  · by_cases h2 : r < i
    · simp [h, h2, show r < i + 1 by omega]
    · simp [h, h2, show ¬ r < i + 1 by omega]
end Go.Proofs.Ytmphbajnadbggab
/- Package invert's Invert: what it returns, whatever the matrix. -/
namespace Go.Proofs.Ytmphbajnadbggab
open Go.RowKit
set_option linter.unusedVariables false
set_option linter.unusedSimpArgs false
attribute [local go_sem ↓] Go.wp_at_zero Go.wp_at_succ
theorem begF_st {k : Nat} {E : Nat → Nat → Nat} (hk : k ≤ 12) (hE : BytK k E) : St k E 0 (begF k E k) := by
  refine ⟨(Two.start hE).eq (fun r s hr hs => by simp [begF, hr, hs]) (fun r s hr hs => ?_), fun r j _ hj => by omega, fun r s _ _ => ?_⟩
  · show idx r s = begF k E k r (k + s)
    unfold begF idx
    by_cases h : r = s
    · subst h; simp [hr]; intro h; omega
    · simp [hr, h, show ¬ s = r from fun e => h e.symm]; intro h; omega
  · unfold begF
    by_cases h : r < k
    · by_cases h2 : s < k
      · simp [h, h2]; exact hE r s h h2
      · simp only [h, h2, if_true, if_false]
        split <;> decide
    · simp [h]
end Go.Proofs.Ytmphbajnadbggab
