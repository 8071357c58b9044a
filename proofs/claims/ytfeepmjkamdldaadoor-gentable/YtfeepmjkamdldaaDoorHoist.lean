/- A region that leaves its order open: all that only reads comes first, then what makes memory, one behind the other; its last operation, where it waits for all others, at the end. One walk. -/
import Derived.Test.YtfeepmjkamdldaaDoorRegionLast
import Derived.Test.YtfeepmjkamdldaaDoorGrow
import Derived.Deep.RegionHeld3
namespace Go.Proofs.YtfeepmjkamdldaaDoor
open Go.RowKit
set_option linter.unusedVariables false
/-- a cell below B in each world that left all below B as it was -/
theorem kept_cell {B : Nat} {W : World} {p : Addr} {v : Value} (h : W.cell? p = some v) (hb : p.block < B) : ∀ x : Subtype (Below B W), x.val.cell? p = some v := fun x => (x.property.cell hb).trans h
section
variable {P : Program} {Q : Exit → Act → World → Prop} {S : World → Prop} {ops : Array Oper} {md : Region.Mode}
/-- the operations in the order ord, each with its number: those marked true only read -/
def walkH (P : Program) (ops : Array Oper) (Q : Exit → Act → World → Prop) (S : World → Prop) : List (Bool × Nat × Option Oper) → Act → World → Prop
  | [], a, w => Q .normal a w
  | (true, i, oo) :: r, a, w => ∃ o v, oo = some o ∧ YieldsIf P ops S o v a ∧ walkH P ops Q S r (a.put o.dst v) w
  | (false, i, oo) :: r, a, w => wpOp P ops Q i (fun a' w' => S w' ∧ walkH P ops Q S r a' w') a w
def withOps (l : List Oper) (ord : List (Bool × Nat)) : List (Bool × Nat × Option Oper) := ord.map fun p => (p.1, p.2, l[p.2]?)
/-- ord is an order in which the readers may come first, and what is not a reader has no choice -/
def ordOk (md : Region.Mode) (ops : Array Oper) : List (Bool × Nat) → Array Bool → Bool
  | [], L => (Region.ready md ops L).isEmpty
  | (true, i) :: r, L => Region.free md ops L i && (Region.ready md ops L).contains i && ordOk md ops r (L.setIfInBounds i true)
  | (false, i) :: r, L => (Region.ready md ops L == [i]) && ordOk md ops r (L.setIfInBounds i true)
theorem wpAnyH_ord (hs : Region.noSelect ops = true) (hQ : ∀ c a d v w, Q (.panic c) (a.put d v) w → Q (.panic c) a w) : ∀ (ord : List (Bool × Nat)) (L : Array Bool) (a : Act) (w : World),
    ordOk md ops ord L = true → S w → walkH P ops Q S (withOps ops.toList ord) a w → wpAnyH P md ops Q S ord.length L a w
  | [], L, a, w, ok, hS, h => wpAnyH_done (by simpa [ordOk] using ok) h _
  | (true, i) :: r, L, a, w, ok, hS, h => by
    simp only [ordOk, Bool.and_eq_true] at ok
    obtain ⟨⟨h1, h2⟩, h3⟩ := ok
    obtain ⟨o, v, ho, hy, hr⟩ := h
    exact wpAnyH_take (by simpa using ho) hs h1 h2 (fun c a w => hQ c a _ _ w) hy hS (wpAnyH_ord hs hQ r _ _ _ h3 hS hr)
  | (false, i) :: r, L, a, w, ok, hS, h => by
    simp only [ordOk, Bool.and_eq_true, beq_iff_eq] at ok
    obtain ⟨h1, h3⟩ := ok
    refine wpAnyH_all h1 (by simp) (fun j hj => ?_)
    simp only [List.mem_singleton] at hj
    subst hj
    exact wpOp_mono (fun a' w' h' => ⟨h'.1, wpAnyH_ord hs hQ r _ _ _ h3 h'.1 h'.2⟩) h
theorem walkH_read {i : Nat} {r : List (Bool × Nat × Option Oper)} {a : Act} {w : World} {o : Oper} {v : Value} (hw : Region.wanted o (yielded ops a.tmps) = true)
    (hy : ∀ x : Subtype S, (execOp a.eval o).run P x.val = .ok (.value v) x.val) (h : walkH P ops Q S r (a.put o.dst v) w) : walkH P ops Q S ((true, i, some o) :: r) a w :=
  ⟨o, v, rfl, .inl ⟨hw, fun w' hw' => hy ⟨w', hw'⟩⟩, h⟩
theorem walkH_skip {i : Nat} {r : List (Bool × Nat × Option Oper)} {a : Act} {w : World} {o : Oper} (hw : Region.wanted o (yielded ops a.tmps) = false)
    (h : walkH P ops Q S r (a.put o.dst undef) w) : walkH P ops Q S ((true, i, some o) :: r) a w :=
  ⟨o, undef, rfl, .inr ⟨hw, rfl⟩, h⟩
theorem walkH_do {i : Nat} {r : List (Bool × Nat × Option Oper)} {a : Act} {w : World} {o : Oper} (ho : ops[i]? = some o)
    (h : ∀ K : Act → World → Prop, (∀ a w, S w → walkH P ops Q S r a w → K a w) → if Region.wanted o (yielded ops a.tmps) = true then Oper.wp P o a w K Q else K (a.put o.dst undef) w) : walkH P ops Q S ((false, i, some o) :: r) a w :=
  wpOp_step ho (fun K' hK => h K' (fun a w hS hW => hK a w ⟨hS, hW⟩))
theorem wp_region_ord {id : Nat} {a : Act} {w : World} (ord : List (Bool × Nat)) (hm : P.follows .mixedOrders = true) (hs : Region.noSelect ops = true) (hl : ord.length = ops.size) (ok : ordOk .any ops ord (Array.replicate ops.size false) = true)
    (hS : S w.drew) (h : walkH P ops (NoPanic Q) S (withOps ops.toList ord) a w.drew) : (Code.region id ops true).wp P Q a w := by
  refine wp_region_noPanic ?_
  have hQ : ∀ c a d v w, NoPanic Q (.panic c) (a.put d v) w → NoPanic Q (.panic c) a w := fun _ _ _ _ _ h => h
  refine wp_region_held (S := S) hm ?_
  have hh := wpAnyH_ord (md := .any) (L := Array.replicate ops.size false) hs hQ ord a _ ok hS h
  rw [hl] at hh
  exact hh
theorem lastPost_of_list {l : List Oper} {o : Oper} {a : Act} {w : World} (h : wpList P (l ++ [o]).toArray Q [o] a w) : LastPost P l o Q .normal a w := by
  show wpOp P (l ++ [o]).toArray Q l.length (Q .normal) a w
  refine wpOp_of_list (K := Q .normal) get_last ?_
  have hE : Exit.then (Q .normal) Q = Q := by funext e a w; cases e <;> rfl
  rw [hE]; exact h
theorem wp_region_ord_then {id : Nat} {a : Act} {w : World} {L : List Oper} (ord : List (Bool × Nat)) (hne : L ≠ []) (hm : P.follows .mixedOrders = true) (hs : Region.noSelect L.dropLast.toArray = true) (hl : ord.length = L.dropLast.length) (ok : ordOk .any L.dropLast.toArray ord (Array.replicate L.dropLast.length false) = true) (hlast : lastOk L.dropLast (L.getLast hne) = true)
    (hS : S w.drew)
    (h : walkH P L.dropLast.toArray (LastPost P L.dropLast (L.getLast hne) (NoPanic Q)) S (withOps L.dropLast ord) a w.drew) : (Code.region id L.toArray true).wp P Q a w := by
  refine wp_region_noPanic ?_
  have hQ : ∀ c a d v w, NoPanic Q (.panic c) (a.put d v) w → NoPanic Q (.panic c) a w := fun _ _ _ _ _ h => h
  have e0 : L.toArray = (L.dropLast ++ [L.getLast hne]).toArray := by rw [List.dropLast_concat_getLast]
  rw [e0]
  refine wp_region_any hm ?_
  have e1 : (L.dropLast ++ [L.getLast hne]).toArray.size = L.dropLast.length + 1 := by simp
  have e2 : Array.replicate (L.dropLast.length + 1) false = (Array.replicate L.dropLast.length false).push false := by rw [Array.replicate_succ]
  rw [e1, e2]
  refine wpAny_last hlast L.dropLast.length (Array.replicate L.dropLast.length false) a _ (by simp) ?_
  refine wpAny_of_held (S := S) _ _ _ _ ?_
  have hh := wpAnyH_ord (md := .any) (Q := LastPost P L.dropLast (L.getLast hne) (NoPanic Q)) (L := Array.replicate L.dropLast.length false) hs (fun c a d v w h => hQ c a d v w h) ord a _ ok hS h
  rw [hl] at hh
  exact hh
end
end Go.Proofs.YtfeepmjkamdldaaDoor
