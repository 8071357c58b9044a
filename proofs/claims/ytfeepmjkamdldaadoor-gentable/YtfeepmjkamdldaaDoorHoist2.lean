/- A region that leaves its order open between two operations that make memory: all that only reads comes first, then either of the two. -/
import Derived.Test.YtfeepmjkamdldaaDoorHoist
namespace Go.Proofs.YtfeepmjkamdldaaDoor
open Go.RowKit
set_option linter.unusedVariables false
section
variable {P : Program} {Q : Exit → Act → World → Prop} {S : World → Prop} {ops : Array Oper} {md : Region.Mode}
/-- pre are readers; then i and j may come, and behind each of them all is settled -/
def ord2Ok (md : Region.Mode) (ops : Array Oper) (i j : Nat) (r1 r2 : List (Bool × Nat)) : List Nat → Array Bool → Bool
  | [], L => (Region.ready md ops L == [i, j]) && ordOk md ops r1 (L.setIfInBounds i true) && ordOk md ops r2 (L.setIfInBounds j true) && (r1.length == r2.length)
  | k :: pre, L => Region.free md ops L k && (Region.ready md ops L).contains k && ord2Ok md ops i j r1 r2 pre (L.setIfInBounds k true)
/-- both ways -/
def Both (P : Program) (ops : Array Oper) (Q : Exit → Act → World → Prop) (S : World → Prop) (l1 l2 : List (Bool × Nat × Option Oper)) : Exit → Act → World → Prop := fun _ a w => walkH P ops Q S l1 a w ∧ walkH P ops Q S l2 a w
theorem walkH_nil {a : Act} {w : World} (h : Q .normal a w) : walkH P ops Q S [] a w := h
theorem walkH_both {l1 l2 : List (Bool × Nat × Option Oper)} {a : Act} {w : World} (h1 : walkH P ops Q S l1 a w) (h2 : walkH P ops Q S l2 a w) : walkH P ops (Both P ops Q S l1 l2) S [] a w := ⟨h1, h2⟩
theorem wpAnyH_ord2 (hs : Region.noSelect ops = true) (hQ : ∀ c a d v w, Q (.panic c) (a.put d v) w → Q (.panic c) a w) (i j : Nat) (r1 r2 : List (Bool × Nat)) : ∀ (pre : List Nat) (L : Array Bool) (a : Act) (w : World),
    ord2Ok md ops i j r1 r2 pre L = true → S w → walkH P ops (Both P ops Q S (withOps ops.toList ((false, i) :: r1)) (withOps ops.toList ((false, j) :: r2))) S (withOps ops.toList (pre.map fun k => (true, k))) a w → wpAnyH P md ops Q S (pre.length + (r1.length + 1)) L a w
  | [], L, a, w, ok, hS, h => by
    simp only [ord2Ok, Bool.and_eq_true, beq_iff_eq] at ok
    obtain ⟨⟨⟨h1, h2⟩, h3⟩, h4⟩ := ok
    rw [List.length_nil, Nat.zero_add]
    refine wpAnyH_all h1 (by simp) (fun k hk => ?_)
    rw [List.mem_cons, List.mem_singleton] at hk
    rcases hk with rfl | rfl
    · exact wpOp_mono (fun a' w' h' => ⟨h'.1, wpAnyH_ord hs hQ r1 _ _ _ h2 h'.1 h'.2⟩) h.1
    · rw [h4]
      exact wpOp_mono (fun a' w' h' => ⟨h'.1, wpAnyH_ord hs hQ r2 _ _ _ h3 h'.1 h'.2⟩) h.2
  | k :: pre, L, a, w, ok, hS, h => by
    simp only [ord2Ok, Bool.and_eq_true] at ok
    obtain ⟨⟨h1, h2⟩, h3⟩ := ok
    obtain ⟨o, v, ho, hy, hr⟩ := h
    have e : (k :: pre).length + (r1.length + 1) = (pre.length + (r1.length + 1)) + 1 := by simp; omega
    rw [e]
    exact wpAnyH_take (by simpa using ho) hs h1 h2 (fun c a w => hQ c a _ _ w) hy hS (wpAnyH_ord2 hs hQ i j r1 r2 pre _ _ _ h3 hS hr)
theorem wp_region_ord2 {id : Nat} {a : Act} {w : World} (pre : List Nat) (i j : Nat) (r1 r2 : List (Bool × Nat)) (hm : P.follows .mixedOrders = true) (hs : Region.noSelect ops = true) (hl : pre.length + (r1.length + 1) = ops.size) (ok : ord2Ok .any ops i j r1 r2 pre (Array.replicate ops.size false) = true)
    (hS : S w.drew) (h : walkH P ops (Both P ops (NoPanic Q) S (withOps ops.toList ((false, i) :: r1)) (withOps ops.toList ((false, j) :: r2))) S (withOps ops.toList (pre.map fun k => (true, k))) a w.drew) : (Code.region id ops true).wp P Q a w := by
  refine wp_region_noPanic ?_
  have hQ : ∀ c a d v w, NoPanic Q (.panic c) (a.put d v) w → NoPanic Q (.panic c) a w := fun _ _ _ _ _ h => h
  refine wp_region_held (S := S) hm ?_
  have hh := wpAnyH_ord2 (md := .any) (L := Array.replicate ops.size false) hs hQ i j r1 r2 pre a _ ok hS h
  rw [hl] at hh
  exact hh
end
end Go.Proofs.YtfeepmjkamdldaaDoor
