/- A region that leaves its order open, in which one operation may come anywhere among a chain of others: all that only reads comes first. -/
import Derived.Test.YtpmbmhjhclekeaaKRegs
namespace Go.Proofs.Ytpmbmhjhclekeaa
open Go.RowKit
set_option linter.unusedVariables false
section
variable {P : Program} {Q : Exit → Act → World → Prop} {S : World → Prop} {ops : Array Oper} {md : Region.Mode}
/-- the chain, x anywhere in it, then the tail -/
def floatOk (md : Region.Mode) (ops : Array Oper) (x : Nat) (tail : List (Bool × Nat)) : List (Bool × Nat) → Array Bool → Bool
  | [], L => (Region.ready md ops L == [x]) && ordOk md ops tail (L.setIfInBounds x true)
  | (true, i) :: r, L => Region.free md ops L i && (Region.ready md ops L).contains i && floatOk md ops x tail r (L.setIfInBounds i true)
  | (false, i) :: r, L => ((Region.ready md ops L == [i, x]) || (Region.ready md ops L == [x, i])) && floatOk md ops x tail r (L.setIfInBounds i true) && ordOk md ops ((false, i) :: (r ++ tail)) (L.setIfInBounds x true)
def walkF (P : Program) (ops : Array Oper) (Q : Exit → Act → World → Prop) (S : World → Prop) (x : Nat) (tail : List (Bool × Nat × Option Oper)) : List (Bool × Nat × Option Oper) → Act → World → Prop
  | [], a, w => wpOp P ops Q x (fun a' w' => S w' ∧ walkH P ops Q S tail a' w') a w
  | (true, i, oo) :: r, a, w => ∃ o v, oo = some o ∧ ((Region.wanted o (yielded ops a.tmps) = true ∧ ∀ w', S w' → (execOp a.eval o).run P w' = .ok (.value v) w') ∨ (Region.wanted o (yielded ops a.tmps) = false ∧ v = undef)) ∧ walkF P ops Q S x tail r (a.put o.dst v) w
  | (false, i, oo) :: r, a, w => wpOp P ops Q i (fun a' w' => S w' ∧ walkF P ops Q S x tail r a' w') a w ∧ wpOp P ops Q x (fun a' w' => S w' ∧ walkH P ops Q S ((false, i, oo) :: (r ++ tail)) a' w') a w
theorem wpAnyH_float (hs : Region.noSelect ops = true) (hQ : ∀ c a d v w, Q (.panic c) (a.put d v) w → Q (.panic c) a w) (x : Nat) (tail : List (Bool × Nat)) : ∀ (ord : List (Bool × Nat)) (L : Array Bool) (a : Act) (w : World),
    floatOk md ops x tail ord L = true → S w → walkF P ops Q S x (withOps ops.toList tail) (withOps ops.toList ord) a w → wpAnyH P md ops Q S (ord.length + (tail.length + 1)) L a w
  | [], L, a, w, ok, hS, h => by
    simp only [floatOk, Bool.and_eq_true, beq_iff_eq] at ok
    obtain ⟨h1, h2⟩ := ok
    rw [List.length_nil, Nat.zero_add]
    refine wpAnyH_all h1 (by simp) (fun j hj => ?_)
    simp only [List.mem_singleton] at hj
    subst hj
    exact wpOp_mono (fun a' w' h' => ⟨h'.1, wpAnyH_ord hs hQ tail _ _ _ h2 h'.1 h'.2⟩) h
  | (true, i) :: r, L, a, w, ok, hS, h => by
    simp only [floatOk, Bool.and_eq_true] at ok
    obtain ⟨⟨h1, h2⟩, h3⟩ := ok
    obtain ⟨o, v, ho, hy, hr⟩ := h
    have e : ((true, i) :: r).length + (tail.length + 1) = (r.length + (tail.length + 1)) + 1 := by simp; omega
    rw [e]
    exact wpAnyH_take (by simpa using ho) hs h1 h2 (fun c a w => hQ c a _ _ w) hy hS (wpAnyH_float hs hQ x tail r _ _ _ h3 hS hr)
  | (false, i) :: r, L, a, w, ok, hS, h => by
    simp only [floatOk, Bool.and_eq_true, Bool.or_eq_true, beq_iff_eq] at ok
    obtain ⟨⟨h1, h2⟩, h3⟩ := ok
    have e : ((false, i) :: r).length + (tail.length + 1) = (r.length + (tail.length + 1)) + 1 := by simp; omega
    have e2 : ((false, i) :: (r ++ tail)).length = r.length + (tail.length + 1) := by simp; omega
    rw [e]
    have hi : wpOp P ops Q i (fun a' w' => S w' ∧ wpAnyH P md ops Q S (r.length + (tail.length + 1)) (L.setIfInBounds i true) a' w') a w :=
      wpOp_mono (fun a' w' h' => ⟨h'.1, wpAnyH_float hs hQ x tail r _ _ _ h2 h'.1 h'.2⟩) h.1
    have hx : wpOp P ops Q x (fun a' w' => S w' ∧ wpAnyH P md ops Q S (r.length + (tail.length + 1)) (L.setIfInBounds x true) a' w') a w := by
      refine wpOp_mono (fun a' w' h' => ⟨h'.1, ?_⟩) h.2
      have hw : walkH P ops Q S (withOps ops.toList ((false, i) :: (r ++ tail))) a' w' := by
        have e3 : withOps ops.toList ((false, i) :: (r ++ tail)) = (false, i, ops.toList[i]?) :: (withOps ops.toList r ++ withOps ops.toList tail) := by simp [withOps]
        rw [e3]
        exact h'.2
      have := wpAnyH_ord hs hQ ((false, i) :: (r ++ tail)) _ _ _ h3 h'.1 hw
      rw [e2] at this
      exact this
    rcases h1 with h1 | h1
    · refine wpAnyH_all h1 (by simp) (fun k hk => ?_)
      rw [List.mem_cons, List.mem_singleton] at hk
      rcases hk with rfl | rfl
      · exact hi
      · exact hx
    · refine wpAnyH_all h1 (by simp) (fun k hk => ?_)
      rw [List.mem_cons, List.mem_singleton] at hk
      rcases hk with rfl | rfl
      · exact hx
      · exact hi
theorem wp_region_float {id : Nat} {a : Act} {w : World} (x : Nat) (ord tail : List (Bool × Nat)) (hm : P.follows .mixedOrders = true) (hs : Region.noSelect ops = true) (hl : ord.length + (tail.length + 1) = ops.size) (ok : floatOk .any ops x tail ord (Array.replicate ops.size false) = true)
    (hS : S w.drew) (h : walkF P ops (NoPanic Q) S x (withOps ops.toList tail) (withOps ops.toList ord) a w.drew) : (Code.region id ops true).wp P Q a w := by
  refine wp_region_noPanic ?_
  have hQ : ∀ c a d v w, NoPanic Q (.panic c) (a.put d v) w → NoPanic Q (.panic c) a w := fun _ _ _ _ _ h => h
  refine wp_region_held (S := S) hm ?_
  have hh := wpAnyH_float (md := .any) (L := Array.replicate ops.size false) hs hQ x tail ord a _ ok hS h
  rw [hl] at hh
  exact hh
theorem walkF_read {i x : Nat} {tail r : List (Bool × Nat × Option Oper)} {a : Act} {w : World} {o : Oper} {v : Value} (hw : Region.wanted o (yielded ops a.tmps) = true)
    (hy : ∀ x : Subtype S, (execOp a.eval o).run P x.val = .ok (.value v) x.val) (h : walkF P ops Q S x tail r (a.put o.dst v) w) : walkF P ops Q S x tail ((true, i, some o) :: r) a w :=
  ⟨o, v, rfl, .inl ⟨hw, fun w' hw' => hy ⟨w', hw'⟩⟩, h⟩
theorem walkF_do {i x : Nat} {tail r : List (Bool × Nat × Option Oper)} {a : Act} {w : World} {o ox : Oper} (ho : ops[i]? = some o) (hox : ops[x]? = some ox)
    (h : ∀ K : Act → World → Prop, (∀ a w, S w → walkF P ops Q S x tail r a w → K a w) → if Region.wanted o (yielded ops a.tmps) = true then Oper.wp P o a w K Q else K (a.put o.dst undef) w)
    (h' : ∀ K : Act → World → Prop, (∀ a w, S w → walkH P ops Q S ((false, i, some o) :: (r ++ tail)) a w → K a w) → if Region.wanted ox (yielded ops a.tmps) = true then Oper.wp P ox a w K Q else K (a.put ox.dst undef) w) : walkF P ops Q S x tail ((false, i, some o) :: r) a w :=
  ⟨wpOp_step ho (fun K' hK => h K' (fun a w hS hW => hK a w ⟨hS, hW⟩)), wpOp_step hox (fun K' hK => h' K' (fun a w hS hW => hK a w ⟨hS, hW⟩))⟩
theorem walkF_end {x : Nat} {tail : List (Bool × Nat × Option Oper)} {a : Act} {w : World} {ox : Oper} (hox : ops[x]? = some ox)
    (h : ∀ K : Act → World → Prop, (∀ a w, S w → walkH P ops Q S tail a w → K a w) → if Region.wanted ox (yielded ops a.tmps) = true then Oper.wp P ox a w K Q else K (a.put ox.dst undef) w) : walkF P ops Q S x tail [] a w :=
  wpOp_step hox (fun K' hK => h K' (fun a w hS hW => hK a w ⟨hS, hW⟩))
end
end Go.Proofs.Ytpmbmhjhclekeaa
