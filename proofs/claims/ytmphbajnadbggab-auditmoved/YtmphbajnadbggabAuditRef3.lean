/- The document's own audit (ossuaryref1.CheckAudit): a contract. -/
import Derived.Test.YtmphbajnadbggabAuditRef2
namespace Go.Proofs.Ytmphbajnadbggab
open Go.RowKit
set_option linter.unusedVariables false
set_option linter.unusedSimpArgs false
attribute [local go_sem ↓] Go.wp_at_zero Go.wp_at_succ
/-- an answer that is right -/
def AnsOk (r sh st q : Int) (b : Nat) (z : Ans) : Prop := z.blk.size = 8 ∧ z.keyed = ((Seal.pair q ((Seal.of (byts z.blk) : Nat) : Int) : Nat) : Int) ∧ 2 ≤ z.path.length ∧ (Sls z.path ∧ z.path.length ≤ 64) ∧
  Chk r sh st ((Tree.climb 4 b (Seal.of (byts z.blk)) (nats (z.path.take 2)) : Nat) : Int) (z.path.drop 2)
instance ansOkDec (r sh st q : Int) (b : Nat) (z : Ans) : Decidable (AnsOk r sh st q b z) := by unfold AnsOk; exact inferInstance
def AudHead (sh st q : Int) (bs : List Int) (n : Nat) : Prop := AskM q bs ∧ n = bs.length ∧ 1 ≤ sh ∧ sh ≤ 6 ∧ 0 ≤ st ∧ st < sh
/-- answers that are right -/
def Aud (r sh st q : Int) (bs : List Int) (zs : List Ans) : Prop := (AskM q bs ∧ zs.length = bs.length ∧ 1 ≤ sh ∧ sh ≤ 6 ∧ 0 ≤ st ∧ st < sh) ∧ ∀ i, i < zs.length → AnsOk r sh st q (bs.getD i 0).toNat (zs.getD i ans0)
instance audDec (r sh st q : Int) (bs : List Int) (zs : List Ans) : Decidable (Aud r sh st q bs zs) := by unfold Aud; exact inferInstance
theorem aud_false {r sh st q : Int} {bs : List Int} {zs : List Ans} {e : Ending} (h : ¬ Aud r sh st q bs zs) (he : e = .returned (.bool false)) : e = .returned (.bool (decide (Aud r sh st q bs zs))) := by rw [decide_eq_false h]; exact he
theorem dep_4 : ∀ b, b < 4 → Tree.depth 4 b = 2 := by decide +kernel
theorem box_three {w : World} {b : Nat} {x y z : Value} {T : TypeId} (h : w.heap[b]? = some (.cells #[x, y, z] T (0, 0))) : w.cell? ⟨b, 0, none⟩ = some x ∧ w.cell? ⟨b, 1, none⟩ = some y ∧ w.cell? ⟨b, 2, none⟩ = some z :=
  ⟨by rw [cell_of_row _ _ 0 _ _ _ h]; rfl, by rw [cell_of_row _ _ 1 _ _ _ h]; rfl, by rw [cell_of_row _ _ 2 _ _ _ h]; rfl⟩
/-- from the k-th on -/
theorem Ints.from {w : World} {b o n cap k : Nat} {xs : List Int} (h : Ints w (some ⟨b, o, none⟩) n cap xs) (h0 : 0 < n) (hk : k ≤ n) : Ints w (if cap = k then some ⟨b, o, none⟩ else some ⟨b, o + k, none⟩) (n - k) (cap - k) (xs.drop k) := by
  have hc := (h.cap h0).1
  have hl := h.1
  by_cases h1 : n = k
  · refine ⟨by rw [List.length_drop]; omega, .inr (.inl ⟨by omega, ?_⟩)⟩
    split <;> exact ⟨_, rfl⟩
  · rw [if_neg (by omega)]
    exact h.rest (by omega)
end Go.Proofs.Ytmphbajnadbggab
