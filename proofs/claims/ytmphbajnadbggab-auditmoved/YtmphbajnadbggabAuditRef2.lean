/- The document's own answers (ossuaryref1.Respond): a contract. -/
import Derived.Test.YtmphbajnadbggabAuditRef
import Derived.Test.YtmphbajnadbggabAnsMem
import Derived.Test.YtmphbajnadbggabKRegs
namespace Go.Proofs.Ytmphbajnadbggab
open Go.RowKit
set_option linter.unusedVariables false
set_option linter.unusedSimpArgs false
attribute [local go_sem ↓] Go.wp_at_zero Go.wp_at_succ
/-- the answer to block b -/
def ansOf (s : ByteArray) (p : List Int) (q : Int) (b : Nat) : Ans := ⟨blk s b, nint (Tree.path (leavesL s) b) ++ p, ((Seal.pair q (((leavesL s).getD b 0 : Nat) : Int) : Nat) : Int)⟩
def RspM (s : ByteArray) (p : List Int) (q : Int) (bs : List Int) : Prop := s.size = 32 ∧ (Sls p ∧ p.length ≤ 3) ∧ AskM q bs
instance rspDec (s : ByteArray) (p : List Int) (q : Int) (bs : List Int) : Decidable (RspM s p q bs) := by unfold RspM; exact inferInstance
def rspTo (s : ByteArray) (p : List Int) (q : Int) (bs : List Int) (k : Nat) : List Ans := (bs.take k).map fun b => ansOf s p q b.toNat
def rspP (s : ByteArray) (p : List Int) (q : Int) (bs : List Int) : List Ans × Int := if RspM s p q bs then (rspTo s p q bs bs.length, 0) else ([], 1200)
theorem rspP_no {s : ByteArray} {p : List Int} {q : Int} {bs : List Int} (h : ¬ RspM s p q bs) : rspP s p q bs = ([], 1200) := by unfold rspP; rw [if_neg h]
theorem rspP_yes {s : ByteArray} {p : List Int} {q : Int} {bs : List Int} (h : RspM s p q bs) : rspP s p q bs = (rspTo s p q bs bs.length, 0) := by unfold rspP; rw [if_pos h]
theorem rspTo_len (s : ByteArray) (p : List Int) (q : Int) (bs : List Int) (k : Nat) (h : k ≤ bs.length) : (rspTo s p q bs k).length = k := by simp [rspTo]; omega
theorem rspTo_snoc (s : ByteArray) (p : List Int) (q : Int) (bs : List Int) (k : Nat) (h : k < bs.length) : rspTo s p q bs (k + 1) = rspTo s p q bs k ++ [ansOf s p q (bs.getD k 0).toNat] := by
  unfold rspTo
  rw [List.take_add_one, List.map_append]
  simp [List.getD, List.getElem?_eq_getElem h]
theorem leaves_32 {s : ByteArray} (h : s.size = 32) : (leavesL s).length = 4 := by rw [leavesL, leavesTo_len, h]
theorem leaves_may (s : ByteArray) : Tree.May (leavesL s) := by
  intro x hx
  unfold leavesL leavesTo at hx
  obtain ⟨i, _, rfl⟩ := List.mem_map.1 hx
  exact Seal.of_lt _
theorem blk_32 {s : ByteArray} (h : s.size = 32) {b : Nat} (hb : b < 4) : blk s b = s.extract (8 * b) (8 * b + 8) := by
  unfold blk
  rw [h, show min (8 * b + 8) 32 = 8 * b + 8 by omega]
theorem wf_sl {q : Int} (h : Sl q) : (Lit.int .i64 q).wf = true := by
  obtain ⟨h1, h2⟩ := h
  obtain ⟨n, rfl⟩ : ∃ n : Nat, q = n := ⟨q.toNat, by omega⟩
  exact wf_nat (by omega)
theorem Try.infoAns : (Try.prog.info? 36).map (fun i => (i.zero, i.size, i.bytes)) = some (some (.agg #[.string ByteArray.empty, .slice none 0 0, .int .i64 0]), 3, 48) := by kernel_rfl
theorem apt_far {w : World} {B C : Nat} {e e' : TypeId} {v x : Value} {xs ys : List Value} {w' : World} (h : OwnL w B e v xs) (h' : OwnL w' C e' x ys) (hs : w'.heap.size ≤ B) : Apt v x := by
  intro g hg hg'
  have h1 := (h.lt hg).1
  have h2 := (h'.lt hg').2
  omega
/-- what Respond leaves: answers of the call's own, a number -/
def ansPost (r : List Ans × Int) (w : World) (e : Ending) (w' : World) : Prop := ∃ v us, e = .returned (.tuple #[v, .int .i64 r.2]) ∧ AnsO w' w.heap.size 36 3 v us r.1 ∧ Below w.heap.size w w'
theorem ownZ_mono {w : World} {B B' : Nat} {e : TypeId} {z n : Nat} {v : Value} {xs : List Value} (h : w.ownsRow B e z v n xs) (hB : B' ≤ B) : w.ownsRow B' e z v n xs := by
  rcases h with ⟨h1, h2 | ⟨g, cap, cur, e, hb, rest⟩⟩
  · exact ⟨h1, .inl h2⟩
  · exact ⟨h1, .inr ⟨g, cap, cur, e, Nat.le_trans hB hb, rest⟩⟩
theorem AnsO.mono {w : World} {B B' : Nat} {T E : TypeId} {v : Value} {us : List Value} {zs : List Ans} (h : AnsO w B T E v us zs) (hB : B' ≤ B) : AnsO w B' T E v us zs :=
  ⟨h.len, ownZ_mono h.outer hB, fun j x hx => (h.row j x hx).mono hB, h.apart⟩
end Go.Proofs.Ytmphbajnadbggab
