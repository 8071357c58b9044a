/- Answers of another shard, of another block: the numbers that AuditMoved asks for. -/
import Derived.Test.YtmphbajnadbggabAuditMath2
namespace Go.Proofs.Ytmphbajnadbggab
open Go.RowKit
set_option linter.unusedVariables false
theorem leaves_ne (b : Nat) : leavesL (textS b) ≠ [] := by
  have := leaves_32 (textS_size b)
  intro h
  rw [h] at this
  simp at this
theorem rts_len (b : Nat) : (rts b).length = 4 := by simp [rts]
theorem rts_at (b : Nat) {k : Nat} (hk : k < 4) : (rts b).getD k 0 = Tree.root (leavesL (textS ((b + 40 * k) % 256))) := by
  rw [rts, List.getD, List.getElem?_map, List.getElem?_range hk, Option.map_some, Option.getD_some, lvs]
theorem rts_may (b : Nat) : Tree.May (rts b) := by
  intro x hx
  obtain ⟨i, _, rfl⟩ := List.mem_map.1 hx
  exact Tree.root_lt (by unfold lvs; exact leaves_ne _) (leaves_may _)
theorem ans_parts {s : ByteArray} {p : List Int} {q : Int} {b : Nat} (hs : s.size = 32) (hb : b < 4) :
    (ansOf s p q b).path.take 2 = nint (Tree.path (leavesL s) b) ∧ (ansOf s p q b).path.drop 2 = p ∧ Seal.of (byts (ansOf s p q b).blk) = (leavesL s).getD b 0 := by
  have hl := leaves_32 hs
  have hpl : (Tree.path (leavesL s) b).length = 2 := by rw [Tree.path_len 4 (leavesL s) b hl (by decide)]; exact dep_4 b hb
  have hlf : (leavesL s).getD b 0 = Seal.of (byts (blk s b)) := by
    unfold leavesL leavesTo
    rw [hs]
    simp [List.getD, show b < (32 + 7) / 8 by omega]
  have e1 : (ansOf s p q b).path = nint (Tree.path (leavesL s) b) ++ p := rfl
  refine ⟨?_, ?_, hlf.symm⟩
  · rw [e1, List.take_append_of_le_length (by rw [nint_len]; omega), List.take_of_length_le (by rw [nint_len]; omega)]
  · rw [e1, List.drop_append_of_le_length (by rw [nint_len]; omega), List.drop_of_length_le (by rw [nint_len]; omega), List.nil_append]
/-- the answer of shard k is none of shard k + 1 -/
theorem moved_place {b k c : Nat} {q : Int} (hb : b < 256) (hk : k < 4) (hc : c < 4) :
    ¬ AnsOk (Tree.root (rts b) : Nat) 4 (((k + 1) % 4 : Nat) : Int) q c (ansOf (textS ((b + 40 * k) % 256)) (nint (Tree.path (rts b) k)) q c) := by
  rintro ⟨_, _, _, _, hC⟩
  obtain ⟨e1, e2, e3⟩ := ans_parts (p := nint (Tree.path (rts b) k)) (q := q) (textS_size ((b + 40 * k) % 256)) hc
  rw [e1, e2, e3, nats_nint, Tree.climb_path 4 _ c (leaves_32 (textS_size _)) hc, ← rts_at b hk] at hC
  obtain ⟨_, _, _, _, _, _, _, _, h⟩ := hC
  rw [nats_nint] at h
  have h' : Tree.climb 4 ((k + 1) % 4) ((rts b).getD k 0) (Tree.path (rts b) k) = Tree.root (rts b) := by
    have := Int.ofNat.inj h
    rw [Int.toNat_natCast, Int.toNat_natCast] at this
    exact this
  exact other_at (places_apart b hb) hk h'
/-- the answer of block c is none of block c + 1 -/
theorem moved_block {b k c : Nat} {q : Int} (hb : b < 256) (hk : k < 4) (hc : c < 4) :
    ¬ AnsOk (Tree.root (rts b) : Nat) 4 (k : Int) q ((c + 1) % 4) (ansOf (textS ((b + 40 * k) % 256)) (nint (Tree.path (rts b) k)) q c) := by
  rintro ⟨_, _, _, _, hC⟩
  obtain ⟨e1, e2, e3⟩ := ans_parts (p := nint (Tree.path (rts b) k)) (q := q) (textS_size ((b + 40 * k) % 256)) hc
  rw [e1, e2, e3, nats_nint] at hC
  obtain ⟨_, _, _, _, hS, _, _, _, h⟩ := hC
  rw [nats_nint] at h
  have h' : Tree.climb 4 k (Tree.climb 4 ((c + 1) % 4) ((leavesL (textS ((b + 40 * k) % 256))).getD c 0) (Tree.path (leavesL (textS ((b + 40 * k) % 256))) c)) (Tree.path (rts b) k) = Tree.root (rts b) := by
    have := Int.ofNat.inj h
    simpa using this
  rw [← Tree.climb_path 4 (rts b) k (rts_len b) hk] at h'
  have hlt : (rts b).getD k 0 < 2147483647 := by
    rw [rts_at b hk]
    exact Tree.root_lt (leaves_ne _) (leaves_may _)
  have := Tree.climb_leaf 4 k _ _ _ (by decide) hk (by have := hS.2; omega) hlt h'
  rw [rts_at b hk] at this
  exact other_at (List.all_eq_true.1 blocks_apart ((b + 40 * k) % 256) (List.mem_range.2 (Nat.mod_lt _ (by decide)))) hc this
end Go.Proofs.Ytmphbajnadbggab
