/- Shards at other places: by numbers; and who has a shard answers rightly. -/
import Derived.Test.YtmphbajnadbggabAuditMath
namespace Go.Proofs.Ytmphbajnadbggab
open Go.RowKit
set_option linter.unusedVariables false
set_option linter.unusedSimpArgs false
def rts (b : Nat) : List Nat := (List.range 4).map fun i => Tree.root (lvs ((b + 40 * i) % 256))
set_option maxRecDepth 100000 in
theorem places_0 : (List.range 32).all (fun b => otherOk (rts (b + 0))) = true := by decide +kernel
set_option maxRecDepth 100000 in
theorem places_1 : (List.range 32).all (fun b => otherOk (rts (b + 32))) = true := by decide +kernel
set_option maxRecDepth 100000 in
theorem places_2 : (List.range 32).all (fun b => otherOk (rts (b + 64))) = true := by decide +kernel
set_option maxRecDepth 100000 in
theorem places_3 : (List.range 32).all (fun b => otherOk (rts (b + 96))) = true := by decide +kernel
set_option maxRecDepth 100000 in
theorem places_4 : (List.range 32).all (fun b => otherOk (rts (b + 128))) = true := by decide +kernel
set_option maxRecDepth 100000 in
theorem places_5 : (List.range 32).all (fun b => otherOk (rts (b + 160))) = true := by decide +kernel
set_option maxRecDepth 100000 in
theorem places_6 : (List.range 32).all (fun b => otherOk (rts (b + 192))) = true := by decide +kernel
set_option maxRecDepth 100000 in
theorem places_7 : (List.range 32).all (fun b => otherOk (rts (b + 224))) = true := by decide +kernel
theorem places_apart (b : Nat) (h : b < 256) : otherOk (rts b) = true := by
  have k : ∀ m, m < 8 → (List.range 32).all (fun b => otherOk (rts (b + 32 * m))) = true := fun m hm => by
    have : m = 0 ∨ m = 1 ∨ m = 2 ∨ m = 3 ∨ m = 4 ∨ m = 5 ∨ m = 6 ∨ m = 7 := by omega
    rcases this with rfl | rfl | rfl | rfl | rfl | rfl | rfl | rfl
    · exact places_0
    · exact places_1
    · exact places_2
    · exact places_3
    · exact places_4
    · exact places_5
    · exact places_6
    · exact places_7
  have := List.all_eq_true.1 (k (b / 32) (by omega)) (b % 32) (List.mem_range.2 (by omega))
  rwa [show b % 32 + 32 * (b / 32) = b by omega] at this
theorem other_at {l : List Nat} (h : otherOk l = true) {c : Nat} (hc : c < 4) : Tree.climb 4 ((c + 1) % 4) (l.getD c 0) (Tree.path l c) ≠ Tree.root l := by
  have := List.all_eq_true.1 h c (List.mem_range.2 hc)
  simpa using this
/-- who has the shard, and the path of its root, answers rightly -/
theorem ans_true {s : ByteArray} {rs : List Nat} {n k : Nat} {q : Int} {b : Nat} (hs : s.size = 32) (hn : rs.length = n) (h6 : n ≤ 6) (hk : k < n) (hm : Tree.May rs) (hr : rs.getD k 0 = Tree.root (leavesL s)) (hb : b < 4) :
    AnsOk (Tree.root rs : Nat) n k q b (ansOf s (nint (Tree.path rs k)) q b) := by
  have hl := leaves_32 hs
  have hpl : (Tree.path (leavesL s) b).length = 2 := by rw [Tree.path_len 4 (leavesL s) b hl (by decide)]; exact dep_4 b hb
  have hkl := Tree.path_len n rs k hn (by omega)
  have hkd := Tree.depth_le n k (by omega) hk
  have hpm := Tree.path_may 4 (leavesL s) b hl hb (leaves_may s)
  have hkm := Tree.path_may n rs k hn hk hm
  have hblk : (blk s b).size = 8 := by rw [blk_32 hs hb, ByteArray.size_extract]; omega
  have hlf : (leavesL s).getD b 0 = Seal.of (byts (blk s b)) := by
    unfold leavesL leavesTo
    rw [hs]
    simp [List.getD, show b < (32 + 7) / 8 by omega]
  have e1 : (ansOf s (nint (Tree.path rs k)) q b).path = nint (Tree.path (leavesL s) b) ++ nint (Tree.path rs k) := rfl
  have e2 : (nint (Tree.path (leavesL s) b) ++ nint (Tree.path rs k)).take 2 = nint (Tree.path (leavesL s) b) := by
    rw [List.take_append_of_le_length (by rw [nint_len]; omega), List.take_of_length_le (by rw [nint_len]; omega)]
  have e3 : (nint (Tree.path (leavesL s) b) ++ nint (Tree.path rs k)).drop 2 = nint (Tree.path rs k) := by
    rw [List.drop_append_of_le_length (by rw [nint_len]; omega), List.drop_of_length_le (by rw [nint_len]; omega), List.nil_append]
  refine ⟨hblk, ?_, ?_, ⟨?_, ?_⟩, ?_⟩
  · show ((Seal.pair q (((leavesL s).getD b 0 : Nat) : Int) : Nat) : Int) = _
    rw [hlf]; rfl
  · rw [e1, List.length_append, nint_len]; omega
  · rw [e1]
    intro x hx
    rcases List.mem_append.1 hx with h | h
    · exact sls_nint hpm x h
    · exact sls_nint hkm x h
  · rw [e1, List.length_append, nint_len, nint_len]; omega
  · rw [e1, e2, e3, nats_nint]
    show Chk _ _ _ ((Tree.climb 4 b (Seal.of (byts (blk s b))) (Tree.path (leavesL s) b) : Nat) : Int) _
    rw [← hlf, Tree.climb_path 4 (leavesL s) b hl hb, ← hr]
    exact of_decide_eq_true (chk_path hn (by omega) hk hm)
end Go.Proofs.Ytmphbajnadbggab
