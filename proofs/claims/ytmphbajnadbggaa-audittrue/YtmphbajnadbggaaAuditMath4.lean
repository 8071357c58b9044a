/- Answers that are right, and such as were turned: the numbers that AuditTrue asks for. -/
import Derived.Test.YtmphbajnadbggaaAuditMath2
import Derived.Test.YtmphbajnadbggaaAuditMath3
import Derived.Test.YtmphbajnadbggaaAnsPut
namespace Go.Proofs.Ytmphbajnadbggaa
open Go.RowKit
set_option linter.unusedVariables false
theorem dep_6 : ∀ n, n < 7 → ∀ i, i < n → Tree.depth n i ≤ 3 := by decide +kernel
/-- who answers: shard k of n, whose roots are rs -/
structure Who (s : ByteArray) (rs : List Nat) (n k : Nat) : Prop where
  size : s.size = 32
  len : rs.length = n
  six : n ≤ 6
  lt : k < n
  may : Tree.May rs
  root : rs.getD k 0 = Tree.root (leavesL s)
variable {s : ByteArray} {rs : List Nat} {n k N : Nat} {bs : List Int}
/-- what is answered -/
def ansL (s : ByteArray) (rs : List Nat) (k N : Nat) (bs : List Int) : List Ans := bs.map fun x => ansOf s (nint (Tree.path rs k)) N x.toNat
theorem ansL_len : (ansL s rs k N bs).length = bs.length := by simp [ansL]
theorem ansL_at {i : Nat} (hi : i < bs.length) : (ansL s rs k N bs).getD i ans0 = ansOf s (nint (Tree.path rs k)) N (bs.getD i 0).toNat := by
  simp [ansL, List.getD, hi]
theorem bk_at (ha : AskM (N : Int) bs) {i : Nat} (hi : i < bs.length) : (bs.getD i 0).toNat < 4 := by
  have h := ha.2.2.2 _ (List.getElem_mem hi)
  have e : bs.getD i 0 = bs[i] := by simp [List.getD, hi]
  rw [e]
  unfold BkOk at h
  omega
theorem who_path (h : Who s rs n k) : Sls (nint (Tree.path rs k)) ∧ (nint (Tree.path rs k)).length ≤ 3 := by
  have h1 := h.len; have h2 := h.six; have h3 := h.lt
  refine ⟨sls_nint (Tree.path_may n rs k h1 h3 h.may), ?_⟩
  rw [nint_len, Tree.path_len n rs k h1 (by omega)]
  exact dep_6 n (by omega) k h3
theorem who_rsp (h : Who s rs n k) (ha : AskM (N : Int) bs) : rspP s (nint (Tree.path rs k)) (N : Int) bs = (ansL s rs k N bs, 0) := by
  rw [rspP_yes ⟨h.size, who_path h, ha⟩, rspTo, List.take_length]
  rfl
theorem who_ok (h : Who s rs n k) {b : Nat} (hb : b < 4) : AnsOk (Tree.root rs : Nat) n k N b (ansOf s (nint (Tree.path rs k)) N b) := ans_true h.size h.len h.six h.lt h.may h.root hb
theorem who_aud (h : Who s rs n k) (ha : AskM (N : Int) bs) : Aud (Tree.root rs : Nat) n k N bs (ansL s rs k N bs) := by
  have h2 := h.six; have h3 := h.lt
  refine ⟨⟨ha, ansL_len, by omega, by omega, by omega, by omega⟩, fun i hi => ?_⟩
  rw [ansL_len] at hi
  rw [ansL_at hi]
  exact who_ok h (bk_at ha hi)
/-- the block, the path and the number of an answer -/
theorem ans_blk (h : Who s rs n k) (ha : AskM (N : Int) bs) {i : Nat} (hi : i < bs.length) : ((ansL s rs k N bs).getD i ans0).blk.size = 8 ∧ 2 ≤ ((ansL s rs k N bs).getD i ans0).path.length ∧ ((ansL s rs k N bs).getD i ans0).path.length ≤ 64 := by
  rw [ansL_at hi]
  have := who_ok (N := N) h (bk_at ha hi)
  exact ⟨this.1, this.2.2.1, this.2.2.2.1.2⟩
theorem leaf_lt (s : ByteArray) (b : Nat) : (leavesL s).getD b 0 < 2147483647 := getD_lt (leaves_may s) b
/-- none to another nonce -/
theorem other_nonce (h : Who s rs n k) (ha : AskM (N : Int) bs) (hN : N + 1 < 2147483647) : ¬ Aud (Tree.root rs : Nat) n k ((N : Int) + 1) bs (ansL s rs k N bs) := by
  rintro ⟨⟨_, _, _, _, _, _⟩, h2⟩
  have hb : 0 < bs.length := ha.2.1
  have h3 := h2 0 (by rw [ansL_len]; exact hb)
  rw [ansL_at hb] at h3
  obtain ⟨_, e3, e4⟩ := ans_parts (p := nint (Tree.path rs k)) (q := (N : Int)) h.size (bk_at ha hb)
  have h4 := h3.2.1
  rw [e4] at h4
  have h5 : Seal.pair (N : Int) (((leavesL s).getD (bs.getD 0 0).toNat 0 : Nat) : Int) = Seal.pair ((N : Int) + 1) (((leavesL s).getD (bs.getD 0 0).toNat 0 : Nat) : Int) := Int.ofNat.inj h4
  have e5 : (N : Int) + 1 = ((N + 1 : Nat) : Int) := by omega
  rw [e5] at h5
  unfold Seal.pair at h5
  rw [Seal.md_small (by omega), Seal.md_small hN] at h5
  have := Seal.pairN_left (by omega) hN h5
  omega
/-- none, where a byte of a block is another one -/
theorem other_block (h : Who s rs n k) (ha : AskM (N : Int) bs) {j : Nat} (hj : j < bs.length) {t : ByteArray} (ht : Seal.of (byts ((ansL s rs k N bs).getD j ans0).blk) ≠ Seal.of (byts t)) :
    ¬ Aud (Tree.root rs : Nat) n k N bs ((ansL s rs k N bs).set j ⟨t, ((ansL s rs k N bs).getD j ans0).path, ((ansL s rs k N bs).getD j ans0).keyed⟩) := by
  rintro ⟨_, h2⟩
  have h3 := h2 j (by rw [List.length_set, ansL_len]; exact hj)
  rw [set_getD (by rw [ansL_len]; exact hj), if_pos rfl] at h3
  have h4 := h3.2.1
  have h5 := (who_aud h ha).2 j (by rw [ansL_len]; exact hj)
  have h6 := h5.2.1
  simp only [] at h4
  rw [h6] at h4
  have h7 := Int.ofNat.inj h4
  unfold Seal.pair at h7
  have h8 := Seal.pairN_right (Seal.md_lt _) (Seal.md_lt _) h7
  rw [Seal.md_small (Seal.of_lt _), Seal.md_small (Seal.of_lt _)] at h8
  exact ht h8
/-- none, where a liar knows the nonce -/
theorem other_liar (h : Who s rs n k) (ha : AskM (N : Int) bs) {j : Nat} (hj : j < bs.length) {t : ByteArray} (ht : Seal.of (byts ((ansL s rs k N bs).getD j ans0).blk) ≠ Seal.of (byts t)) (y : Int) :
    ¬ Aud (Tree.root rs : Nat) n k N bs ((ansL s rs k N bs).set j ⟨t, ((ansL s rs k N bs).getD j ans0).path, y⟩) := by
  rintro ⟨_, h2⟩
  have h3 := h2 j (by rw [List.length_set, ansL_len]; exact hj)
  rw [set_getD (by rw [ansL_len]; exact hj), if_pos rfl] at h3
  obtain ⟨_, _, _, _, hC⟩ := h3
  have hb := bk_at ha hj
  simp only [] at hC
  rw [ansL_at hj] at hC ht
  obtain ⟨e1, e2, e3⟩ := ans_parts (p := nint (Tree.path rs k)) (q := (N : Int)) h.size hb
  rw [e3] at ht
  rw [e1, e2, nats_nint] at hC
  obtain ⟨_, _, _, _, hS, _, _, _, h9⟩ := hC
  rw [nats_nint, Int.toNat_natCast, Int.toNat_natCast, Int.toNat_natCast] at h9
  have h10 := Int.ofNat.inj h9
  have hlt := h.lt
  rw [← Tree.climb_path n rs k h.len hlt] at h10
  have h11 := Tree.climb_leaf n k _ _ _ (by omega) hlt (Tree.climb_lt (by decide) (Seal.of_lt _)) (getD_lt h.may k) h10
  rw [h.root, ← Tree.climb_path 4 (leavesL s) _ (leaves_32 h.size) hb] at h11
  have h12 := Tree.climb_leaf 4 _ _ _ _ (by decide) hb (Seal.of_lt _) (leaf_lt s _) h11
  exact ht h12.symm
end Go.Proofs.Ytmphbajnadbggaa
