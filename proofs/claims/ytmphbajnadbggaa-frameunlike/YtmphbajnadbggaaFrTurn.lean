/- A frame of which one byte is turned is none. -/
import Derived.Test.YtmphbajnadbggaaFrMath
namespace Go.Proofs.Ytmphbajnadbggaa
open Go.RowKit
set_option linter.unusedVariables false
set_option linter.unusedSimpArgs false
/-- a frame is its first 48 bytes, their seal, and bytes 0 -/
theorem fr_parts (slot shard : Int) (s : ByteArray) (p : List Int) : byts (frB slot shard s p) = byts (frBody slot shard s p) ++ (b4 (Seal.of (byts (frBody slot shard s p)) : Nat) ++ List.replicate 12 0) := by
  rw [frB, byts_append, byts_zeros, frSeal, byts_append, List.append_assoc]
  rfl
theorem set_low {l : List Nat} {k z : Nat} (hk : k < 48) : ((l.set k z).take 52).drop 48 = (l.take 52).drop 48 ∧ (l.set k z).take 48 = (l.take 48).set k z := by
  refine ⟨?_, List.take_set⟩
  rw [List.take_set, List.drop_set_of_lt hk]
theorem set_high {l : List Nat} {k z : Nat} (hk : 48 ≤ k) : (l.set k z).take 48 = l.take 48 := by
  rw [List.take_set, List.set_eq_of_length_le (by rw [List.length_take]; omega)]
theorem of_set {l : List Nat} {k z : Nat} (hk : k < l.length) (hz : z < 256) (hl : l[k] < 256) (hne : l[k] ≠ z) : Seal.of l ≠ Seal.of (l.set k z) := by
  have e1 : l = l.take k ++ l[k] :: l.drop (k + 1) := by rw [← List.drop_eq_getElem_cons hk, List.take_append_drop]
  have e2 : l.set k z = l.take k ++ z :: l.drop (k + 1) := List.set_eq_take_append_cons_drop.trans (by rw [if_pos hk])
  rw [e2]
  intro h
  exact Seal.of_turned hl hz hne _ (by rw [← e1]; exact h)
theorem fr_seal (slot shard : Int) (s : ByteArray) (p : List Int) (h : s.size = 32) : ((byts (frB slot shard s p)).take 48 = byts (frBody slot shard s p)) ∧ numL (((byts (frB slot shard s p)).take 52).drop 48) = Seal.of (byts (frBody slot shard s p)) := by
  have hl : (byts (frBody slot shard s p)).length = 48 := by rw [byts_len, frBody_size _ _ _ _ h]
  rw [fr_parts]
  generalize byts (frBody slot shard s p) = B at hl
  refine ⟨List.take_left' hl, ?_⟩
  rw [mid B _ _ 48 52 hl (by rw [b4_len])]
  have h1 := Seal.of_lt B
  have := num_four (Seal.of B : Nat) ⟨by omega, by omega⟩
  unfold b4
  omega
theorem fr_turned {slot shard : Int} {s u : ByteArray} {p : List Int} {k z : Nat} (h : FrMay slot shard s p) (hk : k < 64) (hz : z < 256) (hne : (byts (frB slot shard s p)).getD k 0 ≠ z) (hu : byts u = (byts (frB slot shard s p)).set k z) (sl sh : Int) : getF u sl sh = (ByteArray.empty, [], 1400) := by
  have hL : (byts (frB slot shard s p)).length = 64 := by rw [byts_len, frB_size _ _ _ _ h.2.2.1]
  have hall := byts_all (frB slot shard s p)
  obtain ⟨t1, t2⟩ := fr_seal slot shard s p h.2.2.1
  have t3 := fr_parts slot shard s p
  rw [getF, if_neg]
  rintro ⟨-, he⟩
  unfold putF at he
  split at he
  · rename_i hm
    have eu := (Prod.mk.inj he).1
    generalize u.extract 4 36 = s' at hm eu
    generalize getPath u (frCount u) = p' at hm eu
    obtain ⟨u1, u2⟩ := fr_seal sl sh s' p' hm.2.2.1
    have u3 := fr_parts sl sh s' p'
    rw [eu] at u1 u2 u3
    rw [← u1] at u2 u3
    rw [← t1] at t2 t3
    rw [hu] at u1 u2 u3
    generalize byts (frB slot shard s p) = L at *
    have ek : L.getD k 0 = L[k] := by simp [List.getD, show k < L.length by omega]
    rw [ek] at hne
    by_cases hk8 : k < 48
    · obtain ⟨e1, e2⟩ := set_low (l := L) (z := z) hk8
      rw [e1, e2, t2] at u2
      have hkl : k < (L.take 48).length := by rw [List.length_take]; omega
      have eg : (L.take 48)[k] = L[k] := by simp
      exact of_set hkl hz (by rw [eg]; exact hall _ (List.getElem_mem _)) (by rw [eg]; exact hne) u2
    · rw [set_high (by omega)] at u3
      rw [← t3] at u3
      have := congrArg (fun l : List Nat => l.getD k 0) u3
      simp only [ek] at this
      rw [show (L.set k z).getD k 0 = z by simp [List.getD, show k < L.length by omega]] at this
      exact hne this.symm
  · cases (Prod.mk.inj he).2
end Go.Proofs.Ytmphbajnadbggaa
