/- The bytes of frames: numbers alone. -/
import Derived.Test.YtmphbajnadbggaaFrRef3
import Derived.Test.YtmphbajnadbggaaBytsMath
namespace Go.Proofs.Ytmphbajnadbggaa
open Go.RowKit
set_option linter.unusedVariables false
set_option linter.unusedSimpArgs false
theorem byts_bytesB (x : Int) (k : Nat) : byts (bytesB x k) = (List.range k).map fun i => (x / 2 ^ (8 * i) % 256).toNat := by
  rw [bytesB, byts_str, bytesL, List.map_map]
  · rfl
  · intro y hy
    obtain ⟨i, -, rfl⟩ := List.mem_map.1 hy
    have h1 := Int.emod_nonneg (x / 2 ^ (8 * i)) (show (256 : Int) ≠ 0 by decide)
    have h2 := Int.emod_lt_of_pos (x / 2 ^ (8 * i)) (show (0 : Int) < 256 by decide)
    exact ⟨h1, h2⟩
/-- a number of four bytes comes back -/
theorem num_four (x : Int) (h : 0 ≤ x ∧ x < 4294967296) : ((numL (byts (bytesB x 4)) : Nat) : Int) = x := by
  rw [byts_bytesB]
  simp only [List.range_succ, List.range_zero, List.nil_append, List.map_append, List.map_cons, List.map_nil, List.cons_append, numL]
  have e0 : (2 : Int) ^ (8 * 0) = 1 := by decide
  have e1 : (2 : Int) ^ (8 * 1) = 256 := by decide
  have e2 : (2 : Int) ^ (8 * 2) = 65536 := by decide
  have e3 : (2 : Int) ^ (8 * 3) = 16777216 := by decide
  rw [e0, e1, e2, e3]
  omega
theorem mid {α : Type} (A B C : List α) (n m : Nat) (hn : A.length = n) (hm : n + B.length = m) : ((A ++ (B ++ C)).take m).drop n = B := by
  subst hn hm
  rw [← List.append_assoc, List.take_left' (by simp), List.drop_left]
def b4 (x : Int) : List Nat := byts (bytesB x 4)
theorem b4_len (x : Int) : (b4 x).length = 4 := by rw [b4, byts_len, bytesB_size]
theorem byts_one (x : Int) (h : 0 ≤ x ∧ x < 256) : byts (bytesB x 1) = [x.toNat] := by
  rw [byts_bytesB]
  simp only [List.range_succ, List.range_zero, List.nil_append, List.map_cons, List.map_nil]
  have e0 : (2 : Int) ^ (8 * 0) = 1 := by decide
  rw [e0]
  congr 1
  omega
/-- a frame's bytes -/
theorem frB_byts (slot shard : Int) (s : ByteArray) (p : List Int) (h : FrMay slot shard s p) :
    byts (frB slot shard s p) = [79, slot.toNat, shard.toNat, p.length] ++ (byts s ++ (b4 (p.getD 0 0) ++ (b4 (p.getD 1 0) ++ (b4 (p.getD 2 0) ++ (b4 (Seal.of (byts (frBody slot shard s p)) : Nat) ++ List.replicate 12 0))))) := by
  obtain ⟨h1, h2, h3, h4, h5⟩ := h
  have e0 : byts (⟨#[79]⟩ : ByteArray) = [79] := rfl
  rw [frB, byts_append, byts_zeros, frSeal, byts_append]
  have eb : byts (frBody slot shard s p) = [79, slot.toNat, shard.toNat, p.length] ++ (byts s ++ (b4 (p.getD 0 0) ++ (b4 (p.getD 1 0) ++ b4 (p.getD 2 0)))) := by
    simp only [frBody, frPath, frHead, byts_append, e0, byts_one slot (by omega), byts_one shard (by omega), byts_one (p.length : Int) (by omega), Int.toNat_natCast]
    simp only [b4, List.append_assoc, List.cons_append, List.nil_append]
  generalize hb : byts (frBody slot shard s p) = Bd at eb ⊢
  rw [eb]
  simp only [b4, List.append_assoc, List.cons_append, List.nil_append]
theorem fr_text (slot shard : Int) (s : ByteArray) (p : List Int) (h : FrMay slot shard s p) : (frB slot shard s p).extract 4 36 = s := by
  apply byts_inj
  rw [byts_extract, frB_byts slot shard s p h]
  exact mid _ _ _ 4 36 rfl (by rw [byts_len, h.2.2.1])
theorem fr_num (slot shard : Int) (s : ByteArray) (p : List Int) (h : FrMay slot shard s p) (i : Nat) (hi : i < 3) : fourAt (frB slot shard s p) i = numL (b4 (p.getD i 0)) := by
  unfold fourAt
  rw [byts_extract, frB_byts slot shard s p h]
  have hs : (byts s).length = 32 := by rw [byts_len, h.2.2.1]
  have hc : i = 0 ∨ i = 1 ∨ i = 2 := by omega
  rcases hc with rfl | rfl | rfl
  · rw [← List.append_assoc]
    rw [mid _ _ _ 36 40 (by simp [hs]) (by rw [b4_len])]
  · rw [← List.append_assoc, ← List.append_assoc]
    rw [mid _ _ _ 40 44 (by simp [hs, b4_len]) (by rw [b4_len])]
  · rw [← List.append_assoc, ← List.append_assoc, ← List.append_assoc]
    rw [mid _ _ _ 44 48 (by simp [hs, b4_len]) (by rw [b4_len])]
theorem fr_count (slot shard : Int) (s : ByteArray) (p : List Int) (h : FrMay slot shard s p) : frCount (frB slot shard s p) = p.length := by
  unfold frCount
  rw [frB_byts slot shard s p h]
  show min p.length 3 = p.length
  exact Nat.min_eq_left h.2.2.2.2
theorem fr_path (slot shard : Int) (s : ByteArray) (p : List Int) (h : FrMay slot shard s p) : getPath (frB slot shard s p) p.length = p := by
  have h4 := h.2.2.2.1
  have h5 := h.2.2.2.2
  apply List.ext_getElem
  · rw [getPath_len]
  · intro i h1 h2
    have hx := h4 p[i] (List.getElem_mem _)
    have e : (getPath (frB slot shard s p) p.length)[i] = ((fourAt (frB slot shard s p) i : Nat) : Int) := by simp [getPath]
    rw [e, fr_num slot shard s p h i (by omega)]
    have e2 : p.getD i 0 = p[i] := by simp [List.getD, h2]
    rw [e2]
    exact num_four _ ⟨hx.1, by have := hx.2; omega⟩
/-- a frame comes back -/
theorem fr_back (slot shard : Int) (s : ByteArray) (p : List Int) (h : FrMay slot shard s p) : getF (frB slot shard s p) slot shard = (s, p, 0) := by
  have e1 := fr_text slot shard s p h
  have e2 := fr_path slot shard s p h
  have e3 := fr_count slot shard s p h
  have e4 : putF slot shard s p = (frB slot shard s p, 0) := by rw [putF, if_pos h]
  have e5 := frB_size slot shard s p h.2.2.1
  generalize frB slot shard s p = t at e1 e2 e3 e4 e5 ⊢
  rw [getF, e3, e1, e2, e4, if_pos ⟨e5, rfl⟩]
theorem fr_head (slot shard : Int) (s : ByteArray) (p : List Int) (h : FrMay slot shard s p) : (byts (frB slot shard s p)).getD 1 0 = slot.toNat ∧ (byts (frB slot shard s p)).getD 2 0 = shard.toNat ∧ (byts (frB slot shard s p)).getD 3 0 = p.length := by
  rw [frB_byts _ _ _ _ h]
  exact ⟨rfl, rfl, rfl⟩
theorem toNat_one {a b : Int} {n : Nat} (ha : 0 ≤ a) (hb : 0 ≤ b) (h1 : n = a.toNat) (h2 : n = b.toNat) : a = b := by omega
/-- frames that are alike are of one slot, shard, bytes, path -/
theorem fr_inj {slot shard slot' shard' : Int} {s s' : ByteArray} {p p' : List Int} (h : FrMay slot shard s p) (h' : FrMay slot' shard' s' p') (e : frB slot shard s p = frB slot' shard' s' p') : slot = slot' ∧ shard = shard' ∧ s = s' ∧ p = p' := by
  obtain ⟨a1, a2, a3⟩ := fr_head slot shard s p h
  obtain ⟨b1, b2, b3⟩ := fr_head slot' shard' s' p' h'
  have t1 := fr_text slot shard s p h
  have t2 := fr_text slot' shard' s' p' h'
  have q1 := fr_path slot shard s p h
  have q2 := fr_path slot' shard' s' p' h'
  rw [← e] at b1 b2 b3 t2 q2
  generalize frB slot shard s p = t at a1 a2 a3 b1 b2 b3 t1 t2 q1 q2
  have el : p.length = p'.length := a3.symm.trans b3
  refine ⟨toNat_one h.1.1 h'.1.1 a1.symm.symm b1, toNat_one h.2.1.1 h'.2.1.1 a2 b2, t1.symm.trans t2, ?_⟩
  rw [← q1, ← q2, el]
/-- under another slot or shard it is none -/
theorem fr_other {slot shard slot' shard' : Int} {s : ByteArray} {p : List Int} (h : FrMay slot shard s p) (hne : slot ≠ slot' ∨ shard ≠ shard') : getF (frB slot shard s p) slot' shard' = (ByteArray.empty, [], 1400) := by
  have e1 := fr_text slot shard s p h
  have e2 := fr_path slot shard s p h
  have e3 := fr_count slot shard s p h
  have hi : ∀ hm : FrMay slot' shard' s p, frB slot' shard' s p = frB slot shard s p → slot' = slot ∧ shard' = shard := fun hm he => ⟨(fr_inj hm h he).1, (fr_inj hm h he).2.1⟩
  generalize frB slot shard s p = t at e1 e2 e3 hi ⊢
  rw [getF, e3, e1, e2, if_neg]
  rintro ⟨-, he⟩
  unfold putF at he
  split at he
  · rename_i hm
    have := hi hm (Prod.mk.inj he).1
    rcases hne with hne | hne
    · exact hne this.1.symm
    · exact hne this.2.symm
  · cases (Prod.mk.inj he).2
end Go.Proofs.Ytmphbajnadbggaa
