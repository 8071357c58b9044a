/- What the statement DiskRots asks of three sectors: numbers alone. -/
import Derived.Test.YtpmbmhjhclekeaaDskMath
namespace Go.Proofs.Ytpmbmhjhclekeaa
open Go.RowKit
set_option linter.unusedVariables false
set_option linter.unusedSimpArgs false
def rD0 : Dsk := ⟨false, [aZ, aZ, aZ], []⟩
def rT (j : Nat) (k : Nat) : ByteArray := rotS aZ j (k : Int)
def rSS (i j k : Nat) : List ByteArray := [aZ, aZ, aZ].set i (rT j k)
def rX (i j k : Nat) : Dsk := ⟨false, rSS i j k, []⟩
def rW (i j k b : Nat) : Dsk := ⟨false, rSS i j k, [((i : Int), fullB b)]⟩
def rZ (i b : Nat) : Dsk := ⟨false, [aZ, aZ, aZ], [((i : Int), fullB b)]⟩
theorem rT_size (j k : Nat) : (rT j k).size = 64 := (rotS_size _ _ _).trans aZ_size
theorem rSS_len (i j k : Nat) : (rSS i j k).length = 3 := by unfold rSS; simp
theorem rSS_all (i j k : Nat) : ∀ s ∈ rSS i j k, s.size = 64 := by
  intro s hs
  rcases mem_set hs with h | h
  · simp at h; rw [h]; exact aZ_size
  · rw [h]; exact rT_size j k
theorem rSS_at (i j k : Nat) (hi : i < 3) : (rSS i j k).getD i ByteArray.empty = rT j k := by
  unfold rSS
  simp [List.getD, hi]
theorem rZ3 (i : Nat) (hi : i < 3) : [aZ, aZ, aZ].getD i ByteArray.empty = aZ := by
  have : i = 0 ∨ i = 1 ∨ i = 2 := by omega
  rcases this with rfl | rfl | rfl <;> rfl
theorem rD0_st : MayD rD0 ∧ stateD rD0 = 0 := live_st (by decide) (by decide) (by decide) (fun s hs => by simp at hs; rw [hs]; exact aZ_size) (fun x hx => by cases hx)
theorem rX_st (i j k : Nat) : MayD (rX i j k) ∧ stateD (rX i j k) = 0 := live_st (by rw [rSS_len]; decide) (by rw [rSS_len]; decide) (by decide) (rSS_all i j k) (fun x hx => by cases hx)
theorem rW_st (i j k b : Nat) (hi : i < 3) : MayD (rW i j k b) ∧ stateD (rW i j k b) = 0 := live_st (by rw [rSS_len]; decide) (by rw [rSS_len]; decide) (by simp) (rSS_all i j k) (fun x hx => by
  simp at hx; subst hx; rw [rSS_len]; exact ⟨by omega, by show ((i : Nat) : Int) < _; omega, fullB_size b⟩)
theorem rZ_st (i b : Nat) (hi : i < 3) : MayD (rZ i b) ∧ stateD (rZ i b) = 0 := live_st (by decide) (by decide) (by simp) (fun s hs => by simp at hs; rw [hs]; exact aZ_size) (fun x hx => by
  simp at hx; subst hx; exact ⟨by omega, by show ((i : Nat) : Int) < 3; omega, fullB_size b⟩)
theorem rD0_fit : rD0.secs.length * 16 ≤ 140737488351232 ∧ rD0.cache.length * 24 ≤ 140737488351232 := fit_st (by decide) (by decide)
theorem rX_fit (i j k : Nat) : (rX i j k).secs.length * 16 ≤ 140737488351232 ∧ (rX i j k).cache.length * 24 ≤ 140737488351232 := fit_st (by rw [rSS_len]; decide) (by decide)
theorem rW_fit (i j k b : Nat) : (rW i j k b).secs.length * 16 ≤ 140737488351232 ∧ (rW i j k b).cache.length * 24 ≤ 140737488351232 := fit_st (by rw [rSS_len]; decide) (by simp)
theorem rZ_fit (i b : Nat) : (rZ i b).secs.length * 16 ≤ 140737488351232 ∧ (rZ i b).cache.length * 24 ≤ 140737488351232 := fit_st (by decide) (by simp)
theorem r_new : newD 3 = (rD0, 0) := by rw [newD, if_pos (by decide)]; rfl
theorem r_rot1 (i j k : Nat) (hi : i < 3) (hj : j < 64) (hk : 1 ≤ k ∧ k ≤ 255) : rotD rD0 (i : Int) (j : Int) (k : Int) = (rX i j k, 0) := by
  rw [rotD, if_pos rD0_st.2, if_pos ⟨by omega, by show ((i : Nat) : Int) < 3; omega, by omega, by omega, by omega, by omega⟩]
  simp only [Int.toNat_natCast]
  rw [show rD0.secs = [aZ, aZ, aZ] from rfl, rZ3 i hi]
  rfl
theorem rSS_back (i j k : Nat) (hi : i < 3) (hj : j < 64) (hk : 1 ≤ k ∧ k ≤ 255) : (rSS i j k).set i (rotS ((rSS i j k).getD i ByteArray.empty) j (k : Int)) = [aZ, aZ, aZ] := by
  rw [rSS_at i j k hi, rT, rotS_twice aZ j k (by rw [aZ_size]; exact hj) (by omega), rSS, List.set_set]
  have : i = 0 ∨ i = 1 ∨ i = 2 := by omega
  rcases this with rfl | rfl | rfl <;> rfl
theorem r_rot2 (i j k : Nat) (hi : i < 3) (hj : j < 64) (hk : 1 ≤ k ∧ k ≤ 255) : rotD (rX i j k) (i : Int) (j : Int) (k : Int) = (rD0, 0) := by
  rw [rotD, if_pos (rX_st i j k).2, if_pos ⟨by omega, by show ((i : Nat) : Int) < ((rSS i j k).length : Int); rw [rSS_len]; omega, by omega, by omega, by omega, by omega⟩]
  simp only [Int.toNat_natCast]
  rw [show (rX i j k).secs = rSS i j k from rfl, rSS_back i j k hi hj hk]
  rfl
theorem r_write (i j k b : Nat) (hi : i < 3) : writeD (rX i j k) (i : Int) (fullB b) = (rW i j k b, 0) := by
  rw [writeD, if_pos (rX_st i j k).2, if_pos ⟨by omega, by show ((i : Nat) : Int) < ((rSS i j k).length : Int); rw [rSS_len]; omega, fullB_size b, by show (0 : Nat) < 256; decide⟩]
  rfl
theorem r_rot3 (i j k b : Nat) (hi : i < 3) (hj : j < 64) (hk : 1 ≤ k ∧ k ≤ 255) : rotD (rW i j k b) (i : Int) (j : Int) (k : Int) = (rZ i b, 0) := by
  rw [rotD, if_pos (rW_st i j k b hi).2, if_pos ⟨by omega, by show ((i : Nat) : Int) < ((rSS i j k).length : Int); rw [rSS_len]; omega, by omega, by omega, by omega, by omega⟩]
  simp only [Int.toNat_natCast]
  rw [show (rW i j k b).secs = rSS i j k from rfl, rSS_back i j k hi hj hk]
  rfl
theorem r_readZ (i b : Nat) (hi : i < 3) : readD (rZ i b) (i : Int) = (fullB b, 0) := by
  rw [readD, if_pos (rZ_st i b hi).2, if_pos ⟨by omega, by show ((i : Nat) : Int) < 3; omega⟩]
  show ((if ((i : Nat) : Int) = (i : Int) then fullB b else _), (0 : Int)) = _
  rw [if_pos rfl]
theorem r_readX (i j k : Nat) (hi : i < 3) : readD (rX i j k) (i : Int) = (rT j k, 0) := by
  rw [readD, if_pos (rX_st i j k).2, if_pos ⟨by omega, by show ((i : Nat) : Int) < ((rSS i j k).length : Int); rw [rSS_len]; omega⟩]
  show ((rSS i j k).getD ((i : Nat) : Int).toNat ByteArray.empty, (0 : Int)) = _
  rw [Int.toNat_natCast, rSS_at i j k hi]
theorem aZ_bI : bI aZ = List.replicate 64 0 := bI_str _ (fun x hx => by rw [List.eq_of_mem_replicate hx]; decide)
theorem rep_getD (n j : Nat) : (List.replicate n (0 : Int)).getD j 0 = 0 := by
  simp only [List.getD, List.getElem?_replicate]
  split <;> rfl
/-- the bytes of a sector of bytes 0, of which one is turned -/
theorem rT_byte (j k q : Nat) (hk : 1 ≤ k ∧ k ≤ 255) (hq : q < 64) (hq' : q < (rT j k).size) : ((((rT j k)[q]'hq').toNat : Nat) : Int) = if q = j then (k : Int) else 0 := by
  rw [byte_bI, rT, rotS_bI _ _ _ (by omega), aZ_bI]
  have ez := rep_getD 64 j
  rw [ez, u8_xor 0 k (by decide) (by decide) (by omega) (by omega)]
  have e2 : (((0 : Int).toNat ^^^ (k : Int).toNat : Nat) : Int) = (k : Int) := by simp
  rw [e2]
  simp only [List.getD, List.getElem?_set, List.length_replicate, List.getElem?_replicate]
  by_cases h : q = j
  · subst h; simp [hq]
  · have h' : ¬ j = q := fun e => h e.symm
    simp [h, h', hq]
end Go.Proofs.Ytpmbmhjhclekeaa
