/- What the statement DiskFlushes asks of four sectors: numbers alone. -/
import Derived.Test.YtpmbmhjhclekeaaDskMath
namespace Go.Proofs.Ytpmbmhjhclekeaa
open Go.RowKit
set_option linter.unusedVariables false
set_option linter.unusedSimpArgs false
def fL (at_ : Nat → Nat) (k : Nat) : List (Int × ByteArray) := (List.range k).map fun i => ((at_ i : Int), fullB (1 + i))
def fS (at_ : Nat → Nat) : Nat → List ByteArray
  | 0 => [aZ, aZ, aZ, aZ]
  | k + 1 => (fS at_ k).set (at_ k) (fullB (1 + k))
def fA (at_ : Nat → Nat) (k : Nat) : Dsk := ⟨false, [aZ, aZ, aZ, aZ], fL at_ k⟩
def fB (at_ : Nat → Nat) (k : Nat) : Dsk := ⟨false, fS at_ k, []⟩
def fC (at_ : Nat → Nat) (k : Nat) : Dsk := ⟨false, fS at_ k, [((at_ k : Int), fullB (1 + k))]⟩
theorem fL_len (at_ : Nat → Nat) (k : Nat) : (fL at_ k).length = k := by simp [fL]
theorem fL_succ (at_ : Nat → Nat) (k : Nat) : fL at_ (k + 1) = fL at_ k ++ [((at_ k : Int), fullB (1 + k))] := by simp [fL, List.range_succ]
theorem fL_at (at_ : Nat → Nat) (k i : Nat) (h : i < k) : (fL at_ k).getD i wr0 = ((at_ i : Int), fullB (1 + i)) := by simp [fL, List.getD, h]
theorem fS_len (at_ : Nat → Nat) : ∀ k, (fS at_ k).length = 4
  | 0 => rfl
  | k + 1 => by rw [fS, List.length_set, fS_len at_ k]
theorem fS_all (at_ : Nat → Nat) : ∀ k, ∀ s ∈ fS at_ k, s.size = 64
  | 0 => fun s hs => by simp [fS] at hs; rw [hs]; exact aZ_size
  | k + 1 => fun s hs => by
    rcases mem_set hs with h | h
    · exact fS_all at_ k s h
    · rw [h]; exact fullB_size _
theorem fA_st (at_ : Nat → Nat) (ha : ∀ i, at_ i < 4) (k : Nat) (hk : k ≤ 16) : MayD (fA at_ k) ∧ stateD (fA at_ k) = 0 := by
  refine live_st (by decide) (by decide) (by rw [fL_len]; omega) (fun s hs => by simp at hs; rw [hs]; exact aZ_size) (fun x hx => ?_)
  obtain ⟨i, -, rfl⟩ := List.mem_map.1 hx
  have := ha i
  exact ⟨by show (0 : Int) ≤ ((at_ i : Nat) : Int); omega, by show ((at_ i : Nat) : Int) < 4; omega, fullB_size _⟩
theorem fB_st (at_ : Nat → Nat) (k : Nat) : MayD (fB at_ k) ∧ stateD (fB at_ k) = 0 := live_st (by rw [fS_len]; decide) (by rw [fS_len]; decide) (by decide) (fS_all at_ k) (fun x hx => by cases hx)
theorem fC_st (at_ : Nat → Nat) (ha : ∀ i, at_ i < 4) (k : Nat) : MayD (fC at_ k) ∧ stateD (fC at_ k) = 0 := live_st (by rw [fS_len]; decide) (by rw [fS_len]; decide) (by simp) (fS_all at_ k) (fun x hx => by
  simp at hx; subst hx
  have := ha k
  rw [fS_len]
  exact ⟨by show (0 : Int) ≤ ((at_ k : Nat) : Int); omega, by show ((at_ k : Nat) : Int) < 4; omega, fullB_size _⟩)
theorem fA_fit (at_ : Nat → Nat) (k : Nat) (hk : k ≤ 16) : (fA at_ k).secs.length * 16 ≤ 140737488351232 ∧ (fA at_ k).cache.length * 24 ≤ 140737488351232 := fit_st (by decide) (by rw [fL_len]; omega)
theorem fB_fit (at_ : Nat → Nat) (k : Nat) : (fB at_ k).secs.length * 16 ≤ 140737488351232 ∧ (fB at_ k).cache.length * 24 ≤ 140737488351232 := fit_st (by rw [fS_len]; decide) (by decide)
theorem fC_fit (at_ : Nat → Nat) (k : Nat) : (fC at_ k).secs.length * 16 ≤ 140737488351232 ∧ (fC at_ k).cache.length * 24 ≤ 140737488351232 := fit_st (by rw [fS_len]; decide) (by simp)
theorem f_newA (at_ : Nat → Nat) : newD 4 = (fA at_ 0, 0) := by rw [newD, if_pos (by decide)]; rfl
theorem f_newB (at_ : Nat → Nat) : newD 4 = (fB at_ 0, 0) := by rw [newD, if_pos (by decide)]; rfl
theorem f_wA (at_ : Nat → Nat) (ha : ∀ i, at_ i < 4) (k : Nat) (hk : k < 16) : writeD (fA at_ k) (at_ k : Int) (fullB (1 + k)) = (fA at_ (k + 1), 0) := by
  have := ha k
  rw [writeD, if_pos (fA_st at_ ha k (by omega)).2, if_pos ⟨by omega, by show ((at_ k : Nat) : Int) < 4; omega, fullB_size _, by show (fL at_ k).length < 256; rw [fL_len]; omega⟩]
  show ((Dsk.mk false [aZ, aZ, aZ, aZ] (fL at_ k ++ [((at_ k : Int), fullB (1 + k))])), (0 : Int)) = _
  rw [← fL_succ]
  rfl
theorem f_wB (at_ : Nat → Nat) (ha : ∀ i, at_ i < 4) (k : Nat) : writeD (fB at_ k) (at_ k : Int) (fullB (1 + k)) = (fC at_ k, 0) := by
  have := ha k
  rw [writeD, if_pos (fB_st at_ k).2, if_pos ⟨by omega, by show ((at_ k : Nat) : Int) < ((fS at_ k).length : Int); rw [fS_len]; omega, fullB_size _, by show (0 : Nat) < 256; decide⟩]
  rfl
theorem f_fC (at_ : Nat → Nat) (ha : ∀ i, at_ i < 4) (k : Nat) : flushD (fC at_ k) = (fB at_ (k + 1), 0) := by
  rw [flushD, crashD, if_pos (fC_st at_ ha k).2]
  rfl
theorem keep_fA (at_ : Nat → Nat) (keep : Int) (k : Nat) (hb : ∀ i, i < k → (keep / 2 ^ (i % 16)) % 2 = 1) : ∀ j, j ≤ k → keepTo (fA at_ k) keep j = fS at_ j
  | 0, _ => rfl
  | j + 1, h => by
    rw [keepTo, if_pos (hb j (by omega)), keep_fA at_ keep k hb j (by omega), show (fA at_ k).cache = fL at_ k from rfl, fL_at at_ k j (by omega)]
    show (fS at_ j).set ((at_ j : Nat) : Int).toNat (fullB (1 + j)) = _
    rw [Int.toNat_natCast]
    rfl
theorem bits_all (i : Nat) : ((-1 : Int) / 2 ^ (i % 16)) % 2 = 1 := by
  have h : i % 16 < 16 := Nat.mod_lt _ (by decide)
  generalize i % 16 = m at h
  revert h; revert m; decide
theorem bits_16 (i : Nat) : ((65535 : Int) / 2 ^ (i % 16)) % 2 = 1 := by
  have h : i % 16 < 16 := Nat.mod_lt _ (by decide)
  generalize i % 16 = m at h
  revert h; revert m; decide
theorem f_crash (at_ : Nat → Nat) (ha : ∀ i, at_ i < 4) (k : Nat) (hk : k ≤ 16) (keep : Int) (hb : ∀ i, (keep / 2 ^ (i % 16)) % 2 = 1) : crashD (fA at_ k) keep = (fB at_ k, 0) := by
  rw [crashD, if_pos (fA_st at_ ha k hk).2, lastsD, show (fA at_ k).cache.length = k from fL_len at_ k, keep_fA at_ keep k (fun i _ => hb i) k (Nat.le_refl _)]
  rfl
theorem f_fA (at_ : Nat → Nat) (ha : ∀ i, at_ i < 4) (k : Nat) (hk : k ≤ 16) : flushD (fA at_ k) = (fB at_ k, 0) := f_crash at_ ha k hk (-1) bits_all
theorem f_cA (at_ : Nat → Nat) (ha : ∀ i, at_ i < 4) (k : Nat) (hk : k ≤ 16) : crashD (fA at_ k) 65535 = (fB at_ k, 0) := f_crash at_ ha k hk 65535 bits_16
theorem f_fB (at_ : Nat → Nat) (k : Nat) : flushD (fB at_ k) = (fB at_ k, 0) := by
  rw [flushD, crashD, if_pos (fB_st at_ k).2]
  rfl
theorem f_not (at_ : Nat → Nat) (k : Nat) : ¬ SameD (fB at_ k) dsk0 := by
  rintro ⟨-, h, -⟩
  have := congrArg List.length h
  rw [show (fB at_ k).secs = fS at_ k from rfl, fS_len] at this
  cases this
end Go.Proofs.Ytpmbmhjhclekeaa
