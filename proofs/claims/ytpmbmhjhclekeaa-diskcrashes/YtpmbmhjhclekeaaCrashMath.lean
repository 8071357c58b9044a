/- What the statement DiskCrashes asks of three sectors: numbers alone. -/
import Derived.Test.YtpmbmhjhclekeaaReadsMath
namespace Go.Proofs.Ytpmbmhjhclekeaa
open Go.RowKit
set_option linter.unusedVariables false
set_option linter.unusedSimpArgs false
/-- the first byte of a sector whose bytes are alike -/
theorem full_first (b : Nat) (hb : b < 256) (h : 0 < (fullB b).size) : ((((fullB b)[0]'h).toNat : Nat) : Int) = (b : Int) := by
  rw [byte_bI]
  have e : bI (fullB b) = fullN b := bI_str _ (fun x hx => by rw [List.eq_of_mem_replicate hx]; omega)
  rw [e]
  rfl
/-- three sectors: what lasts, what may last -/
def CR (d : Dsk) (old : List Nat) (f : Nat → Bool) : Prop :=
  (∃ ws, RD 3 d ws) ∧ old.length = 3 ∧ (∀ b ∈ old, b < 256) ∧ (∀ j : Nat, j < 3 → d.secs.getD j ByteArray.empty = fullB (old.getD j 0)) ∧
  ∀ x ∈ d.cache, ∃ c b : Nat, c < 3 ∧ b < 256 ∧ x = ((c : Int), fullB b) ∧ f (c * 256 + b) = true
theorem rep_at {α : Type} (n j : Nat) (x y : α) (h : j < n) : (List.replicate n x).getD j y = x := by simp [List.getD, h]
theorem CR.start : CR (rdN 3) (List.replicate 3 0) (fun _ => false) := by
  refine ⟨⟨_, rd_start 3⟩, List.length_replicate, fun b hb => by rw [List.eq_of_mem_replicate hb]; decide, fun j hj => ?_, fun x hx => (by cases hx)⟩
  have e1 := rep_at 3 j aZ ByteArray.empty hj
  have e2 := rep_at 3 j 0 0 hj
  show (List.replicate 3 aZ).getD j ByteArray.empty = _
  rw [e1, e2, full0]
def fSet (p : Nat) (f : Nat → Bool) : Nat → Bool := fun q => if q = p then true else f q
theorem CR.write {d : Dsk} {old : List Nat} {f : Nat → Bool} (h : CR d old f) {i b : Nat} (hi : i < 3) (hb : b < 256) : CR (wrD d (i : Int) (fullB b)) old (fSet (i * 256 + b) f) := by
  obtain ⟨⟨ws, h1⟩, h2, h3, h4, h5⟩ := h
  refine ⟨⟨_, h1.write hi hb⟩, h2, h3, h4, fun x hx => ?_⟩
  rcases List.mem_append.1 (show x ∈ d.cache ++ [((i : Int), fullB b)] from hx) with hx | hx
  · obtain ⟨c, b', hc, hb', e, hf⟩ := h5 x hx
    refine ⟨c, b', hc, hb', e, ?_⟩
    unfold fSet
    split
    · rfl
    · exact hf
  · exact ⟨i, b, hi, hb, List.mem_singleton.1 hx, by unfold fSet; rw [if_pos rfl]⟩
/-- behind a flush: what is read lasts, nothing else may -/
theorem CR.flush {d : Dsk} {old : List Nat} {f : Nat → Bool} (h : CR d old f) : ∃ ws, RD 3 (flD d) ws ∧ (∀ j : Nat, j < 3 → (flD d).secs.getD j ByteArray.empty = fullB (ws.getD j 0)) := by
  obtain ⟨⟨ws, h1⟩, -⟩ := h
  refine ⟨ws, h1.flush, fun j hj => ?_⟩
  have := h1.flush.2.2.2.2.2.2 j hj
  rw [← this]
  show _ = (flD d).secs.getD ((j : Nat) : Int).toNat ByteArray.empty
  rw [Int.toNat_natCast]
theorem CR.again {d : Dsk} {ws : List Nat} (h1 : RD 3 (flD d) ws) (h2 : ∀ j : Nat, j < 3 → (flD d).secs.getD j ByteArray.empty = fullB (ws.getD j 0)) (f : Nat → Bool) : CR (flD d) ws f :=
  ⟨⟨ws, h1⟩, h1.2.2.2.2.1, h1.2.2.2.2.2.1, h2, fun x hx => (by cases hx)⟩
/-- what a sector is behind a crash -/
theorem keep_may {d : Dsk} {old : List Nat} {f : Nat → Bool} (h : CR d old f) (keep : Int) (j : Nat) (hj : j < 3) : ∀ m, m ≤ d.cache.length → ∃ b, b < 256 ∧ (keepTo d keep m).getD j ByteArray.empty = fullB b ∧ (b = old.getD j 0 ∨ f (j * 256 + b) = true)
  | 0, _ => by
    refine ⟨old.getD j 0, ?_, h.2.2.2.1 j hj, .inl rfl⟩
    have e : old.getD j 0 = old[j]'(by rw [h.2.1]; exact hj) := by simp [List.getD, h.2.1, hj]
    rw [e]
    exact h.2.2.1 _ (List.getElem_mem _)
  | m + 1, hm => by
    obtain ⟨b, hb, e, hf⟩ := keep_may h keep j hj m (by omega)
    rw [keepTo]
    split
    · have e2 : d.cache.getD m wr0 = d.cache[m] := by simp [List.getD, show m < d.cache.length by omega]
      obtain ⟨c, b', hc, hb', ex, hf'⟩ := h.2.2.2.2 (d.cache[m]) (List.getElem_mem _)
      rw [e2, ex]
      obtain ⟨ws, h1⟩ := h.1
      have hl : j < (keepTo d keep m).length := by rw [keepTo_len, h1.2.1]; exact hj
      simp only [Int.toNat_natCast]
      by_cases hcj : c = j
      · subst hcj
        exact ⟨b', hb', by simp [List.getD, hl], .inr hf'⟩
      · exact ⟨b, hb, by rw [← e]; simp [List.getD, hcj], hf⟩
    · exact ⟨b, hb, e, hf⟩
theorem CR.old_lt {d : Dsk} {old : List Nat} {f : Nat → Bool} (h : CR d old f) (j : Nat) : old.getD j 0 < 256 := by
  by_cases hj : j < old.length
  · have e : old.getD j 0 = old[j] := by simp [List.getD, hj]
    rw [e]
    exact h.2.2.1 _ (List.getElem_mem _)
  · have e : old.getD j 0 = 0 := by simp [List.getD, Nat.le_of_not_lt hj]
    rw [e]; decide
/-- a disk behind a crash -/
def crD (d : Dsk) (keep : Int) : Dsk := lastsD d keep
theorem CR.crash {d : Dsk} {old : List Nat} {f : Nat → Bool} (h : CR d old f) (hc : d.cache.length ≤ 256) (keep : Int) : crashD d keep = (crD d keep, 0) := by
  obtain ⟨⟨ws, h1⟩, -⟩ := h
  rw [crashD, if_pos (h1.st (by decide) (by decide) hc).2]
  rfl
theorem CR.crash_st {d : Dsk} {old : List Nat} {f : Nat → Bool} (h : CR d old f) (keep : Int) : (MayD (crD d keep) ∧ stateD (crD d keep) = 0) ∧ (crD d keep).secs.length = 3 := by
  obtain ⟨⟨ws, h1⟩, -⟩ := h
  have e : crD d keep = ⟨false, keepTo d keep d.cache.length, []⟩ := by unfold crD lastsD; rw [h1.1]
  have hl : (keepTo d keep d.cache.length).length = 3 := by rw [keepTo_len, h1.2.1]
  rw [e]
  exact ⟨live_st (by rw [hl]; decide) (by rw [hl]; decide) (by decide) (keep_all h1 keep _ (Nat.le_refl _)) (fun x hx => (by cases hx)), hl⟩
theorem CR.crash_read {d : Dsk} {old : List Nat} {f : Nat → Bool} (h : CR d old f) (keep : Int) (j : Nat) (hj : j < 3) : ∃ b, b < 256 ∧ readD (crD d keep) (j : Int) = (fullB b, 0) ∧ (b = old.getD j 0 ∨ f (j * 256 + b) = true) := by
  obtain ⟨b, hb, e, hf⟩ := keep_may h keep j hj d.cache.length (Nat.le_refl _)
  refine ⟨b, hb, ?_, hf⟩
  have hs := h.crash_st keep
  rw [readD, if_pos hs.1.2, if_pos ⟨by omega, by rw [hs.2]; omega⟩]
  show ((keepTo d keep d.cache.length).getD ((j : Nat) : Int).toNat ByteArray.empty, (0 : Int)) = _
  rw [Int.toNat_natCast, e]
theorem keep_none (d : Dsk) : ∀ m, keepTo d 0 m = d.secs
  | 0 => rfl
  | m + 1 => by rw [keepTo, if_neg (by simp), keep_none d m]
theorem CR.none_read {d : Dsk} {old : List Nat} {f : Nat → Bool} (h : CR d old f) (j : Nat) (hj : j < 3) : readD (crD d 0) (j : Int) = (fullB (old.getD j 0), 0) := by
  have hs := h.crash_st 0
  rw [readD, if_pos hs.1.2, if_pos ⟨by omega, by rw [hs.2]; omega⟩]
  show ((keepTo d 0 d.cache.length).getD ((j : Nat) : Int).toNat ByteArray.empty, (0 : Int)) = _
  rw [Int.toNat_natCast, keep_none, h.2.2.2.1 j hj]
theorem keep_alike (d : Dsk) (k1 k2 : Int) (h1 : ∀ i, (k1 / 2 ^ (i % 16)) % 2 = 1) (h2 : ∀ i, (k2 / 2 ^ (i % 16)) % 2 = 1) : ∀ m, keepTo d k1 m = keepTo d k2 m
  | 0 => rfl
  | m + 1 => by rw [keepTo, keepTo, if_pos (h1 m), if_pos (h2 m), keep_alike d k1 k2 h1 h2 m]
theorem all_same (d : Dsk) : crD d 65535 = flD d := by
  unfold crD flD lastsD
  rw [keep_alike d 65535 (-1) bits_16 bits_all]
theorem CR.crash_fit {d : Dsk} {old : List Nat} {f : Nat → Bool} (h : CR d old f) (keep : Int) : (crD d keep).secs.length * 16 ≤ 140737488351232 ∧ (crD d keep).cache.length * 24 ≤ 140737488351232 := by
  rw [(h.crash_st keep).2]
  exact ⟨by decide, by show 0 * 24 ≤ _; decide⟩
end Go.Proofs.Ytpmbmhjhclekeaa
