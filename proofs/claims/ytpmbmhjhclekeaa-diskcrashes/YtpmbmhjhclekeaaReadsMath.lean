/- What the statement DiskReads asks of five sectors: numbers alone. -/
import Derived.Test.YtpmbmhjhclekeaaFlushMath
namespace Go.Proofs.Ytpmbmhjhclekeaa
open Go.RowKit
set_option linter.unusedVariables false
set_option linter.unusedSimpArgs false
def wrD (d : Dsk) (i : Int) (s : ByteArray) : Dsk := ⟨d.lost, d.secs, d.cache ++ [(i, s)]⟩
def flD (d : Dsk) : Dsk := lastsD d (-1)
/-- N sectors, each of which reads as bytes that are alike -/
def RD (N : Nat) (d : Dsk) (ws : List Nat) : Prop := d.lost = false ∧ d.secs.length = N ∧ (∀ s ∈ d.secs, s.size = 64) ∧ (∀ x ∈ d.cache, 0 ≤ x.1 ∧ x.1 < (N : Int) ∧ x.2.size = 64) ∧ ws.length = N ∧ (∀ b ∈ ws, b < 256) ∧ ∀ j : Nat, j < N → peekD d (j : Int) = fullB (ws.getD j 0)
theorem RD.st {N : Nat} {d : Dsk} {ws : List Nat} (h : RD N d ws) (h1 : 1 ≤ N) (h2 : N ≤ 72) (hc : d.cache.length ≤ 256) : MayD d ∧ stateD d = 0 := by
  obtain ⟨l, ss, c⟩ := d
  obtain ⟨e1, e2, e3, e4, -⟩ := h
  simp only at e1 e2 e3 e4 hc
  subst e1
  exact live_st (by omega) (by omega) hc e3 (fun x hx => by rw [e2]; exact e4 x hx)
theorem RD.fit {N : Nat} {d : Dsk} {ws : List Nat} (h : RD N d ws) (h2 : N ≤ 72) (hc : d.cache.length ≤ 256) : d.secs.length * 16 ≤ 140737488351232 ∧ d.cache.length * 24 ≤ 140737488351232 := by
  rw [h.2.1]
  omega
theorem peekTo_app (d : Dsk) (i : Int) (s : ByteArray) (j : Int) : ∀ m, m ≤ d.cache.length → peekTo (wrD d i s) j m = peekTo d j m
  | 0, _ => rfl
  | m + 1, h => by
    have e : (wrD d i s).cache.getD m wr0 = d.cache.getD m wr0 := by
      show (d.cache ++ [(i, s)]).getD m wr0 = _
      simp only [List.getD]
      rw [List.getElem?_append_left (by omega)]
    rw [peekTo, peekTo, e, peekTo_app d i s j m (by omega)]
theorem peek_wr (d : Dsk) (i : Int) (s : ByteArray) (j : Int) : peekD (wrD d i s) j = if i = j then s else peekD d j := by
  have e : (wrD d i s).cache.length = d.cache.length + 1 := by show (d.cache ++ [(i, s)]).length = _; simp
  have e2 : (wrD d i s).cache.getD d.cache.length wr0 = (i, s) := by
    show (d.cache ++ [(i, s)]).getD d.cache.length wr0 = _
    simp [List.getD]
  rw [peekD, e, peekTo, e2, peekTo_app d i s j _ (Nat.le_refl _)]
  rfl
theorem RD.write {N : Nat} {d : Dsk} {ws : List Nat} (h : RD N d ws) {i b : Nat} (hi : i < N) (hb : b < 256) : RD N (wrD d (i : Int) (fullB b)) (ws.set i b) := by
  obtain ⟨e1, e2, e3, e4, e5, e6, e7⟩ := h
  refine ⟨e1, e2, e3, fun x hx => ?_, by rw [List.length_set]; exact e5, fun x hx => ?_, fun j hj => ?_⟩
  · rcases List.mem_append.1 (show x ∈ d.cache ++ [((i : Int), fullB b)] from hx) with hx | hx
    · exact e4 x hx
    · rw [List.mem_singleton.1 hx]
      exact ⟨by omega, by show ((i : Nat) : Int) < N; omega, fullB_size b⟩
  · rcases mem_set hx with hx | hx
    · exact e6 x hx
    · rw [hx]; exact hb
  · rw [peek_wr]
    by_cases hij : i = j
    · subst hij
      rw [if_pos rfl]
      simp [List.getD, e5, hj]
    · rw [if_neg (by omega), e7 j hj]
      simp [List.getD, hij]
theorem RD.writes {N : Nat} {d : Dsk} {ws : List Nat} (h : RD N d ws) (h1 : 1 ≤ N) (h2 : N ≤ 72) (hc : d.cache.length < 256) {i b : Nat} (hi : i < N) : writeD d (i : Int) (fullB b) = (wrD d (i : Int) (fullB b), 0) := by
  rw [writeD, if_pos (h.st h1 h2 (by omega)).2, if_pos ⟨by omega, by rw [h.2.1]; omega, fullB_size b, hc⟩]
  rfl
theorem wrD_len (d : Dsk) (i : Int) (s : ByteArray) : (wrD d i s).cache.length = d.cache.length + 1 := by show (d.cache ++ [(i, s)]).length = _; simp
theorem keep_peek {N : Nat} {d : Dsk} {ws : List Nat} (h : RD N d ws) (keep : Int) (hb : ∀ i, (keep / 2 ^ (i % 16)) % 2 = 1) (j : Nat) (hj : j < N) : ∀ m, m ≤ d.cache.length → (keepTo d keep m).getD j ByteArray.empty = peekTo d (j : Int) m
  | 0, _ => by rw [keepTo, peekTo, Int.toNat_natCast]
  | m + 1, hm => by
    have e : d.cache.getD m wr0 = d.cache[m] := by simp [List.getD, show m < d.cache.length by omega]
    have hx := h.2.2.2.1 (d.cache[m]) (List.getElem_mem _)
    have ih := keep_peek h keep hb j hj m (by omega)
    have hl : j < (keepTo d keep m).length := by rw [keepTo_len, h.2.1]; exact hj
    rw [keepTo, if_pos (hb m), peekTo, e]
    generalize d.cache[m] = x at hx
    by_cases hxj : x.1 = (j : Int)
    · rw [if_pos hxj, hxj, Int.toNat_natCast]
      simp [List.getD, hl]
    · rw [if_neg hxj, ← ih]
      have hne : ¬ x.1.toNat = j := by omega
      simp [List.getD, hne]
theorem keep_all {N : Nat} {d : Dsk} {ws : List Nat} (h : RD N d ws) (keep : Int) : ∀ m, m ≤ d.cache.length → ∀ s ∈ keepTo d keep m, s.size = 64
  | 0, _ => h.2.2.1
  | m + 1, hm => by
    intro s hs
    rw [keepTo] at hs
    have e : d.cache.getD m wr0 = d.cache[m] := by simp [List.getD, show m < d.cache.length by omega]
    split at hs
    · rcases mem_set hs with hs | hs
      · exact keep_all h keep m (by omega) s hs
      · rw [hs, e]; exact (h.2.2.2.1 _ (List.getElem_mem _)).2.2
    · exact keep_all h keep m (by omega) s hs
theorem RD.flush {N : Nat} {d : Dsk} {ws : List Nat} (h : RD N d ws) : RD N (flD d) ws := by
  obtain ⟨e1, e2, e3, e4, e5, e6, e7⟩ := h
  refine ⟨e1, (keepTo_len d (-1) _).trans e2, keep_all ⟨e1, e2, e3, e4, e5, e6, e7⟩ (-1) _ (Nat.le_refl _), fun x hx => (by cases hx), e5, e6, fun j hj => ?_⟩
  rw [← e7 j hj]
  show (keepTo d (-1) d.cache.length).getD ((j : Nat) : Int).toNat ByteArray.empty = _
  rw [Int.toNat_natCast, keep_peek ⟨e1, e2, e3, e4, e5, e6, e7⟩ (-1) bits_all j hj _ (Nat.le_refl _)]
  rfl
theorem RD.flushes {N : Nat} {d : Dsk} {ws : List Nat} (h : RD N d ws) (h1 : 1 ≤ N) (h2 : N ≤ 72) (hc : d.cache.length ≤ 256) : flushD d = (flD d, 0) := by
  rw [flushD, crashD, if_pos (h.st h1 h2 hc).2]
  rfl
theorem RD.reads {N : Nat} {d : Dsk} {ws : List Nat} (h : RD N d ws) (h1 : 1 ≤ N) (h2 : N ≤ 72) (hc : d.cache.length ≤ 256) {j : Nat} (hj : j < N) : readD d (j : Int) = (fullB (ws.getD j 0), 0) := by
  rw [readD, if_pos (h.st h1 h2 hc).2, if_pos ⟨by omega, by rw [h.2.1]; omega⟩, h.2.2.2.2.2.2 j hj]
theorem RD.byte {N : Nat} {d : Dsk} {ws : List Nat} (h : RD N d ws) (j : Nat) : ws.getD j 0 < 256 := by
  by_cases hj : j < ws.length
  · have e : ws.getD j 0 = ws[j] := by simp [List.getD, hj]
    rw [e]
    exact h.2.2.2.2.2.1 _ (List.getElem_mem _)
  · have e : ws.getD j 0 = 0 := by simp [List.getD, Nat.le_of_not_lt hj]
    rw [e]; decide
theorem full0 : fullB 0 = aZ := rfl
/-- a disk that is new -/
def rdN (N : Nat) : Dsk := ⟨false, List.replicate N aZ, []⟩
theorem rd_start (N : Nat) : RD N (rdN N) (List.replicate N 0) := by
  refine ⟨rfl, List.length_replicate, fun s hs => by rw [List.eq_of_mem_replicate hs]; exact aZ_size, fun x hx => (by cases hx), List.length_replicate, fun b hb => by rw [List.eq_of_mem_replicate hb]; decide, fun j hj => ?_⟩
  show (List.replicate N aZ).getD ((j : Nat) : Int).toNat ByteArray.empty = _
  rw [Int.toNat_natCast]
  have e1 : (List.replicate N aZ).getD j ByteArray.empty = aZ := by simp [List.getD, hj]
  have e2 : (List.replicate N 0).getD j 0 = 0 := by simp [List.getD, hj]
  rw [e1, e2, full0]
theorem rd_new (N : Nat) (h1 : 1 ≤ N) (h2 : N ≤ 72) : newD (N : Int) = (rdN N, 0) := by
  rw [newD, if_pos ⟨by omega, by omega⟩, Int.toNat_natCast]
  rfl
end Go.Proofs.Ytpmbmhjhclekeaa
