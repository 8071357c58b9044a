/- The disks that 'awake' (package disk) asks for: by numbers. -/
import Derived.Test.YtpmbmhjhclekeaaDskLaw
namespace Go.Proofs.Ytpmbmhjhclekeaa
open Go.RowKit
set_option linter.unusedVariables false
set_option linter.unusedSimpArgs false
theorem a_st {d : Dsk} (h1 : d.lost = false) (h2 : 1 ≤ d.secs.length ∧ d.secs.length ≤ 72 ∧ d.cache.length ≤ 256 ∧ (∀ i, i < d.secs.length → (d.secs.getD i ByteArray.empty).size = 64) ∧
  ∀ i, i < d.cache.length → 0 ≤ (d.cache.getD i wr0).1 ∧ (d.cache.getD i wr0).1 < d.secs.length ∧ (d.cache.getD i wr0).2.size = 64) : MayD d ∧ stateD d = 0 := by
  have hM := (mayD_live h1).2 h2
  refine ⟨hM, ?_⟩
  unfold stateD
  rw [if_pos hM, if_neg (by rw [h1]; decide)]
/-- a disk of two sectors, of 64 bytes each -/
theorem two_st {s t : ByteArray} {c : List (Int × ByteArray)} (hs : s.size = 64) (ht : t.size = 64) (hc : c.length ≤ 256) (h : ∀ x ∈ c, 0 ≤ x.1 ∧ x.1 < 2 ∧ x.2.size = 64) : MayD ⟨false, [s, t], c⟩ ∧ stateD ⟨false, [s, t], c⟩ = 0 := by
  refine a_st rfl ⟨by simp, by simp, hc, fun i hi => ?_, fun i hi => ?_⟩
  · have : i = 0 ∨ i = 1 := by simp at hi; omega
    rcases this with rfl | rfl
    · exact hs
    · exact ht
  · have e : c.getD i wr0 = c[i] := by simp [List.getD, show i < c.length from hi]
    rw [show (Dsk.mk false [s, t] c).cache = c from rfl, e]
    exact h _ (List.getElem_mem _)
theorem fit_two {s t : ByteArray} {c : List (Int × ByteArray)} (hc : c.length ≤ 256) : (Dsk.mk false [s, t] c).secs.length * 16 ≤ 140737488351232 ∧ (Dsk.mk false [s, t] c).cache.length * 24 ≤ 140737488351232 := by
  refine ⟨by simp, ?_⟩
  show c.length * 24 ≤ _
  omega
def aZ : ByteArray := zerosB 64
def aF7 : ByteArray := fullB 97
def aF8 : ByteArray := fullB 98
def aR8 : ByteArray := rotS aF8 0 1
theorem aZ_size : aZ.size = 64 := zerosB_size 64
theorem aF7_size : aF7.size = 64 := fullB_size 97
theorem aF8_size : aF8.size = 64 := fullB_size 98
theorem aR8_size : aR8.size = 64 := (rotS_size _ _ _).trans aF8_size
def aD0 : Dsk := ⟨false, [aZ, aZ], []⟩
def aD1 : Dsk := ⟨false, [aZ, aZ], [(1, aF7)]⟩
def aD2 : Dsk := ⟨false, [aZ, aZ], [(1, aF7), (1, aF8)]⟩
def aDC : Dsk := ⟨false, [aZ, aF7], []⟩
def aDF : Dsk := ⟨false, [aZ, aF8], []⟩
def aDR : Dsk := ⟨false, [aZ, aR8], []⟩
def aDL : Dsk := ⟨true, [], []⟩
theorem aD0_st : MayD aD0 ∧ stateD aD0 = 0 := two_st aZ_size aZ_size (by simp) (by simp)
theorem aD1_st : MayD aD1 ∧ stateD aD1 = 0 := two_st aZ_size aZ_size (by simp) (by simp; exact aF7_size)
theorem aD2_st : MayD aD2 ∧ stateD aD2 = 0 := two_st aZ_size aZ_size (by simp) (by
  intro x hx
  simp at hx
  rcases hx with rfl | rfl
  · exact ⟨by decide, by decide, aF7_size⟩
  · exact ⟨by decide, by decide, aF8_size⟩)
theorem aDC_st : MayD aDC ∧ stateD aDC = 0 := two_st aZ_size aF7_size (by simp) (by simp)
theorem aDF_st : MayD aDF ∧ stateD aDF = 0 := two_st aZ_size aF8_size (by simp) (by simp)
theorem aDR_st : MayD aDR ∧ stateD aDR = 0 := two_st aZ_size aR8_size (by simp) (by simp)
theorem a_new : newD 2 = (aD0, 0) := by rw [newD, if_pos (by decide)]; rfl
theorem a_w1 : writeD aD0 1 (fullB 97) = (aD1, 0) := by
  rw [writeD, if_pos aD0_st.2, if_pos ⟨by decide, by decide, aF7_size, by decide⟩]; rfl
theorem a_w2 : writeD aD1 1 (fullB 98) = (aD2, 0) := by
  rw [writeD, if_pos aD1_st.2, if_pos ⟨by decide, by decide, aF8_size, by decide⟩]; rfl
theorem a_r2 : readD aD2 1 = (aF8, 0) := by rw [readD, if_pos aD2_st.2, if_pos (by decide)]; rfl
theorem a_c : crashD aD2 1 = (aDC, 0) := by rw [crashD, if_pos aD2_st.2]; rfl
theorem a_rc : readD aDC 1 = (aF7, 0) := by rw [readD, if_pos aDC_st.2, if_pos (by decide)]; rfl
theorem a_f : flushD aD2 = (aDF, 0) := by rw [flushD, crashD, if_pos aD2_st.2]; rfl
theorem a_rf : readD aDF 1 = (aF8, 0) := by rw [readD, if_pos aDF_st.2, if_pos (by decide)]; rfl
theorem a_rot : rotD aDF 1 0 1 = (aDR, 0) := by rw [rotD, if_pos aDF_st.2, if_pos (by decide)]; rfl
theorem a_rr : readD aDR 1 = (aR8, 0) := by rw [readD, if_pos aDR_st.2, if_pos (by decide)]; rfl
theorem a_l : loseD aD2 = (aDL, 0) := by rw [loseD, if_pos aD2_st.1]; rfl
theorem aDL_st : stateD aDL = 1301 := by
  have h : MayD aDL := (mayD_lost rfl).2 ⟨rfl, rfl⟩
  unfold stateD
  rw [if_pos h]
  rfl
theorem a_rl : readD aDL 1 = (ByteArray.empty, 1301) := by rw [readD, aDL_st, if_neg (by decide)]
theorem a_n0 : newD 0 = (dsk0, 1300) := by rw [newD, if_neg (by decide)]
theorem a0_fit : aD0.secs.length * 16 ≤ 140737488351232 ∧ aD0.cache.length * 24 ≤ 140737488351232 := fit_two (by simp)
theorem a1_fit : aD1.secs.length * 16 ≤ 140737488351232 ∧ aD1.cache.length * 24 ≤ 140737488351232 := fit_two (by simp)
theorem a2_fit : aD2.secs.length * 16 ≤ 140737488351232 ∧ aD2.cache.length * 24 ≤ 140737488351232 := fit_two (by simp)
theorem aC_fit : aDC.secs.length * 16 ≤ 140737488351232 ∧ aDC.cache.length * 24 ≤ 140737488351232 := fit_two (by simp)
theorem aF_fit : aDF.secs.length * 16 ≤ 140737488351232 ∧ aDF.cache.length * 24 ≤ 140737488351232 := fit_two (by simp)
theorem aR_fit : aDR.secs.length * 16 ≤ 140737488351232 ∧ aDR.cache.length * 24 ≤ 140737488351232 := fit_two (by simp)
theorem aL_fit : aDL.secs.length * 16 ≤ 140737488351232 ∧ aDL.cache.length * 24 ≤ 140737488351232 := by simp [aDL]
theorem aR8_idx (h : 0 < aR8.size) : (((aR8[0]'h).toNat : Nat) : Int) = 99 := by
  have e : (aR8[0]'h).toNat = 99 := by
    have h2 : (aR8.data[0]?).map UInt8.toNat = some 99 := by decide +kernel
    have h3 : 0 < aR8.data.size := h
    rw [Array.getElem?_eq_getElem h3] at h2
    exact Option.some.inj h2
  rw [e]; rfl
theorem a_m0 : ¬ MayD dsk0 := fun h => by
  have := ((mayD_live (d := dsk0) rfl).1 h).1
  simp [dsk0] at this
end Go.Proofs.Ytpmbmhjhclekeaa
