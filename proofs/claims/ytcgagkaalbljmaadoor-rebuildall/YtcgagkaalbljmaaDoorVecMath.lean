/- Plain facts on Combine's sums: rows cut in two. -/
import Derived.Test.YtcgagkaalbljmaaDoorKVec
import Derived.Laws.Strings
namespace Go.Proofs.YtcgagkaalbljmaaDoor.Vec
set_option linter.unusedVariables false
theorem map_snoc {ss : List ByteArray} {j : Nat} {α : Type} (f : ByteArray → α) (h : j < ss.length) : (ss.take (j + 1)).map f = (ss.take j).map f ++ [f (ss.getD j ByteArray.empty)] := by
  rw [List.take_succ_eq_append_getElem h, List.map_append]
  simp [List.getD, List.getElem?_eq_getElem h]
theorem row_map (f : ByteArray → ByteArray) (ss : List ByteArray) (i : Nat) (h : i < ss.length) : (ss.map f).getD i ByteArray.empty = f (ss.getD i ByteArray.empty) := by
  simp [List.getD, List.getElem?_eq_getElem h]
theorem extract_size (s : ByteArray) (a b : Nat) (h : a ≤ b) (hb : b ≤ s.size) : (s.extract a b).size = b - a := by
  rw [ByteArray.size_extract]; omega
theorem byteAt_eq (s : ByteArray) (j : Nat) : byteAt s j = ((s.data[j]?).getD 0).toNat := by
  unfold byteAt; simp [List.getD]
theorem byteAt_extract (s : ByteArray) (a b j : Nat) (h : a ≤ b) (hb : b ≤ s.size) (hj : j < b - a) : byteAt (s.extract a b) j = byteAt s (a + j) := by
  rw [byteAt_eq, byteAt_eq]
  congr 2
  have : (s.extract a b).data = s.data.extract a b := by simp
  rw [this, Array.getElem?_extract, if_pos]
  have : s.data.size = s.size := rfl
  omega
theorem cmb_map (cs : List Int) (ss : List ByteArray) (f : ByteArray → ByteArray) (j j' : Nat) (hf : ∀ i, i < ss.length → byteAt (f (ss.getD i ByteArray.empty)) j = byteAt (ss.getD i ByteArray.empty) j') :
    ∀ r, r ≤ ss.length → cmb cs (ss.map f) r j = cmb cs ss r j'
  | 0, _ => rfl
  | r + 1, h => by
    show cmb cs (ss.map f) r j ^^^ _ = cmb cs ss r j' ^^^ _
    rw [cmb_map cs ss f j j' hf r (by omega)]
    congr 2
    show byteAt ((ss.map f).getD r ByteArray.empty) j = byteAt (ss.getD r ByteArray.empty) j'
    rw [row_map f ss r (by omega)]
    exact hf r (by omega)
theorem may_map {cs : List Int} {ss : List ByteArray} {f : ByteArray → ByteArray} {m : Nat} (h : May cs ss) (hm : m ≤ 4096) (hf : ∀ i, i < ss.length → (f (ss.getD i ByteArray.empty)).size = m) : May cs (ss.map f) := by
  obtain ⟨h1, h2, h3, h4, h5⟩ := h
  refine ⟨h1, h2, by simpa using h3, fun i hi => ?_, h5⟩
  rw [List.length_map] at hi
  rw [row_map f ss i hi, row_map f ss 0 (by omega), hf i hi, hf 0 (by omega)]
  exact ⟨rfl, hm⟩
theorem strOfNums_append (a b : List Int) : (strOfNums a).toList ++ (strOfNums b).toList = (strOfNums (a ++ b)).toList := by
  rw [ByteArray.toList_eq, ByteArray.toList_eq, ByteArray.toList_eq]
  simp [strOfNums_data]
theorem nums_parts {cs : List Int} {ss : List ByteArray} {k : Nat} (h : May cs ss) (hk : k ≤ (ss.getD 0 ByteArray.empty).size) :
    nums cs ss = nums cs (ss.map (fun s => s.extract 0 k)) ++ nums cs (ss.map (fun s => s.extract k s.size)) := by
  obtain ⟨h1, h2, h3, h4, h5⟩ := h
  have hp : 0 < ss.length := by omega
  unfold nums
  have hsz : ∀ i, i < ss.length → (ss.getD i ByteArray.empty).size = (ss.getD 0 ByteArray.empty).size := fun i hi => (h4 i hi).1
  generalize hm : (ss.getD 0 ByteArray.empty).size = m at *
  have e1 : ((ss.map (fun s => s.extract 0 k)).getD 0 ByteArray.empty).size = k := by
    rw [row_map _ ss 0 hp, extract_size _ _ _ (Nat.zero_le _) (by omega)]; omega
  have e2 : ((ss.map (fun s => s.extract k s.size)).getD 0 ByteArray.empty).size = m - k := by
    rw [row_map _ ss 0 hp, extract_size _ _ _ (by omega) (by omega)]; omega
  rw [e1, e2]
  have hr : List.range m = List.range k ++ (List.range (m - k)).map (k + ·) := by
    rw [← List.range_add]; congr 1; omega
  rw [hr, List.map_append, List.map_map]
  congr 1
  · apply List.map_congr_left
    intro j hj
    rw [List.mem_range] at hj
    rw [cmb_map cs ss _ j j (fun i hi => ?_) cs.length (by omega)]
    rw [byteAt_extract _ _ _ _ (Nat.zero_le _) (by rw [hsz i hi]; omega) (by omega), Nat.zero_add]
  · apply List.map_congr_left
    intro j hj
    rw [List.mem_range] at hj
    show ((cmb cs ss cs.length (k + j) : Nat) : Int) = _
    rw [cmb_map cs ss _ j (k + j) (fun i hi => ?_) cs.length (by omega)]
    rw [byteAt_extract _ _ _ _ (by rw [hsz i hi]; omega) (Nat.le_refl _) (by rw [hsz i hi]; omega)]
theorem out_parts {cs : List Int} {ss : List ByteArray} {k : Nat} (h : May cs ss) (hk : k ≤ (ss.getD 0 ByteArray.empty).size) :
    (out cs ss).toList = (out cs (ss.map (fun s => s.extract 0 k))).toList ++ (out cs (ss.map (fun s => s.extract k s.size))).toList := by
  unfold out; rw [strOfNums_append, ← nums_parts h hk]
theorem may_left {cs : List Int} {ss : List ByteArray} {k : Nat} (h : May cs ss) (hk : k ≤ (ss.getD 0 ByteArray.empty).size) : May cs (ss.map (fun s => s.extract 0 k)) := by
  refine may_map (m := k) h (Nat.le_trans hk (h.2.2.2.1 0 (by have := h.1; have := h.2.2.1; omega)).2) (fun i hi => ?_)
  rw [extract_size _ _ _ (Nat.zero_le _) (by rw [(h.2.2.2.1 i hi).1]; exact hk)]; omega
theorem may_right {cs : List Int} {ss : List ByteArray} {k : Nat} (h : May cs ss) (hk : k ≤ (ss.getD 0 ByteArray.empty).size) : May cs (ss.map (fun s => s.extract k s.size)) := by
  have h0 := (h.2.2.2.1 0 (by have := h.1; have := h.2.2.1; omega)).2
  refine may_map (m := (ss.getD 0 ByteArray.empty).size - k) h (by omega) (fun i hi => ?_)
  rw [extract_size _ _ _ (by rw [(h.2.2.2.1 i hi).1]; exact hk) (Nat.le_refl _), (h.2.2.2.1 i hi).1]
theorem out_size (cs : List Int) (ss : List ByteArray) : (out cs ss).size = (ss.getD 0 ByteArray.empty).size := by
  unfold out; rw [strOfNums_size]; simp [nums]
theorem out_size_le {cs : List Int} {ss : List ByteArray} (h : May cs ss) : (out cs ss).size ≤ 4096 := by
  rw [out_size]; exact (h.2.2.2.1 0 (by have := h.1; have := h.2.2.1; omega)).2
end Go.Proofs.YtcgagkaalbljmaaDoor.Vec
