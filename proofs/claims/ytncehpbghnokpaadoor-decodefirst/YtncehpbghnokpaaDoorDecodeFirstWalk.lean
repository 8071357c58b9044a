/- DecodeFirst: the first shards that are there decide. -/
import Derived.Test.YtncehpbghnokpaaDoorAwake7
import Derived.Test.YtncehpbghnokpaaDoorLie
import Derived.Test.YtncehpbghnokpaaDoorFormsT
import Derived.Test.YtncehpbghnokpaaDoorCodeMath2
import Derived.Test.YtncehpbghnokpaaDoorKCore
import Derived.Test.YtncehpbghnokpaaDoorBools2
namespace Go.Proofs.YtncehpbghnokpaaDoor
open Go.RowKit
set_option linter.unusedVariables false
set_option linter.unusedSimpArgs false
open Vec (alikeTo numsTo May)
theorem pcs_at {t : ByteArray} {m j i : Nat} (h : i < j) : (pcs t m j).getD i ByteArray.empty = t.extract (m * i) (m * i + m) := by simp [pcs, List.getD, h]
theorem pcm_le (t : ByteArray) (k : Nat) : pcm t k ≤ 60 := Nat.min_le_right _ _
theorem pcs_size {t : ByteArray} {k i : Nat} (hi : i < k) : ((pcs t (pcm t k) k).getD i ByteArray.empty).size = pcm t k := by
  rw [pcs_at hi, ByteArray.size_extract]
  have h1 : pcm t k ≤ t.size / k := Nat.min_le_left _ _
  have h2 : pcm t k * k ≤ t.size := Nat.le_trans (Nat.mul_le_mul_right _ h1) (Nat.div_mul_le_self _ _)
  have h3 : pcm t k * i + pcm t k ≤ pcm t k * k := by
    rw [← Nat.mul_succ]; exact Nat.mul_le_mul_left _ hi
  omega
theorem pcs_alike (t : ByteArray) (k : Nat) : alikeTo (pcs t (pcm t k) k) (pcs t (pcm t k) k).length := by
  intro i hi
  rw [pcs_len] at hi
  rw [pcs_size hi, pcs_size (show 0 < k by omega)]
  exact ⟨rfl, Nat.le_trans (pcm_le t k) (by decide)⟩
/-- the shards as far as the loop is come -/
structure FirstI (d R z : Nat) (ds : List ByteArray) (bs : List Bool) (xs : List ByteArray) (k m : Nat) : Prop where
  lb : bs.length = R
  lx : xs.length = R
  many : m = (rowsL bs k).length
  room : d ≤ m + (R - k)
  size : ∀ j, j < R → (xs.getD j ByteArray.empty).size = z
  rest : ∀ j, k ≤ j → j < R → xs.getD j ByteArray.empty = word d 2 ds j
  first : ∀ r ∈ (rowsL bs k).take d, xs.getD r ByteArray.empty = word d 2 ds r
theorem rowsL_set {bs : List Bool} {i : Nat} {b : Bool} : rowsL (bs.set i b) i = rowsL bs i := by
  unfold rowsL
  refine List.filter_congr fun j hj => ?_
  have : ¬ i = j := by have := List.mem_range.1 hj; omega
  simp [hasB, List.getD, List.getElem?_set, this]
theorem has_set {bs : List Bool} {i : Nat} {b : Bool} (h : i < bs.length) : hasB (bs.set i b) i = b := by simp [hasB, List.getD, h]
theorem set_getD {xs : List ByteArray} {i j : Nat} {x : ByteArray} (h : j ≠ i) : (xs.set i x).getD j ByteArray.empty = xs.getD j ByteArray.empty := by simp [List.getD, List.getElem?_set, Ne.symm h]
theorem FirstI.no {d R z : Nat} {ds : List ByteArray} {bs : List Bool} {xs : List ByteArray} {k m : Nat} (h : FirstI d R z ds bs xs k m) (hk : k < R) (hr : d < m + (R - k)) : FirstI d R z ds (bs.set k false) xs (k + 1) m := by
  have e : rowsL (bs.set k false) (k + 1) = rowsL bs k := by rw [rowsL_no (has_set (by rw [h.lb]; exact hk)), rowsL_set]
  exact ⟨by simpa using h.lb, h.lx, by rw [e]; exact h.many, by omega, h.size, fun j hj hjR => h.rest j (by omega) hjR, by rw [e]; exact h.first⟩
theorem FirstI.yes {d R z : Nat} {ds : List ByteArray} {bs : List Bool} {xs : List ByteArray} {k m : Nat} (h : FirstI d R z ds bs xs k m) (hk : k < R) (hm : m < d) : FirstI d R z ds (bs.set k true) xs (k + 1) (m + 1) := by
  have e : rowsL (bs.set k true) (k + 1) = rowsL bs k ++ [k] := by rw [rowsL_yes (has_set (by rw [h.lb]; exact hk)), rowsL_set]
  have hr := h.room
  refine ⟨by simpa using h.lb, h.lx, by rw [e, List.length_append, ← h.many]; rfl, by omega, h.size, fun j hj hjR => h.rest j (by omega) hjR, ?_⟩
  rw [e]
  intro r hr'
  have hm' : (rowsL bs k).length < d := by rw [← h.many]; exact hm
  rw [List.take_append, List.take_of_length_le (by omega)] at hr'
  rcases List.mem_append.1 hr' with g | g
  · exact h.first r (by rw [List.take_of_length_le (by omega)]; exact g)
  · have := List.mem_of_mem_take g
    rw [List.mem_singleton] at this
    rw [this]
    exact h.rest k (Nat.le_refl _) hk
theorem FirstI.more {d R z : Nat} {ds : List ByteArray} {bs : List Bool} {xs : List ByteArray} {k m : Nat} (h : FirstI d R z ds bs xs k m) (hk : k < R) (hm : ¬ m < d) {x : ByteArray} (hx : x.size = z) : FirstI d R z ds (bs.set k true) (xs.set k x) (k + 1) (m + 1) := by
  have e : rowsL (bs.set k true) (k + 1) = rowsL bs k ++ [k] := by rw [rowsL_yes (has_set (by rw [h.lb]; exact hk)), rowsL_set]
  have hm' : d ≤ (rowsL bs k).length := by rw [← h.many]; omega
  refine ⟨by simpa using h.lb, by simpa using h.lx, by rw [e, List.length_append, ← h.many]; rfl, by omega, fun j hj => ?_, fun j hj hjR => ?_, ?_⟩
  · by_cases q : j = k
    · subst q
      have : j < xs.length := by rw [h.lx]; exact hk
      simp [List.getD, this, hx]
    · rw [set_getD q]; exact h.size j hj
  · rw [set_getD (by omega)]; exact h.rest j (by omega) hjR
  · rw [e]
    intro r hr'
    rw [List.take_append_of_le_length hm'] at hr'
    have hr2 : r < k := List.mem_range.1 (List.mem_filter.1 (List.mem_of_mem_take hr')).1
    rw [set_getD (by omega)]
    exact h.first r hr'
theorem first_start {d z : Nat} {ds : List ByteArray} (h1 : 1 ≤ d) (h2 : d ≤ 4) (hl : ds.length = d) (hz : ∀ i, i < d → (ds.getD i ByteArray.empty).size = z) : FirstI d (d + 2) z ds (List.replicate (d + 2) false) (ds ++ encTo d 2 ds 2) 0 0 := by
  have hw : ∀ j, j < d + 2 → (ds ++ encTo d 2 ds 2).getD j ByteArray.empty = word d 2 ds j := fun j hj => by
    by_cases q : j < d
    · rw [word_data h1 h2 (by decide) (fun i hi => by rw [hz i hi, hz 0 h1]) q]
      simp [List.getD, List.getElem?_append_left (show j < ds.length by omega)]
    · have e : (ds ++ encTo d 2 ds 2).getD j ByteArray.empty = (encTo d 2 ds 2).getD (j - d) ByteArray.empty := by
        simp [List.getD, List.getElem?_append_right (show ds.length ≤ j by omega), hl]
      rw [e, word_par d 2 ds (show j - d < 2 by omega), show d + (j - d) = j by omega]
  refine ⟨by simp, by simp [encTo_len, hl], rfl, by omega, fun j hj => by rw [hw j hj, word_size, hz 0 h1], fun j _ hj => hw j hj, fun r hr => by simp [rowsL] at hr⟩
/-- what Decode answers when the loop is through -/
theorem first_end {d z : Nat} {ds : List ByteArray} {bs : List Bool} {xs : List ByteArray} {m : Nat} (h : FirstI d (d + 2) z ds bs xs (d + 2) m) (h1 : 1 ≤ d) (h2 : d ≤ 4) (hl : ds.length = d) (hz : ∀ i, i < d → (ds.getD i ByteArray.empty).size = z) (h60 : z ≤ 4096) : decR d 2 xs bs (ds, 0) := by
  have he : d ≤ (rowsL bs bs.length).length := by rw [h.lb, ← h.many]; have := h.room; omega
  refine dec_word h1 h2 (by decide) hl (fun i hi => by rw [hz i hi, hz 0 h1]) ⟨by unfold ShpMay; exact ⟨by omega, by omega, by decide, by decide⟩, by rw [h.lx]; simp, by rw [h.lb, h.lx], ?_⟩ he (fun r hr => h.first r (by rw [h.lb] at hr; exact hr))
  have hs : ∀ i, i < (hadL bs xs bs.length).length → ((hadL bs xs bs.length).getD i ByteArray.empty).size = z := fun i hi => by
    rw [hadL_len] at hi
    have e : (hadL bs xs bs.length).getD i ByteArray.empty = xs.getD ((rowsL bs bs.length)[i]) ByteArray.empty := by
      simp [hadL, List.getD, List.getElem?_eq_getElem hi]
    rw [e]
    have := List.mem_range.1 (List.mem_filter.1 (List.getElem_mem hi)).1
    exact h.size _ (Nat.lt_of_lt_of_eq this h.lb)
  intro i hi
  rw [hs i hi, hs 0 (by omega)]
  exact ⟨rfl, h60⟩
set_option maxRecDepth 100000 in
set_option maxHeartbeats 8000000 in
theorem DecodeFirst_walk {w : World} (hM : Made w) (a0 : Int) (w0 : (Lit.int .i64 a0).wf = true) (t : ByteArray) (wt : t.size ≤ 140737488351232) (o : ByteArray) (wo : o.size ≤ 140737488351232) (a3 : Int) (w3' : (Lit.int .i64 a3).wf = true) :
    Calls Tryd.prog 5 #[.int .i64 a0, .string t, .string o, .int .i64 a3] w fun e w' => e = .returned (.bool true) ∧ Below w.heap.size w w' := by
  have MD := hide hM
  clear hM
  obtain ⟨i, hi, ei⟩ := modK a0 4 (by decide) (by decide)
  obtain ⟨d, hd⟩ : ∃ d : Nat, d = 1 + i := ⟨_, rfl⟩
  have ed : (1 + (i : Int)) = (d : Int) := by omega
  have h1 : 1 ≤ d := by omega
  have h2 : d ≤ 4 := by omega
  have ED := hide ed
  clear ed hd
  go_enter Tryd.func5, Tryd.ntmps5
  go_wp2_with fail
  refine (awake7_any _ (unhide MD)).mono ?_
  rintro e w2 ⟨rfl, b2⟩
  have HB := hide b2
  clear b2
  go_wp2_with fail
  rw [unhide ED]
  have BS := hide (heap_alloc_new w2 (.cells #[.int .i64 d, .int .i64 2] 23))
  have hx := below_alloc w2 (.cells #[.int .i64 d, .int .i64 2] 23)
  generalize (w2.alloc (.cells #[.int .i64 d, .int .i64 2] 23)) = W2 at *
  replace HB := hide (bt (unhide HB) hx)
  clear hx ei hi ED
  refine (pieces_any t d W2 h1 h2 wt).mono ?_
  rintro e w3 ⟨v3, rfl, O3, b3⟩
  obtain ⟨ds, eds⟩ : ∃ ds, ds = pcs t (pcm t d) d := ⟨_, rfl⟩
  rw [← eds] at O3
  have hdl : ds.length = d := by rw [eds, pcs_len]
  obtain ⟨p3, c3, rfl, S3⟩ := O3.strs
  rw [hdl] at S3 ⊢
  have hal : alikeTo ds ds.length := by rw [eds]; exact pcs_alike t d
  have hsz : ∀ i, i < d → (ds.getD i ByteArray.empty).size = pcm t d := fun i hi => by rw [eds]; exact pcs_size hi
  have HDL := hide hdl
  have HAL := hide hal
  have HSZ := hide hsz
  have SD := hide S3
  replace BS := hide ((b3.block _ (lt_of_block (unhide BS))).trans (unhide BS))
  replace HB := hide (bt (unhide HB) b3)
  clear O3 b3 S3 hal hsz hdl eds
  obtain ⟨cs0, cs1⟩ := box_two (unhide BS)
  go_wp2_with fail
  refine (refEncode_yes d 2 p3 c3 ds w3 (unhide SD) h1 h2 (by decide) (unhide HAL)).mono ?_
  rintro e w4 ⟨v4, rfl, O4, b4⟩
  obtain ⟨p4, c4, rfl, S4⟩ := O4.strs
  rw [encTo_len] at S4 ⊢
  replace BS := hide ((b4.block _ (lt_of_block (unhide BS))).trans (unhide BS))
  replace SD := hide ((unhide SD).below b4)
  replace HB := hide (bt (unhide HB) b4)
  have SP := hide S4
  clear O4 b4 S4 cs0 cs1
  have hd1 : ¬ (d : Int) < 1 := by omega
  have SE := hide ((unhide SD).below (below_alloc w4 (.cells #[] 9)))
  have hcp : (List.map Value.string ds).length = d := by rw [List.length_map]; exact unhide HDL
  have HCP := hide hcp
  clear hcp
  obtain ⟨R, eR⟩ : ∃ R : Nat, R = d + 2 := ⟨_, rfl⟩
  have hR6 : R ≤ 6 := by omega
  have hR1 : 1 ≤ R := by omega
  have hRI : (R : Int) = (d : Int) + 2 := by omega
  have ER := hide eR
  have HRI := hide hRI
  clear eR hRI
  have hmk : ∀ w, (Instr.makeSlice 25 (.int .i64 R) (.int .i64 R)).run Tryd.prog w = .ok (.slice (some ⟨w.heap.size, 0, none⟩) R R) (w.alloc (.cells (madeCells #[.bool false] R) 4)) := fun w => run_make_row' (P := Tryd.prog) 25 4 (.bool false) 1 Tryd.underlying25 Tryd.infoBool rfl .i64 .i64 R (by omega) (by omega) w
  go_wp2_with (first | (at_builtin; refine wpList_append_row _ (by rfl) (.tmp 44) (.tmp 45) 24 (by rfl) w4.heap.size 9 (.string ByteArray.empty) 16 Tryd.underlying24 Tryd.infoText rfl _ _ _ (by rfl) (own_empty w4 9) p3 d c3 _ (ds.map Value.string) (by rfl) (unhide SE).2 (unhide HCP) (str_at (unhide HDL)) (strs_oneCell _) (by unfold maxLen; omega) (by omega) (by simp) ?_; intro v5 w5 O5 G5; simp only [Nat.zero_add, List.nil_append] at O5; have B5 := hide ((below_alloc w4 (.cells #[] 9)).grown G5 (by simp) (by intro k hk; simp [Value.ownBlock] at hk; omega)); have OO5 := hide O5; have SP5 := hide ((unhide SP).below (unhide B5)); clear O5 G5 SE) | (at_builtin; refine wpList_append_row _ (by rfl) (.tmp 47) (.tmp 48) 24 (by rfl) w4.heap.size 9 (.string ByteArray.empty) 16 Tryd.underlying24 Tryd.infoText rfl _ _ _ (by rfl) (unhide OO5) p4 2 c4 _ ((encTo d 2 ds 2).map Value.string) (by rfl) (unhide SP5).2 (by simp [encTo_len]) (str_at (by simp [encTo_len])) (strs_oneCell _) (by unfold maxLen; omega) (by omega) (unhide B5).size ?_; intro v6 w6 O6 G6; have B6 := hide ((unhide B5).grown G6 (unhide B5).size (fun k hk => (World.ownsRow.lt (unhide OO5) k hk).1)); rw [← unhide ER, ← List.map_append] at O6; obtain ⟨ga, ca, ev, hga, _, _, _⟩ := own_form O6 (by omega); subst ev; have OO6 := hide O6; clear O6 G6 OO5 SP5))
  have OA : OwnL w6 w4.heap.size 9 (.slice (some ⟨ga, 0, none⟩) R ca) ((ds ++ encTo d 2 ds 2).map Value.string) := by
    have h := unhide OO6
    unfold OwnL
    rw [List.length_map, List.length_append, encTo_len, unhide HDL, ← unhide ER]
    exact h
  have OB := own_bools w6 w4.heap.size R 4 (unhide B6).size (by unfold maxLen; omega)
  have OA7 := OA.below (below_alloc w6 (.cells (madeCells #[.bool false] R) 4))
  have HFI := first_start h1 h2 (unhide HDL) (unhide HSZ)
  rw [← unhide ER] at HFI
  have ST := hide (⟨_, _, HFI, OB, OA7⟩ : ∃ bs xs, FirstI d R (pcm t d) ds bs xs 0 0 ∧ OwnL (w6.alloc (.cells (madeCells #[.bool false] R) 4)) w4.heap.size 4 (.slice (some ⟨w6.heap.size, 0, none⟩) R R) (bs.map Value.bool) ∧ OwnL (w6.alloc (.cells (madeCells #[.bool false] R) 4)) w4.heap.size 9 (.slice (some ⟨ga, 0, none⟩) R ca) (xs.map Value.string))
  have SB7 := hide (bt (unhide B6) (below_alloc w6 (.cells (madeCells #[.bool false] R) 4)))
  clear OA OB OA7 HFI OO6
  generalize (w6.alloc (.cells (madeCells #[.bool false] R) 4)) = W7 at *
  generalize w6.heap.size = gh at *
  go_loopw [15, 16] (fun mv iv wr => ∃ k m : Nat, k ≤ R ∧ m ≤ k ∧ iv = .int .i64 k ∧ mv = .int .i64 m ∧ Hid (∃ bs xs, FirstI d R (pcm t d) ds bs xs k m ∧ OwnL wr w4.heap.size 4 (.slice (some ⟨gh, 0, none⟩) R R) (bs.map Value.bool) ∧ OwnL wr w4.heap.size 9 (.slice (some ⟨ga, 0, none⟩) R ca) (xs.map Value.string)) ∧ Hid (Below w4.heap.size w4 wr)) (fun _ iv _ => R - (intOf iv).toNat)
  case atStart => exact ⟨0, 0, by omega, by omega, rfl, rfl, ST, SB7⟩
  case round =>
    clear ST SB7 B6 B5
    obtain ⟨k, m, hk, hmk', rfl, rfl, HX, HW⟩ := hrel
    obtain ⟨bs, xs, hF, hOB, hOA⟩ := unhide HX
    have bS := ((unhide HW).block _ (lt_of_block (unhide BS))).trans (unhide BS)
    obtain ⟨cs0, cs1⟩ := box_two bS
    clear bS HX
    by_cases hlt : k < R
    · have hlt' : (k : Int) < R := by omega
      have cb := own_bcell hOB k (by rw [hF.lb]; exact hlt)
      have fb := own_free hOB k
      have hgb : w4.heap.size ≤ gh := (hOB.lt (g := gh) rfl).1
      have hga : w4.heap.size ≤ ga := (hOA.lt (g := ga) rfl).1
      have hne : ga ≠ gh := fun e => apt_types hOA hOB (by decide) ga rfl (by rw [e]; rfl)
      have cT : ∀ b : Bool, (wr.setCell ⟨gh, k, none⟩ (.bool b)).cell? ⟨gh, k, none⟩ = some (.bool b) := fun b => by
        have h := own_put hOB k (.bool b)
        rw [← List.map_set] at h
        have h2 := own_bcell h k (by simp; rw [hF.lb]; exact hlt)
        have h3 : (bs.set k b).getD k false = b := has_set (by rw [hF.lb]; exact hlt)
        rw [h3] at h2
        exact h2
      have cT1 := cT true
      have cT0 := cT false
      clear cT
      have OB1 := hide (own_put hOB k (.bool true))
      have OB0 := hide (own_put hOB k (.bool false))
      have OA1 := hide (fun v : Value => hOA.keep (w' := wr.setCell ⟨gh, k, none⟩ v) (fun g hg => Below.heap_setCell _ _ _ _ (by
        have hgg : g = ga := by simpa [Value.ownBlock] using hg.symm
        rw [hgg]; exact hne)))
      have HBt := hide (fun v : Value => (unhide HW).setCell (p := ⟨gh, k, none⟩) hgb v)
      have cs2 : ∀ v : Value, (wr.setCell ⟨gh, k, none⟩ v).cell? ⟨w2.heap.size, 0, none⟩ = some (.int .i64 d) := fun v => (box_two (((unhide HBt v).block _ (lt_of_block (unhide BS))).trans (unhide BS))).1
      have HF := hide hF
      have hxk : (xs.getD k ByteArray.empty).size ≤ 4096 := by rw [hF.size k hlt]; exact Nat.le_trans (pcm_le t d) (by decide)
      have cA := own_scell ((unhide OA1) (.bool true)) k (by rw [hF.lx]; exact hlt)
      obtain ⟨y, ey⟩ : ∃ y, y = xs.getD k ByteArray.empty := ⟨_, rfl⟩
      have hyz : y.size = pcm t d := by rw [ey]; exact hF.size k hlt
      rw [← ey] at cA hxk
      have HYZ := hide hyz
      obtain ⟨u0, eu0⟩ : ∃ u0, u0 = bs.getD k false := ⟨_, rfl⟩
      rw [← eu0] at cb
      clear eu0 ey hyz hF hOB hOA
      by_cases tb : (bits .and .i64 (a3 / 2 ^ k) 1 == 1) = true
      · by_cases hmd : m < d
        · have hmd' : ¬ (d : Int) < (m : Int) + 1 := by omega
          go_wp2
          go_roundw
          case rel => exact ⟨k + 1, m + 1, by omega, by omega, by go_num, by go_num, hide ⟨bs.set k true, xs, (unhide HF).yes hlt hmd, by rw [List.map_set]; exact unhide OB1, (unhide OA1) _⟩, hide ((unhide HBt) _)⟩
          case measure => simp [intOf]; omega
        · have hmd' : (d : Int) < (m : Int) + 1 := by omega
          go_wp2_with (go_at_call 15; refine (lie_any y o _ hxk wo).mono ?_; rintro e w8 ⟨x, hx8, rfl, b8⟩; have OA8 := hide (((unhide OA1) (.bool true)).below b8); have OB8 := hide ((unhide OB1).below b8); have HB8 := hide (bt ((unhide HBt) (.bool true)) b8); have c8 := own_scell (unhide OA8) k (by rw [(unhide HF).lx]; exact hlt); have f8 := own_free (unhide OA8) k; have HX8 := hide hx8; clear hx8 b8)
          go_roundw
          case rel =>
            refine ⟨k + 1, m + 1, by omega, by omega, by go_num, by go_num, hide ⟨bs.set k true, xs.set k x, (unhide HF).more hlt hmd ((unhide HX8).trans (unhide HYZ)), ?_, ?_⟩, hide ((unhide HB8).setCell hga _)⟩
            · rw [List.map_set]
              exact (unhide OB8).keep (fun g hg => Below.heap_setCell _ _ _ _ (by
                have hgg : g = gh := by simpa [Value.ownBlock] using hg.symm
                rw [hgg]; exact Ne.symm hne))
            · rw [List.map_set]
              exact own_put (unhide OA8) k _
          case measure => simp [intOf]; omega
      · have tb : (bits .and .i64 (a3 / 2 ^ k) 1 == 1) = false := by simpa using tb
        by_cases tc : (R : Int) - (k : Int) ≤ (d : Int) - (m : Int)
        · by_cases hmd : m < d
          · have hmd' : ¬ (d : Int) < (m : Int) + 1 := by omega
            go_wp2
            go_roundw
            case rel => exact ⟨k + 1, m + 1, by omega, by omega, by go_num, by go_num, hide ⟨bs.set k true, xs, (unhide HF).yes hlt hmd, by rw [List.map_set]; exact unhide OB1, (unhide OA1) _⟩, hide ((unhide HBt) _)⟩
            case measure => simp [intOf]; omega
          · exfalso; omega
        · have tc2 : decide ((R : Int) - (k : Int) ≤ (d : Int) - (m : Int)) = false := by simpa using tc
          have TC := hide tc
          clear tc
          go_wp2
          go_roundw
          case rel => exact ⟨k + 1, m, by omega, by omega, by go_num, rfl, hide ⟨bs.set k false, xs, (unhide HF).no hlt (by have := unhide TC; omega), by rw [List.map_set]; exact unhide OB0, (unhide OA1) _⟩, hide ((unhide HBt) _)⟩
          case measure => simp [intOf]; omega
    · have hlt' : ¬ (k : Int) < R := by omega
      obtain rfl : k = R := by omega
      have hF' := hF
      rw [unhide ER] at hF'
      have hD := hide (first_end hF' h1 h2 (unhide HDL) (unhide HSZ) (Nat.le_trans (pcm_le t d) (by decide)))
      obtain ⟨ax, cx, ex, hSx⟩ := hOA.strs
      rw [hF.lx] at ex hSx
      simp only [Value.slice.injEq] at ex
      obtain ⟨rfl, _, rfl⟩ := ex
      have hBx : Bools wr (some ⟨gh, 0, none⟩) k k bs := ⟨hF.lb, .inr (.inr ⟨by omega, Nat.le_refl _, gh, 0, rfl, fun i hi => by rw [Nat.zero_add]; exact own_bcell hOB i (by rw [hF.lb]; exact hi)⟩)⟩
      have SX := hide hSx
      have BX := hide hBx
      have hbw := unhide HW
      replace SD := hide ((unhide SD).below hbw)
      replace HB := hide (bt (unhide HB) hbw)
      clear hF hF' hOB hOA hSx hBx hbw HW
      go_wp2_with fail
      refine (decDecode_any d 2 _ _ _ _ _ _ xs bs wr (unhide SX) (unhide BX) (by omega) (by omega) ((unhide MD).up (unhide HB))).mono ?_
      rintro e w9 ⟨v9, r9, hr9, rfl, O9, b9⟩
      obtain rfl := decR_one (unhide hD) hr9
      obtain ⟨p9, c9, rfl, S9⟩ := O9.strs
      replace SD := hide ((unhide SD).below b9)
      replace HB := hide (bt (unhide HB) b9)
      have T9 := hide S9
      clear O9 b9 S9 hr9 cs0 cs1
      go_wp2_with (go_at_call 10; refine (num_any _ _).mono ?_; rintro e w' ⟨rfl, rfl⟩)
      refine (sameTexts_any _ _ _ _ _ _ ds ds _ (unhide T9) (unhide SD) (by unfold maxLen; have := unhide HDL; show ds.length ≤ _; omega)).mono ?_
      rintro e w10 ⟨he, hdd⟩
      rw [decide_eq_true rfl] at he
      subst he
      replace HB := hide (bt (unhide HB) (below_drews hdd))
      clear hdd
      go_wp2
      go_ret
      exact ⟨rfl, unhide HB⟩
end Go.Proofs.YtncehpbghnokpaaDoor
