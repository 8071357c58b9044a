/- Rebuilds: every Rebuild answers as the document's own; the shards stay. -/
import Derived.Test.YtcgagkaalbljmaaDoorAwake8
namespace Go.Proofs.YtcgagkaalbljmaaDoor
open Go.RowKit
set_option linter.unusedVariables false
set_option linter.unusedSimpArgs false
theorem rebR_len {d p : Int} {ss : List ByteArray} {bs : List Bool} {o : List ByteArray × Int} (h : rebR d p ss bs o) : o.1.length ≤ 6 := by
  obtain ⟨r, hr, h⟩ := h
  rcases h with ⟨_, rfl⟩ | ⟨_, _, rfl⟩ | ⟨_, rfl⟩
  · exact Nat.zero_le _
  · exact Nat.zero_le _
  · have h1 := dec_len hr
    have h2 := enc_len d p r.1
    show (_ ++ _ : List ByteArray).length ≤ 6
    rw [List.length_append]; omega
theorem dec_sizes {d p : Int} {ss : List ByteArray} {bs : List Bool} {r : List ByteArray × Int} (h : decR d p ss bs r) : ∀ i, (r.1.getD i ByteArray.empty).size ≤ 4096 := by
  intro i
  rcases h with ⟨_, rfl⟩ | ⟨_, _, rfl⟩ | ⟨h, hf, N, _, rfl⟩
  · simp
  · simp
  · have hs := h.1
    unfold ShpMay at hs
    have ha := h.2.2.2
    by_cases hi : i < d.toNat
    · have e : (backTo N ((hadL bs ss bs.length).take d.toNat) d.toNat).getD i ByteArray.empty = Vec.out (N.getD i []) ((hadL bs ss bs.length).take d.toNat) := by
        simp [backTo, List.getD, hi]
      show ((backTo N ((hadL bs ss bs.length).take d.toNat) d.toNat).getD i ByteArray.empty).size ≤ _
      rw [e, out_len]
      have e0 : ((hadL bs ss bs.length).take d.toNat).getD 0 ByteArray.empty = (hadL bs ss bs.length).getD 0 ByteArray.empty := by
        simp [List.getD, List.getElem?_take, show 0 < d.toNat by omega]
      rw [e0]
      exact (ha 0 (by rw [hadL_len]; omega)).2
    · have e : (backTo N ((hadL bs ss bs.length).take d.toNat) d.toNat).getD i ByteArray.empty = ByteArray.empty := by
        simp [backTo, List.getD, hi]
      show ((backTo N ((hadL bs ss bs.length).take d.toNat) d.toNat).getD i ByteArray.empty).size ≤ _
      rw [e]
      decide
theorem enc_sizes (d p : Int) (ss : List ByteArray) (h : (ss.getD 0 ByteArray.empty).size ≤ 4096) : ∀ i, ((encF d p ss).1.getD i ByteArray.empty).size ≤ 4096 := by
  intro i
  unfold encF
  split
  · by_cases hi : i < p.toNat
    · have e : (encTo d.toNat p.toNat ss p.toNat).getD i ByteArray.empty = Vec.out ((genM d.toNat p.toNat).getD (d.toNat + i) []) ss := by simp [encTo, List.getD, hi]
      show ((encTo d.toNat p.toNat ss p.toNat).getD i ByteArray.empty).size ≤ 4096
      rw [e, out_len]; exact h
    · have e : (encTo d.toNat p.toNat ss p.toNat).getD i ByteArray.empty = ByteArray.empty := by simp [encTo, List.getD, hi]
      show ((encTo d.toNat p.toNat ss p.toNat).getD i ByteArray.empty).size ≤ 4096
      rw [e]; decide
  · simp
theorem rebR_size {d p : Int} {ss : List ByteArray} {bs : List Bool} {o : List ByteArray × Int} (h : rebR d p ss bs o) : ∀ i, (o.1.getD i ByteArray.empty).size ≤ 140737488355328 := by
  intro i
  obtain ⟨r, hr, h⟩ := h
  rcases h with ⟨_, rfl⟩ | ⟨_, _, rfl⟩ | ⟨_, rfl⟩
  · simp
  · simp
  · have h1 := dec_sizes hr
    have h2 := enc_sizes d p r.1 (h1 0)
    show ((r.1 ++ (encF d p r.1).1).getD i ByteArray.empty).size ≤ _
    by_cases hi : i < r.1.length
    · have e : (r.1 ++ (encF d p r.1).1).getD i ByteArray.empty = r.1.getD i ByteArray.empty := by simp [List.getD, List.getElem?_append_left hi]
      rw [e]; have := h1 i; omega
    · have e : (r.1 ++ (encF d p r.1).1).getD i ByteArray.empty = (encF d p r.1).1.getD (i - r.1.length) ByteArray.empty := by simp [List.getD, List.getElem?_append_right (show r.1.length ≤ i by omega)]
      rw [e]; have := h2 (i - r.1.length); omega
theorem own_empty_at8 (w : World) (e : TypeId) (H : Nat) (h : w.heap.size = H) : (w.alloc (.cells #[] e)).ownsRow H e 1 (.slice (some ⟨H, 0, none⟩) 0 0) 0 [] := by subst h; exact own_empty w e
set_option maxRecDepth 100000 in
set_option maxHeartbeats 2000000 in
theorem Rebuilds_walk {w : World} (hM : Made w) (d p : Int) (a1 : Option Addr) (n1 c1 : Nat) (ss : List ByteArray) (h1 : Strs w a1 n1 c1 ss) (r1 : n1 * 16 ≤ 140737488351232) (q1 : ∀ x ∈ ss, x.size ≤ maxLen) (a2 : Option Addr) (n2 c2 : Nat) (bs : List Bool) (h2 : Bools w a2 n2 c2 bs) (r2 : n2 * 1 ≤ 140737488351232) :
    Calls Tryd.prog 3 #[.agg #[.int .i64 d, .int .i64 p], .slice a1 n1 c1, .slice a2 n2 c2] w fun e w' => e = .returned (.bool true) ∧ Below w.heap.size w w' := by
  have MD := hide hM
  clear hM
  have SD := hide h1
  have SB := hide h2
  clear h1 q1 h2
  have hx := below_alloc w (.cells #[.int .i64 d, .int .i64 p] 23)
  have SE := hide (((unhide SD).below hx).below (below_alloc (w.alloc (.cells #[.int .i64 d, .int .i64 p] 23)) (.cells #[] 9)))
  have OE := hide (own_empty_at8 (w.alloc (.cells #[.int .i64 d, .int .i64 p] 23)) 9 (w.heap.size + 1) (by simp))
  have B0 := hide (heap_alloc_new w (.cells #[.int .i64 d, .int .i64 p] 23))
  have hb2 : Below w.heap.size w ((w.alloc (.cells #[.int .i64 d, .int .i64 p] 23)).alloc (.cells #[] 9)) := below_two _ _ _
  have B1 := hide (two_old w (.cells #[.int .i64 d, .int .i64 p] 23) (.cells #[] 9))
  have HB0 := hide hb2
  clear hb2 hx
  go_enter Tryd.func3, Tryd.ntmps3
  go_wp2_with (at_builtin; refine wpList_append_row _ (by rfl) _ _ 24 (by rfl) (w.heap.size + 1) 9 (.string ByteArray.empty) 16 Tryd.underlying24 Tryd.infoText rfl _ _ _ (by rfl) (unhide OE) a1 n1 c1 _ (ss.map Value.string) (by rfl) (unhide SE).2 (by simpa using (unhide SE).1) (str_at (unhide SE).1) (strs_oneCell _) (by unfold maxLen; omega) (by omega) (by simp; try omega) ?_; intro v' w2 hown2 hgrow2; simp only [Nat.zero_add, List.nil_append] at hown2; have hblk : w2.heap[w.heap.size]? = some (.cells #[.int .i64 d, .int .i64 p] 23 (0, 0)) := (hgrow2.block _ (by simp; try omega) (by simp [Value.ownBlock])).trans (unhide B1); have hbel : Below w.heap.size w w2 := (unhide HB0).grown hgrow2 (by simp; try omega) (by intro k hk; simp [Value.ownBlock] at hk; omega); have hszw : w.heap.size + 1 ≤ w2.heap.size := lt_of_block hblk; obtain ⟨ax, cx, hv, hS2⟩ := own_strs hown2 (unhide SE).1; subst hv; have HS2 := hide hS2; have BS := hide hblk; have HB := hide hbel; have cs0 := (box_two hblk).1; have cs1 := (box_two hblk).2; clear hS2 hown2 hgrow2 hblk hbel)
  clear SE OE B0 B1 HB0
  replace SD := hide ((unhide SD).below (unhide HB))
  replace SB := hide ((unhide SB).below (unhide HB))
  have HB2 := HB
  have SD2 := SD
  have SX2 := HS2
  refine (rebRebuild_any d p _ _ _ _ _ _ ss bs w2 (unhide HS2) (unhide SB) r1 (by omega) ((unhide MD).up (unhide HB))).mono ?_
  rintro e w3 ⟨v3, r3, hr3, rfl, O3, b3⟩
  have hl3 := rebR_len hr3
  obtain ⟨p3, c3, rfl, S3⟩ := O3.strs
  have K2 := hide b3
  replace BS := hide ((b3.block _ (lt_of_block (unhide BS))).trans (unhide BS))
  replace SD := hide ((unhide SD).below b3)
  replace HS2 := hide ((unhide HS2).below b3)
  replace SB := hide ((unhide SB).below b3)
  have T3 := hide S3
  have HO3 := hide O3
  have HR3 := hide hr3
  clear O3 b3 S3 cs0 cs1 hr3
  obtain ⟨cs0, cs1⟩ := box_two (unhide BS)
  go_wp2_with fail
  refine (refRebuild_any d p _ _ _ _ _ _ ss bs w3 (unhide SD) (unhide SB) r1 (by omega)).mono ?_
  rintro e w4 ⟨v4, r4, hr4, rfl, O4, b4⟩
  obtain rfl := rebR_one (unhide HR3) hr4
  obtain ⟨p4, c4, rfl, S4⟩ := O4.strs
  replace SD := hide ((unhide SD).below b4)
  replace HS2 := hide ((unhide HS2).below b4)
  replace T3 := hide ((unhide T3).below b4)
  have K3 := hide b4
  replace K2 := hide (bt (unhide K2) b4)
  have T4 := hide S4
  clear O4 b4 S4 cs0 cs1 BS hr4
  go_wp2_with fail
  refine (sameTexts_any _ _ _ _ _ _ r3.1 r3.1 w4 (unhide T3) (unhide T4) (by unfold maxLen; omega)).mono ?_
  rintro e w5 ⟨he, hd⟩
  rw [decide_eq_true rfl] at he
  subst he
  have b5 := below_drews (B := w4.heap.size) hd
  replace K2 := hide (bt (unhide K2) b5)
  replace K3 := hide (bt (unhide K3) b5)
  clear hd b5
  go_wp2_with (go_at_call 11; refine (num_any _ _).mono ?_; rintro e w' ⟨rfl, rfl⟩)
  have O5 := (unhide HO3).keep (w' := w') (fun g hg => (unhide K3).block g ((unhide HO3).lt hg).2)
  refine (spoilTexts_any w2.heap.size 9 _ _ w' O5 (by unfold maxLen; omega) (rebR_size (unhide HR3))).mono ?_
  rintro e w6 ⟨rfl, _, b6⟩
  have hall : Below w2.heap.size w2 w6 := (unhide K2).trans b6
  replace SD2 := hide ((unhide SD2).below hall)
  replace SX2 := hide ((unhide SX2).below hall)
  replace HB2 := hide (bt (unhide HB2) hall)
  clear hall b6 O5 K2 K3 HO3 T3 T4
  go_wp2_with fail
  refine (sameTexts_any _ _ _ _ _ _ ss ss w6 (unhide SX2) (unhide SD2) (by unfold maxLen; omega)).mono ?_
  rintro e w7 ⟨he, hd⟩
  rw [decide_eq_true rfl] at he
  subst he
  replace HB2 := hide (bt (unhide HB2) (below_drews hd))
  clear hd
  go_wp2_with fail
  refine (awake8_any _ ((unhide MD).up (unhide HB2))).mono ?_
  rintro e w8 ⟨rfl, b8⟩
  replace HB2 := hide (bt (unhide HB2) b8)
  clear b8
  go_wp2
  go_ret
  exact ⟨rfl, unhide HB2⟩
end Go.Proofs.YtcgagkaalbljmaaDoor
