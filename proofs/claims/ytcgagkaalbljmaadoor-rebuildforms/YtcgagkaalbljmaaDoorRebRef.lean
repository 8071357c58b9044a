/- The document's own Rebuild (ossuaryref1). -/
import Derived.Test.YtcgagkaalbljmaaDoorRebMath
import Derived.Deep.Cut
namespace Go.Proofs.YtcgagkaalbljmaaDoor
open Go.RowKit
set_option linter.unusedVariables false
set_option linter.unusedSimpArgs false
attribute [local go_sem ↓] Go.wp_at_zero Go.wp_at_succ
set_option maxRecDepth 100000 in
set_option maxHeartbeats 2000000 in
theorem refRebuild_any (d p : Int) (a b : Option Addr) (n ca m cb : Nat) (ss : List ByteArray) (bs : List Bool) (w : World) (hs : Strs w a n ca ss) (hb : Bools w b m cb bs) (hn : n * 16 ≤ 140737488351232) (hm : m ≤ 140737488351232) :
    Calls Tryd.prog 9 #[.agg #[.int .i64 d, .int .i64 p], .slice a n ca, .slice b m cb] w (rebPost d p ss bs w) := by
  have HS := hide hs
  have HBs := hide hb
  clear hs hb
  go_enter Tryd.func9, Tryd.ntmps9
  go_upto_region 1 with fail
  have BS := hide (heap_alloc_new w (.cells #[.int .i64 d, .int .i64 p] 23))
  have HB := hide (below_alloc w (.cells #[.int .i64 d, .int .i64 p] 23))
  generalize (w.alloc (.cells #[.int .i64 d, .int .i64 p] 23)) = W at *
  obtain ⟨cs0, cs1⟩ := box_two (unhide BS)
  go_wp2_with fail
  refine (refDecode_any d p a b n ca m cb ss bs W ((unhide HS).below (unhide HB)) ((unhide HBs).below (unhide HB)) hn hm).mono ?_
  rintro e w1 ⟨v1, r1, hr1, rfl, O1, b1⟩
  obtain ⟨D, code⟩ := r1
  have HD := hide hr1
  have hcode := dec_code hr1
  have hlen := dec_len hr1
  simp only [] at O1 hcode hlen ⊢
  replace BS := hide ((b1.block _ (lt_of_block (unhide BS))).trans (unhide BS))
  have OW := hide (O1.mono (B' := w.heap.size) (unhide HB).size)
  replace HB := hide (bt (unhide HB) b1)
  have hszW := (unhide HB).size
  clear hr1 cs0 cs1 b1
  by_cases c7 : code = 700
  · subst c7
    clear hcode
    go_wp2
    go_ret2
    exact ⟨_, ([], 800), ⟨_, unhide HD, .inl ⟨rfl, rfl⟩⟩, rfl, OwnL.nil _ _ _, unhide HB⟩
  · by_cases c0 : code = 0
    · subst c0
      clear hcode c7
      obtain ⟨p1, c1, rfl, S1⟩ := O1.strs
      have SD := hide S1
      clear O1 S1
      obtain ⟨cs0, cs1⟩ := box_two (unhide BS)
      go_wp2_with fail
      refine (refEncode_fun d p p1 _ c1 D w1 (unhide SD) (by omega)).mono ?_
      rintro e w2 ⟨v2, rfl, O2, b2⟩
      have hlp := enc_len d p D
      obtain ⟨E, eE⟩ : ∃ E, E = (encF d p D).1 := ⟨_, rfl⟩
      rw [← eE] at O2 hlp
      obtain ⟨p2, c2, rfl, S2⟩ := O2.strs
      have SP := hide S2
      have OD := hide ((unhide OW).below b2)
      have OR : Hid (w2.ownsRow w.heap.size 9 1 (.slice p1 D.length c1) D.length (D.map Value.string)) := hide (by simpa [OwnL] using unhide OD)
      have HB2 := hide (bt (unhide HB) b2)
      have EE := hide eE
      have hs2 := (unhide HB2).size
      clear O2 b2 S2 eE OW HB cs0 cs1
      go_wp2_with (at_builtin; refine wpList_append_row w2 (by rfl) (.tmp 29) (.tmp 30) 24 (by rfl) w.heap.size 9 (.string ByteArray.empty) 16 Tryd.underlying24 Tryd.infoText rfl _ D.length (D.map Value.string) (by rfl) (unhide OR) p2 E.length c2 _ (E.map Value.string) (by rfl) (unhide SP).2 (by simp) (str_at rfl) (strs_oneCell _) (by unfold maxLen; omega) (by omega) hs2 ?_; intro v3 w3 O3 G3; have B3 := hide ((unhide HB2).grown G3 hs2 (fun k hk => ((unhide OD).lt hk).1)); have OO3 := hide O3; clear O3 G3)
      go_ret2
      refine ⟨_, (D ++ E, 0), ⟨_, unhide HD, .inr (.inr ⟨rfl, by rw [unhide EE]⟩)⟩, rfl, ?_, unhide B3⟩
      have h := unhide OO3
      unfold OwnL
      rw [List.map_append, List.length_append, List.length_map, List.length_map]
      exact h
    · have t7 : (code == 700) = false := by simpa using c7
      have t0 : (code != 0) = true := by simpa using c0
      clear hcode
      go_wp2
      go_ret2
      exact ⟨_, ([], 801), ⟨_, unhide HD, .inr (.inl ⟨c7, c0, rfl⟩)⟩, rfl, OwnL.nil _ _ _, unhide HB⟩
end Go.Proofs.YtcgagkaalbljmaaDoor
