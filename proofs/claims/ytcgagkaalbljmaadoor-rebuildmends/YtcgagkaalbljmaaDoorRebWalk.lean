/- Package rebuild: Rebuild: the walk. -/
import Derived.Test.YtcgagkaalbljmaaDoorRebRef
import Derived.Test.YtcgagkaalbljmaaDoorDecWalk
import Derived.Test.YtcgagkaalbljmaaDoorConcatW
import Derived.Deep.Cut
namespace Go.Proofs.YtcgagkaalbljmaaDoor
open Go.RowKit
set_option linter.unusedVariables false
set_option linter.unusedSimpArgs false
attribute [local go_sem ↓] Go.wp_at_zero Go.wp_at_succ
set_option maxRecDepth 100000 in
set_option maxHeartbeats 2000000 in
theorem rebRebuild_any (d p : Int) (a b : Option Addr) (n ca m cb : Nat) (ss : List ByteArray) (bs : List Bool) (w : World) (hs : Strs w a n ca ss) (hb : Bools w b m cb bs) (hn : n * 16 ≤ 140737488351232) (hm : m ≤ 140737488351232) (hM : Made w) :
    Calls Tryd.prog 8 #[.agg #[.int .i64 d, .int .i64 p], .slice a n ca, .slice b m cb] w (rebPost d p ss bs w) := by
  have HS := hide hs
  have HBs := hide hb
  have MD := hide hM
  clear hs hb hM
  go_enter Tryd.func8, Tryd.ntmps8
  go_upto_region 1 with fail
  have BS := hide (heap_alloc_new w (.cells #[.int .i64 d, .int .i64 p] 23))
  have HB := hide (below_alloc w (.cells #[.int .i64 d, .int .i64 p] 23))
  generalize (w.alloc (.cells #[.int .i64 d, .int .i64 p] 23)) = W at *
  obtain ⟨cs0, cs1⟩ := box_two (unhide BS)
  go_wp2_with fail
  refine (decDecode_any d p a b n ca m cb ss bs W ((unhide HS).below (unhide HB)) ((unhide HBs).below (unhide HB)) hn hm ((unhide MD).up (unhide HB))).mono ?_
  rintro e w1 ⟨v1, r1, hr1, rfl, O1, b1⟩
  obtain ⟨D, code⟩ := r1
  have HD := hide hr1
  have hcode := dec_code hr1
  have hlen := dec_len hr1
  simp only [] at O1 hcode hlen ⊢
  replace BS := hide ((b1.block _ (lt_of_block (unhide BS))).trans (unhide BS))
  have OW := hide (O1.mono (B' := w.heap.size) (unhide HB).size)
  replace HB := hide (bt (unhide HB) b1)
  have hszW := (unhide HB).size
  clear hr1 cs0 cs1 b1
  by_cases c7 : code = 700
  · subst c7
    clear hcode
    go_wp2
    go_ret2
    exact ⟨_, ([], 800), ⟨_, unhide HD, .inl ⟨rfl, rfl⟩⟩, rfl, OwnL.nil _ _ _, unhide HB⟩
  · by_cases c0 : code = 0
    · subst c0
      clear hcode c7
      obtain ⟨p1, c1, rfl, S1⟩ := O1.strs
      have SD := hide S1
      clear O1 S1
      obtain ⟨cs0, cs1⟩ := box_two (unhide BS)
      go_wp2_with fail
      refine (encEncode_fun d p p1 _ c1 D w1 (unhide SD) (by omega) ((unhide MD).up (unhide HB))).mono ?_
      rintro e w2 ⟨v2, rfl, O2, b2⟩
      have hlp := enc_len d p D
      obtain ⟨E, eE⟩ : ∃ E, E = (encF d p D).1 := ⟨_, rfl⟩
      rw [← eE] at O2 hlp
      obtain ⟨p2, c2, rfl, S2⟩ := O2.strs
      have SP := hide S2
      have OD := hide ((unhide OW).below b2)
      have HB2 := hide (bt (unhide HB) b2)
      have EE := hide eE
      have SD2 := hide ((unhide SD).below b2)
      clear O2 b2 S2 eE OW HB cs0 cs1
      go_wp2_with fail
      have B3 := hide (heap_alloc_new w2 (.cells #[.slice p1 D.length c1, .slice p2 E.length c2] 24))
      have HB3 := hide (below_alloc w2 (.cells #[.slice p1 D.length c1, .slice p2 E.length c2] 24))
      generalize (w2.alloc (.cells #[.slice p1 D.length c1, .slice p2 E.length c2] 24)) = W3 at *
      refine (concat_any w2.heap.size 0 2 2 (fun i => if i = 0 then p1 else p2) (fun i => if i = 0 then c1 else c2) [D, E] W3 rfl (by omega) ?_ ?_ ?_).mono ?_
      · intro i hi
        have h : i = 0 ∨ i = 1 := by omega
        rcases h with rfl | rfl
        · rw [cell_of_row _ _ _ _ _ _ (unhide B3)]; rfl
        · rw [cell_of_row _ _ _ _ _ _ (unhide B3)]; rfl
      · intro i hi
        have h : i = 0 ∨ i = 1 := by omega
        rcases h with rfl | rfl
        · exact (unhide SD2).below (unhide HB3)
        · exact (unhide SP).below (unhide HB3)
      · simp only [List.flatten_cons, List.flatten_nil, List.length_append, List.length_nil]; omega
      rintro e w3 ⟨v3, rfl, O3, b3⟩
      have HB4 := hide (bt (bt (unhide HB2) (unhide HB3)) b3)
      have OO3 := hide (O3.mono (B' := w.heap.size) (Nat.le_trans (unhide HB2).size (unhide HB3).size))
      clear O3 b3
      go_wp2
      go_ret2
      refine ⟨_, (D ++ E, 0), ⟨_, unhide HD, .inr (.inr ⟨rfl, by rw [unhide EE]⟩)⟩, rfl, ?_, unhide HB4⟩
      simpa using unhide OO3
    · have c1 : code = 701 := by omega
      subst c1
      clear hcode
      go_wp2
      go_ret2
      exact ⟨_, ([], 801), ⟨_, unhide HD, .inr (.inl ⟨c7, c0, rfl⟩)⟩, rfl, OwnL.nil _ _ _, unhide HB⟩
end Go.Proofs.YtcgagkaalbljmaaDoor
