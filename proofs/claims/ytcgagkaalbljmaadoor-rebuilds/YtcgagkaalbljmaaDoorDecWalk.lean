/- Package decode: Decode: the walk. -/
import Derived.Test.YtcgagkaalbljmaaDoorDecW2
namespace Go.Proofs.YtcgagkaalbljmaaDoor
open Go.RowKit
set_option linter.unusedVariables false
set_option linter.unusedSimpArgs false
open Vec (alikeTo numsTo May)
set_option maxRecDepth 100000 in
set_option maxHeartbeats 2000000 in
theorem decDecode_no (d p : Int) (a b : Option Addr) (n ca m cb : Nat) (w : World) (hn : n ≤ 140737488351232) (hm : m ≤ 140737488351232) (h : ¬ ShpMay d p ∨ (n : Int) ≠ d + p ∨ m ≠ n) (hM : Made w) :
    Calls Tryd.prog 17 #[.agg #[.int .i64 d, .int .i64 p], .slice a n ca, .slice b m cb] w fun e w' => e = .returned (.tuple #[.slice none 0 0, .int .i64 700]) ∧ Below w.heap.size w w' := by
  have MD := hide hM
  clear hM
  by_cases h1 : ShpMay d p
  · have H1 := hide h1
    have hd1 : 1 ≤ d := h1.1
    have hd2 : d ≤ 4 := h1.2.1
    have hp1 : 0 ≤ p := h1.2.2.1
    have hp2 : p ≤ 2 := h1.2.2.2
    by_cases h2 : (n : Int) = d + p
    · have h3 : m ≠ n := by
        rcases h with h | h | h
        · exact absurd h1 h
        · exact absurd h2 h
        · exact h
      have t1 : ((n : Int) != d + p) = false := by simp [h2]
      have t2 : ((m : Int) != (n : Int)) = true := by simp; omega
      clear h h1 h2 h3
      go_enter Tryd.func17, Tryd.ntmps17
      go_wp2_with fail
      have BS := hide (heap_alloc_new w (.cells #[.int .i64 d, .int .i64 p] 23))
      have HB := hide (below_alloc w (.cells #[.int .i64 d, .int .i64 p] 23))
      generalize (w.alloc (.cells #[.int .i64 d, .int .i64 p] 23)) = W0 at *
      refine (genMay_yes d p W0 (unhide H1) ((unhide MD).up (unhide HB))).mono ?_
      rintro e w1 ⟨rfl, b1⟩
      replace BS := hide ((b1.block _ (lt_of_block (unhide BS))).trans (unhide BS))
      replace HB := hide (bt (unhide HB) b1)
      clear b1
      obtain ⟨c0, c1⟩ := box_two (unhide BS)
      go_wp2
      go_ret2
      exact ⟨rfl, unhide HB⟩
    · have t1 : ((n : Int) != d + p) = true := by simp; omega
      clear h h1 h2
      go_enter Tryd.func17, Tryd.ntmps17
      go_wp2_with fail
      have BS := hide (heap_alloc_new w (.cells #[.int .i64 d, .int .i64 p] 23))
      have HB := hide (below_alloc w (.cells #[.int .i64 d, .int .i64 p] 23))
      generalize (w.alloc (.cells #[.int .i64 d, .int .i64 p] 23)) = W0 at *
      refine (genMay_yes d p W0 (unhide H1) ((unhide MD).up (unhide HB))).mono ?_
      rintro e w1 ⟨rfl, b1⟩
      replace BS := hide ((b1.block _ (lt_of_block (unhide BS))).trans (unhide BS))
      replace HB := hide (bt (unhide HB) b1)
      clear b1
      obtain ⟨c0, c1⟩ := box_two (unhide BS)
      go_wp2
      go_ret2
      exact ⟨rfl, unhide HB⟩
  · have H1 := hide h1
    clear h h1
    go_enter Tryd.func17, Tryd.ntmps17
    go_wp2_with fail
    have HB := hide (below_alloc w (.cells #[.int .i64 d, .int .i64 p] 23))
    generalize (w.alloc (.cells #[.int .i64 d, .int .i64 p] 23)) = W0 at *
    refine (genMay_no d p W0 (unhide H1)).mono ?_
    rintro e w1 ⟨rfl, b1⟩
    replace HB := hide (bt (unhide HB) b1)
    clear b1
    go_wp2
    go_ret2
    exact ⟨rfl, unhide HB⟩
set_option maxRecDepth 100000 in
set_option maxHeartbeats 4000000 in
theorem decDecode_go (d p R : Nat) (a b : Option Addr) (ca cb : Nat) (ss : List ByteArray) (bs : List Bool) (w : World) (hs : Strs w a R ca ss) (hb : Bools w b R cb bs) (h1 : 1 ≤ d) (h2 : d ≤ 4) (h3 : p ≤ 2) (hR : R = d + p) (hM : Made w) :
    Calls Tryd.prog 17 #[.agg #[.int .i64 d, .int .i64 p], .slice a R ca, .slice b R cb] w (decPost d p ss bs w) := by
  have MD := hide hM
  have HS := hide hs
  have HBB := hide hb
  have HLS := hide hs.1
  have HLB := hide hb.1
  have H1 : Hid (ShpMay d p) := hide (by unfold ShpMay; omega)
  have hR6 : R ≤ 6 := by omega
  have hR1 : 1 ≤ R := by omega
  have t1 : ((R : Int) != (d : Int) + (p : Int)) = false := by simp; omega
  have t2 : ((R : Int) != (R : Int)) = false := by simp
  have ER := hide hR
  clear hs hb hR hM
  go_enter Tryd.func17, Tryd.ntmps17
  go_wp2_with fail
  have BS := hide (heap_alloc_new w (.cells #[.int .i64 d, .int .i64 p] 23))
  have HB := hide (below_alloc w (.cells #[.int .i64 d, .int .i64 p] 23))
  generalize (w.alloc (.cells #[.int .i64 d, .int .i64 p] 23)) = W0 at *
  refine (genMay_yes d p W0 (unhide H1) ((unhide MD).up (unhide HB))).mono ?_
  rintro e w1 ⟨rfl, b1⟩
  replace BS := hide ((b1.block _ (lt_of_block (unhide BS))).trans (unhide BS))
  replace HB := hide (bt (unhide HB) b1)
  clear b1
  obtain ⟨c0, c1⟩ := box_two (unhide BS)
  go_wp2_with fail
  clear c0 c1 t1 t2
  refine (decHad_any R a b ca cb ss bs w1 ((unhide HS).below (unhide HB)) ((unhide HBB).below (unhide HB)) hR1 hR6).mono ?_
  rintro e w2 ⟨v1, v2, rfl, O1, O2, b2⟩
  have hle := rowsL_le bs R
  obtain ⟨p1, q1, e1, hI⟩ := O1.ints
  rw [ofNats_len] at e1 hI
  obtain ⟨p2, q2, e2, hT⟩ := O2.strs
  rw [hadL_len] at e2 hT
  obtain ⟨L, eL⟩ : ∃ L, L = (rowsL bs R).length := ⟨_, rfl⟩
  rw [← eL] at e1 e2 hle hI hT
  subst e1 e2
  have EL := hide eL
  have HI := hide hI
  have HT := hide hT
  have hL6 : L ≤ 6 := by omega
  replace BS := hide ((b2.block _ (lt_of_block (unhide BS))).trans (unhide BS))
  replace HB := hide (bt (unhide HB) b2)
  clear eL hI hT hle O1 O2 b2
  go_wp2_with fail
  refine (decLen_any _ _ _ _ w2 (unhide HT) (by omega)).mono ?_
  rintro e w3 ⟨rfl, b3⟩
  replace BS := hide ((b3.block _ (lt_of_block (unhide BS))).trans (unhide BS))
  replace HI := hide ((unhide HI).below b3)
  replace HT := hide ((unhide HT).below b3)
  replace HB := hide (bt (unhide HB) b3)
  clear b3
  by_cases ha : alikeTo (hadL bs ss R) (hadL bs ss R).length
  · rw [decide_eq_true ha]
    have HF : Hid (DecForm d p ss bs) := hide ⟨unhide H1, by rw [unhide HLS, unhide ER]; simp, by rw [unhide HLB, unhide HLS], by rw [unhide HLB]; exact ha⟩
    clear ha
    obtain ⟨c0, c1⟩ := box_two (unhide BS)
    by_cases hf : L < d
    · have hf' : (L : Int) < d := by omega
      go_wp2
      go_ret2
      exact ⟨_, ([], 701), .inr (.inl ⟨unhide HF, by rw [unhide HLB, ← unhide EL]; exact hf', rfl⟩), rfl, OwnL.nil _ _ _, unhide HB⟩
    · have hf' : ¬ (L : Int) < d := by omega
      have hLd : d ≤ L := by omega
      obtain ⟨br, orr, rfl, hqr⟩ : ∃ b o, p1 = some ⟨b, o, none⟩ ∧ L ≤ q1 := by
        rcases (unhide HI).2 with ⟨_, h, _⟩ | ⟨h, _⟩ | ⟨_, h, b, o, e, _⟩
        · omega
        · omega
        · exact ⟨b, o, e, h⟩
      obtain ⟨bh, oh, rfl, hqh⟩ : ∃ b o, p2 = some ⟨b, o, none⟩ ∧ L ≤ q2 := by
        rcases (unhide HT).2 with ⟨_, h, _⟩ | ⟨h, _⟩ | ⟨_, h, b, o, e, _⟩
        · omega
        · omega
        · exact ⟨b, o, e, h⟩
      have hd1 : (d : Int) ≤ q1 := by omega
      have hd1n : d ≤ q1 := by omega
      have hd2 : (d : Int) ≤ q2 := by omega
      have hd2n : d ≤ q2 := by omega
      have q0 := kept_cell (B := w3.heap.size) c0 (cell_lt c0)
      have q9 := kept_cell (B := w3.heap.size) c1 (cell_lt c1)
      go_wp2_with fail
      refine wp_region_ord (S := Below w3.heap.size w3) [(true, 0), (true, 1), (true, 2), (true, 3), (true, 4), (true, 5), (true, 6), (true, 7), (true, 8), (false, 9), (true, 10), (true, 11)] (by kernel_rfl) (by kernel_rfl) (by kernel_rfl) (by kernel_rfl) ((Below.refl _ _).drew) ?_
      simp only [withOps, List.map_cons, List.map_nil, List.getElem?_cons_succ, List.getElem?_cons_zero]
      repeat (refine walkH_read (by rfl) (by (intro gx; go_simp; try (with_reducible rfl))) ?_; try simp only [Act.put, List.setIfInBounds_toArray, List.set_cons_zero, List.set_cons_succ])
      refine walkH_do rfl (fun K hK => ?_)
      go_simp
      refine (decSolve_any d p _ _ _ _ ss bs _ (by rw [unhide HLB, show ofNats ((rowsL bs R).take d) = (ofNats (rowsL bs R)).take d from List.map_take ..]; exact ((unhide HI).below ((Below.refl _ _).drew)).take hLd (by omega)) (by rw [unhide HLB]; exact ((unhide HT).below ((Below.refl _ _).drew)).take hLd (by omega)) h1 h2 h3 (by rw [unhide HLB, ← unhide EL]; exact hLd) (by rw [unhide HLB]; exact unhide ER) (unhide HF).2.2.2 ((unhide MD).up (bt (unhide HB) ((Below.refl _ _).drew)))).mono ?_
      rintro e w4 ⟨v, N, hN, rfl, O4, b4⟩
      have hb4 : Below w3.heap.size w3 w4 := ((Below.refl _ _).drew).trans b4
      refine hK _ _ hb4 ?_
      clear hK K
      try simp only [Act.put, List.setIfInBounds_toArray, List.set_cons_zero, List.set_cons_succ]
      have HN := hide hN
      have HO := hide O4
      have HS3 := hide (unhide HB).size
      replace HB := hide (bt (unhide HB) hb4)
      clear hN O4 b4 hb4 c0 c1 q0 q9
      repeat (refine walkH_read (by rfl) (by (intro gx; go_simp; try (with_reducible rfl))) ?_; try simp only [Act.put, List.setIfInBounds_toArray, List.set_cons_zero, List.set_cons_succ])
      refine walkH_nil ?_
      refine NoPanic.normal ?_
      go_wp2
      go_ret2
      refine ⟨_, (backTo N ((hadL bs ss bs.length).take d) d, 0), .inr (.inr ⟨unhide HF, by rw [unhide HLB, ← unhide EL]; omega, N, ?_, ?_⟩), rfl, (unhide HO).mono (unhide HS3), unhide HB⟩
      · rw [Int.toNat_natCast, Int.toNat_natCast]; exact unhide HN
      · rw [Int.toNat_natCast]
  · rw [decide_eq_false ha]
    have HN : Hid (¬ DecForm d p ss bs) := hide (fun h => ha (by
      have := h.2.2.2
      rw [unhide HLB] at this
      exact this))
    clear ha
    go_wp2
    go_ret2
    exact ⟨_, ([], 700), .inl ⟨unhide HN, rfl⟩, rfl, OwnL.nil _ _ _, unhide HB⟩
theorem decDecode_any (d p : Int) (a b : Option Addr) (n ca m cb : Nat) (ss : List ByteArray) (bs : List Bool) (w : World) (hs : Strs w a n ca ss) (hb : Bools w b m cb bs) (hn : n * 16 ≤ 140737488351232) (hm : m ≤ 140737488351232) (hM : Made w) :
    Calls Tryd.prog 17 #[.agg #[.int .i64 d, .int .i64 p], .slice a n ca, .slice b m cb] w (decPost d p ss bs w) := by
  have hls := hs.1
  have hlb := hb.1
  by_cases h : ¬ ShpMay d p ∨ (n : Int) ≠ d + p ∨ m ≠ n
  · refine (decDecode_no d p a b n ca m cb w (by omega) hm h hM).mono ?_
    rintro e w' ⟨rfl, hB⟩
    refine ⟨_, ([], 700), .inl ⟨fun hf => ?_, rfl⟩, rfl, OwnL.nil _ _ _, hB⟩
    obtain ⟨f1, f2, f3, _⟩ := hf
    rcases h with h | h | h
    · exact h f1
    · exact h (by rw [← hls]; exact f2)
    · exact h (by rw [← hls, ← hlb]; exact f3)
  · have h1 : ShpMay d p := Classical.byContradiction fun q => h (.inl q)
    have h2 : (n : Int) = d + p := Classical.byContradiction fun q => h (.inr (.inl q))
    have h3 : m = n := Classical.byContradiction fun q => h (.inr (.inr q))
    have h4 := h1
    unfold ShpMay at h4
    obtain ⟨d', rfl⟩ : ∃ x : Nat, d = x := ⟨d.toNat, by omega⟩
    obtain ⟨p', rfl⟩ : ∃ x : Nat, p = x := ⟨p.toNat, by omega⟩
    subst h3
    exact decDecode_go d' p' m a b ca cb ss bs w hs hb (by omega) (by omega) (by omega) (by omega) hM
end Go.Proofs.YtcgagkaalbljmaaDoor
