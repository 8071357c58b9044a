/- The Go text of the statement FrameTurned returns true, whatever the numbers. -/
import Derived.Test.YtmphbajnadbggaaAwake14
import Derived.Test.YtmphbajnadbggaaFrLows
import Derived.Deep.Cut
namespace Go.Proofs.Ytmphbajnadbggaa
open Go.RowKit
set_option linter.unusedVariables false
set_option linter.unusedSimpArgs false
theorem lows_frmay (i j : Nat) (hi : (i : Int) < 24) (hj : (j : Int) < 6) (b : Nat) (xs : List Int) (k : Nat) (hk : k ≤ 3) (hx : k ≤ xs.length) : FrMay (i : Int) (j : Int) (textS b) (nint (lows xs k)) := by
  refine ⟨⟨by omega, hi⟩, ⟨by omega, hj⟩, textS_size b, fun y hy => ?_, by rw [nint_len, lows_len _ _ hx]; exact hk⟩
  unfold nint at hy
  obtain ⟨z, hz, rfl⟩ := List.mem_map.1 hy
  have := lows_may' xs k z hz
  exact ⟨by omega, by omega⟩
set_option maxRecDepth 100000 in
set_option maxHeartbeats 4000000 in
theorem FrameTurned_walk {w : World} (a0 : Int) (wf0 : (Lit.int .i64 a0).wf = true) (a1 : Int) (wf1 : (Lit.int .i64 a1).wf = true) (a2 : Int) (wf2 : (Lit.int .i64 a2).wf = true)
    (a3 : Option Addr) (n3 c3 : Nat) (xs : List Int) (h3 : Ints w a3 n3 c3 xs) (r3 : n3 * 8 ≤ 140737488351232) (wf3 : ∀ x ∈ xs, (Lit.int .i64 x).wf = true)
    (a4 : Int) (wf4 : (Lit.int .i64 a4).wf = true) (a5 : Int) (wf5 : (Lit.int .i64 a5).wf = true) :
    Calls Try.prog 4 #[.int .i64 a0, .int .i64 a1, .int .i64 a2, .slice a3 n3 c3, .int .i64 a4, .int .i64 a5] w fun e w' => e = .returned (.bool true) ∧ Below w.heap.size w w' := by
  have H3 := hide h3
  have hlen := h3.1
  clear h3 wf0 wf1 wf2 wf3 wf4 wf5
  obtain ⟨si, hsi, esi⟩ := modT a0 24 (by decide) (by decide)
  obtain ⟨sj, hsj, esj⟩ := modT a1 6 (by decide) (by decide)
  obtain ⟨u, hu, eu⟩ : ∃ u : Nat, u < 256 ∧ a2 % 256 = (u : Int) := ⟨(a2 % 256).toNat, by omega, by omega⟩
  go_enter Try.func4, Try.ntmps4
  go_wp2_with fail
  refine (awake14_any _).mono ?_
  rintro e w1 ⟨rfl, b1⟩
  have HW1 := hide b1
  have hs1 := b1.size
  clear b1
  go_upto_region 4 with fail
  simp only [esi, esj]
  clear esi esj
  go_wp2
  go_loopw [15, 16] (fun ov iv wr => ∃ j : Nat, j ≤ n3 ∧ j ≤ 3 ∧ iv = .int .i64 j ∧ Hid (OwnL wr w.heap.size 3 ov ((nint (lows xs j)).map (Value.int .i64))) ∧ Hid (Below w.heap.size w wr)) (fun _ iv _ => 3 - (intOf iv).toNat)
  case atStart => exact ⟨0, by omega, by omega, rfl, hide (OwnL.nil _ _ _), HW1⟩
  case round =>
    obtain ⟨j, hj, hj3, rfl, HO, HW⟩ := hrel
    obtain ⟨pv, cv, ev⟩ := (unhide HO).form
    rw [List.length_map, nint_len, lows_len _ _ (by omega)] at ev
    subst ev
    have hszW := (unhide HW).size
    by_cases hlt : j < n3 ∧ j < 3
    · have hlt1 : (j : Int) < n3 := by omega
      have hlt2 : (j : Int) < 3 := by omega
      obtain ⟨b, o, ea, hcell⟩ : ∃ b off, a3 = some ⟨b, off, none⟩ ∧ ∀ i, i < n3 → wr.cell? ⟨b, off + i, none⟩ = some (.int .i64 (xs.getD i 0)) := by
        rcases ((unhide H3).below (unhide HW)).2.two with h | h
        · omega
        · exact h
      subst ea
      have cj := hcell j hlt.1
      clear hcell
      obtain ⟨x, ex⟩ : ∃ x, x = xs.getD j 0 := ⟨_, rfl⟩
      rw [← ex] at cj
      have EX := hide ex
      clear ex
      have hlow : (x % 4294967296 / 4) = ((low30 x : Nat) : Int) := by unfold low30; omega
      have HLOW := hide hlow
      have hll := lows_len xs j (by omega)
      clear hlow
      go_wp2_with (at_builtin; refine wpList_push wr (by rfl) (.tmp 53) (.tmp 61) 22 (by rfl) w.heap.size 3 (.int .i64 0) 8 Try.underlying22 Try.infoInt rfl _ _ (by rfl) (unhide HO) _ (by rfl) (by rfl) (by simp [nint_len, hll]; omega) (by omega) hszW ?_; intro v1 wa O1 P1; have HBa := hide (P1.below (unhide HO) (unhide HW) (Nat.le_refl _) hszW); have HO1 := hide O1; clear O1 P1 HO HW)
      go_roundw
      case rel =>
        refine ⟨j + 1, by omega, by omega, by go_num, hide ?_, HBa⟩
        have := unhide HO1
        rw [unhide HLOW, unhide EX] at this
        rw [lows_snoc _ _ (by omega)]
        simpa [nint] using this
      case measure => simp [intOf]; omega
    · have hex : (¬ (j : Int) < n3) ∨ ((j : Int) < n3 ∧ ¬ (j : Int) < 3) := by omega
      clear hlt
      have hm := lows_frmay si sj hsi hsj u xs j hj3 (by omega)
      have hll := lows_len xs j (by omega)
      obtain ⟨p', c', e', hI⟩ := (unhide HO).ints
      simp only [Value.slice.injEq, nint_len, hll, true_and] at e'
      obtain ⟨e1, e2⟩ := e'
      subst e1 e2
      rw [nint_len, hll] at hI
      have HI := hide hI
      have HM := hide hm
      obtain ⟨l, el⟩ : ∃ l, l = nint (lows xs j) := ⟨_, rfl⟩
      rw [← el] at HI HM HO
      clear hI hm hll el
      rcases hex with h1 | ⟨h1, h2⟩
      all_goals
        go_wp2_with fail
        refine (text_any u hu _).mono ?_
        rintro e w2 ⟨rfl, b2⟩
        replace HI := hide ((unhide HI).below b2)
        replace HW := hide (bt (unhide HW) b2)
        clear b2
        go_wp2_with fail
        refine (framePut_any si sj (textS u) _ j cv l _ (unhide HI) (by omega)).mono ?_
        rintro e w3 ⟨he, b3⟩
        rw [show putF si sj (textS u) l = (frB si sj (textS u) l, 0) from if_pos (unhide HM)] at he
        replace he : e = Ending.returned (.tuple #[.string (frB si sj (textS u) l), .int .i64 0]) := he
        subst he
        replace HI := hide ((unhide HI).below b3)
        replace HW := hide (bt (unhide HW) b3)
        clear b3
        have gb := fr_back si sj (textS u) l (unhide HM)
        have go := fun (a b : Int) (h : (si : Int) ≠ a ∨ (sj : Int) ≠ b) => fr_other (unhide HM) h
        have gt := fun (k z : Nat) (v : ByteArray) (hk : k < 64) (hz : z < 256) (hne : (byts (frB si sj (textS u) l)).getD k 0 ≠ z) (hv : byts v = (byts (frB si sj (textS u) l)).set k z) => fr_turned (unhide HM) hk hz hne hv si sj
        have hF := frB_size si sj (textS u) l (textS_size u)
        obtain ⟨F, eF⟩ : ∃ F, F = frB si sj (textS u) l := ⟨_, rfl⟩
        obtain ⟨s, es⟩ : ∃ s, s = textS u := ⟨_, rfl⟩
        rw [← eF] at gb go gt hF ⊢
        rw [← es] at gb ⊢
        have ES := hide es
        have GB := hide gb
        have GO := hide go
        have GT := hide gt
        have ht64 : ((F.size : Int) != 64) = false := by rw [hF]; rfl
        clear eF gb go gt es
        go_wp2_with (go_at_call 14; refine (num_any _ _).mono ?_; rintro e w' ⟨rfl, rfl⟩)
        refine (frameGet_any F si sj _ (wf_nat (by omega))).mono ?_
        rintro e w4 ⟨v4, he, O4, b4⟩
        rw [unhide GB] at he O4
        replace he : e = Ending.returned (.tuple #[.string s, v4, .int .i64 0]) := he
        replace O4 : OwnL w4 _ 3 v4 (l.map (Value.int .i64)) := O4
        subst he
        obtain ⟨p4, c4, rfl, S4⟩ := O4.ints
        have HP := hide S4
        replace HI := hide ((unhide HI).below b4)
        replace HW := hide (bt (unhide HW) b4)
        clear O4 S4 b4
        go_wp2_with fail
        obtain ⟨i1, hi1, ei1⟩ : ∃ i1 : Nat, i1 < 24 ∧ ((si : Int) + 1) % 24 = (i1 : Int) := ⟨(si + 1) % 24, by omega, by omega⟩
        obtain ⟨j1, hj1, ej1⟩ : ∃ j1 : Nat, j1 < 6 ∧ ((sj : Int) + 1) % 6 = (j1 : Int) := ⟨(sj + 1) % 6, by omega, by omega⟩
        have g1 := unhide GO (i1 : Int) (sj : Int) (.inl (by omega))
        have g2 := unhide GO (si : Int) (j1 : Int) (.inr (by omega))
        have G1 := hide g1
        have G2 := hide g2
        clear g1 g2
        rw [ei1]
        refine (frameGet_any F i1 sj _ (wf_nat (by omega))).mono ?_
        rintro e w5 ⟨v5, he, O5, b5⟩
        rw [unhide G1] at he O5
        replace he : e = Ending.returned (.tuple #[.string ByteArray.empty, v5, .int .i64 1400]) := he
        subst he
        obtain ⟨p5, c5, rfl, _⟩ := O5.ints
        replace HI := hide ((unhide HI).below b5)
        replace HP := hide ((unhide HP).below b5)
        replace HW := hide (bt (unhide HW) b5)
        clear O5 b5
        go_wp2_with fail
        rw [ej1]
        refine (frameGet_any F si j1 _ (wf_nat (by omega))).mono ?_
        rintro e w6 ⟨v6, he, O6, b6⟩
        rw [unhide G2] at he O6
        replace he : e = Ending.returned (.tuple #[.string ByteArray.empty, v6, .int .i64 1400]) := he
        subst he
        obtain ⟨p6, c6, rfl, _⟩ := O6.ints
        replace HI := hide ((unhide HI).below b6)
        replace HP := hide ((unhide HP).below b6)
        replace HW := hide (bt (unhide HW) b6)
        clear O6 b6
        go_upto_region 15 with fail
        obtain ⟨k, hk, ek⟩ := modT a4 64 (by decide) (by decide)
        have hk64 : k < 64 := by omega
        have hkF : k < F.size := by omega
        have hk' : (k : Int) < F.size := by omega
        obtain ⟨z, hz, hzne, ez⟩ := turn_byte ((byts F).getD k 0) (by
          have hl : k < (byts F).length := by rw [byts_len]; exact hkF
          have : (byts F).getD k 0 = (byts F)[k] := by simp [List.getD, hl]
          rw [this]
          simp [byts]
          exact UInt8.toNat_lt _) a5
        have hcv := run_bytes_of_string (P := Try.prog) w6 9 41 5 F Try.underlying9 Try.underlying41 Try.underlying5
        obtain ⟨cap, ec⟩ : ∃ cap, cap = grownCap w6 F.size 0 5 := ⟨_, rfl⟩
        rw [← ec] at hcv
        clear ec
        have R0 : Hid (ByteRow (w6.alloc (.cells (bytesRow F cap) 5 ((bytesRow F cap).size, (bytesRow F cap).size + 1))).drew w6.heap.size F.size 5 (bint F)) := hide (bytes_row w6 F cap 5)
        have B0 : Hid (Below w6.heap.size w6 (w6.alloc (.cells (bytesRow F cap) 5 ((bytesRow F cap).size, (bytesRow F cap).size + 1))).drew) := hide (by go_grown)
        have hgt := fun (v : ByteArray) (hv : byts v = (byts F).set k z) => unhide GT k z v hk64 hz hzne hv
        have HGT := hide hgt
        have HZ := hide hz
        have HW6 := hide (unhide HW).size
        clear hgt hzne
        go_upto_region 17 with fail
        clear hcv
        generalize hW8 : (w6.alloc (.cells (bytesRow F cap) 5 ((bytesRow F cap).size, (bytesRow F cap).size + 1))).drew = W8 at *
        clear hW8
        have c8 := (unhide R0).cell hkF
        have f8 := (unhide R0).free hkF
        have eb : (bint F).getD k 0 = (((byts F).getD k 0 : Nat) : Int) := by
          have hl : k < F.data.toList.length := by simpa using hkF
          simp only [bint, byts, List.getD, List.getElem?_map]
          cases F.data.toList[k]? <;> rfl
        rw [eb] at c8
        obtain ⟨z0, ez0⟩ : ∃ z0, z0 = (byts F).getD k 0 := ⟨_, rfl⟩
        rw [← ez0] at c8 ez
        clear ez0 eb
        have hR9 := (unhide R0).set k z
        have hl9 := hR9.1
        have hcb := run_convert_bytes_arg (P := Try.prog) (W8.setCell ⟨w6.heap.size, k, none⟩ (.int .u8 z)) 41 5 Try.underlying41 Try.underlying5 w6.heap.size 0 F.size cap _ hl9 (fun j hj => by rw [Nat.zero_add]; exact hR9.cell hj) 9 Try.underlying9
        obtain ⟨t, et⟩ : ∃ t, t = strOfNums ((bint F).set k (z : Int)) := ⟨_, rfl⟩
        have hg := unhide HGT t (by rw [et]; exact byts_put F k z hz)
        rw [← et, hF] at hcb
        have HG := hide hg
        clear et hl9 hR9 hg
        go_upto_region 18 with fail
        have B9 := (unhide B0).setCell (p := ⟨w6.heap.size, k, none⟩) (Nat.le_refl _) (.int .u8 z)
        replace HI := hide ((unhide HI).below B9)
        replace HP := hide ((unhide HP).below B9)
        replace HW := hide (bt (unhide HW) B9)
        clear B9 c8 f8 R0 B0
        generalize W8.setCell ⟨w6.heap.size, k, none⟩ (.int .u8 z) = W9 at *
        have hll := (unhide HI).1
        have hle : l.length = j := hll
        clear hll
        subst hle
        go_wp2_with fail
        refine (frameGet_any t si sj _ (wf_nat (by omega))).mono ?_
        rintro e w10 ⟨v10, he, O10, b10⟩
        rw [unhide HG] at he O10
        replace he : e = Ending.returned (.tuple #[.string ByteArray.empty, v10, .int .i64 1400]) := he
        subst he
        obtain ⟨p10, c10, rfl, _⟩ := O10.ints
        replace HI := hide ((unhide HI).below b10)
        replace HP := hide ((unhide HP).below b10)
        replace HW := hide (bt (unhide HW) b10)
        clear O10 b10
        go_wp2_with fail
        refine (text_any u hu _).mono ?_
        rintro e w11 ⟨rfl, b11⟩
        rw [← unhide ES]
        replace HI := hide ((unhide HI).below b11)
        replace HP := hide ((unhide HP).below b11)
        replace HW := hide (bt (unhide HW) b11)
        clear b11
        go_wp2_with fail
        refine (sameInts_any _ _ _ _ _ _ l l _ (unhide HP) (unhide HI) (by unfold maxLen; omega)).mono ?_
        rintro e w12 ⟨rfl, m, hw12⟩
        replace HW := hide (bt (unhide HW) (show Below _ _ w12 by rw [hw12]; exact below_drewN _ _ m))
        clear hw12
        simp only [BEq.rfl]
        go_wp2_with (go_at_call 14; refine (num_any _ _).mono ?_; rintro e w' ⟨rfl, rfl⟩)
        go_ret
        exact ⟨rfl, unhide HW⟩
end Go.Proofs.Ytmphbajnadbggaa
