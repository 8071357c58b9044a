/- The document's own disks (ossuaryref13): Rot. -/
import Derived.Test.YtpmbmhjhclekeaaDskRef6
import Derived.Test.YtpmbmhjhclekeaaLie
import Derived.Laws.BitsAllLaws
namespace Go.Proofs.Ytpmbmhjhclekeaa
open Go.RowKit
set_option linter.unusedVariables false
set_option linter.unusedSimpArgs false
attribute [local go_sem ↓] Go.wp_at_zero Go.wp_at_succ
/-- the bytes of a text -/
def bI (s : ByteArray) : List Int := s.data.toList.map fun b => (b.toNat : Int)
theorem bI_len (s : ByteArray) : (bI s).length = s.size := by simp [bI]
/-- a text of which byte k is turned by y -/
def rotS (s : ByteArray) (k : Nat) (y : Int) : ByteArray := strOfNums ((bI s).set k (bits .xor .u8 ((bI s).getD k 0) y))
theorem rotS_size (s : ByteArray) (k : Nat) (y : Int) : (rotS s k y).size = s.size := by rw [rotS, strOfNums_size, List.length_set, bI_len]
def rotD (d : Dsk) (at_ pl by_ : Int) : Dsk × Int :=
  if stateD d = 0 then (if 0 ≤ at_ ∧ at_ < d.secs.length ∧ 0 ≤ pl ∧ pl < 64 ∧ 1 ≤ by_ ∧ by_ ≤ 255 then (⟨d.lost, d.secs.set at_.toNat (rotS (d.secs.getD at_.toNat ByteArray.empty) pl.toNat by_), d.cache⟩, 0) else (dsk0, 1300)) else (dsk0, stateD d)
set_option maxRecDepth 100000 in
set_option maxHeartbeats 1000000 in
theorem refRot_any (d : Dsk) (sa : Option Addr) (n sc : Nat) (ca : Option Addr) (m cc : Nat) (at_ pl by_ : Int) (w : World) (hS : Strs w sa n sc d.secs) (hC : WrV w ca m cc d.cache) (hn : n * 16 ≤ 140737488351232) (hm : m * 24 ≤ 140737488351232) :
    Calls Try.prog 23 #[.agg #[.bool d.lost, .slice sa n sc, .slice ca m cc], .int .i64 at_, .int .i64 pl, .int .i64 by_] w (dskPost (rotD d at_ pl by_) w) := by
  have hsl := hS.1
  have hcl := hC.1
  have HS := hide hS
  have HC := hide hC
  obtain ⟨b, eb⟩ : ∃ b, b = d.lost := ⟨_, rfl⟩
  have EB := hide eb
  rw [← eb]
  clear hS hC eb
  go_enter Try.func23, Try.ntmps23
  go_upto_region 1 with fail
  have HB := hide (below_two w (.cells #[.bool b, .slice sa n sc, .slice ca m cc] 25) (.cells #[.bool false, .slice none 0 0, .slice none 0 0] 25))
  have RX := hide (two_new w (.cells #[.bool b, .slice sa n sc, .slice ca m cc] 25) (.cells #[.bool false, .slice none 0 0, .slice none 0 0] 25))
  have BX := hide ((((below_alloc (w.alloc (.cells #[.bool b, .slice sa n sc, .slice ca m cc] 25)) (.cells #[.bool false, .slice none 0 0, .slice none 0 0] 25)).block w.heap.size (by simp)).trans (heap_alloc_new w (.cells #[.bool b, .slice sa n sc, .slice ca m cc] 25))))
  generalize ((w.alloc (.cells #[.bool b, .slice sa n sc, .slice ca m cc] 25)).alloc (.cells #[.bool false, .slice none 0 0, .slice none 0 0] 25)) = W at *
  obtain ⟨x0, x1, x2⟩ := box_dsk (unhide BX)
  go_wp2_with fail
  rw [unhide EB]
  refine (refState_any d sa n sc ca m cc W ((unhide HS).below (unhide HB)) ((unhide HC).below (unhide HB)) (by omega) (by omega)).mono ?_
  rintro e w1 ⟨rfl, b1⟩
  rw [← unhide EB]
  replace BX := hide ((b1.block _ (lt_of_block (unhide BX))).trans (unhide BX))
  replace RX := hide ((b1.block _ (lt_of_block (unhide RX))).trans (unhide RX))
  replace HB := hide (bt (unhide HB) b1)
  clear b1 x0 x1 x2
  obtain ⟨x0, x1, x2⟩ := box_dsk (unhide BX)
  obtain ⟨r0, r1, r2⟩ := box_dsk (unhide RX)
  have f0 := dsk_free (unhide RX) 0
  have f1 := dsk_free (unhide RX) 1
  have f2 := dsk_free (unhide RX) 2
  obtain ⟨z0, z1, z2⟩ := box_dsk (dsk_put (x' := .bool false) (y' := .slice none 0 0) (z' := .slice none 0 0) (unhide RX))
  have hBz := hide (below_put (unhide HB) (r := w.heap.size + 1) (by omega) (.bool false) (.slice none 0 0) (.slice none 0 0))
  have hno : ∀ (c : Int), rotD d at_ pl by_ = (dsk0, c) → ∀ W', (((w1.setCell ⟨w.heap.size + 1, 0, none⟩ (.bool false)).setCell ⟨w.heap.size + 1, 1, none⟩ (.slice none 0 0)).setCell ⟨w.heap.size + 1, 2, none⟩ (.slice none 0 0)) = W' →
      dskPost (rotD d at_ pl by_) w (.returned (.tuple #[.agg #[.bool false, .slice none 0 0, .slice none 0 0], .int .i64 c])) W' := fun c hc W' hW => by
    subst hW
    rw [hc]
    exact ⟨_, rfl, DskO.zero _ _ _ _, unhide hBz⟩
  have HNO := hide hno
  clear hno
  by_cases h0 : stateD d = 0
  · rw [h0]
    have H0 := hide h0
    have hML := may_live h0
    obtain ⟨-, -, hn72, hm256, hs64, -⟩ := hML
    rw [hsl] at hn72
    rw [hcl] at hm256
    clear h0
    by_cases hok : 0 ≤ at_ ∧ at_ < n ∧ 0 ≤ pl ∧ pl < 64 ∧ 1 ≤ by_ ∧ by_ ≤ 255
    · obtain ⟨h1, h2, h3, h4, h5, h6⟩ := hok
      have hw : Hid (rotD d at_ pl by_ = (⟨d.lost, d.secs.set at_.toNat (rotS (d.secs.getD at_.toNat ByteArray.empty) pl.toNat by_), d.cache⟩, 0)) := hide (by rw [rotD, if_pos (unhide H0), if_pos ⟨h1, by rw [hsl]; exact h2, h3, h4, h5, h6⟩])
      have d1 : decide (at_ < 0) = false := decide_eq_false (by omega)
      have d2 : decide ((n : Int) ≤ at_) = false := decide_eq_false (by omega)
      have d3 : decide (pl < 0) = false := decide_eq_false (by omega)
      have d4 : decide ((64 : Int) ≤ pl) = false := decide_eq_false (by omega)
      have d5 : decide (by_ < 1) = false := decide_eq_false (by omega)
      have d6 : decide ((255 : Int) < by_) = false := decide_eq_false (by omega)
      obtain ⟨p, rfl⟩ : ∃ p : Nat, at_ = (p : Int) := ⟨at_.toNat, by omega⟩
      obtain ⟨k, rfl⟩ : ∃ k : Nat, pl = (k : Int) := ⟨pl.toNat, by omega⟩
      have hp : p < n := by omega
      have hk : k < 64 := by omega
      have hpn : (p : Int) < n := by omega
      have hk64 : (k : Int) < 64 := by omega
      obtain ⟨bk, ebk⟩ : ∃ bk, bk = d.secs.getD p ByteArray.empty := ⟨_, rfl⟩
      have hb8 : bk.size = 64 := by rw [ebk]; exact hs64 p (by rw [hsl]; exact hp)
      have EBK := hide ebk
      clear ebk
      clear z0 z1 z2 hBz HNO
      go_wp2_with fail
      rw [unhide EB]
      refine (refCopyDisk_any d sa n sc ca m cc w1 ((unhide HS).below (unhide HB)) ((unhide HC).below (unhide HB)) hn hm).mono ?_
      rintro e w2 ⟨v2, rfl, O2, b2⟩
      obtain ⟨va, vc, ev, OS, OC⟩ := O2
      obtain ⟨pa, ka, rfl, _⟩ := OS.strs
      obtain ⟨pc, kc, rfl, _⟩ := own_wr OC
      subst ev
      have hcd : d.cache.length = m := hcl
      have hsd : d.secs.length = n := hsl
      rw [hcd] at OC
      rw [hsd] at OS
      rw [hcd, hsd, ← unhide EB]
      have HOS := hide OS
      have HOC := hide OC
      have hr1 := lt_of_block (unhide RX)
      replace RX := hide ((b2.block _ (lt_of_block (unhide RX))).trans (unhide RX))
      replace HB := hide (bt (unhide HB) b2)
      have hs2 := b2.size
      clear b2 OS OC x0 x1 x2 r0 r1 r2 f0 f1 f2 BX
      obtain ⟨ga, ka', eg, hga, _, _, _⟩ := own_form (n := (d.secs.map Value.string).length) (unhide HOS) (by rw [List.length_map, hsd]; omega)
      simp only [Value.slice.injEq, List.length_map, hsd, true_and] at eg
      obtain ⟨rfl, rfl⟩ := eg
      go_upto_region 7 with fail
      have BG := hide (heap_alloc_new w2 (.cells #[.bool b, .slice (some ⟨ga, 0, none⟩) n ka, .slice pc m kc] 25))
      have b3 := below_alloc w2 (.cells #[.bool b, .slice (some ⟨ga, 0, none⟩) n ka, .slice pc m kc] 25)
      have hga2 : ga < w2.heap.size := ((unhide HOS).lt (g := ga) rfl).2
      have hga1 : w1.heap.size ≤ ga := ((unhide HOS).lt (g := ga) rfl).1
      replace HOS := hide ((unhide HOS).below b3)
      replace HOC := hide (ownZ_below (unhide HOC) b3)
      replace RX := hide ((b3.block _ (lt_of_block (unhide RX))).trans (unhide RX))
      replace HB := hide (bt (unhide HB) b3)
      have hs3 := b3.size
      clear b3
      generalize (w2.alloc (.cells #[.bool b, .slice (some ⟨ga, 0, none⟩) n ka, .slice pc m kc] 25)) = W3 at *
      obtain ⟨x0, x1, x2⟩ := box_dsk (unhide BG)
      have hgl := lt_of_block (unhide BG)
      have cS := own_cellT (unhide HOS) p (by rw [hsd]; exact hp)
      rw [← unhide EBK] at cS
      have hcv := run_bytes_of_string (P := Try.prog) W3 9 54 5 bk Try.underlying9 Try.underlying54 Try.underlying5
      obtain ⟨cap, ec⟩ : ∃ cap, cap = grownCap W3 bk.size 0 5 := ⟨_, rfl⟩
      rw [← ec] at hcv
      clear ec
      have R0 : Hid (ByteRow (W3.alloc (.cells (bytesRow bk cap) 5 ((bytesRow bk cap).size, (bytesRow bk cap).size + 1))).drew W3.heap.size bk.size 5 (bI bk)) := hide (bytes_row W3 bk cap 5)
      have B0 : Hid (Below W3.heap.size W3 (W3.alloc (.cells (bytesRow bk cap) 5 ((bytesRow bk cap).size, (bytesRow bk cap).size + 1))).drew) := hide (by go_grown)
      go_upto_region 8 with fail
      clear hcv x0 x1 x2 cS
      generalize hW4 : (W3.alloc (.cells (bytesRow bk cap) 5 ((bytesRow bk cap).size, (bytesRow bk cap).size + 1))).drew = W4 at *
      clear hW4
      have c8 := (unhide R0).cell (j := k) (by rw [hb8]; exact hk)
      have f8 := (unhide R0).free (j := k) (by rw [hb8]; exact hk)
      obtain ⟨x9, ex9⟩ : ∃ x9, x9 = (bI bk).getD k 0 := ⟨_, rfl⟩
      rw [← ex9] at c8
      have EX9 := hide ex9
      clear ex9
      go_upto_region 9 with fail
      obtain ⟨Z, eZ⟩ : ∃ Z, Z = bits .xor .u8 x9 by_ := ⟨_, rfl⟩
      rw [← eZ]
      have EZ := hide eZ
      clear eZ
      have hR9 := (unhide R0).set k Z
      have hl9 := hR9.1
      rw [hb8] at hR9 hl9
      have hcb := run_convert_bytes_arg (P := Try.prog) (W4.setCell ⟨W3.heap.size, k, none⟩ (.int .u8 Z)) 54 5 Try.underlying54 Try.underlying5 W3.heap.size 0 64 cap _ hl9 (fun j hj => by rw [Nat.zero_add]; exact hR9.cell hj) 9 Try.underlying9
      obtain ⟨t, et⟩ : ∃ t, t = strOfNums ((bI bk).set k Z) := ⟨_, rfl⟩
      rw [← et] at hcb
      have ETT : Hid (t = rotS bk k by_) := hide (by rw [et, rotS, unhide EZ, unhide EX9])
      have hB5 := (unhide B0).setCell (p := ⟨W3.heap.size, k, none⟩) (Nat.le_refl _) (.int .u8 Z)
      replace HOS := hide ((unhide HOS).below hB5)
      replace HOC := hide (ownZ_below (unhide HOC) hB5)
      replace RX := hide ((hB5.block _ (lt_of_block (unhide RX))).trans (unhide RX))
      replace BG := hide ((hB5.block _ (lt_of_block (unhide BG))).trans (unhide BG))
      replace HB := hide (bt (unhide HB) hB5)
      clear hR9 hl9 et R0 c8 f8 B0 hB5
      generalize (W4.setCell ⟨W3.heap.size, k, none⟩ (.int .u8 Z)) = W5 at *
      obtain ⟨x0, x1, x2⟩ := box_dsk (unhide BG)
      have cS := own_cellT (unhide HOS) p (by rw [hsd]; exact hp)
      rw [← unhide EBK] at cS
      have fS := own_free (unhide HOS) p
      go_upto_region 10 with fail
      have hP := own_put (unhide HOS) p (.string t)
      rw [← List.map_set] at hP
      have HS6 := hide hP
      have HC6 : Hid ((W5.setCell ⟨ga, p, none⟩ (.string t)).ownsRow w1.heap.size 62 2 (.slice pc m kc) m (wrCells d.cache)) := hide (ownsRow_setCell_other (a := ⟨ga, p, none⟩) (unhide HOC) (fun e => apt_typesZ (unhide HOS) (unhide HOC) (by decide) ga rfl e) _)
      have RX6 := hide ((Below.heap_setCell W5 ⟨ga, p, none⟩ (.string t) (w.heap.size + 1) (by show w.heap.size + 1 ≠ ga; omega)).trans (unhide RX))
      have BG6 := hide ((Below.heap_setCell W5 ⟨ga, p, none⟩ (.string t) w2.heap.size (by show w2.heap.size ≠ ga; omega)).trans (unhide BG))
      have HB6 := hide ((unhide HB).setCell (p := ⟨ga, p, none⟩) (by show w.heap.size ≤ ga; omega) (.string t))
      clear hP HOS HOC RX BG HB x0 x1 x2 cS fS hcb
      generalize (W5.setCell ⟨ga, p, none⟩ (.string t)) = W6 at *
      obtain ⟨x0, x1, x2⟩ := box_dsk (unhide BG6)
      obtain ⟨r0, r1, r2⟩ := box_dsk (unhide RX6)
      have f0 := dsk_free (unhide RX6) 0
      have f1 := dsk_free (unhide RX6) 1
      have f2 := dsk_free (unhide RX6) 2
      obtain ⟨q0, q1, q2⟩ := box_dsk (dsk_put (x' := .bool b) (y' := .slice (some ⟨ga, 0, none⟩) n ka) (z' := .slice pc m kc) (unhide RX6))
      go_wp2
      refine bodyPost_ret (v := .tuple #[.agg #[.bool b, .slice (some ⟨ga, 0, none⟩) n ka, .slice pc m kc], .int .i64 0]) (by simp [results, Try.results23, go_sem, q0, q1, q2]) rfl ?_
      rw [unhide hw, Int.toNat_natCast, Int.toNat_natCast, ← unhide EBK, ← unhide ETT]
      have hO : DskO W6 w1.heap.size 9 62 (.agg #[.bool b, .slice (some ⟨ga, 0, none⟩) n ka, .slice pc m kc]) ⟨d.lost, d.secs.set p t, d.cache⟩ := by
        refine ⟨_, _, by rw [unhide EB], unhide HS6, ?_⟩
        show W6.ownsRow _ _ 2 _ d.cache.length _
        rw [hcd]
        exact unhide HC6
      exact ⟨_, rfl, (hO.put (by omega) _ _ _).mono (by omega), below_put (unhide HB6) (by omega) _ _ _⟩
    · have hw : Hid (rotD d at_ pl by_ = (dsk0, 1300)) := hide (by rw [rotD, if_pos (unhide H0), if_neg (by rw [hsl]; exact hok)])
      by_cases h1 : at_ < 0
      · have d1 : decide (at_ < 0) = true := decide_eq_true h1
        go_wp2
        refine bodyPost_ret (v := .tuple #[.agg #[.bool false, .slice none 0 0, .slice none 0 0], .int .i64 1300]) (by simp [results, Try.results23, go_sem, z0, z1, z2]) rfl (unhide HNO 1300 (unhide hw) _ rfl)
      · have d1 : decide (at_ < 0) = false := decide_eq_false h1
        by_cases h2 : (n : Int) ≤ at_
        · have d2 : decide ((n : Int) ≤ at_) = true := decide_eq_true h2
          go_wp2
          refine bodyPost_ret (v := .tuple #[.agg #[.bool false, .slice none 0 0, .slice none 0 0], .int .i64 1300]) (by simp [results, Try.results23, go_sem, z0, z1, z2]) rfl (unhide HNO 1300 (unhide hw) _ rfl)
        · have d2 : decide ((n : Int) ≤ at_) = false := decide_eq_false h2
          by_cases h3 : pl < 0
          · have d3 : decide (pl < 0) = true := decide_eq_true h3
            go_wp2
            refine bodyPost_ret (v := .tuple #[.agg #[.bool false, .slice none 0 0, .slice none 0 0], .int .i64 1300]) (by simp [results, Try.results23, go_sem, z0, z1, z2]) rfl (unhide HNO 1300 (unhide hw) _ rfl)
          · have d3 : decide (pl < 0) = false := decide_eq_false h3
            by_cases h4 : (64 : Int) ≤ pl
            · have d4 : decide ((64 : Int) ≤ pl) = true := decide_eq_true h4
              go_wp2
              refine bodyPost_ret (v := .tuple #[.agg #[.bool false, .slice none 0 0, .slice none 0 0], .int .i64 1300]) (by simp [results, Try.results23, go_sem, z0, z1, z2]) rfl (unhide HNO 1300 (unhide hw) _ rfl)
            · have d4 : decide ((64 : Int) ≤ pl) = false := decide_eq_false h4
              by_cases h5 : by_ < 1
              · have d5 : decide (by_ < 1) = true := decide_eq_true h5
                go_wp2
                refine bodyPost_ret (v := .tuple #[.agg #[.bool false, .slice none 0 0, .slice none 0 0], .int .i64 1300]) (by simp [results, Try.results23, go_sem, z0, z1, z2]) rfl (unhide HNO 1300 (unhide hw) _ rfl)
              · have d5 : decide (by_ < 1) = false := decide_eq_false h5
                have h6 : (255 : Int) < by_ := by omega
                have d6 : decide ((255 : Int) < by_) = true := decide_eq_true h6
                go_wp2
                refine bodyPost_ret (v := .tuple #[.agg #[.bool false, .slice none 0 0, .slice none 0 0], .int .i64 1300]) (by simp [results, Try.results23, go_sem, z0, z1, z2]) rfl (unhide HNO 1300 (unhide hw) _ rfl)
  · have h0' := ne_zero h0
    have hw : rotD d at_ pl by_ = (dsk0, stateD d) := by rw [rotD, if_neg h0]
    obtain ⟨st, est⟩ : ∃ st, st = stateD d := ⟨_, rfl⟩
    rw [← est] at h0' hw ⊢
    have HWR := hide hw
    clear h0 est hw
    go_wp2
    refine bodyPost_ret (v := .tuple #[.agg #[.bool false, .slice none 0 0, .slice none 0 0], .int .i64 st]) (by simp [results, Try.results23, go_sem, z0, z1, z2]) rfl (unhide HNO st (unhide HWR) _ rfl)
end Go.Proofs.Ytpmbmhjhclekeaa
