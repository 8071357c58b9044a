/- The document's own disks (ossuaryref13): Write, Lose. -/
import Derived.Test.YtpmbmhjhclekeaaDskRef3
namespace Go.Proofs.Ytpmbmhjhclekeaa
open Go.RowKit
set_option linter.unusedVariables false
set_option linter.unusedSimpArgs false
attribute [local go_sem ↓] Go.wp_at_zero Go.wp_at_succ
theorem DskO.setBelow {w : World} {B : Nat} {S E : TypeId} {v : Value} {d : Dsk} (h : DskO w B S E v d) {a : Addr} (ha : a.block < B) (x : Value) : DskO (w.setCell a x) B S E v d := by
  obtain ⟨va, vc, e, h1, h2⟩ := h
  refine ⟨va, vc, e, h1.setBelow ha x, ownsRow_setCell_other h2 (fun e => ?_) x⟩
  have h9 : B ≤ a.block := (World.ownsRow.lt h2 _ e).1
  omega
theorem DskO.put {w : World} {B r : Nat} {S E : TypeId} {v : Value} {d : Dsk} (h : DskO w B S E v d) (hr : r < B) (x y z : Value) : DskO (((w.setCell ⟨r, 0, none⟩ x).setCell ⟨r, 1, none⟩ y).setCell ⟨r, 2, none⟩ z) B S E v d :=
  ((h.setBelow (a := ⟨r, 0, none⟩) hr x).setBelow (a := ⟨r, 1, none⟩) hr y).setBelow (a := ⟨r, 2, none⟩) hr z
theorem below_put {B r : Nat} {w0 w : World} (h : Below B w0 w) (hr : B ≤ r) (x y z : Value) : Below B w0 (((w.setCell ⟨r, 0, none⟩ x).setCell ⟨r, 1, none⟩ y).setCell ⟨r, 2, none⟩ z) :=
  ((h.setCell (p := ⟨r, 0, none⟩) hr x).setCell (p := ⟨r, 1, none⟩) hr y).setCell (p := ⟨r, 2, none⟩) hr z
/-- a disk and an error -/
def dskPost (r : Dsk × Int) (w : World) (e : Ending) (w' : World) : Prop := ∃ v, e = .returned (.tuple #[v, .int .i64 r.2]) ∧ DskO w' w.heap.size 9 62 v r.1 ∧ Below w.heap.size w w'
theorem size_64 {n : Nat} (h : n ≠ 64) : ((n : Int) != 64) = true := ne_64 h
set_option maxRecDepth 100000 in
set_option maxHeartbeats 1000000 in
theorem refWrite_any (d : Dsk) (sa : Option Addr) (n sc : Nat) (ca : Option Addr) (m cc : Nat) (at_ : Int) (s : ByteArray) (w : World) (hS : Strs w sa n sc d.secs) (hC : WrV w ca m cc d.cache) (hn : n * 16 ≤ 140737488351232) (hm : m * 24 ≤ 140737488351232) :
    Calls Try.prog 17 #[.agg #[.bool d.lost, .slice sa n sc, .slice ca m cc], .int .i64 at_, .string s] w (dskPost (writeD d at_ s) w) := by
  have hsl := hS.1
  have hcl := hC.1
  have HS := hide hS
  have HC := hide hC
  obtain ⟨b, eb⟩ : ∃ b, b = d.lost := ⟨_, rfl⟩
  have EB := hide eb
  rw [← eb]
  clear hS hC eb
  go_enter Try.func17, Try.ntmps17
  go_upto_region 1 with fail
  have HB := hide (below_two w (.cells #[.bool b, .slice sa n sc, .slice ca m cc] 25) (.cells #[.bool false, .slice none 0 0, .slice none 0 0] 25))
  have RX := hide (two_new w (.cells #[.bool b, .slice sa n sc, .slice ca m cc] 25) (.cells #[.bool false, .slice none 0 0, .slice none 0 0] 25))
  have BX := hide ((((below_alloc (w.alloc (.cells #[.bool b, .slice sa n sc, .slice ca m cc] 25)) (.cells #[.bool false, .slice none 0 0, .slice none 0 0] 25)).block w.heap.size (by simp)).trans (heap_alloc_new w (.cells #[.bool b, .slice sa n sc, .slice ca m cc] 25))))
  generalize ((w.alloc (.cells #[.bool b, .slice sa n sc, .slice ca m cc] 25)).alloc (.cells #[.bool false, .slice none 0 0, .slice none 0 0] 25)) = W at *
  obtain ⟨x0, x1, x2⟩ := box_dsk (unhide BX)
  go_wp2_with fail
  rw [unhide EB]
  refine (refState_any d sa n sc ca m cc W ((unhide HS).below (unhide HB)) ((unhide HC).below (unhide HB)) (by omega) (by omega)).mono ?_
  rintro e w1 ⟨rfl, b1⟩
  rw [← unhide EB]
  replace BX := hide ((b1.block _ (lt_of_block (unhide BX))).trans (unhide BX))
  replace RX := hide ((b1.block _ (lt_of_block (unhide RX))).trans (unhide RX))
  replace HB := hide (bt (unhide HB) b1)
  clear b1 x0 x1 x2
  obtain ⟨x0, x1, x2⟩ := box_dsk (unhide BX)
  obtain ⟨r0, r1, r2⟩ := box_dsk (unhide RX)
  have f0 := dsk_free (unhide RX) 0
  have f1 := dsk_free (unhide RX) 1
  have f2 := dsk_free (unhide RX) 2
  obtain ⟨z0, z1, z2⟩ := box_dsk (dsk_put (x' := .bool false) (y' := .slice none 0 0) (z' := .slice none 0 0) (unhide RX))
  have hBz := hide (below_put (unhide HB) (r := w.heap.size + 1) (by omega) (.bool false) (.slice none 0 0) (.slice none 0 0))
  have hno : ∀ (c : Int), writeD d at_ s = (dsk0, c) → ∀ W', (((w1.setCell ⟨w.heap.size + 1, 0, none⟩ (.bool false)).setCell ⟨w.heap.size + 1, 1, none⟩ (.slice none 0 0)).setCell ⟨w.heap.size + 1, 2, none⟩ (.slice none 0 0)) = W' →
      dskPost (writeD d at_ s) w (.returned (.tuple #[.agg #[.bool false, .slice none 0 0, .slice none 0 0], .int .i64 c])) W' := fun c hc W' hW => by
    subst hW
    rw [hc]
    exact ⟨_, rfl, DskO.zero _ _ _ _, unhide hBz⟩
  have HNO := hide hno
  clear hno
  by_cases h0 : stateD d = 0
  · rw [h0]
    have H0 := hide h0
    have hML := may_live h0
    obtain ⟨-, -, hn72, hm256, -, -⟩ := hML
    rw [hsl] at hn72
    rw [hcl] at hm256
    clear h0
    by_cases hok : 0 ≤ at_ ∧ at_ < n ∧ s.size = 64 ∧ m < 256
    · obtain ⟨h1, h2, h3, h4⟩ := hok
      have hw : Hid (writeD d at_ s = (⟨d.lost, d.secs, d.cache ++ [(at_, s)]⟩, 0)) := hide (by rw [writeD, if_pos (unhide H0), if_pos ⟨h1, by rw [hsl]; exact h2, h3, by rw [hcl]; exact h4⟩])
      have d1 : decide (at_ < 0) = false := decide_eq_false (by omega)
      have d2 : decide ((n : Int) ≤ at_) = false := decide_eq_false (by omega)
      have d3 := eq_64 h3
      have d4 : decide ((256 : Int) ≤ (m : Int)) = false := decide_eq_false (by omega)
      clear z0 z1 z2 hBz HNO h3
      go_wp2_with fail
      rw [unhide EB]
      refine (refCopyDisk_any d sa n sc ca m cc w1 ((unhide HS).below (unhide HB)) ((unhide HC).below (unhide HB)) hn hm).mono ?_
      rintro e w2 ⟨v2, rfl, O2, b2⟩
      obtain ⟨va, vc, ev, OS, OC⟩ := O2
      obtain ⟨pa, ka, rfl, _⟩ := OS.strs
      obtain ⟨pc, kc, rfl, _⟩ := own_wr OC
      subst ev
      have hcd : d.cache.length = m := hcl
      have hsd : d.secs.length = n := hsl
      rw [hcd] at OC
      rw [hsd] at OS
      rw [hcd, hsd, ← unhide EB]
      have HOS := hide OS
      have HOC := hide OC
      have hr1 := lt_of_block (unhide RX)
      replace RX := hide ((b2.block _ (lt_of_block (unhide RX))).trans (unhide RX))
      replace HB := hide (bt (unhide HB) b2)
      have hs2 := b2.size
      clear b2 OS OC x0 x1 x2 r0 r1 r2 f0 f1 f2 BX
      go_upto_region 7 with fail
      have BG := hide (heap_alloc_new w2 (.cells #[.bool b, .slice pa n ka, .slice pc m kc] 25))
      have b3 := below_alloc w2 (.cells #[.bool b, .slice pa n ka, .slice pc m kc] 25)
      have hg2 : ∀ g, (Value.slice pc m kc).ownBlock = some g → g < w2.heap.size := fun g e => (World.ownsRow.lt (unhide HOC) g e).2
      have HG2 := hide hg2
      have HGA : Hid (∀ g, (Value.slice pa n ka).ownBlock = some g → g < w2.heap.size) := hide (fun g e => ((unhide HOS).lt e).2)
      replace HOS := hide ((unhide HOS).below b3)
      replace HOC := hide (ownZ_below (unhide HOC) b3)
      replace RX := hide ((b3.block _ (lt_of_block (unhide RX))).trans (unhide RX))
      replace HB := hide (bt (unhide HB) b3)
      have hs3 := b3.size
      clear b3 hg2
      generalize (w2.alloc (.cells #[.bool b, .slice pa n ka, .slice pc m kc] 25)) = W3 at *
      obtain ⟨x0, x1, x2⟩ := box_dsk (unhide BG)
      have hgl := lt_of_block (unhide BG)
      go_upto_region 8 with (at_builtin; refine wpList_pushZ W3 (by rfl) (.tmp 40) (.tmp 44) 23 (by rfl) w1.heap.size 62 (.agg #[.int .i64 0, .string ByteArray.empty]) 2 24 Try.underlying23 Try.infoWr rfl (by decide) _ m (wrCells d.cache) (by rfl) (unhide HOC) [.int .i64 at_, .string s] (by rfl) (by intro u hu; simp at hu; rcases hu with rfl | rfl <;> rfl) (by rfl) (by omega) (by omega) (by omega) ?_; intro v4 W4 O4 P4; have HP4 := hide P4; have HO4 := hide O4; have BG4 := hide ((P4.grown.block w2.heap.size hgl (fun e => by have := unhide HG2 _ e.symm; omega)).trans (unhide BG)); obtain ⟨y0, y1, y2⟩ := box_dsk (unhide BG4); have fy := dsk_free (unhide BG4) 2; obtain ⟨p4, c4, e4⟩ := ownZ_slice O4; subst e4; clear O4 P4)
      have HS4 := hide ((unhide HP4).other (unhide HOS) (apt_typesZ (unhide HOC) (unhide HOS) (by decide)))
      have hvb : (Value.slice pc m kc).ownBlock ≠ some (w.heap.size + 1) := fun e => by have h9 := (World.ownsRow.lt (unhide HOC) _ e).1; omega
      have RX4 := hide (((unhide HP4).grown.block (w.heap.size + 1) (lt_of_block (unhide RX)) (fun e => hvb e.symm)).trans (unhide RX))
      have HB4 := hide ((unhide HP4).belowZ (unhide HOC) (unhide HB) (by omega) (by omega))
      have BG5 := hide (dsk_set2 (z' := .slice p4 (m + 1) c4) (unhide BG4))
      have hgr : w2.heap.size ≠ w.heap.size + 1 := by omega
      have RX5 := hide ((Below.heap_setCell W4 ⟨w2.heap.size, 2, none⟩ (.slice p4 (m + 1) c4) (w.heap.size + 1) (by show w.heap.size + 1 ≠ w2.heap.size; omega)).trans (unhide RX4))
      have HB5 := hide ((unhide HB4).setCell (p := ⟨w2.heap.size, 2, none⟩) (by show w.heap.size ≤ w2.heap.size; omega) (.slice p4 (m + 1) c4))
      have hsb : ∀ g, (Value.slice pa n ka).ownBlock = some g → g < w2.heap.size := fun g e => by
        have h1 := unhide HGA
        exact h1 g e
      have HS5 : Hid (OwnL (W4.setCell ⟨w2.heap.size, 2, none⟩ (.slice p4 (m + 1) c4)) w1.heap.size 9 (.slice pa n ka) (d.secs.map Value.string)) := hide (ownsRow_setCell_other (a := ⟨w2.heap.size, 2, none⟩) (unhide HS4) (fun e => by have h9 : w2.heap.size < w2.heap.size := hsb _ e; omega) _)
      have HC5 : Hid ((W4.setCell ⟨w2.heap.size, 2, none⟩ (.slice p4 (m + 1) c4)).ownsRow w1.heap.size 62 2 (.slice p4 (m + 1) c4) (m + 1) (wrCells d.cache ++ [.int .i64 at_, .string s])) := hide (ownsRow_setCell_other (a := ⟨w2.heap.size, 2, none⟩) (unhide HO4) (fun e => by
        have h9 : (Value.slice p4 (m + 1) c4).ownBlock = some w2.heap.size := e
        rcases (unhide HP4).lies with h | ⟨g, h, hg⟩
        · rw [h9] at h; have := unhide HG2 _ h.symm; omega
        · rw [h9] at h; have := Option.some.inj h; omega) _)
      clear y0 y1 y2 fy x0 x1 x2 HP4 HO4 BG4 BG RX RX4 HB HB4 HOC HOS HS4 hvb hsb
      generalize (W4.setCell ⟨w2.heap.size, 2, none⟩ (.slice p4 (m + 1) c4)) = W5 at *
      obtain ⟨x0, x1, x2⟩ := box_dsk (unhide BG5)
      obtain ⟨r0, r1, r2⟩ := box_dsk (unhide RX5)
      have f0 := dsk_free (unhide RX5) 0
      have f1 := dsk_free (unhide RX5) 1
      have f2 := dsk_free (unhide RX5) 2
      obtain ⟨q0, q1, q2⟩ := box_dsk (dsk_put (x' := .bool b) (y' := .slice pa n ka) (z' := .slice p4 (m + 1) c4) (unhide RX5))
      go_wp2
      refine bodyPost_ret (v := .tuple #[.agg #[.bool b, .slice pa n ka, .slice p4 (m + 1) c4], .int .i64 0]) (by simp [results, Try.results17, go_sem, q0, q1, q2]) rfl ?_
      rw [unhide hw]
      have hO : DskO W5 w1.heap.size 9 62 (.agg #[.bool b, .slice pa n ka, .slice p4 (m + 1) c4]) ⟨d.lost, d.secs, d.cache ++ [(at_, s)]⟩ := by
        refine ⟨_, _, by rw [unhide EB], unhide HS5, ?_⟩
        show W5.ownsRow _ _ 2 _ (d.cache ++ [(at_, s)]).length (wrCells (d.cache ++ [(at_, s)]))
        rw [List.length_append, hcd, wrCells_append]
        exact unhide HC5
      exact ⟨_, rfl, (hO.put (by omega) _ _ _).mono (by omega), below_put (unhide HB5) (by omega) _ _ _⟩
    · have hw : Hid (writeD d at_ s = (dsk0, 1300)) := hide (by rw [writeD, if_pos (unhide H0), if_neg (by rw [hsl, hcl]; exact hok)])
      by_cases h1 : at_ < 0
      · go_wp2
        refine bodyPost_ret (v := .tuple #[.agg #[.bool false, .slice none 0 0, .slice none 0 0], .int .i64 1300]) (by simp [results, Try.results17, go_sem, z0, z1, z2]) rfl (unhide HNO 1300 (unhide hw) _ rfl)
      · have d1 : decide (at_ < 0) = false := decide_eq_false h1
        by_cases h2 : (n : Int) ≤ at_
        · have d2 : decide ((n : Int) ≤ at_) = true := decide_eq_true h2
          go_wp2
          refine bodyPost_ret (v := .tuple #[.agg #[.bool false, .slice none 0 0, .slice none 0 0], .int .i64 1300]) (by simp [results, Try.results17, go_sem, z0, z1, z2]) rfl (unhide HNO 1300 (unhide hw) _ rfl)
        · have d2 : decide ((n : Int) ≤ at_) = false := decide_eq_false h2
          by_cases h3 : s.size = 64
          · have d3 := eq_64 h3
            have h4 : 256 ≤ m := by omega
            have d4 : decide ((256 : Int) ≤ (m : Int)) = true := decide_eq_true (by omega)
            have h4' : (256 : Int) ≤ (m : Int) := by omega
            clear h3
            go_wp2
            refine bodyPost_ret (v := .tuple #[.agg #[.bool false, .slice none 0 0, .slice none 0 0], .int .i64 1300]) (by simp [results, Try.results17, go_sem, z0, z1, z2]) rfl (unhide HNO 1300 (unhide hw) _ rfl)
          · have d3 := ne_64 h3
            go_wp2
            refine bodyPost_ret (v := .tuple #[.agg #[.bool false, .slice none 0 0, .slice none 0 0], .int .i64 1300]) (by simp [results, Try.results17, go_sem, z0, z1, z2]) rfl (unhide HNO 1300 (unhide hw) _ rfl)
  · have h0' := ne_zero h0
    have hw : writeD d at_ s = (dsk0, stateD d) := by rw [writeD, if_neg h0]
    obtain ⟨st, est⟩ : ∃ st, st = stateD d := ⟨_, rfl⟩
    rw [← est] at h0' hw ⊢
    have HWR := hide hw
    clear h0 est hw
    go_wp2
    refine bodyPost_ret (v := .tuple #[.agg #[.bool false, .slice none 0 0, .slice none 0 0], .int .i64 st]) (by simp [results, Try.results17, go_sem, z0, z1, z2]) rfl (unhide HNO st (unhide HWR) _ rfl)
end Go.Proofs.Ytpmbmhjhclekeaa
