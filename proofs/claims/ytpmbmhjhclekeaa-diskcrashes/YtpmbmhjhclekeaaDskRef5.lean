/- The document's own disks (ossuaryref13): lasts, Flush, Crash. -/
import Derived.Test.YtpmbmhjhclekeaaDskRef4
import Derived.Laws.BitsAllLaws
namespace Go.Proofs.Ytpmbmhjhclekeaa
open Go.RowKit
set_option linter.unusedVariables false
set_option linter.unusedSimpArgs false
attribute [local go_sem ↓] Go.wp_at_zero Go.wp_at_succ
theorem and_15 (n : Int) : bits .and .i64 n 15 = n % 16 := and_mask_i64 n 4 15 (by decide) (by decide)
set_option maxRecDepth 100000 in
set_option maxHeartbeats 1000000 in
theorem refLasts_any (d : Dsk) (sa : Option Addr) (n sc : Nat) (ca : Option Addr) (m cc : Nat) (keep : Int) (w : World) (hS : Strs w sa n sc d.secs) (hC : WrV w ca m cc d.cache) (h0 : stateD d = 0) :
    Calls Try.prog 46 #[.agg #[.bool d.lost, .slice sa n sc, .slice ca m cc], .int .i64 keep] w fun e w' => ∃ v, e = .returned v ∧ DskO w' w.heap.size 9 62 v (lastsD d keep) ∧ Below w.heap.size w w' := by
  have hsl := hS.1
  have hcl := hC.1
  obtain ⟨-, hn1, hn72, hm256, -, hat⟩ := may_live h0
  rw [hsl] at hn72 hat hn1
  rw [hcl] at hm256 hat
  have HAT := hide hat
  have HS := hide hS
  have HC := hide hC
  obtain ⟨b, eb⟩ : ∃ b, b = d.lost := ⟨_, rfl⟩
  have EB := hide eb
  rw [← eb]
  clear hS hC eb h0 hat
  go_enter Try.func46, Try.ntmps46
  go_upto_region 1 with fail
  have HB := hide (below_two w (.cells #[.bool b, .slice sa n sc, .slice ca m cc] 25) (.cells #[.bool false, .slice none 0 0, .slice none 0 0] 25))
  have RX := hide (two_new w (.cells #[.bool b, .slice sa n sc, .slice ca m cc] 25) (.cells #[.bool false, .slice none 0 0, .slice none 0 0] 25))
  have BX := hide ((((below_alloc (w.alloc (.cells #[.bool b, .slice sa n sc, .slice ca m cc] 25)) (.cells #[.bool false, .slice none 0 0, .slice none 0 0] 25)).block w.heap.size (by simp)).trans (heap_alloc_new w (.cells #[.bool b, .slice sa n sc, .slice ca m cc] 25))))
  generalize ((w.alloc (.cells #[.bool b, .slice sa n sc, .slice ca m cc] 25)).alloc (.cells #[.bool false, .slice none 0 0, .slice none 0 0] 25)) = W at *
  obtain ⟨x0, x1, x2⟩ := box_dsk (unhide BX)
  go_wp2_with fail
  rw [unhide EB]
  refine (refCopyDisk_any d sa n sc ca m cc W ((unhide HS).below (unhide HB)) ((unhide HC).below (unhide HB)) (by omega) (by omega)).mono ?_
  rintro e w2 ⟨v2, rfl, O2, b2⟩
  obtain ⟨va, vc, ev, OS, OC⟩ := O2
  obtain ⟨pa, ka, rfl, _⟩ := OS.strs
  obtain ⟨pc, kc, rfl, _⟩ := own_wr OC
  subst ev
  rw [hcl] at OC
  rw [hsl] at OS
  rw [hcl, hsl, ← unhide EB]
  obtain ⟨ga, ka', eg, hga, _, _, _⟩ := own_form (n := (d.secs.map Value.string).length) OS (by rw [List.length_map, hsl]; omega)
  simp only [Value.slice.injEq, List.length_map, hsl, true_and] at eg
  obtain ⟨rfl, rfl⟩ := eg
  have HOS := hide OS
  have HOC := hide OC
  have hr1 := lt_of_block (unhide RX)
  replace BX := hide ((b2.block _ (lt_of_block (unhide BX))).trans (unhide BX))
  replace RX := hide ((b2.block _ (lt_of_block (unhide RX))).trans (unhide RX))
  replace HB := hide (bt (unhide HB) b2)
  have hs2 := b2.size
  clear b2 OS OC x0 x1 x2
  go_upto_region 2 with fail
  have BG := hide (heap_alloc_new w2 (.cells #[.bool b, .slice (some ⟨ga, 0, none⟩) n ka, .slice pc m kc] 25))
  have b3 := below_alloc w2 (.cells #[.bool b, .slice (some ⟨ga, 0, none⟩) n ka, .slice pc m kc] 25)
  have HGA : Hid (∀ g, (Value.slice (some ⟨ga, 0, none⟩) n ka).ownBlock = some g → W.heap.size ≤ g ∧ g < w2.heap.size) := hide (fun g e => ⟨((unhide HOS).lt e).1, ((unhide HOS).lt e).2⟩)
  replace HOS := hide ((unhide HOS).below b3)
  replace HOC := hide (ownZ_below (unhide HOC) b3)
  replace BX := hide ((b3.block _ (lt_of_block (unhide BX))).trans (unhide BX))
  replace RX := hide ((b3.block _ (lt_of_block (unhide RX))).trans (unhide RX))
  replace HB := hide (bt (unhide HB) b3)
  have hs3 := b3.size
  have hbx : w.heap.size < W.heap.size := by omega
  clear b3
  generalize (w2.alloc (.cells #[.bool b, .slice (some ⟨ga, 0, none⟩) n ka, .slice pc m kc] 25)) = W3 at *
  go_wp2
  go_loopw [6] (fun iv wr => ∃ k : Nat, k ≤ m ∧ iv = .int .i64 k ∧ wr.heap.size = W3.heap.size ∧ Hid (wr.heap[w.heap.size]? = some (.cells #[.bool b, .slice sa n sc, .slice ca m cc] 25 (0, 0))) ∧ Hid (wr.heap[w.heap.size + 1]? = some (.cells #[.bool false, .slice none 0 0, .slice none 0 0] 25 (0, 0))) ∧ Hid (wr.heap[w2.heap.size]? = some (.cells #[.bool b, .slice (some ⟨ga, 0, none⟩) n ka, .slice pc m kc] 25 (0, 0))) ∧ Hid (OwnL wr W.heap.size 9 (.slice (some ⟨ga, 0, none⟩) n ka) ((keepTo d keep k).map Value.string)) ∧ Hid (Below w.heap.size w wr)) (fun iv _ => m - (intOf iv).toNat)
  case atStart => exact ⟨0, by omega, rfl, rfl, BX, RX, BG, HOS, HB⟩
  case round =>
    obtain ⟨k, hk, rfl, hwr, BXr, RXr, BGr, HSr, HBr⟩ := hrel
    obtain ⟨x0, x1, x2⟩ := box_dsk (unhide BXr)
    by_cases hlt : k < m
    · have hlt' : (k : Int) < m := by omega
      have hk15 : bits .and .i64 (k : Int) 15 = ((k % 16 : Nat) : Int) := by rw [and_15]; omega
      obtain ⟨X, eX⟩ : ∃ X : Int, X = keep / 2 ^ (k % 16) := ⟨_, rfl⟩
      go_upto_if 21 with fail
      rw [← eX]
      have EX := hide eX
      clear eX
      by_cases hb : X % 2 = 1
      · have t1 : (bits .and .i64 X 1 == 1) = true := by rw [and_1]; simpa using hb
        have HBX := hide hb
        clear hb
        rw [t1]
        obtain ⟨at1, at2, at3⟩ := unhide HAT k hlt
        obtain ⟨bc, oc, ec, hcm, hcw⟩ := ((unhide HC).below (unhide HBr)).at hlt
        subst ec
        obtain ⟨c0, c1⟩ := hcw k hlt
        clear hcw
        obtain ⟨p, ep⟩ : ∃ p : Nat, (d.cache.getD k wr0).1 = (p : Int) := ⟨(d.cache.getD k wr0).1.toNat, by omega⟩
        obtain ⟨t2, et2⟩ : ∃ t2, t2 = (d.cache.getD k wr0).2 := ⟨_, rfl⟩
        rw [ep] at c0 at2
        rw [← et2] at c1
        have EP := hide ep
        have ET2 := hide et2
        have hp : p < n := by omega
        have hp' : (p : Int) < n := at2
        have hp0 : (0 : Int) ≤ (p : Int) := by omega
        clear ep et2 at1 at2 at3
        have hkl := keepTo_len d keep k
        rw [hsl] at hkl
        have cS := own_cellT (unhide HSr) p (by rw [hkl]; exact hp)
        have fS := own_free (unhide HSr) p
        obtain ⟨s0, es0⟩ : ∃ s0, s0 = (keepTo d keep k).getD p ByteArray.empty := ⟨_, rfl⟩
        rw [← es0] at cS
        clear es0
        obtain ⟨g0, g1, g2⟩ := box_dsk (unhide BGr)
        have k0 := kept_cell (B := wr.heap.size) g1 (cell_lt g1)
        have k1 := kept_cell (B := wr.heap.size) x2 (cell_lt x2)
        have k2 := kept_cell (B := wr.heap.size) c0 (cell_lt c0)
        have k3 := kept_cell (B := wr.heap.size) c1 (cell_lt c1)
        go_upto_region 6 with fail
        refine wp_region_ord_then (S := Below wr.heap.size wr) [(true, 0), (true, 1), (true, 2), (true, 3), (true, 4), (true, 5), (true, 6), (true, 7), (true, 8), (true, 9), (true, 10), (true, 11), (true, 12), (true, 13), (true, 14)] (List.cons_ne_nil _ _) (by kernel_rfl) (by kernel_rfl) (by kernel_rfl) (by kernel_rfl) (by kernel_rfl) ((Below.refl _ _).drew) ?_
        simp only [List.dropLast_cons_cons, List.dropLast_singleton, List.getLast_cons_cons, List.getLast_singleton, withOps, List.map_cons, List.map_nil, List.getElem?_cons_succ, List.getElem?_cons_zero]
        repeat (refine walkH_read (by rfl) (by (intro gx; go_simp; try (with_reducible rfl))) ?_; try simp only [Act.put, List.setIfInBounds_toArray, List.set_cons_zero, List.set_cons_succ])
        refine lastPost_of_list ?_
        simp only [List.cons_append, List.nil_append]
        have cS' : wr.drew.cell? ⟨ga, p, none⟩ = some (.string s0) := cS
        have fS' : wr.drew.frozen? ⟨ga, p, none⟩ = false := fS
        clear k0 k1 k2 k3
        go_wp2
        refine NoPanic.normal ?_
        go_wp2
        go_roundw
        case rel =>
          obtain ⟨hg1, hg2⟩ := unhide HGA ga rfl
          have e : keepTo d keep (k + 1) = (keepTo d keep k).set p t2 := by
            show (if (keep / 2 ^ (k % 16)) % 2 = 1 then (keepTo d keep k).set (d.cache.getD k wr0).1.toNat (d.cache.getD k wr0).2 else _) = _
            rw [if_pos (by rw [← unhide EX]; exact unhide HBX), unhide EP, Int.toNat_natCast, ← unhide ET2]
          have hP := own_put (unhide HSr) p (.string t2)
          rw [← List.map_set, ← e] at hP
          refine ⟨k + 1, by omega, by go_num, (World.size_setCell _ _ _).trans hwr, hide ?_, hide ?_, hide ?_, hide (hP.below (Below.refl _ _).drew), hide (((unhide HBr).setCell (p := ⟨ga, p, none⟩) (by show w.heap.size ≤ ga; omega) _).drew)⟩
          · exact (Below.heap_setCell wr ⟨ga, p, none⟩ (.string t2) w.heap.size (by show w.heap.size ≠ ga; omega)).trans (unhide BXr)
          · exact (Below.heap_setCell wr ⟨ga, p, none⟩ (.string t2) (w.heap.size + 1) (by show w.heap.size + 1 ≠ ga; omega)).trans (unhide RXr)
          · exact (Below.heap_setCell wr ⟨ga, p, none⟩ (.string t2) w2.heap.size (by show w2.heap.size ≠ ga; omega)).trans (unhide BGr)
        case measure => simp [intOf]; omega
      · have t1 : (bits .and .i64 X 1 == 1) = false := by rw [and_1]; simpa using hb
        have HBX := hide hb
        clear hb
        rw [t1]
        go_wp2
        go_roundw
        case rel =>
          refine ⟨k + 1, by omega, by go_num, hwr, BXr, RXr, BGr, hide ?_, HBr⟩
          have e : keepTo d keep (k + 1) = keepTo d keep k := by
            show (if (keep / 2 ^ (k % 16)) % 2 = 1 then _ else _) = _
            rw [if_neg (by rw [← unhide EX]; exact unhide HBX)]
          rw [e]
          exact unhide HSr
        case measure => simp [intOf]; omega
    · have hlt' : ¬ (k : Int) < m := by omega
      obtain rfl : m = k := by omega
      obtain ⟨hg1, hg2⟩ := unhide HGA ga rfl
      obtain ⟨g0, g1, g2⟩ := box_dsk (unhide BGr)
      have fg := dsk_free (unhide BGr) 2
      go_upto_region 8 with fail
      have BG5 := hide (dsk_set2 (z' := .slice none 0 0) (unhide BGr))
      have RX5 := hide ((Below.heap_setCell wr ⟨w2.heap.size, 2, none⟩ (.slice none 0 0) (w.heap.size + 1) (by show w.heap.size + 1 ≠ w2.heap.size; omega)).trans (unhide RXr))
      have HB5 := hide ((unhide HBr).setCell (p := ⟨w2.heap.size, 2, none⟩) (by show w.heap.size ≤ w2.heap.size; omega) (.slice none 0 0))
      have HS5 : Hid (OwnL (wr.setCell ⟨w2.heap.size, 2, none⟩ (.slice none 0 0)) W.heap.size 9 (.slice (some ⟨ga, 0, none⟩) n ka) ((keepTo d keep m).map Value.string)) := hide (ownsRow_setCell_other (a := ⟨w2.heap.size, 2, none⟩) (unhide HSr) (fun e => by
        have h9 : ga = w2.heap.size := Option.some.inj e
        omega) _)
      clear x0 x1 x2 g0 g1 g2 fg BGr RXr BXr HBr HSr
      generalize (wr.setCell ⟨w2.heap.size, 2, none⟩ (.slice none 0 0)) = W5 at *
      obtain ⟨x0, x1, x2⟩ := box_dsk (unhide BG5)
      obtain ⟨r0, r1, r2⟩ := box_dsk (unhide RX5)
      have f0 := dsk_free (unhide RX5) 0
      have f1 := dsk_free (unhide RX5) 1
      have f2 := dsk_free (unhide RX5) 2
      obtain ⟨q0, q1, q2⟩ := box_dsk (dsk_put (x' := .bool b) (y' := .slice (some ⟨ga, 0, none⟩) n ka) (z' := .slice none 0 0) (unhide RX5))
      go_wp2
      refine bodyPost_ret (v := .agg #[.bool b, .slice (some ⟨ga, 0, none⟩) n ka, .slice none 0 0]) (by simp [results, Try.results46, go_sem, q0, q1, q2]) rfl ?_
      have hO : DskO W5 W.heap.size 9 62 (.agg #[.bool b, .slice (some ⟨ga, 0, none⟩) n ka, .slice none 0 0]) (lastsD d keep) := by
        refine ⟨_, _, by rw [unhide EB]; rfl, ?_, World.ownsRow_nil _ _ _ _⟩
        show OwnL W5 _ _ _ ((keepTo d keep d.cache.length).map Value.string)
        rw [hcl]; exact unhide HS5
      exact ⟨_, rfl, (hO.put (by omega) _ _ _).mono (by omega), below_put (unhide HB5) (by omega) _ _ _⟩
end Go.Proofs.Ytpmbmhjhclekeaa
