/- RebuildForms: shapes, shards that are none; too few. -/
import Derived.Test.YtcgagkaalbljmaaDoorAwake8
import Derived.Test.YtcgagkaalbljmaaDoorAllocs
import Derived.Test.YtcgagkaalbljmaaDoorFormsT
import Derived.Test.YtcgagkaalbljmaaDoorKRegs
import Derived.Test.YtcgagkaalbljmaaDoorKCore
namespace Go.Proofs.YtcgagkaalbljmaaDoor
open Go.RowKit
set_option linter.unusedVariables false
set_option linter.unusedSimpArgs false
def tA : ByteArray := ⟨#[97]⟩
def tB : ByteArray := ⟨#[98]⟩
def tC : ByteArray := ⟨#[99]⟩
def tD : ByteArray := ⟨#[100]⟩
def tBC : ByteArray := ⟨#[98, 99]⟩
def rObjs (Sh St Ls Bo Lb : TypeId) (H d : Nat) : List Obj := [
  .cells #[.int .i64 2, .int .i64 1] Sh,
  .cells #[.int .i64 (-(1 + (d : Int))), .int .i64 0, .int .i64 2, .int .i64 1, .int .i64 2, .int .i64 1] Sh,
  .cells #[.string tA] St,
  .cells #[.string tA, .string tB] St,
  .cells #[.string tA, .string tBC, .string tD] St,
  .cells #[.slice (some ⟨H + 2, 0, none⟩) 1 1, .slice (some ⟨H + 3, 0, none⟩) 2 2, .slice (some ⟨H + 4, 0, none⟩) 3 3] Ls,
  .cells #[.bool true] Bo,
  .cells #[.bool true, .bool true] Bo,
  .cells #[.bool true, .bool true, .bool true] Bo,
  .cells #[.slice (some ⟨H + 6, 0, none⟩) 1 1, .slice (some ⟨H + 7, 0, none⟩) 2 2, .slice (some ⟨H + 8, 0, none⟩) 3 3] Lb]
theorem strs_block8 {w : World} {b n : Nat} {ss : List ByteArray} {T : TypeId} {m : Nat × Nat} {C : Array Value} (h : w.heap[b]? = some (.cells C T m)) (hC : C = (ss.map Value.string).toArray) (hl : ss.length = n) : Strs w (some ⟨b, 0, none⟩) n n ss := by
  subst hC hl
  refine ⟨rfl, ?_⟩
  by_cases h0 : ss.length = 0
  · exact .inr (.inl ⟨h0, _, rfl⟩)
  · refine .inr (.inr ⟨by omega, Nat.le_refl _, _, _, rfl, fun i hi => ?_⟩)
    rw [Nat.zero_add, cell_of_row _ _ i _ T m h]
    simp [List.getElem?_eq_getElem hi]
theorem bools_block8 {w : World} {b n : Nat} {ss : List Bool} {T : TypeId} {m : Nat × Nat} {C : Array Value} (h : w.heap[b]? = some (.cells C T m)) (hC : C = (ss.map Value.bool).toArray) (hl : ss.length = n) : Bools w (some ⟨b, 0, none⟩) n n ss := by
  subst hC hl
  refine ⟨rfl, ?_⟩
  by_cases h0 : ss.length = 0
  · exact .inr (.inl ⟨h0, _, rfl⟩)
  · refine .inr (.inr ⟨by omega, Nat.le_refl _, _, _, rfl, fun i hi => ?_⟩)
    rw [Nat.zero_add, cell_of_row _ _ i _ T m h]
    simp [List.getElem?_eq_getElem hi]
theorem reb_forms {Sh St Ls Bo Lb : TypeId} {w : World} {H d : Nat} (hb : ∀ j o, (rObjs Sh St Ls Bo Lb H d)[j]? = some o → w.heap[H + j]? = some o) {k : Nat} (hk : k < 3) :
    ∃ X Y a n b m ss bs, w.cell? ⟨H + 1, k * 2, none⟩ = some (.int .i64 X) ∧ w.cell? ⟨H + 1, k * 2 + 1, none⟩ = some (.int .i64 Y) ∧ w.cell? ⟨H + 5, k, none⟩ = some (.slice a n n) ∧ w.cell? ⟨H + 9, k, none⟩ = some (.slice b m m) ∧
      Strs w a n n ss ∧ Bools w b m m bs ∧ n ≤ 3 ∧ m ≤ 3 ∧ rebR X Y ss bs ([], 800) := by
  have c2 := fun i => cell_of_row w (H + 1) i _ _ _ (hb 1 _ rfl)
  have c8 := fun i => cell_of_row w (H + 5) i _ _ _ (hb 5 _ rfl)
  have c14 := fun i => cell_of_row w (H + 9) i _ _ _ (hb 9 _ rfl)
  have h : k = 0 ∨ k = 1 ∨ k = 2 := by omega
  rcases h with rfl | rfl | rfl
  · refine ⟨-(1 + (d : Int)), 0, some ⟨H + 2, 0, none⟩, 1, some ⟨H + 6, 0, none⟩, 1, [tA], [true], by rw [c2]; rfl, by rw [c2]; rfl, by rw [c8]; rfl, by rw [c14]; rfl, strs_block8 (hb 2 _ rfl) rfl rfl, bools_block8 (hb 6 _ rfl) rfl rfl, by decide, by decide, ⟨([], 700), .inl ⟨fun hf => ?_, rfl⟩, .inl ⟨rfl, rfl⟩⟩⟩
    have := hf.1
    unfold ShpMay at this
    omega
  · exact ⟨2, 1, some ⟨H + 3, 0, none⟩, 2, some ⟨H + 7, 0, none⟩, 2, [tA, tB], [true, true], by rw [c2]; rfl, by rw [c2]; rfl, by rw [c8]; rfl, by rw [c14]; rfl, strs_block8 (hb 3 _ rfl) rfl rfl, bools_block8 (hb 7 _ rfl) rfl rfl, by decide, by decide, ⟨([], 700), .inl ⟨by decide +kernel, rfl⟩, .inl ⟨rfl, rfl⟩⟩⟩
  · exact ⟨2, 1, some ⟨H + 4, 0, none⟩, 3, some ⟨H + 8, 0, none⟩, 3, [tA, tBC, tD], [true, true, true], by rw [c2]; rfl, by rw [c2]; rfl, by rw [c8]; rfl, by rw [c14]; rfl, strs_block8 (hb 4 _ rfl) rfl rfl, bools_block8 (hb 8 _ rfl) rfl rfl, by decide, by decide, ⟨([], 700), .inl ⟨by decide +kernel, rfl⟩, .inl ⟨rfl, rfl⟩⟩⟩
theorem reb_few : rebR 2 1 [tA, tB, tC] [false, true, false] ([], 801) := ⟨([], 701), .inr (.inl ⟨by decide +kernel, by decide +kernel, rfl⟩), .inr (.inl ⟨by decide, by decide, rfl⟩)⟩
set_option maxRecDepth 100000 in
set_option maxHeartbeats 8000000 in
theorem RebuildForms_walk {w : World} (hM : Made w) (a0 : Int) (w0 : (Lit.int .i64 a0).wf = true) (a1 : Int) (w1' : (Lit.int .i64 a1).wf = true) :
    Calls Tryd.prog 6 #[.int .i64 a0, .int .i64 a1] w fun e w' => e = .returned (.bool true) ∧ Below w.heap.size w w' := by
  have MD := hide hM
  clear hM
  have hx : ∃ d : Nat, d < 1024 ∧ bits .and .i64 a1 1023 = (d : Int) := by
    refine ⟨(a1 % 1024).toNat, by omega, ?_⟩
    rw [and_1023]; omega
  obtain ⟨d, hd, hx⟩ := hx
  obtain ⟨k, hk0, ek⟩ := modK a0 3 (by decide) (by decide)
  have hk : k < 3 := by omega
  go_enter Tryd.func6, Tryd.ntmps6
  go_wp2_with fail
  refine (awake8_any _ (unhide MD)).mono ?_
  rintro e w1 ⟨rfl, hb1⟩
  have HB := hide hb1
  clear hb1
  go_wp2_with fail
  refine wp_with (fun W => (∀ j o, (rObjs 23 9 24 4 25 w1.heap.size d)[j]? = some o → W.heap[w1.heap.size + j]? = some o) ∧ Below w1.heap.size w1 W) ?_ ?_
  · exact ⟨fun j o h => allocs_heap w1 (rObjs 23 9 24 4 25 w1.heap.size d) j o h, allocs_below w1 (rObjs 23 9 24 4 25 w1.heap.size d)⟩
  · rintro W ⟨hT, hbW⟩
    replace HB := hide (bt (unhide HB) hbW)
    have BS := hide (hT 0 _ rfl)
    obtain ⟨X, Y, a, n, b, m, ss, bs, c0, c1, c2, c3, hs, hbb, hn, hm, hr⟩ := reb_forms hT hk
    replace c0 : W.cell? ⟨w1.heap.size + 1, k * 2, none⟩ = some (.int .i64 X) := c0
    replace c1 : W.cell? ⟨w1.heap.size + 1, k * 2 + 1, none⟩ = some (.int .i64 Y) := c1
    replace c2 : W.cell? ⟨w1.heap.size + 1 + 1 + 1 + 1 + 1, k, none⟩ = some (.slice a n n) := c2
    replace c3 : W.cell? ⟨w1.heap.size + 1 + 1 + 1 + 1 + 1 + 1 + 1 + 1 + 1, k, none⟩ = some (.slice b m m) := c3
    have HT := hide hs
    have HBs := hide hbb
    have HR := hide hr
    clear hT hbW hs hbb hr
    have g0 := kept_cell (B := W.heap.size) c0 (cell_lt c0)
    have g1 := kept_cell (B := W.heap.size) c1 (cell_lt c1)
    have g2 := kept_cell (B := W.heap.size) c2 (cell_lt c2)
    have g3 := kept_cell (B := W.heap.size) c3 (cell_lt c3)
    clear c0 c1 c2 c3
    have hk' : (k : Int) < 3 := by omega
    simp only [ek]
    refine wp_region_ord_then (S := Below W.heap.size W) [(true, 0), (true, 1), (true, 2), (true, 3), (true, 4), (true, 5), (true, 6), (true, 7), (true, 8), (true, 9), (true, 10), (true, 11), (false, 12), (true, 13), (true, 14), (true, 15), (true, 16)] (List.cons_ne_nil _ _) (by kernel_rfl) (by kernel_rfl) (by kernel_rfl) (by kernel_rfl) (by kernel_rfl) ((Below.refl _ _).drew) ?_
    simp only [List.dropLast_cons_cons, List.dropLast_singleton, List.getLast_cons_cons, List.getLast_singleton, withOps, List.map_cons, List.map_nil, List.getElem?_cons_succ, List.getElem?_cons_zero]
    repeat (refine walkH_read (by rfl) (by (intro gx; go_simp; try (with_reducible rfl))) ?_; try simp only [Act.put, List.setIfInBounds_toArray, List.set_cons_zero, List.set_cons_succ])
    refine walkH_do rfl (fun K hK => ?_)
    go_simp
    refine (rebRebuild_any X Y _ _ _ _ _ _ ss bs _ ((unhide HT).below ((Below.refl _ _).drew)) ((unhide HBs).below ((Below.refl _ _).drew)) (by omega) (by omega) (((unhide MD).up (unhide HB)).up ((Below.refl _ _).drew))).mono ?_
    rintro e w4 ⟨v4, r4, hr4, rfl, O4, b4⟩
    obtain rfl := rebR_one (unhide HR) hr4
    obtain ⟨p4, c4, rfl, S4⟩ := O4.strs
    have hb4 : Below W.heap.size W w4 := ((Below.refl _ _).drew).trans b4
    refine hK _ _ hb4 ?_
    clear hK K
    try simp only [Act.put, List.setIfInBounds_toArray, List.set_cons_zero, List.set_cons_succ]
    replace BS := hide ((hb4.block _ (lt_of_block (unhide BS))).trans (unhide BS))
    replace HB := hide (bt (unhide HB) hb4)
    clear b4 hb4 O4 S4 hr4
    repeat (refine walkH_read (by rfl) (by (intro gx; go_simp; try (with_reducible rfl))) ?_; try simp only [Act.put, List.setIfInBounds_toArray, List.set_cons_zero, List.set_cons_succ])
    refine lastPost_of_list ?_
    simp only [List.cons_append, List.nil_append]
    go_wp2
    refine NoPanic.normal ?_
    have cs0 : w4.cell? ⟨w1.heap.size, 0, none⟩ = some (.int .i64 2) := (box_two (unhide BS)).1
    have cs1 : w4.cell? ⟨w1.heap.size, 1, none⟩ = some (.int .i64 1) := (box_two (unhide BS)).2
    go_wp2_with fail
    refine (reb_two w4 ((unhide MD).up (unhide HB)) 2 1 [tA, tB, tC] [false, true, false] 3 3 _ _ rfl rfl rfl rfl (by decide) (by decide) _ reb_few).mono ?_
    rintro e w5 ⟨q5, c5, rfl, _, b5⟩
    replace HB := hide (bt (unhide HB) b5)
    clear b5 cs0 cs1
    go_wp2_with (go_at_call 11; refine (num_any _ _).mono ?_; rintro e w' ⟨rfl, rfl⟩)
    go_ret
    exact ⟨rfl, unhide HB⟩
end Go.Proofs.YtcgagkaalbljmaaDoor
