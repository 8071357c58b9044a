/- DecodeForms: shapes, shards that are none; too few. -/
import Derived.Test.YtncehpbghnokpaaDoorAwake7
import Derived.Test.YtncehpbghnokpaaDoorAllocs
import Derived.Test.YtncehpbghnokpaaDoorFormsT
import Derived.Test.YtncehpbghnokpaaDoorKRegs
import Derived.Test.YtncehpbghnokpaaDoorKCore
namespace Go.Proofs.YtncehpbghnokpaaDoor
open Go.RowKit
set_option linter.unusedVariables false
set_option linter.unusedSimpArgs false
def sA : ByteArray := ⟨#[97]⟩
def sB : ByteArray := ⟨#[98]⟩
def sC : ByteArray := ⟨#[99]⟩
def sD : ByteArray := ⟨#[100]⟩
def sBC : ByteArray := ⟨#[98, 99]⟩
def dObjs (Sh Bt St Ls Bo Lb : TypeId) (H d : Nat) (S : ByteArray) : List Obj := [
  .cells #[.int .i64 2, .int .i64 1] Sh,
  .cells (madeCells #[.int .u8 0] (4097 + d)) Bt,
  .cells #[.int .i64 0, .int .i64 0, .int .i64 2, .int .i64 1, .int .i64 2, .int .i64 1, .int .i64 2, .int .i64 1, .int .i64 2, .int .i64 1, .int .i64 2, .int .i64 (-(1 + (d : Int)))] Sh,
  .cells #[.string sA, .string sB] St,
  .cells #[.string sA, .string sB, .string sC] St,
  .cells #[.string sA, .string sBC, .string sD] St,
  .cells #[.string S, .string S, .string S] St,
  .cells #[.string sA, .string sB, .string sC] St,
  .cells #[.slice none 0 0, .slice (some ⟨H + 3, 0, none⟩) 2 2, .slice (some ⟨H + 4, 0, none⟩) 3 3, .slice (some ⟨H + 5, 0, none⟩) 3 3, .slice (some ⟨H + 6, 0, none⟩) 3 3, .slice (some ⟨H + 7, 0, none⟩) 3 3] Ls,
  .cells #[.bool true, .bool true] Bo,
  .cells #[.bool true, .bool true] Bo,
  .cells #[.bool true, .bool true, .bool false] Bo,
  .cells #[.bool true, .bool true, .bool true] Bo,
  .cells #[.bool true, .bool true, .bool true] Bo,
  .cells #[.slice none 0 0, .slice (some ⟨H + 9, 0, none⟩) 2 2, .slice (some ⟨H + 10, 0, none⟩) 2 2, .slice (some ⟨H + 11, 0, none⟩) 3 3, .slice (some ⟨H + 12, 0, none⟩) 3 3, .slice (some ⟨H + 13, 0, none⟩) 3 3] Lb]
theorem strs_block {w : World} {b n : Nat} {ss : List ByteArray} {T : TypeId} {m : Nat × Nat} {C : Array Value} (h : w.heap[b]? = some (.cells C T m)) (hC : C = (ss.map Value.string).toArray) (hl : ss.length = n) : Strs w (some ⟨b, 0, none⟩) n n ss := by
  subst hC hl
  refine ⟨rfl, ?_⟩
  by_cases h0 : ss.length = 0
  · exact .inr (.inl ⟨h0, _, rfl⟩)
  · refine .inr (.inr ⟨by omega, Nat.le_refl _, _, _, rfl, fun i hi => ?_⟩)
    rw [Nat.zero_add, cell_of_row _ _ i _ T m h]
    simp [List.getElem?_eq_getElem hi]
theorem bools_block {w : World} {b n : Nat} {ss : List Bool} {T : TypeId} {m : Nat × Nat} {C : Array Value} (h : w.heap[b]? = some (.cells C T m)) (hC : C = (ss.map Value.bool).toArray) (hl : ss.length = n) : Bools w (some ⟨b, 0, none⟩) n n ss := by
  subst hC hl
  refine ⟨rfl, ?_⟩
  by_cases h0 : ss.length = 0
  · exact .inr (.inl ⟨h0, _, rfl⟩)
  · refine .inr (.inr ⟨by omega, Nat.le_refl _, _, _, rfl, fun i hi => ?_⟩)
    rw [Nat.zero_add, cell_of_row _ _ i _ T m h]
    simp [List.getElem?_eq_getElem hi]
theorem dec_forms {Sh Bt St Ls Bo Lb : TypeId} {w : World} {H d : Nat} {S : ByteArray} (hS : S.size = 4097 + d) (hb : ∀ j o, (dObjs Sh Bt St Ls Bo Lb H d S)[j]? = some o → w.heap[H + j]? = some o) {k : Nat} (hk : k < 6) :
    ∃ X Y a n b m ss bs, w.cell? ⟨H + 2, k * 2, none⟩ = some (.int .i64 X) ∧ w.cell? ⟨H + 2, k * 2 + 1, none⟩ = some (.int .i64 Y) ∧ w.cell? ⟨H + 8, k, none⟩ = some (.slice a n n) ∧ w.cell? ⟨H + 14, k, none⟩ = some (.slice b m m) ∧
      Strs w a n n ss ∧ Bools w b m m bs ∧ n ≤ 3 ∧ m ≤ 3 ∧ decR X Y ss bs ([], 700) := by
  have c2 := fun i => cell_of_row w (H + 2) i _ _ _ (hb 2 _ rfl)
  have c8 := fun i => cell_of_row w (H + 8) i _ _ _ (hb 8 _ rfl)
  have c14 := fun i => cell_of_row w (H + 14) i _ _ _ (hb 14 _ rfl)
  have h : k = 0 ∨ k = 1 ∨ k = 2 ∨ k = 3 ∨ k = 4 ∨ k = 5 := by omega
  rcases h with rfl | rfl | rfl | rfl | rfl | rfl
  · exact ⟨0, 0, none, 0, none, 0, [], [], by rw [c2]; rfl, by rw [c2]; rfl, by rw [c8]; rfl, by rw [c14]; rfl, ⟨rfl, .inl ⟨rfl, rfl, rfl⟩⟩, ⟨rfl, .inl ⟨rfl, rfl, rfl⟩⟩, by decide, by decide, .inl ⟨by decide +kernel, rfl⟩⟩
  · exact ⟨2, 1, some ⟨H + 3, 0, none⟩, 2, some ⟨H + 9, 0, none⟩, 2, [sA, sB], [true, true], by rw [c2]; rfl, by rw [c2]; rfl, by rw [c8]; rfl, by rw [c14]; rfl, strs_block (hb 3 _ rfl) rfl rfl, bools_block (hb 9 _ rfl) rfl rfl, by decide, by decide, .inl ⟨by decide +kernel, rfl⟩⟩
  · exact ⟨2, 1, some ⟨H + 4, 0, none⟩, 3, some ⟨H + 10, 0, none⟩, 2, [sA, sB, sC], [true, true], by rw [c2]; rfl, by rw [c2]; rfl, by rw [c8]; rfl, by rw [c14]; rfl, strs_block (hb 4 _ rfl) rfl rfl, bools_block (hb 10 _ rfl) rfl rfl, by decide, by decide, .inl ⟨by decide +kernel, rfl⟩⟩
  · exact ⟨2, 1, some ⟨H + 5, 0, none⟩, 3, some ⟨H + 11, 0, none⟩, 3, [sA, sBC, sD], [true, true, false], by rw [c2]; rfl, by rw [c2]; rfl, by rw [c8]; rfl, by rw [c14]; rfl, strs_block (hb 5 _ rfl) rfl rfl, bools_block (hb 11 _ rfl) rfl rfl, by decide, by decide, .inl ⟨by decide +kernel, rfl⟩⟩
  · refine ⟨2, 1, some ⟨H + 6, 0, none⟩, 3, some ⟨H + 12, 0, none⟩, 3, [S, S, S], [true, true, true], by rw [c2]; rfl, by rw [c2]; rfl, by rw [c8]; rfl, by rw [c14]; rfl, strs_block (hb 6 _ rfl) rfl rfl, bools_block (hb 12 _ rfl) rfl rfl, by decide, by decide, .inl ⟨fun hf => ?_, rfl⟩⟩
    have h4 := (hf.2.2.2 0 (by rw [hadL_len]; decide +kernel)).2
    have e : (hadL [true, true, true] [S, S, S] [true, true, true].length).getD 0 ByteArray.empty = S := rfl
    rw [e] at h4
    omega
  · refine ⟨2, -(1 + (d : Int)), some ⟨H + 7, 0, none⟩, 3, some ⟨H + 13, 0, none⟩, 3, [sA, sB, sC], [true, true, true], by rw [c2]; rfl, by rw [c2]; rfl, by rw [c8]; rfl, by rw [c14]; rfl, strs_block (hb 7 _ rfl) rfl rfl, bools_block (hb 13 _ rfl) rfl rfl, by decide, by decide, .inl ⟨fun hf => ?_, rfl⟩⟩
    have := hf.1
    unfold ShpMay at this
    omega
theorem dec_few : decR 2 1 [sA, sBC, ByteArray.empty] [true, false, false] ([], 701) := .inr (.inl ⟨by decide +kernel, by decide +kernel, rfl⟩)
set_option maxRecDepth 100000 in
set_option maxHeartbeats 8000000 in
theorem DecodeForms_walk {w : World} (hM : Made w) (a0 : Int) (w0 : (Lit.int .i64 a0).wf = true) (a1 : Int) (w1' : (Lit.int .i64 a1).wf = true) :
    Calls Tryd.prog 4 #[.int .i64 a0, .int .i64 a1] w fun e w' => e = .returned (.bool true) ∧ Below w.heap.size w w' := by
  have MD := hide hM
  clear hM
  have hx : ∃ d : Nat, d < 1024 ∧ bits .and .i64 a1 1023 = (d : Int) := by
    refine ⟨(a1 % 1024).toNat, by omega, ?_⟩
    rw [and_1023]; omega
  obtain ⟨d, hd, hx⟩ := hx
  obtain ⟨k, hk0, ek⟩ := modK a0 6 (by decide) (by decide)
  have hk : k < 6 := by omega
  have hmk3 : ∀ w, (Instr.makeSlice 36 (.int .i64 (4096 + (1 + (d : Int)))) (.int .i64 (4096 + (1 + (d : Int))))).run Tryd.prog w = .ok (.slice (some ⟨w.heap.size, 0, none⟩) (4097 + d) (4097 + d)) (w.alloc (.cells (madeCells #[.int .u8 0] (4097 + d)) 5)) := fun w => by
    have := run_make_row' (P := Tryd.prog) 36 5 (.int .u8 0) 1 Tryd.underlying36 Tryd.infoByte rfl .i64 .i64 (4097 + d) (by omega) (by omega) w
    rw [show ((4097 + d : Nat) : Int) = 4096 + (1 + (d : Int)) by omega] at this
    exact this
  obtain ⟨S, eS⟩ : ∃ S, S = strOfNums (List.replicate (4097 + d) (0 : Int)) := ⟨_, rfl⟩
  have hS : S.size = 4097 + d := by rw [eS, strOfNums_size]; simp
  have HS := hide hS
  have ES := hide eS
  clear hS eS
  go_enter Tryd.func4, Tryd.ntmps4
  go_wp2_with fail
  refine (awake7_any _ (unhide MD)).mono ?_
  rintro e w1 ⟨rfl, hb1⟩
  have HB := hide hb1
  clear hb1
  have hcv := run_convert_bytes_arg (P := Tryd.prog) ((w1.alloc (.cells #[.int .i64 2, .int .i64 1] 23)).alloc (.cells (madeCells #[.int .u8 0] (4097 + d)) 5)) 36 5 Tryd.underlying36 Tryd.underlying5 (w1.heap.size + 1) 0 (4097 + d) (4097 + d) (List.replicate (4097 + d) (0 : Int)) (by simp) (by
    have h := made_bytes (w1.alloc (.cells #[.int .i64 2, .int .i64 1] 23)) (4097 + d) 5
    have e : (w1.alloc (.cells #[.int .i64 2, .int .i64 1] 23)).heap.size = w1.heap.size + 1 := by simp
    rw [e] at h
    exact h) 9 Tryd.underlying9
  rw [← unhide ES] at hcv
  go_wp2_with fail
  refine wp_with (fun W => (∀ j o, (dObjs 23 5 9 24 4 25 w1.heap.size d S)[j]? = some o → W.heap[w1.heap.size + j]? = some o) ∧ Below w1.heap.size w1 W) ?_ ?_
  · exact ⟨fun j o h => allocs_heap w1 (dObjs 23 5 9 24 4 25 w1.heap.size d S) j o h, allocs_below w1 (dObjs 23 5 9 24 4 25 w1.heap.size d S)⟩
  · rintro W ⟨hT, hbW⟩
    clear hcv
    replace HB := hide (bt (unhide HB) hbW)
    have BS := hide (hT 0 _ rfl)
    obtain ⟨X, Y, a, n, b, m, ss, bs, c0, c1, c2, c3, hs, hbb, hn, hm, hr⟩ := dec_forms (unhide HS) hT hk
    replace c0 : W.cell? ⟨w1.heap.size + 1 + 1, k * 2, none⟩ = some (.int .i64 X) := c0
    replace c1 : W.cell? ⟨w1.heap.size + 1 + 1, k * 2 + 1, none⟩ = some (.int .i64 Y) := c1
    replace c2 : W.cell? ⟨w1.heap.size + 1 + 1 + 1 + 1 + 1 + 1 + 1 + 1, k, none⟩ = some (.slice a n n) := c2
    replace c3 : W.cell? ⟨w1.heap.size + 1 + 1 + 1 + 1 + 1 + 1 + 1 + 1 + 1 + 1 + 1 + 1 + 1 + 1, k, none⟩ = some (.slice b m m) := c3
    have HT := hide hs
    have HBs := hide hbb
    have HR := hide hr
    clear hT hbW hs hbb hr
    have g0 := kept_cell (B := W.heap.size) c0 (cell_lt c0)
    have g1 := kept_cell (B := W.heap.size) c1 (cell_lt c1)
    have g2 := kept_cell (B := W.heap.size) c2 (cell_lt c2)
    have g3 := kept_cell (B := W.heap.size) c3 (cell_lt c3)
    clear c0 c1 c2 c3
    have hk' : (k : Int) < 6 := by omega
    simp only [ek]
    refine wp_region_ord_then (S := Below W.heap.size W) [(true, 0), (true, 1), (true, 2), (true, 3), (true, 4), (true, 5), (true, 6), (true, 7), (true, 8), (true, 9), (true, 10), (true, 11), (false, 12), (true, 13), (true, 14), (true, 15), (true, 16)] (List.cons_ne_nil _ _) (by kernel_rfl) (by kernel_rfl) (by kernel_rfl) (by kernel_rfl) (by kernel_rfl) ((Below.refl _ _).drew) ?_
    simp only [List.dropLast_cons_cons, List.dropLast_singleton, List.getLast_cons_cons, List.getLast_singleton, withOps, List.map_cons, List.map_nil, List.getElem?_cons_succ, List.getElem?_cons_zero]
    repeat (refine walkH_read (by rfl) (by (intro gx; go_simp; try (with_reducible rfl))) ?_; try simp only [Act.put, List.setIfInBounds_toArray, List.set_cons_zero, List.set_cons_succ])
    refine walkH_do rfl (fun K hK => ?_)
    go_simp
    refine (decDecode_any X Y _ _ _ _ _ _ ss bs _ ((unhide HT).below ((Below.refl _ _).drew)) ((unhide HBs).below ((Below.refl _ _).drew)) (by omega) (by omega) (((unhide MD).up (unhide HB)).up ((Below.refl _ _).drew))).mono ?_
    rintro e w4 ⟨v4, r4, hr4, rfl, O4, b4⟩
    obtain rfl := decR_one (unhide HR) hr4
    obtain ⟨p4, c4, rfl, S4⟩ := O4.strs
    have hb4 : Below W.heap.size W w4 := ((Below.refl _ _).drew).trans b4
    refine hK _ _ hb4 ?_
    clear hK K
    try simp only [Act.put, List.setIfInBounds_toArray, List.set_cons_zero, List.set_cons_succ]
    replace BS := hide ((hb4.block _ (lt_of_block (unhide BS))).trans (unhide BS))
    replace HB := hide (bt (unhide HB) hb4)
    clear b4 hb4 O4 S4 hr4
    repeat (refine walkH_read (by rfl) (by (intro gx; go_simp; try (with_reducible rfl))) ?_; try simp only [Act.put, List.setIfInBounds_toArray, List.set_cons_zero, List.set_cons_succ])
    refine lastPost_of_list ?_
    simp only [List.cons_append, List.nil_append]
    go_wp2
    refine NoPanic.normal ?_
    have cs0 : w4.cell? ⟨w1.heap.size, 0, none⟩ = some (.int .i64 2) := (box_two (unhide BS)).1
    have cs1 : w4.cell? ⟨w1.heap.size, 1, none⟩ = some (.int .i64 1) := (box_two (unhide BS)).2
    go_wp2_with fail
    refine (dec_two w4 ((unhide MD).up (unhide HB)) 2 1 [sA, sBC, ByteArray.empty] [true, false, false] 3 3 _ _ rfl rfl rfl rfl (by decide) (by decide) _ dec_few).mono ?_
    rintro e w5 ⟨q5, c5, rfl, _, b5⟩
    replace HB := hide (bt (unhide HB) b5)
    clear b5 cs0 cs1
    go_wp2_with (go_at_call 10; refine (num_any _ _).mono ?_; rintro e w' ⟨rfl, rfl⟩)
    go_ret
    exact ⟨rfl, unhide HB⟩
end Go.Proofs.YtncehpbghnokpaaDoor
