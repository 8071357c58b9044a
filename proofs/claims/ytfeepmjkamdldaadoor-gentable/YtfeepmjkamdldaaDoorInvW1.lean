/- Package invert's lines: plus, divided. -/
import Derived.Test.YtfeepmjkamdldaaDoorPairMem
import Derived.Test.YtfeepmjkamdldaaDoorGfWalks
import Derived.Test.YtfeepmjkamdldaaDoorHoist
import Derived.Test.YtfeepmjkamdldaaDoorRefMat1
import Derived.Deep.Cut
import Derived.Deep.DrawnRows
namespace Go.Proofs.YtfeepmjkamdldaaDoor
open Go.RowKit
set_option linter.unusedVariables false
set_option linter.unusedSimpArgs false
attribute [local go_sem ↓] Go.wp_at_zero Go.wp_at_succ
/-- what plus answers -/
def plusF (x : Nat) (f g : Nat → Nat) : Nat → Nat := fun s => f s ^^^ Gf.mul x (g s)
/-- what plus has put in so far -/
def plusTo (n x : Nat) (f g : Nat → Nat) : Nat → Nat := fun s => if s < n then f s ^^^ Gf.mul x (g s) else f s
theorem plusTo_step (n x : Nat) (f g : Nat → Nat) : putOne n (f n ^^^ Gf.mul x (g n)) (plusTo n x f g) = plusTo (n + 1) x f g := by
  funext s
  unfold putOne plusTo
  by_cases h : s = n
  · subst h; simp
  · by_cases h2 : s < n
    · simp [h, h2, show s < n + 1 by omega]
    · simp [h, h2, show ¬ s < n + 1 by omega]
theorem three_blocks (w : World) (a b c : Obj) : ((((w.alloc a).alloc b).alloc c).heap[w.heap.size]? = some a) ∧ ((((w.alloc a).alloc b).alloc c).heap[w.heap.size + 1]? = some b) ∧ ((((w.alloc a).alloc b).alloc c).heap[w.heap.size + 1 + 1]? = some c) ∧ Below w.heap.size w (((w.alloc a).alloc b).alloc c) := by
  have s1 : (w.alloc a).heap.size = w.heap.size + 1 := by simp
  have s2 : ((w.alloc a).alloc b).heap.size = w.heap.size + 1 + 1 := by simp
  refine ⟨?_, ?_, ?_, by go_grown⟩
  · exact ((below_two (w.alloc a) b c).block _ (by omega)).trans (heap_alloc_new w a)
  · rw [← s1]
    exact ((below_alloc ((w.alloc a).alloc b) c).block _ (by omega)).trans (heap_alloc_new _ b)
  · rw [← s2]
    exact heap_alloc_new _ c
theorem zero_line : #[Value.int IntKind.i64 0, Value.int IntKind.i64 0, Value.int IntKind.i64 0, Value.int IntKind.i64 0, Value.int IntKind.i64 0, Value.int IntKind.i64 0, Value.int IntKind.i64 0, Value.int IntKind.i64 0, Value.int IntKind.i64 0, Value.int IntKind.i64 0, Value.int IntKind.i64 0, Value.int IntKind.i64 0, Value.int IntKind.i64 0, Value.int IntKind.i64 0, Value.int IntKind.i64 0, Value.int IntKind.i64 0, Value.int IntKind.i64 0, Value.int IntKind.i64 0, Value.int IntKind.i64 0, Value.int IntKind.i64 0, Value.int IntKind.i64 0, Value.int IntKind.i64 0, Value.int IntKind.i64 0, Value.int IntKind.i64 0] = (lineC (fun _ => 0)).toArray := by kernel_rfl
/-- a line as the result of a call -/
theorem res_line {fn : Func} {t : Tmp} {g : Nat} {f : Nat → Nat} {w : World} (hr : fn.results = #[.cell t 71]) (tmps : Array Value) (ht : tmps.getD t undef = .pointer (some ⟨g, 0, none⟩)) (hc : LineAt w g f) :
    (results fn tmps).run Tryd.prog w = .ok (.agg (lineC f).toArray) w := by
  obtain ⟨d, hu, hd⟩ := desc_line
  rw [Array.getD_eq_getD_getElem?] at ht
  simp [results, hr, ht, asAddr, Result.andThen, run_loadVar_mid w g 0 _ _ d hc.range hu hd (by rw [info_line, lineC_len])]
theorem LineAt.other {w : World} {g g' o : Nat} {v : Value} {f : Nat → Nat} (h : LineAt w g' f) (hne : g' ≠ g) : LineAt (w.setCell ⟨g, o, none⟩ v) g' f := (setCells_other g [v] o w g' hne).trans h
theorem plusTo_all (x : Nat) (f g : Nat → Nat) : lineC (plusTo 24 x f g) = lineC (plusF x f g) := lineC_congr (fun c hc => by simp [plusTo, plusF, hc])
theorem index_line {g : Nat → Nat} {i : Nat} (hi : i < 24) (w : World) : (Instr.index 71 (.agg (lineC g).toArray) (.int .i64 i)).run Tryd.prog w = .ok (.int .i64 (g i)) w := by
  have h1 : (i : Int) < 24 := by omega
  have h2 : (lineC g)[i]? = some (.int .i64 (g i)) := lineC_at hi
  simp [Instr.index, asIntOf, asInt, go_sem, run_underlying Tryd.underlying71, h1, part, h2]
  intro h; omega
set_option maxRecDepth 100000 in
set_option maxHeartbeats 1000000 in
theorem plus_any (x : Nat) (f g : Nat → Nat) (w : World) (hx : x < 256) (hf : ∀ c, c < 24 → f c < 256) (hg : ∀ c, c < 24 → g c < 256) :
    Calls Tryd.prog 59 #[.agg (lineC f).toArray, .int .i64 x, .agg (lineC g).toArray] w fun e w' => e = .returned (.agg (lineC (plusF x f g)).toArray) ∧ Below w.heap.size w w' := by
  have HF := hide hf
  have HG := hide hg
  clear hf hg
  go_enter Tryd.func59, Tryd.ntmps59
  go_upto_region 1 with fail
  rw [zero_line]
  obtain ⟨b0, b1, b2, b3⟩ := three_blocks w (.cells (lineC f).toArray 71) (.cells (lineC g).toArray 71) (.cells (lineC (fun _ => 0)).toArray 71)
  generalize ((w.alloc (.cells (lineC f).toArray 71)).alloc (.cells (lineC g).toArray 71)).alloc (.cells (lineC (fun _ => 0)).toArray 71) = W at b0 b1 b2 b3 ⊢
  have L0 : Hid (LineAt W w.heap.size f) := hide b0
  have L1 : Hid (LineAt W (w.heap.size + 1) g) := hide b1
  have L2 : Hid (LineAt W (w.heap.size + 1 + 1) (fun _ => 0)) := hide b2
  have BL := hide b3
  clear b0 b1 b2 b3
  go_wp2_with (refine step_load_line rfl (.tmp 5) rfl _ 0 rfl g (unhide L1).range ?_)
  go_loopw [12] (fun iv wr => ∃ i : Nat, i ≤ 24 ∧ iv = .int .i64 i ∧ Hid (LineAt wr w.heap.size (plusTo i x f g)) ∧ Hid (LineAt wr (w.heap.size + 1 + 1) (fun _ => 0)) ∧ Hid (Below w.heap.size w wr)) (fun iv _ => 24 - (intOf iv).toNat)
  case atStart => exact ⟨0, by omega, rfl, L0, L2, BL⟩
  case round =>
    obtain ⟨i, hi, rfl, HL, HR, HB⟩ := hrel
    by_cases hlt : i < 24
    · have hlt' : (i : Int) < 24 := by omega
      have hgi := fun w' => index_line (g := g) hlt w'
      have hfi : wr.cell? ⟨w.heap.size, i, none⟩ = some (.int .i64 (f i)) := by
        have := (unhide HL).cell hlt
        simpa [plusTo] using this
      have hfz : wr.frozen? ⟨w.heap.size, i, none⟩ = false := free_of_list (unhide HL)
      have hg2 := unhide HG i hlt
      have hf2 := unhide HF i hlt
      have hm := Gf.mul_lt x (g i)
      go_wp2_with fail
      refine (gfMul_yes x (g i) _ hx hg2).mono ?_
      rintro e w' ⟨rfl, rfl⟩
      go_wp2_with fail
      refine (gfAdd_yes (f i) (Gf.mul x (g i)) _ hf2 hm).mono ?_
      rintro e w' ⟨rfl, rfl⟩
      go_wp2_with fail
      go_roundw
      case rel =>
        refine ⟨i + 1, by omega, by go_num, ?_, hide ((unhide HR).other (by omega)), hide ((unhide HB).setCell (Nat.le_refl _) _)⟩
        rw [← plusTo_step]
        exact hide ((unhide HL).setCell hlt)
      case measure => simp [intOf]; omega
    · obtain rfl : i = 24 := by omega
      have HS := hide ((unhide HR).setAll (q := plusTo 24 x f g))
      have HBS := hide (below_setCells (Nat.le_add_right _ 2) (lineC (plusTo 24 x f g)) 0 _ _ (unhide HB))
      generalize hq : plusTo 24 x f g = q at HL HS HBS
      have HQ := hide hq
      clear hq
      go_upto_region 7 with fail
      refine wp_region_lit ?_
      refine step_load_line rfl (.tmp 3) rfl w.heap.size 0 rfl q (unhide HL).range ?_
      refine step_store_line rfl (.tmp 6) (.tmp 33) rfl (w.heap.size + 1 + 1) 0 rfl q rfl (unhide HR).there ?_
      refine wpList_nil ?_
      have HE : Hid (Ending.returned (.agg (lineC q).toArray) = .returned (.agg (lineC (plusF x f g)).toArray)) := hide (by rw [← unhide HQ, plusTo_all])
      go_wp2_with (exact bodyPost_ret (res_line Tryd.results59 _ rfl (unhide HS)) rfl ⟨unhide HE, unhide HBS⟩)
set_option maxRecDepth 100000 in
set_option maxHeartbeats 1000000 in
theorem divided_any (x : Nat) (g : Nat → Nat) (w : World) (hx : x < 256) (h0 : x ≠ 0) (hg : ∀ c, c < 24 → g c < 256) :
    Calls Tryd.prog 58 #[.agg (lineC g).toArray, .int .i64 x] w fun e w' => e = .returned (.agg (lineC (plusF (Gf.inv x) (fun _ => 0) g)).toArray) ∧ Below w.heap.size w w' := by
  have HG := hide hg
  clear hg
  go_enter Tryd.func58, Tryd.ntmps58
  go_upto_region 1 with fail
  rw [zero_line]
  have b0 := two_old w (.cells (lineC g).toArray 71) (.cells (lineC (fun _ => 0)).toArray 71)
  have b1 := two_new w (.cells (lineC g).toArray 71) (.cells (lineC (fun _ => 0)).toArray 71)
  have b2 := below_two w (.cells (lineC g).toArray 71) (.cells (lineC (fun _ => 0)).toArray 71)
  generalize ((w.alloc (.cells (lineC g).toArray 71)).alloc (.cells (lineC (fun _ => 0)).toArray 71)) = W at b0 b1 b2 ⊢
  have L0 : Hid (LineAt W w.heap.size g) := hide b0
  have L1 : Hid (LineAt W (w.heap.size + 1) (fun _ => 0)) := hide b1
  have BL := hide b2
  clear b0 b1 b2
  go_wp2_with fail
  refine (gfInv_yes x _ hx h0).mono ?_
  rintro e w' ⟨rfl, rfl⟩
  go_upto_region 2 with fail
  go_wp2_with (refine step_load_line rfl (.tmp 2) rfl w.heap.size 0 rfl g (unhide L0).range ?_)
  rw [zero_line]
  refine (plus_any (Gf.inv x) (fun _ => 0) g _ (Gf.inv_lt x) (fun _ _ => by decide) (unhide HG)).mono ?_
  rintro e w1 ⟨rfl, hb⟩
  generalize hq : plusF (Gf.inv x) (fun _ => 0) g = q
  have HL1 := hide ((unhide L1).below hb)
  have HS := hide ((unhide HL1).setAll (q := q))
  have HBS := hide (below_setCells (Nat.le_add_right _ 1) (lineC q) 0 _ _ (bt (unhide BL) hb))
  have HE : Hid (Ending.returned (.agg (lineC q).toArray) = .returned (.agg (lineC (plusF (Gf.inv x) (fun _ => 0) g)).toArray)) := hide (by rw [hq])
  clear hq hb
  go_wp2_with (first | exact bodyPost_ret (res_line Tryd.results58 _ rfl (unhide HS)) rfl ⟨unhide HE, unhide HBS⟩ | refine step_store_line rfl (.tmp 4) (.tmp 15) rfl (w.heap.size + 1) 0 rfl q rfl (unhide HL1).there ?_)
end Go.Proofs.YtfeepmjkamdldaaDoor
