/- Texts one behind the other: InvW1, InvW2, InvW3, InvW4, InvW5, InvWalk. -/
import Derived.Test.YtcgagkaalbljmaaDoorKRegs
import Derived.Test.YtcgagkaalbljmaaDoorKCore
import Derived.Test.YtcgagkaalbljmaaDoorKMatRef
import Derived.Test.YtcgagkaalbljmaaDoorKInvRef
import Derived.Test.YtcgagkaalbljmaaDoorKMat
import Derived.Deep.Cut
import Derived.Deep.DrawnRows
/- Package invert's lines: plus, divided. -/
namespace Go.Proofs.YtcgagkaalbljmaaDoor
open Go.RowKit
set_option linter.unusedVariables false
set_option linter.unusedSimpArgs false
attribute [local go_sem ↓] Go.wp_at_zero Go.wp_at_succ
/-- what plus answers -/
def plusF (x : Nat) (f g : Nat → Nat) : Nat → Nat := fun s => f s ^^^ Gf.mul x (g s)
/-- what plus has put in so far -/
def plusTo (n x : Nat) (f g : Nat → Nat) : Nat → Nat := fun s => if s < n then f s ^^^ Gf.mul x (g s) else f s
theorem plusTo_step (n x : Nat) (f g : Nat → Nat) : putOne n (f n ^^^ Gf.mul x (g n)) (plusTo n x f g) = plusTo (n + 1) x f g := by
  funext s
  unfold putOne plusTo
  by_cases h : s = n
  · subst h; simp
  · by_cases h2 : s < n
    · simp [h, h2, show s < n + 1 by omega]
    · simp [h, h2, show ¬ s < n + 1 by omega]
theorem three_blocks (w : World) (a b c : Obj) : ((((w.alloc a).alloc b).alloc c).heap[w.heap.size]? = some a) ∧ ((((w.alloc a).alloc b).alloc c).heap[w.heap.size + 1]? = some b) ∧ ((((w.alloc a).alloc b).alloc c).heap[w.heap.size + 1 + 1]? = some c) ∧ Below w.heap.size w (((w.alloc a).alloc b).alloc c) := by
  have s1 : (w.alloc a).heap.size = w.heap.size + 1 := by simp
  have s2 : ((w.alloc a).alloc b).heap.size = w.heap.size + 1 + 1 := by simp
  refine ⟨?_, ?_, ?_, by go_grown⟩
  · exact ((below_two (w.alloc a) b c).block _ (by omega)).trans (heap_alloc_new w a)
  · rw [← s1]
    exact ((below_alloc ((w.alloc a).alloc b) c).block _ (by omega)).trans (heap_alloc_new _ b)
  · rw [← s2]
    exact heap_alloc_new _ c
theorem zero_line : #[Value.int IntKind.i64 0, Value.int IntKind.i64 0, Value.int IntKind.i64 0, Value.int IntKind.i64 0, Value.int IntKind.i64 0, Value.int IntKind.i64 0, Value.int IntKind.i64 0, Value.int IntKind.i64 0, Value.int IntKind.i64 0, Value.int IntKind.i64 0, Value.int IntKind.i64 0, Value.int IntKind.i64 0, Value.int IntKind.i64 0, Value.int IntKind.i64 0, Value.int IntKind.i64 0, Value.int IntKind.i64 0, Value.int IntKind.i64 0, Value.int IntKind.i64 0, Value.int IntKind.i64 0, Value.int IntKind.i64 0, Value.int IntKind.i64 0, Value.int IntKind.i64 0, Value.int IntKind.i64 0, Value.int IntKind.i64 0] = (lineC (fun _ => 0)).toArray := by kernel_rfl
/-- a line as the result of a call -/
theorem res_line {fn : Func} {t : Tmp} {g : Nat} {f : Nat → Nat} {w : World} (hr : fn.results = #[.cell t 98]) (tmps : Array Value) (ht : tmps.getD t undef = .pointer (some ⟨g, 0, none⟩)) (hc : LineAt w g f) :
    (results fn tmps).run Tryd.prog w = .ok (.agg (lineC f).toArray) w := by
  obtain ⟨d, hu, hd⟩ := desc_line
  rw [Array.getD_eq_getD_getElem?] at ht
  simp [results, hr, ht, asAddr, Result.andThen, run_loadVar_mid w g 0 _ _ d hc.range hu hd (by rw [info_line, lineC_len])]
theorem LineAt.other {w : World} {g g' o : Nat} {v : Value} {f : Nat → Nat} (h : LineAt w g' f) (hne : g' ≠ g) : LineAt (w.setCell ⟨g, o, none⟩ v) g' f := (setCells_other g [v] o w g' hne).trans h
theorem plusTo_all (x : Nat) (f g : Nat → Nat) : lineC (plusTo 24 x f g) = lineC (plusF x f g) := lineC_congr (fun c hc => by simp [plusTo, plusF, hc])
theorem index_line {g : Nat → Nat} {i : Nat} (hi : i < 24) (w : World) : (Instr.index 98 (.agg (lineC g).toArray) (.int .i64 i)).run Tryd.prog w = .ok (.int .i64 (g i)) w := by
  have h1 : (i : Int) < 24 := by omega
  have h2 : (lineC g)[i]? = some (.int .i64 (g i)) := lineC_at hi
  simp [Instr.index, asIntOf, asInt, go_sem, run_underlying Tryd.underlying98, h1, part, h2]
  intro h; omega
set_option maxRecDepth 100000 in
set_option maxHeartbeats 1000000 in
theorem plus_any (x : Nat) (f g : Nat → Nat) (w : World) (hx : x < 256) (hf : ∀ c, c < 24 → f c < 256) (hg : ∀ c, c < 24 → g c < 256) :
    Calls Tryd.prog 75 #[.agg (lineC f).toArray, .int .i64 x, .agg (lineC g).toArray] w fun e w' => e = .returned (.agg (lineC (plusF x f g)).toArray) ∧ Below w.heap.size w w' := by
  have HF := hide hf
  have HG := hide hg
  clear hf hg
  go_enter Tryd.func75, Tryd.ntmps75
  go_upto_region 1 with fail
  rw [zero_line]
  obtain ⟨b0, b1, b2, b3⟩ := three_blocks w (.cells (lineC f).toArray 98) (.cells (lineC g).toArray 98) (.cells (lineC (fun _ => 0)).toArray 98)
  generalize ((w.alloc (.cells (lineC f).toArray 98)).alloc (.cells (lineC g).toArray 98)).alloc (.cells (lineC (fun _ => 0)).toArray 98) = W at b0 b1 b2 b3 ⊢
  have L0 : Hid (LineAt W w.heap.size f) := hide b0
  have L1 : Hid (LineAt W (w.heap.size + 1) g) := hide b1
  have L2 : Hid (LineAt W (w.heap.size + 1 + 1) (fun _ => 0)) := hide b2
  have BL := hide b3
  clear b0 b1 b2 b3
  go_wp2_with (refine step_load_line rfl (.tmp 5) rfl _ 0 rfl g (unhide L1).range ?_)
  go_loopw [12] (fun iv wr => ∃ i : Nat, i ≤ 24 ∧ iv = .int .i64 i ∧ Hid (LineAt wr w.heap.size (plusTo i x f g)) ∧ Hid (LineAt wr (w.heap.size + 1 + 1) (fun _ => 0)) ∧ Hid (Below w.heap.size w wr)) (fun iv _ => 24 - (intOf iv).toNat)
  case atStart => exact ⟨0, by omega, rfl, L0, L2, BL⟩
  case round =>
    obtain ⟨i, hi, rfl, HL, HR, HB⟩ := hrel
    by_cases hlt : i < 24
    · have hlt' : (i : Int) < 24 := by omega
      have hgi := fun w' => index_line (g := g) hlt w'
      have hfi : wr.cell? ⟨w.heap.size, i, none⟩ = some (.int .i64 (f i)) := by
        have := (unhide HL).cell hlt
        simpa [plusTo] using this
      have hfz : wr.frozen? ⟨w.heap.size, i, none⟩ = false := free_of_list (unhide HL)
      have hg2 := unhide HG i hlt
      have hf2 := unhide HF i hlt
      have hm := Gf.mul_lt x (g i)
      go_wp2_with fail
      refine (gfMul_yes x (g i) _ hx hg2).mono ?_
      rintro e w' ⟨rfl, rfl⟩
      go_wp2_with fail
      refine (gfAdd_yes (f i) (Gf.mul x (g i)) _ hf2 hm).mono ?_
      rintro e w' ⟨rfl, rfl⟩
      go_wp2_with fail
      go_roundw
      case rel =>
        refine ⟨i + 1, by omega, by go_num, ?_, hide ((unhide HR).other (by omega)), hide ((unhide HB).setCell (Nat.le_refl _) _)⟩
        rw [← plusTo_step]
        exact hide ((unhide HL).setCell hlt)
      case measure => simp [intOf]; omega
    · obtain rfl : i = 24 := by omega
      have HS := hide ((unhide HR).setAll (q := plusTo 24 x f g))
      have HBS := hide (below_setCells (Nat.le_add_right _ 2) (lineC (plusTo 24 x f g)) 0 _ _ (unhide HB))
      generalize hq : plusTo 24 x f g = q at HL HS HBS
      have HQ := hide hq
      clear hq
      go_upto_region 7 with fail
      refine wp_region_lit ?_
      refine step_load_line rfl (.tmp 3) rfl w.heap.size 0 rfl q (unhide HL).range ?_
      refine step_store_line rfl (.tmp 6) (.tmp 33) rfl (w.heap.size + 1 + 1) 0 rfl q rfl (unhide HR).there ?_
      refine wpList_nil ?_
      have HE : Hid (Ending.returned (.agg (lineC q).toArray) = .returned (.agg (lineC (plusF x f g)).toArray)) := hide (by rw [← unhide HQ, plusTo_all])
      go_wp2_with (exact bodyPost_ret (res_line Tryd.results75 _ rfl (unhide HS)) rfl ⟨unhide HE, unhide HBS⟩)
set_option maxRecDepth 100000 in
set_option maxHeartbeats 1000000 in
theorem divided_any (x : Nat) (g : Nat → Nat) (w : World) (hx : x < 256) (h0 : x ≠ 0) (hg : ∀ c, c < 24 → g c < 256) :
    Calls Tryd.prog 74 #[.agg (lineC g).toArray, .int .i64 x] w fun e w' => e = .returned (.agg (lineC (plusF (Gf.inv x) (fun _ => 0) g)).toArray) ∧ Below w.heap.size w w' := by
  have HG := hide hg
  clear hg
  go_enter Tryd.func74, Tryd.ntmps74
  go_upto_region 1 with fail
  rw [zero_line]
  have b0 := two_old w (.cells (lineC g).toArray 98) (.cells (lineC (fun _ => 0)).toArray 98)
  have b1 := two_new w (.cells (lineC g).toArray 98) (.cells (lineC (fun _ => 0)).toArray 98)
  have b2 := below_two w (.cells (lineC g).toArray 98) (.cells (lineC (fun _ => 0)).toArray 98)
  generalize ((w.alloc (.cells (lineC g).toArray 98)).alloc (.cells (lineC (fun _ => 0)).toArray 98)) = W at b0 b1 b2 ⊢
  have L0 : Hid (LineAt W w.heap.size g) := hide b0
  have L1 : Hid (LineAt W (w.heap.size + 1) (fun _ => 0)) := hide b1
  have BL := hide b2
  clear b0 b1 b2
  go_wp2_with fail
  refine (gfInv_yes x _ hx h0).mono ?_
  rintro e w' ⟨rfl, rfl⟩
  go_upto_region 2 with fail
  go_wp2_with (refine step_load_line rfl (.tmp 2) rfl w.heap.size 0 rfl g (unhide L0).range ?_)
  rw [zero_line]
  refine (plus_any (Gf.inv x) (fun _ => 0) g _ (Gf.inv_lt x) (fun _ _ => by decide) (unhide HG)).mono ?_
  rintro e w1 ⟨rfl, hb⟩
  generalize hq : plusF (Gf.inv x) (fun _ => 0) g = q
  have HL1 := hide ((unhide L1).below hb)
  have HS := hide ((unhide HL1).setAll (q := q))
  have HBS := hide (below_setCells (Nat.le_add_right _ 1) (lineC q) 0 _ _ (bt (unhide BL) hb))
  have HE : Hid (Ending.returned (.agg (lineC q).toArray) = .returned (.agg (lineC (plusF (Gf.inv x) (fun _ => 0) g)).toArray)) := hide (by rw [hq])
  clear hq hb
  go_wp2_with (first | exact bodyPost_ret (res_line Tryd.results74 _ rfl (unhide HS)) rfl ⟨unhide HE, unhide HBS⟩ | refine step_store_line rfl (.tmp 4) (.tmp 15) rfl (w.heap.size + 1) 0 rfl q rfl (unhide HL1).there ?_)
end Go.Proofs.YtcgagkaalbljmaaDoor
/- Package invert's pairs: pivot. -/
namespace Go.Proofs.YtcgagkaalbljmaaDoor
open Go.RowKit
set_option linter.unusedVariables false
set_option linter.unusedSimpArgs false
attribute [local go_sem ↓] Go.wp_at_zero Go.wp_at_succ
section
variable {Q : Exit → Act → World → Prop} {S : World → Prop} {ops : Array Oper}
/-- a line is read, a line is written, in their turn -/
theorem walkH_load_line {i : Nat} {r : List (Bool × Nat × Option Oper)} {a : Act} {w : World} {o : Oper} (ho : ops[i]? = some o) (hw : Region.wanted o (yielded ops a.tmps) = true) (x : Operand) (hop : o.op = .load 98 x)
    (b off : Nat) (hx : a.eval x = .pointer (some ⟨b, off, none⟩)) (f : Nat → Nat) (hc : w.rangeAt b off (lineC f)) (hS : S w) (h : walkH Tryd.prog ops Q S r (a.put o.dst (.agg (lineC f).toArray)) w) : walkH Tryd.prog ops Q S ((false, i, some o) :: r) a w := by
  obtain ⟨d, hu, hd⟩ := desc_line
  refine walkH_do ho (fun K hK => ?_)
  rw [if_pos hw]
  exact wp_load_mid _ x hop b off hx _ d hc hu hd (by rw [info_line, lineC_len]) (hK _ _ hS h)
theorem walkH_store_line {i : Nat} {r : List (Bool × Nat × Option Oper)} {a : Act} {w : World} {o : Oper} (ho : ops[i]? = some o) (hw : Region.wanted o (yielded ops a.tmps) = true) (x y : Operand) (hop : o.op = .store 98 x y)
    (b off : Nat) (hx : a.eval x = .pointer (some ⟨b, off, none⟩)) (f : Nat → Nat) (hy : a.eval y = .agg (lineC f).toArray) (hc : w.there b off 24) (hS : S (w.setCells b off (lineC f))) (h : walkH Tryd.prog ops Q S r (a.put o.dst undef) (w.setCells b off (lineC f))) : walkH Tryd.prog ops Q S ((false, i, some o) :: r) a w := by
  refine walkH_do ho (fun K hK => ?_)
  rw [if_pos hw]
  exact wp_store_mid _ x y hop b off _ hx hy (by simpa [lineC_len] using hc) (by rw [info_line]; simp [lineC_len]) (all_oneCell_toArray (lineC_one f)) (by simpa using hK _ _ hS h)
/-- a line is read whatever came ahead -/
theorem walkH_read_line {i : Nat} {r : List (Bool × Nat × Option Oper)} {a : Act} {w : World} {o : Oper} (hw : Region.wanted o (yielded ops a.tmps) = true) (x : Operand) (hop : o.op = .load 98 x)
    (b off : Nat) (hx : a.eval x = .pointer (some ⟨b, off, none⟩)) (f : Nat → Nat) (hc : ∀ w, S w → w.rangeAt b off (lineC f)) (h : walkH Tryd.prog ops Q S r (a.put o.dst (.agg (lineC f).toArray)) w) : walkH Tryd.prog ops Q S ((true, i, some o) :: r) a w := by
  obtain ⟨d, hu, hd⟩ := desc_line
  exact ⟨o, _, rfl, yieldsIf_load_mid hw _ x hop b off hx _ d hc hu hd (by rw [info_line, lineC_len]), h⟩
end
theorem range_kept {B b o : Nat} {W : World} {cs : List Value} (h : W.rangeAt b o cs) (hb : b < B) : ∀ w, Below B W w → w.rangeAt b o cs := fun w hw j v hv => (hw.cell hb).trans (h j v hv)
def pivPost (w : World) (f : Nat → Nat → Nat) (k c : Nat) (e : Ending) (w' : World) : Prop := w' = w ∧ ((∃ r, c ≤ r ∧ r < k ∧ f r c ≠ 0 ∧ e = .returned (.tuple #[.int .i64 r, .bool true])) ∨ ((∀ r, c ≤ r → r < k → f r c = 0) ∧ e = .returned (.tuple #[.int .i64 0, .bool false])))
set_option maxRecDepth 100000 in
set_option maxHeartbeats 1000000 in
theorem pivot_any (g k c : Nat) (f : Nat → Nat → Nat) (w : World) (hp : PairAt w g k f) (hk : k ≤ 12) (hc : c < k) :
    Calls Tryd.prog 73 #[.pointer (some ⟨g, 0, none⟩), .int .i64 c] w (pivPost w f k c) := by
  have hz := hp.size
  have HP := hide hp
  clear hp
  have hc24 : c < 24 := by omega
  have hc24' : (c : Int) < 24 := by omega
  go_enter Tryd.func73, Tryd.ntmps73
  go_wp2
  go_loop [6] (fun iv => ∃ r : Nat, c ≤ r ∧ r ≤ k ∧ iv = .int .i64 r ∧ Hid (∀ t, c ≤ t → t < r → f t c = 0)) (fun iv => k - (intOf iv).toNat)
  case atStart => exact ⟨c, by omega, by omega, rfl, hide (fun t h1 h2 => by omega)⟩
  case round =>
    obtain ⟨r, h1, h2, rfl, HZ⟩ := hrel
    by_cases hlt : r < k
    · have hlt' : (r : Int) < k := by omega
      have hr12 : (r : Int) < 12 := by omega
      have hcell := (unhide HP).cell (r := r) (c := c) (by omega) (by omega)
      obtain ⟨x, ex⟩ : ∃ x, x = f r c := ⟨_, rfl⟩
      rw [← ex] at hcell
      have EX := hide ex
      clear ex
      by_cases hx : x = 0
      · subst hx
        go_wp2
        go_round
        case rel => exact ⟨r + 1, by omega, by omega, by go_num, hide (fun t u1 u2 => by
          by_cases e : t = r
          · subst e; exact (unhide EX).symm
          · exact unhide HZ t u1 (by omega))⟩
        case measure => simp [intOf]; omega
      · have hx' : ((x : Int) != 0) = true := by simp; omega
        go_wp2
        go_ret2
        refine ⟨rfl, .inl ⟨r, h1, hlt, by rw [← unhide EX]; exact hx, ?_⟩⟩
        rfl
    · have hlt' : ¬ (r : Int) < k := by omega
      go_wp2
      go_ret2
      refine ⟨rfl, .inr ⟨fun t u1 u2 => unhide HZ t u1 (by omega), ?_⟩⟩
      rfl
end Go.Proofs.YtcgagkaalbljmaaDoor
/- Package invert's pairs: what a settled column says, settle. -/
namespace Go.Proofs.YtcgagkaalbljmaaDoor
open Go.RowKit
set_option linter.unusedVariables false
set_option linter.unusedSimpArgs false
attribute [local go_sem ↓] Go.wp_at_zero Go.wp_at_succ
def BytP (F : Nat → Nat → Nat) : Prop := ∀ r s, r < 12 → s < 24 → F r s < 256
/-- the two halves of a pair, c columns of the first being those of the identity -/
def St (k : Nat) (E : Nat → Nat → Nat) (c : Nat) (F : Nat → Nat → Nat) : Prop := Two k E F (fun r s => F r (k + s)) ∧ UnitTo k F c ∧ BytP F
theorem St.byt {k c : Nat} {E F : Nat → Nat → Nat} (h : St k E c F) (hk : k ≤ 12) : BytK k F := fun r s hr hs => h.2.2 r s (by omega) (by omega)
theorem St.byt2 {k c : Nat} {E F : Nat → Nat → Nat} (h : St k E c F) (hk : k ≤ 12) : BytK k (fun r s => F r (k + s)) := fun r s hr hs => h.2.2 r (k + s) (by omega) (by omega)
theorem put_swap (c t : Nat) (F : Nat → Nat → Nat) : putRow t (F c) (putRow c (F t) F) = fun r s => F (sw c t r) s := by
  funext r s
  unfold putRow sw
  by_cases h : r = t
  · by_cases h2 : r = c
    · subst h; subst h2; simp
    · subst h; simp [h2]
  · by_cases h2 : r = c
    · subst h2; simp [h]
    · simp [h, h2]
theorem put_scale (c x : Nat) (F : Nat → Nat → Nat) : putRow c (plusF x (fun _ => 0) (F c)) F = sc c x F := by
  funext r s
  unfold putRow plusF sc
  by_cases h : r = c
  · subst h; simp [Gf.mul_comm]
  · simp [h]
theorem put_add (i c x : Nat) (F : Nat → Nat → Nat) : putRow i (plusF x (F i) (F c)) F = ad i c x F := by
  funext r s
  unfold putRow plusF ad
  by_cases h : r = i
  · subst h; simp [Gf.mul_comm]
  · simp [h]
theorem St.swap {k c t : Nat} {E F : Nat → Nat → Nat} (h : St k E c F) (hk : k ≤ 12) (hc : c < k) (ht : c ≤ t) (htk : t < k) : St k E c (putRow t (F c) (putRow c (F t) F)) := by
  rw [put_swap]
  exact ⟨h.1.swap hc htk (h.byt hk) (h.byt2 hk), h.2.1.swap hc ht htk, fun r s hr hs => h.2.2 _ s (sw_lt (by omega) (by omega) hr) hs⟩
theorem St.scale {k c : Nat} {E F : Nat → Nat → Nat} (h : St k E c F) (hk : k ≤ 12) (hc : c < k) (h0 : F c c ≠ 0) : St k E c (putRow c (plusF (Gf.inv (F c c)) (fun _ => 0) (F c)) F) ∧ ColTo k (putRow c (plusF (Gf.inv (F c c)) (fun _ => 0) (F c)) F) c 0 := by
  rw [put_scale]
  have hb := h.byt hk
  refine ⟨⟨h.1.scale (Gf.inv_lt _) (Gf.inv_ne (hb c c hc hc) h0) hb (h.byt2 hk), h.2.1.scale hc, fun r s hr hs => ?_⟩, ColTo.scaled hb hc h0⟩
  unfold sc
  split
  · exact Gf.mul_lt _ _
  · exact h.2.2 r s hr hs
theorem St.add {k c i : Nat} {E F : Nat → Nat → Nat} (h : St k E c F) (hC : ColTo k F c i) (hk : k ≤ 12) (hc : c < k) (hi : i < k) (hic : i ≠ c) : St k E c (putRow i (plusF (F i c) (F i) (F c)) F) ∧ ColTo k (putRow i (plusF (F i c) (F i) (F c)) F) c (i + 1) := by
  rw [put_add]
  have hb := h.byt hk
  refine ⟨⟨h.1.add hic hc (hb i c hi hc) hb (h.byt2 hk), h.2.1.add hc, fun r s hr hs => ?_⟩, hC.added hb hi hic hc⟩
  unfold ad
  split
  · exact Gf.xor_lt (h.2.2 r s hr hs) (Gf.mul_lt _ _)
  · exact h.2.2 r s hr hs
theorem St.next {k c : Nat} {E F : Nat → Nat → Nat} (h : St k E c F) (hC : ColTo k F c k) : St k E (c + 1) F := ⟨h.1, h.2.1.next hC, h.2.2⟩
/-- what settle leaves -/
def settlePost (w : World) (g k c : Nat) (E F : Nat → Nat → Nat) (e : Ending) (w' : World) : Prop :=
  (e = .returned (.bool false) ∧ w' = w ∧ ∀ r, c ≤ r → r < k → F r c = 0) ∨ (e = .returned (.bool true) ∧ Below g w w' ∧ ∃ F', PairAt w' g k F' ∧ St k E (c + 1) F')
set_option maxRecDepth 100000 in
set_option maxHeartbeats 2000000 in
theorem settle_any (g k c : Nat) (E F : Nat → Nat → Nat) (w : World) (hp : PairAt w g k F) (hk : k ≤ 12) (hc : c < k) (hst : St k E c F) :
    Calls Tryd.prog 64 #[.pointer (some ⟨g, 0, none⟩), .int .i64 c] w (settlePost w g k c E F) := by
  have HP := hide hp
  have HS := hide hst
  clear hp hst
  have hc12 : c < 12 := by omega
  have hc12' : (c : Int) < 12 := by omega
  have hc24' : (c : Int) < 24 := by omega
  go_enter Tryd.func64, Tryd.ntmps64
  go_wp2_with fail
  refine (pivot_any g k c F w (unhide HP) hk hc).mono ?_
  rintro e w' ⟨rfl, h⟩
  rcases h with ⟨t, h1, h2, h3, rfl⟩ | ⟨h, rfl⟩
  · have H3 := hide h3
    clear h3
    have ht12 : t < 12 := by omega
    have ht12' : (t : Int) < 12 := by omega
    go_upto_region 4 with fail
    refine wp_region_ord2 (S := fun _ => True) [0, 1, 2, 3, 4, 5, 6, 7, 8, 10, 11, 12, 13, 14, 16, 17, 20, 21] 9 15 [(false, 15), (true, 18), (false, 19), (true, 22), (false, 23)] [(false, 9), (true, 18), (false, 19), (true, 22), (false, 23)] (by kernel_rfl) (by kernel_rfl) (by kernel_rfl) (by kernel_rfl) (trivial) ?_
    simp only [withOps, List.map_cons, List.map_nil, List.getElem?_cons_succ, List.getElem?_cons_zero]
    repeat (refine walkH_read (by rfl) (by (intro gx; go_simp; try (with_reducible rfl))) ?_; try simp only [Act.put, List.setIfInBounds_toArray, List.set_cons_zero, List.set_cons_succ])
    have P0 := hide ((unhide HP).below (w' := w'.drew) ((Below.refl _ _).drew))
    have P1 := hide ((unhide P0).setRow hc12 (F t))
    have P2 := hide ((unhide P1).setRow ht12 (F c))
    refine walkH_both ?_ ?_
    refine walkH_load_line rfl rfl (.tmp 24) rfl g (1 + t * 24) rfl (F t) ((unhide P0).row ht12) trivial ?_
    refine walkH_load_line rfl rfl (.tmp 30) rfl g (1 + c * 24) rfl (F c) ((unhide P0).row hc12) trivial ?_
    rotate_left
    refine walkH_load_line rfl rfl (.tmp 30) rfl g (1 + c * 24) rfl (F c) ((unhide P0).row hc12) trivial ?_
    refine walkH_load_line rfl rfl (.tmp 24) rfl g (1 + t * 24) rfl (F t) ((unhide P0).row ht12) trivial ?_
    all_goals simp only [Act.put, List.setIfInBounds_toArray, List.set_cons_zero, List.set_cons_succ]
    all_goals repeat (refine walkH_read (by rfl) (by (intro gx; go_simp; try (with_reducible rfl))) ?_; try simp only [Act.put, List.setIfInBounds_toArray, List.set_cons_zero, List.set_cons_succ])
    all_goals refine walkH_store_line rfl rfl (.tmp 34) (.tmp 25) rfl g (1 + c * 24) rfl (F t) rfl ((unhide P0).there hc12) trivial ?_
    all_goals simp only [Act.put, List.setIfInBounds_toArray, List.set_cons_zero, List.set_cons_succ]
    all_goals repeat (refine walkH_read (by rfl) (by (intro gx; go_simp; try (with_reducible rfl))) ?_; try simp only [Act.put, List.setIfInBounds_toArray, List.set_cons_zero, List.set_cons_succ])
    all_goals refine walkH_store_line rfl rfl (.tmp 37) (.tmp 31) rfl g (1 + t * 24) rfl (F c) rfl ((unhide P1).there ht12) trivial ?_
    all_goals refine walkH_nil (NoPanic.normal ?_)
    all_goals simp only [Act.put, List.setIfInBounds_toArray, List.set_cons_zero, List.set_cons_succ]
    all_goals
      have S1 := hide ((unhide HS).swap hk hc h1 h2)
      have B1 : Hid (Below g w' ((w'.drew.setCells g (1 + c * 24) (lineC (F t))).setCells g (1 + t * 24) (lineC (F c)))) := hide (below_setCells (Nat.le_refl _) _ _ _ _ (below_setCells (Nat.le_refl _) _ _ _ _ (Below.refl _ _).drew))
      have N1 : Hid (putRow t (F c) (putRow c (F t) F) c c ≠ 0) := hide (by
        by_cases e : c = t
        · subst e; simpa [putRow] using unhide H3
        · simpa [putRow, e] using unhide H3)
      generalize ((w'.drew.setCells g (1 + c * 24) (lineC (F t))).setCells g (1 + t * 24) (lineC (F c))) = W1 at P2 B1 ⊢
      generalize putRow t (F c) (putRow c (F t) F) = F1 at S1 N1 P2
      clear P0 P1 H3
      obtain ⟨z, ez⟩ : ∃ z, z = F1 c c := ⟨_, rfl⟩
      have hz : z < 256 := by rw [ez]; exact (unhide S1).2.2 c c hc12 (by omega)
      have hz0 : z ≠ 0 := by rw [ez]; exact unhide N1
      have hzc := (unhide P2).cell (r := c) (c := c) hc12 (by omega)
      rw [← ez] at hzc
      have EZ := hide ez
      clear ez
      have q1 := hide (range_kept (B := W1.heap.size) ((unhide P2).row hc12) (unhide P2).lt)
      have q2 := kept_cell (B := W1.heap.size) hzc (cell_lt hzc)
      clear hzc
      go_upto_region 5 with fail
      refine wp_region_ord_thenT (S := Below W1.heap.size W1) [(true, 0), (true, 1), (true, 2), (true, 3), (true, 4), (true, 5), (true, 6), (true, 7), (true, 8), (true, 9), (true, 10), (true, 11), (true, 12), (true, 13), (true, 14), (true, 15), (true, 17), (true, 18), (false, 16), (true, 19)] (List.cons_ne_nil _ _) (by kernel_rfl) (by kernel_rfl) (by kernel_rfl) (by kernel_rfl) (by kernel_rfl) ((Below.refl _ _).drew) ?_
      simp only [List.dropLast_cons_cons, List.dropLast_singleton, List.getLast_cons_cons, List.getLast_singleton, withOps, List.map_cons, List.map_nil, List.getElem?_cons_succ, List.getElem?_cons_zero]
      repeat (refine walkH_read (by rfl) (by (intro gx; go_simp; try (with_reducible rfl))) ?_; try simp only [Act.put, List.setIfInBounds_toArray, List.set_cons_zero, List.set_cons_succ])
      refine walkH_read_line rfl (.tmp 44) rfl g (1 + c * 24) rfl (F1 c) (unhide q1) ?_
      simp only [Act.put, List.setIfInBounds_toArray, List.set_cons_zero, List.set_cons_succ]
      repeat (refine walkH_read (by rfl) (by (intro gx; go_simp; try (with_reducible rfl))) ?_; try simp only [Act.put, List.setIfInBounds_toArray, List.set_cons_zero, List.set_cons_succ])
      refine walkH_do rfl (fun K hK => ?_)
      go_simp
      refine (divided_any z (F1 c) _ hz hz0 (fun s hs => (unhide S1).2.2 c s hc12 hs)).mono ?_
      rintro e w2 ⟨rfl, b2⟩
      have hb2 : Below W1.heap.size W1 w2 := ((Below.refl _ _).drew).trans b2
      refine hK _ _ hb2 ?_
      clear hK
      repeat (refine walkH_read (by rfl) (by (intro gx; go_simp; try (with_reducible rfl))) ?_; try simp only [Act.put, List.setIfInBounds_toArray, List.set_cons_zero, List.set_cons_succ])
      have P3 := hide ((unhide P2).below hb2)
      have B3 := hide ((unhide B1).trans (hb2.mono (Nat.le_of_lt (unhide P2).lt)))
      clear b2 hb2 q1 q2
      refine lastPost_of_list ?_
      simp only [List.cons_append, List.nil_append]
      refine step_store_line rfl (.tmp 57) (.tmp 54) rfl g (1 + c * 24) rfl (plusF (Gf.inv z) (fun _ => 0) (F1 c)) rfl ((unhide P3).there hc12) ?_
      refine wpList_nil (NoPanic.normal ?_)
      have P4 := hide ((unhide P3).setRow hc12 (plusF (Gf.inv z) (fun _ => 0) (F1 c)))
      have B4 := hide (below_setCells (Nat.le_refl _) (lineC (plusF (Gf.inv z) (fun _ => 0) (F1 c))) (1 + c * 24) _ _ (unhide B3))
      have S4 := hide ((unhide S1).scale hk hc (unhide N1))
      rw [← unhide EZ] at S4
      generalize putRow c (plusF (Gf.inv z) (fun _ => 0) (F1 c)) F1 = F2 at P4 S4
      generalize w2.setCells g (1 + c * 24) (lineC (plusF (Gf.inv z) (fun _ => 0) (F1 c))) = W2 at P4 B4 ⊢
      clear P3 B3 P2 B1 S1 N1 EZ hz hz0 K
      simp only [Act.put, List.setIfInBounds_toArray, List.set_cons_zero, List.set_cons_succ]
      have c0 := (unhide P4).size
      go_wp2
      clear c0
      go_loopw [62] (fun iv wr => ∃ i : Nat, i ≤ k ∧ iv = .int .i64 i ∧ ∃ F3, Hid (PairAt wr g k F3) ∧ Hid (St k E c F3 ∧ ColTo k F3 c i) ∧ Hid (Below g w' wr)) (fun iv _ => k - (intOf iv).toNat)
      case atStart => exact ⟨0, by omega, rfl, F2, P4, S4, B4⟩
      case round =>
        obtain ⟨i, hi, rfl, F3, PR, SR, BR⟩ := hrel
        clear P4 S4 B4
        by_cases hlt : i < k
        · have hlt' : (i : Int) < k := by omega
          have hi12 : i < 12 := by omega
          have hi12' : (i : Int) < 12 := by omega
          by_cases hic : i = c
          · subst hic
            have t1 : ((i : Int) != (i : Int)) = false := by simp
            go_wp2
            go_roundw
            case rel => exact ⟨i + 1, by omega, by go_num, F3, PR, hide ⟨(unhide SR).1, (unhide SR).2.same rfl⟩, BR⟩
            case measure => simp [intOf]; omega
          · have t1 : ((i : Int) != (c : Int)) = true := by simp; omega
            obtain ⟨z, ez⟩ : ∃ z, z = F3 i c := ⟨_, rfl⟩
            have hz : z < 256 := by rw [ez]; exact (unhide SR).1.2.2 i c hi12 (by omega)
            have hzc := (unhide PR).cell (r := i) (c := c) hi12 (by omega)
            rw [← ez] at hzc
            have EZ := hide ez
            clear ez
            have q1 := hide (range_kept (B := wr.heap.size) ((unhide PR).row hc12) (unhide PR).lt)
            have q3 := hide (range_kept (B := wr.heap.size) ((unhide PR).row hi12) (unhide PR).lt)
            have q2 := kept_cell (B := wr.heap.size) hzc (cell_lt hzc)
            clear hzc
            go_upto_region 10 with fail
            refine wp_region_ord_thenT (S := Below wr.heap.size wr) [(true, 0), (true, 1), (true, 2), (true, 3), (true, 4), (true, 5), (true, 6), (true, 7), (true, 8), (true, 9), (true, 10), (true, 11), (true, 12), (true, 13), (true, 14), (true, 15), (true, 16), (true, 17), (true, 18), (true, 19), (true, 20), (true, 21), (true, 23), (true, 24), (false, 22), (true, 25)] (List.cons_ne_nil _ _) (by kernel_rfl) (by kernel_rfl) (by kernel_rfl) (by kernel_rfl) (by kernel_rfl) ((Below.refl _ _).drew) ?_
            simp only [List.dropLast_cons_cons, List.dropLast_singleton, List.getLast_cons_cons, List.getLast_singleton, withOps, List.map_cons, List.map_nil, List.getElem?_cons_succ, List.getElem?_cons_zero]
            repeat (refine walkH_read (by rfl) (by (intro gx; go_simp; try (with_reducible rfl))) ?_; try simp only [Act.put, List.setIfInBounds_toArray, List.set_cons_zero, List.set_cons_succ])
            refine walkH_read_line rfl (.tmp 74) rfl g (1 + i * 24) rfl (F3 i) (unhide q3) ?_
            simp only [Act.put, List.setIfInBounds_toArray, List.set_cons_zero, List.set_cons_succ]
            repeat (refine walkH_read (by rfl) (by (intro gx; go_simp; try (with_reducible rfl))) ?_; try simp only [Act.put, List.setIfInBounds_toArray, List.set_cons_zero, List.set_cons_succ])
            refine walkH_read_line rfl (.tmp 88) rfl g (1 + c * 24) rfl (F3 c) (unhide q1) ?_
            simp only [Act.put, List.setIfInBounds_toArray, List.set_cons_zero, List.set_cons_succ]
            repeat (refine walkH_read (by rfl) (by (intro gx; go_simp; try (with_reducible rfl))) ?_; try simp only [Act.put, List.setIfInBounds_toArray, List.set_cons_zero, List.set_cons_succ])
            refine walkH_do rfl (fun K hK => ?_)
            go_simp
            refine (plus_any z (F3 i) (F3 c) _ hz (fun s hs => (unhide SR).1.2.2 i s hi12 hs) (fun s hs => (unhide SR).1.2.2 c s hc12 hs)).mono ?_
            rintro e w2 ⟨rfl, b2⟩
            have hb2 : Below wr.heap.size wr w2 := ((Below.refl _ _).drew).trans b2
            refine hK _ _ hb2 ?_
            clear hK
            repeat (refine walkH_read (by rfl) (by (intro gx; go_simp; try (with_reducible rfl))) ?_; try simp only [Act.put, List.setIfInBounds_toArray, List.set_cons_zero, List.set_cons_succ])
            have P3 := hide ((unhide PR).below hb2)
            have B3 := hide ((unhide BR).trans (hb2.mono (Nat.le_of_lt (unhide PR).lt)))
            clear b2 hb2 q1 q2 q3
            refine lastPost_of_list ?_
            simp only [List.cons_append, List.nil_append]
            refine step_store_line rfl (.tmp 93) (.tmp 90) rfl g (1 + i * 24) rfl (plusF z (F3 i) (F3 c)) rfl ((unhide P3).there hi12) ?_
            refine wpList_nil (NoPanic.normal ?_)
            have P5 := hide ((unhide P3).setRow hi12 (plusF z (F3 i) (F3 c)))
            have B5 := hide (below_setCells (Nat.le_refl _) (lineC (plusF z (F3 i) (F3 c))) (1 + i * 24) _ _ (unhide B3))
            have S5 := hide ((unhide SR).1.add (unhide SR).2 hk hc hlt hic)
            rw [← unhide EZ] at S5
            generalize putRow i (plusF z (F3 i) (F3 c)) F3 = F4 at P5 S5
            generalize w2.setCells g (1 + i * 24) (lineC (plusF z (F3 i) (F3 c))) = W5 at P5 B5 ⊢
            clear P3 B3 PR SR BR EZ hz K
            simp only [Act.put, List.setIfInBounds_toArray, List.set_cons_zero, List.set_cons_succ]
            go_wp2
            go_roundw
            case rel => exact ⟨i + 1, by omega, by go_num, F4, P5, S5, B5⟩
            case measure => simp [intOf]; omega
        · have hlt' : ¬ (i : Int) < k := by omega
          obtain rfl : i = k := by omega
          go_wp2
          go_ret
          exact .inr ⟨rfl, unhide BR, F3, unhide PR, (unhide SR).1.next (unhide SR).2⟩
  · have HZ := hide h
    clear h
    go_wp2
    go_ret
    exact .inl ⟨rfl, rfl, unhide HZ⟩
end Go.Proofs.YtcgagkaalbljmaaDoor
/- Package invert's pairs: inverse. -/
namespace Go.Proofs.YtcgagkaalbljmaaDoor
open Go.RowKit
set_option linter.unusedVariables false
set_option linter.unusedSimpArgs false
attribute [local go_sem ↓] Go.wp_at_zero Go.wp_at_succ
/-- copy of the first numbers of a longer row, onto a row of the call's own -/
theorem step_copy_front {P : Program} {ops : Array Oper} {o : Oper} {a : Act} {w : World} {K : Act → World → Prop} {Q : Exit → Act → World → Prop} {X : Prop} (hgd : o.guard = none) (d s : Operand) (dT sT : TypeId)
    (ho : o.op = .call { callee := .builtin .copy, args := #[d, s], argTypes := #[dT, sT] }) (elem : TypeId) (hu : P.underlying dT = some (.slice elem)) (hsz : (P.info? elem).map (·.size) = some 1)
    (B E g k m cap cap' b off : Nat) (hm : k ≤ m) (xs ys : List Value) (hd : a.eval d = .slice (some ⟨g, 0, none⟩) k cap) (hs : a.eval s = .slice (some ⟨b, off, none⟩) m cap') (hx : OwnL w B E (.slice (some ⟨g, 0, none⟩) k cap) xs) (hy : ys.length = k)
    (hsrc : ∀ j v, ys[j]? = some v → w.cell? ⟨b, off + j, none⟩ = some v) (h1 : ∀ v ∈ ys, v.oneCell' = true)
    (h : ∀ w', OwnL w' B E (.slice (some ⟨g, 0, none⟩) k cap) ys → (∀ j, j ≠ g → j < w.heap.size → w'.heap[j]? = w.heap[j]?) → Below B w w' → K (a.put o.dst (goInt k)) w') :
    if Region.wanted o (yielded ops a.tmps) = true then Oper.wp P o a w K Q else X := by
  rw [if_pos (by simp [Region.wanted, hgd])]
  rcases hx.2 with ⟨e, _⟩ | ⟨g', cap1, cur, e, hb, hh, hn, hm', hc, ht⟩
  · simp at e
  · have hlen := own_len hx
    simp only [Value.slice.injEq, Option.some.injEq, Addr.mk.injEq, and_true, true_and] at e
    obtain ⟨rfl, e2, rfl⟩ := e
    rw [hlen] at hn
    have hrun := run_copy_row (P := P) w dT sT o.type elem g 0 k cap ⟨b, off, none⟩ m cap' cur E ys hu hsz hh (by rw [hy]; simp [Nat.min_eq_right hm]) (fun j v hv => by
      rw [addr_add]; exact hsrc j v hv) (by rw [hy]; omega) h1
    have hK := h (w.setRow g (cur.toList.take 0 ++ ys ++ cur.toList.drop (0 + ys.length)).toArray)
      ⟨by simp, .inr ⟨g, cap, (cur.toList.take 0 ++ ys ++ cur.toList.drop (0 + ys.length)).toArray, by rw [hy], hb, setRow_heap w g cur _ E (0, 0) hh, by rw [hy]; exact hn, hm', by simp [hy]; omega, by simp⟩⟩
      (fun j hj _ => setRow_other w g j _ hj) (below_setRow (Below.refl B w) hb _)
    unfold Oper.wp
    have hK' : K (a.put o.dst (goInt ys.length)) (w.setRow g (cur.toList.take 0 ++ ys ++ cur.toList.drop (0 + ys.length)).toArray) := by rw [hy] at *; exact hK
    simp [execOp, ho, resolve, invoke, builtin, hd, hs, hrun, Result.andThen, Oper.upon]
    simp at hK'
    first | exact hK' | exact .inl hK'
theorem inF_put (R C : Nat) (f : Nat → Nat → Nat) (i : Nat) (h : i < R) : (inF R C f i 0).set i (colsF C (f i)) = outF R C f (i + 1) := by
  rw [← inF_end]
  unfold inF
  rw [rowsF_set R _ i _ h]
  refine rowsF_congr fun r hr => ?_
  by_cases e : r = i
  · subst e
    simp only [if_true, Nat.lt_irrefl, if_false]
    exact colsF_congr fun c hc => by rw [if_pos hc]
  · simp only [e, if_false]
set_option maxRecDepth 100000 in
set_option maxHeartbeats 4000000 in
theorem inverse_any (g k : Nat) (F : Nat → Nat → Nat) (w : World) (hp : PairAt w g k F) (hk1 : 1 ≤ k) (hk : k ≤ 12) :
    Calls Tryd.prog 65 #[.pointer (some ⟨g, 0, none⟩)] w fun e w' => ∃ u, e = .returned (.agg #[u]) ∧ OwnM w' w.heap.size 36 3 u (matF k k (fun r c => F r (k + c))) ∧ Below w.heap.size w w' := by
  have hmkR := fun w => run_make_row' (P := Tryd.prog) 50 36 (.slice none 0 0) 24 Tryd.underlying50 Tryd.infoRow rfl .i64 .i64 k (by omega) (by omega) w
  have hmkC := fun w => run_make_row' (P := Tryd.prog) 36 3 (.int .i64 0) 8 Tryd.underlying36 Tryd.infoInt rfl .i64 .i64 k (by omega) (by omega) w
  have HP := hide hp
  have cz := hp.size
  have cg := hp.lt
  have cz1 := ((below_alloc w (.cells #[.slice none 0 0] 52)).cell cg).trans cz
  obtain ⟨f, ef⟩ : ∃ f, f = fun r c => F r (k + c) := ⟨_, rfl⟩
  rw [← ef]
  have EF := hide ef
  clear ef hp
  go_enter Tryd.func65, Tryd.ntmps65
  go_upto_region 2 with fail
  have A0 := three_old w (.cells #[.slice none 0 0] 52) (.cells (madeCells #[.slice none 0 0] k) 36) (.cells #[.slice (some ⟨w.heap.size + 1, 0, none⟩) k k] 52)
  have A2 := three_new w (.cells #[.slice none 0 0] 52) (.cells (madeCells #[.slice none 0 0] k) 36) (.cells #[.slice (some ⟨w.heap.size + 1, 0, none⟩) k k] 52)
  have AB : Below w.heap.size w (((w.alloc (.cells #[.slice none 0 0] 52)).alloc (.cells (madeCells #[.slice none 0 0] k) 36)).alloc (.cells #[.slice (some ⟨w.heap.size + 1, 0, none⟩) k k] 52)) := by go_grown
  have AS : w.heap.size + 3 ≤ (((w.alloc (.cells #[.slice none 0 0] 52)).alloc (.cells (madeCells #[.slice none 0 0] k) 36)).alloc (.cells #[.slice (some ⟨w.heap.size + 1, 0, none⟩) k k] 52)).heap.size := by simp
  have AR : RowsO (((w.alloc (.cells #[.slice none 0 0] 52)).alloc (.cells (madeCells #[.slice none 0 0] k) 36)).alloc (.cells #[.slice (some ⟨w.heap.size + 1, 0, none⟩) k k] 52)) (w.heap.size + 1) 36 3 (.slice (some ⟨w.heap.size + 1, 0, none⟩) k k) (List.replicate k (.slice none 0 0)) (outF k k f 0) := by
    rw [outF_start]
    have h := rowsO_made (w.alloc (.cells #[.slice none 0 0] 52)) (w.heap.size + 1) k 36 3 (by simp) (by unfold maxLen; omega)
    have e : (w.alloc (.cells #[.slice none 0 0] 52)).heap.size = w.heap.size + 1 := by simp
    rw [e] at h
    exact h.below (below_alloc _ _)
  generalize (((w.alloc (.cells #[.slice none 0 0] 52)).alloc (.cells (madeCells #[.slice none 0 0] k) 36)).alloc (.cells #[.slice (some ⟨w.heap.size + 1, 0, none⟩) k k] 52)) = W0 at A0 A2 AB AS AR ⊢
  have cz2 := (AB.cell cg).trans cz
  have A0' := hide A0
  have A2' := hide A2
  have AB' := hide AB
  have AR' := hide AR
  clear A0 A2 AB AR cz1
  go_wp2
  clear cz2
  go_loopw [15] (fun iv wr => ∃ i : Nat, i ≤ k ∧ iv = .int .i64 i ∧ wr.heap[w.heap.size]? = some (.cells #[.slice none 0 0] 52 (0, 0)) ∧ wr.heap[w.heap.size + 2]? = some (.cells #[.slice (some ⟨w.heap.size + 1, 0, none⟩) k k] 52 (0, 0)) ∧ Hid (∃ us, RowsO wr (w.heap.size + 1) 36 3 (.slice (some ⟨w.heap.size + 1, 0, none⟩) k k) us (outF k k f i)) ∧ Hid (Below w.heap.size w wr) ∧ w.heap.size + 3 ≤ wr.heap.size) (fun iv _ => k - (intOf iv).toNat)
  case atStart => exact ⟨0, by omega, rfl, unhide A0', unhide A2', hide ⟨_, unhide AR'⟩, AB', AS⟩
  case round =>
    obtain ⟨i, hi, rfl, hb0, hb2, HR, HB, hsz⟩ := hrel
    clear A0' A2' AB' AR' AS
    have c2 := cell_of_one hb2
    have f0 := free_of_one hb0
    have cz3 := ((unhide HB).cell cg).trans cz
    by_cases hlt : i < k
    · have hlt' : (i : Int) < k := by omega
      have hi12 : (i : Int) < 12 := by omega
      obtain ⟨us, hR0⟩ := unhide HR
      have g2 := kept_cell (B := wr.heap.size) c2 (cell_lt c2)
      have gz := kept_cell (B := wr.heap.size) cz3 (cell_lt cz3)
      have f1 := own_free hR0.outer i
      have HRR := hide hR0
      clear hR0 HR
      clear c2 cz3
      go_wp2
      refine wp_region_ord_then (S := Below wr.heap.size wr) [(true, 0), (true, 1), (true, 2), (true, 3), (true, 4), (true, 5), (true, 6), (false, 7), (true, 8)] (List.cons_ne_nil _ _) (by kernel_rfl) (by kernel_rfl) (by kernel_rfl) (by kernel_rfl) (by kernel_rfl) ((Below.refl _ _).drew) ?_
      simp only [List.dropLast_cons_cons, List.dropLast_singleton, List.getLast_cons_cons, List.getLast_singleton, withOps, List.map_cons, List.map_nil, List.getElem?_cons_succ, List.getElem?_cons_zero]
      repeat (refine walkH_read (by rfl) (by (intro gx; go_simp; try (with_reducible rfl))) ?_; try simp only [Act.put, List.setIfInBounds_toArray, List.set_cons_zero, List.set_cons_succ])
      refine walkH_do rfl (fun K hK => ?_)
      go_simp
      have hbA : Below wr.heap.size wr (wr.alloc (.cells (madeCells #[.int .i64 0] k) 3)).drew := by go_grown
      have hoA := (own_made wr (w.heap.size + 1) k 3 (by omega) (by unfold maxLen; omega)).below (w' := (wr.alloc (.cells (madeCells #[.int .i64 0] k) 3)).drew) (by go_grown)
      have hsA : wr.heap.size < (wr.alloc (.cells (madeCells #[.int .i64 0] k) 3)).drew.heap.size := by simp
      refine hK _ _ hbA ?_
      clear hK K
      try simp only [Act.put, List.setIfInBounds_toArray, List.set_cons_zero, List.set_cons_succ]
      have HBA := hide hbA
      have HOA := hide hoA
      clear hbA hoA
      generalize (wr.alloc (.cells (madeCells #[.int .i64 0] k) 3)).drew = wA at *
      have hRA := (unhide HRR).below (unhide HBA)
      have f1 := own_free hRA.outer i
      obtain ⟨u0, hu0⟩ : ∃ u0, us[i]? = some u0 := ⟨_, List.getElem?_eq_getElem (by rw [hRA.len, outF, rowsF_len]; exact hlt)⟩
      have c1 : wA.cell? ⟨w.heap.size + 1, i, none⟩ = some u0 := by
        obtain ⟨g, cap, e, _, hc⟩ := hRA.form (by rw [outF, rowsF_len]; omega)
        simp only [Value.slice.injEq, Option.some.injEq, Addr.mk.injEq, and_true, true_and] at e
        rw [e.1]
        exact hc i u0 hu0
      have HN := hide (RowsO.put hRA (by decide) (i := i) (unhide HOA) (fun j x hx => apt_new ((unhide HRR).row j x hx) rfl (Nat.le_refl _)))
      have hB0 := hide (((unhide HBA).block _ (lt_of_block hb0)).trans hb0)
      have hB2 := hide (((unhide HBA).block _ (lt_of_block hb2)).trans hb2)
      have hsw := (unhide HBA).size
      clear hRA hu0 hb0 hb2
      repeat (refine walkH_read (by rfl) (by (intro gx; go_simp; try (with_reducible rfl))) ?_; try simp only [Act.put, List.setIfInBounds_toArray, List.set_cons_zero, List.set_cons_succ])
      refine lastPost_of_list ?_
      simp only [List.cons_append, List.nil_append]
      go_wp2
      refine NoPanic.normal ?_
      go_upto_region 6 with fail
      obtain ⟨gr, hgr⟩ : ∃ gr, gr = wr.heap.size := ⟨_, rfl⟩
      rw [← hgr] at HN ⊢
      have hgs : w.heap.size + 3 ≤ gr := by omega
      have hB0' := hide ((Below.heap_setCell wA ⟨w.heap.size + 1, i, none⟩ (.slice (some ⟨gr, 0, none⟩) k k) w.heap.size (by show w.heap.size ≠ w.heap.size + 1; omega)).trans (unhide hB0))
      have hB2' := hide ((Below.heap_setCell wA ⟨w.heap.size + 1, i, none⟩ (.slice (some ⟨gr, 0, none⟩) k k) (w.heap.size + 2) (by show w.heap.size + 2 ≠ w.heap.size + 1; omega)).trans (unhide hB2))
      have HBB := hide (((unhide HB).trans ((unhide HBA).mono (by omega))).setCell (p := ⟨w.heap.size + 1, i, none⟩) (by show _ ≤ w.heap.size + 1; omega) (.slice (some ⟨gr, 0, none⟩) k k))
      have hsB : w.heap.size + 3 ≤ (wA.setCell ⟨w.heap.size + 1, i, none⟩ (.slice (some ⟨gr, 0, none⟩) k k)).heap.size := by simp; omega
      have hcO := World.cell?_setCell_same wA ⟨w.heap.size + 1, i, none⟩ (.slice (some ⟨gr, 0, none⟩) k k) c1
      have hui : (us.set i (.slice (some ⟨gr, 0, none⟩) k k))[i]? = some (.slice (some ⟨gr, 0, none⟩) k k) := by
        have hlu : i < us.length := by rw [(unhide HRR).len, outF, rowsF_len]; exact hlt
        simp [hlu]
      have HUI := hide hui
      clear hui
      rw [outF_in k k f i hlt] at HN
      generalize us.set i (.slice (some ⟨gr, 0, none⟩) k k) = us' at HN HUI
      generalize wA.setCell ⟨w.heap.size + 1, i, none⟩ (.slice (some ⟨gr, 0, none⟩) k k) = wB at HN hB0' hB2' HBB hsB hcO ⊢
      clear hgr hB0 hB2 HBA HOA HRR c1 f1 g2 gz HB hsw hsA f0
      have d2 := cell_of_one (unhide hB2')
      have q2 := kept_cell (B := wB.heap.size) d2 (cell_lt d2)
      have qO := kept_cell (B := wB.heap.size) hcO (cell_lt hcO)
      have dz := ((unhide HBB).cell cg).trans cz
      have qz := kept_cell (B := wB.heap.size) dz (cell_lt dz)
      clear d2 hcO dz
      have k24 : (k : Int) ≤ 24 := by omega
      have k24n : ¬ 24 = k := by omega
      have hk0 : (0 : Int) ≤ k := by omega
      refine wp_region_ord_thenT (S := Below wB.heap.size wB) [(true, 0), (true, 1), (true, 2), (true, 3), (true, 4), (true, 5), (true, 6), (true, 7), (true, 8), (true, 9), (true, 10), (true, 11), (true, 12), (true, 13), (true, 14)] (List.cons_ne_nil _ _) (by kernel_rfl) (by kernel_rfl) (by kernel_rfl) (by kernel_rfl) (by kernel_rfl) ((Below.refl _ _).drew) ?_
      simp only [List.dropLast_cons_cons, List.dropLast_singleton, List.getLast_cons_cons, List.getLast_singleton, withOps, List.map_cons, List.map_nil, List.getElem?_cons_succ, List.getElem?_cons_zero]
      repeat (refine walkH_read (by rfl) (by (intro gx; go_simp; try (with_reducible rfl))) ?_; try simp only [Act.put, List.setIfInBounds_toArray, List.set_cons_zero, List.set_cons_succ])
      refine lastPost_do (fun K hK => ?_)
      have hrowB := (unhide HN).row i _ (unhide HUI)
      have hPB := (unhide HP).below (unhide HBB)
      refine step_copy_front (by rfl) (.tmp 31) (.tmp 41) 36 36 (by rfl) 3 Tryd.underlying36 (by kernel_rfl) (w.heap.size + 1) 3 gr k (24 - k) k (24 - k) g (1 + i * 24 + k) (by omega) _ ((colsF k (f i)).map (Value.int .i64)) (by simp [Act.eval]) (by simp [Act.eval]) (hrowB.below (Below.refl _ _).drew) (by simp [colsF]) ?_ ?_ ?_
      · intro j v hv
        have hj : j < k := by
          have := (List.getElem?_eq_some_iff.1 hv).1
          simpa [colsF] using this
        have hcell := hPB.cell (r := i) (c := k + j) (by omega) (by omega)
        have := (((Below.refl wB.heap.size wB).drew).cell (cell_lt hcell)).trans hcell
        simp [colsF, hj, unhide EF] at hv
        rw [← hv, show 1 + i * 24 + k + j = 1 + i * 24 + (k + j) by omega]
        exact this
      · exact ints_oneCell _ _
      · intro w' hO hF hB
        refine hK _ _ ?_
        clear hK K
        refine NoPanic.normal ?_
        have hN' := RowsO.setRow ((unhide HN).below (w' := wB.drew) ((Below.refl _ _).drew)) (by decide) (unhide HUI) hO (fun j hj hlt => hF j (fun e => hj (by rw [e]; rfl)) hlt)
        rw [inF_put k k f i hlt] at hN'
        have HN' := hide hN'
        have hsz2 := hB.size
        have n0 := hide ((hF _ (by omega) (by simp; omega)).trans (unhide hB0'))
        have n2 := hide ((hF _ (by omega) (by simp; omega)).trans (unhide hB2'))
        have HB9 := hide ((unhide HBB).trans (((Below.refl _ wB).drew (B := w.heap.size)).trans (hB.mono (by omega))))
        clear hO hF hB hN' hrowB hPB q2 qO qz HN
        try simp only [Act.put, List.setIfInBounds_toArray, List.set_cons_zero, List.set_cons_succ]
        go_wp2
        go_roundw
        case rel => exact ⟨i + 1, by omega, by go_num, unhide n0, unhide n2, hide ⟨us', unhide HN'⟩, HB9, by simp at hsz2; omega⟩
        case measure => simp [intOf]; omega
    · have hlt' : ¬ (i : Int) < k := by omega
      obtain rfl : i = k := by omega
      obtain ⟨us, hR0⟩ := unhide HR
      have HRR := hide hR0
      clear hR0
      have c0 := cell_of_one hb0
      go_wp2
      have cr := cell_of_one (one_setCell (u := .slice (some ⟨w.heap.size + 1, 0, none⟩) i i) hb0)
      refine bodyPost_ret (v := .agg #[.slice (some ⟨w.heap.size + 1, 0, none⟩) i i]) (by simp [results, Tryd.results65, go_sem, cr]) rfl ⟨_, rfl, ⟨us, ?_⟩, (unhide HB).setCell (Nat.le_refl _) _⟩
      rw [← outF_end]
      exact ((unhide HRR).setBelow (by show w.heap.size < _; omega) _).mono (by omega)
end Go.Proofs.YtcgagkaalbljmaaDoor
/- Package invert's pairs: besideIdentity. -/
namespace Go.Proofs.YtcgagkaalbljmaaDoor
open Go.RowKit
set_option linter.unusedVariables false
set_option linter.unusedSimpArgs false
attribute [local go_sem ↓] Go.wp_at_zero Go.wp_at_succ
/-- a matrix beside the identity, of the first i rows -/
def begF (k : Nat) (E : Nat → Nat → Nat) (i : Nat) : Nat → Nat → Nat := fun r c => if r < i then (if c < k then E r c else if c = k + r then 1 else 0) else 0
theorem begF_zero (k : Nat) (E : Nat → Nat → Nat) : begF k E 0 = fun _ _ => 0 := by
  funext r c
  simp [begF]
theorem begF_step (k : Nat) (E : Nat → Nat → Nat) (i : Nat) : putAt i (k + i) 1 (fun r c => if r = i ∧ c < k then E i c else begF k E i r c) = begF k E (i + 1) := by
  funext r c
  unfold putAt begF
  by_cases h : r = i
  · subst h
    by_cases h2 : c < k
    · simp [h2, show c ≠ k + r by omega]
    · by_cases h3 : c = k + r
      · subst h3
        simp
        intro h; omega
      · simp [h2, h3]
  · by_cases h2 : r < i
    · simp [h, h2, show r < i + 1 by omega]
    · simp [h, h2, show ¬ r < i + 1 by omega]
theorem zero_pair (w : World) : (zeroValue 101).run Tryd.prog w = .ok (.agg (pairC 0 (fun _ _ => 0)).toArray) w :=
  (zero_of_info (P := Tryd.prog) (t := 101) (v := .agg (pairC 0 (fun _ _ => 0)).toArray) (n := 289) (by kernel_rfl)).1 w
theorem build_pair (k : Nat) (w : World) : (Instr.build 101 #[(0, .int .i64 k)]).run Tryd.prog w = .ok (.agg (pairC k (fun _ _ => 0)).toArray) w := by kernel_rfl
/-- a pair as the result of a call -/
theorem res_pair {fn : Func} {t : Tmp} {g k : Nat} {f : Nat → Nat → Nat} {w : World} (hr : fn.results = #[.cell t 101]) (tmps : Array Value) (ht : tmps.getD t undef = .pointer (some ⟨g, 0, none⟩)) (hc : PairAt w g k f) :
    (results fn tmps).run Tryd.prog w = .ok (.agg (pairC k f).toArray) w := by
  obtain ⟨d, hu, hd⟩ := desc_pair
  rw [Array.getD_eq_getD_getElem?] at ht
  simp [results, hr, ht, asAddr, Result.andThen, run_loadVar_mid w g 0 _ _ d hc.range hu hd (by rw [info_pair, pairC_len])]
theorem PairAt.setPart {w : World} {g k r n : Nat} {f : Nat → Nat → Nat} (h : PairAt w g k f) (hr : r < 12) (hn : n ≤ 24) (q : Nat → Nat) : PairAt (w.setCells g (1 + r * 24) ((List.range n).map (fun c => .int .i64 (q c)))) g k (fun i c => if i = r ∧ c < n then q c else f i c) := by
  have hl : ((List.range n).map (fun c => Value.int .i64 (q c))).length = n := by simp
  obtain ⟨C', e1, e2, e3, e4, e5⟩ := setCells_block g ((List.range n).map (fun c => .int .i64 (q c))) (1 + r * 24) w (pairC k f) _ _ h (by rw [hl, pairC_len]; omega)
  rw [pairC_len] at e2
  have : C' = pairC k (fun i c => if i = r ∧ c < n then q c else f i c) := pair_ext e2 (by rw [e3 0 (by omega), pairC_zero]) (fun i c hi hc => by
    by_cases e : i = r ∧ c < n
    · obtain ⟨rfl, hcn⟩ := e
      rw [e5 c (by rw [hl]; exact hcn)]; simp [hcn]
    · have hp : (if i = r ∧ c < n then q c else f i c) = f i c := by rw [if_neg e]
      rw [hp]
      by_cases hlt : 1 + i * 24 + c < 1 + r * 24
      · rw [e3 _ hlt, pairC_at hi hc]
      · rw [e4 _ (by rw [hl]; omega), pairC_at hi hc])
  rw [PairAt, e1, this]
set_option maxRecDepth 100000 in
set_option maxHeartbeats 2000000 in
theorem beside_any (pm : Option Addr) (nm cm : Nat) (M : List (List Int)) (w : World) (hm : MatV w (.agg #[.slice pm nm cm]) M) (hs : SqMay M) :
    Calls Tryd.prog 63 #[.agg #[.slice pm nm cm]] w fun e w' => e = .returned (.agg (pairC nm (begF nm (entry M) nm)).toArray) ∧ Below w.heap.size w w' := by
  obtain ⟨hl, n1, n2, k, b, o, ek, kk1, kk2, rfl, hc⟩ := mat_at hm hs.1
  obtain rfl : nm = k := by rw [← hl, hs.2, ek]
  have HM := hide hm
  have HC := hide hc
  clear hm hc hs hl ek kk1 kk2
  have hz := fun w => zero_pair w
  go_enter Tryd.func63, Tryd.ntmps63
  go_upto_region 1 with fail
  have hbd := fun w => build_pair nm w
  obtain ⟨b0, b1, b2, b3⟩ := three_blocks w (.cells #[.slice (some ⟨b, o, none⟩) nm cm] 52) (.cells (pairC 0 (fun _ _ => 0)).toArray 101) (.cells (pairC 0 (fun _ _ => 0)).toArray 101)
  have P2 : Hid (PairAt (((w.alloc (.cells #[.slice (some ⟨b, o, none⟩) nm cm] 52)).alloc (.cells (pairC 0 (fun _ _ => 0)).toArray 101)).alloc (.cells (pairC 0 (fun _ _ => 0)).toArray 101)) (w.heap.size + 1 + 1) 0 (fun _ _ => 0)) := hide b2
  have P1 : Hid (PairAt (((w.alloc (.cells #[.slice (some ⟨b, o, none⟩) nm cm] 52)).alloc (.cells (pairC 0 (fun _ _ => 0)).toArray 101)).alloc (.cells (pairC 0 (fun _ _ => 0)).toArray 101)) (w.heap.size + 1) 0 (fun _ _ => 0)) := hide b1
  have P0 := hide b0
  have PB := hide b3
  clear b0 b1 b2 b3
  go_upto_region 2 with (refine step_store_pair rfl (.tmp 3) (.tmp 9) rfl (w.heap.size + 1 + 1) nm 0 rfl (fun _ _ => 0) (fun _ _ => 0) rfl ?_ ?_; exact unhide P2)
  have P3 := hide ((unhide P2).setAll (k' := nm) (q := fun _ _ => 0))
  have P4 := hide ((setCells_other (w.heap.size + 1 + 1) (pairC nm (fun _ _ => 0)) 0 _ (w.heap.size + 1) (by omega)).trans (unhide P1))
  have P5 := hide ((setCells_other (w.heap.size + 1 + 1) (pairC nm (fun _ _ => 0)) 0 _ w.heap.size (by omega)).trans (unhide P0))
  have PC := hide (below_setCells (Nat.le_add_right w.heap.size 2) (pairC nm (fun _ _ => 0)) 0 _ _ (unhide PB))
  generalize ((((w.alloc (.cells #[.slice (some ⟨b, o, none⟩) nm cm] 52)).alloc (.cells (pairC 0 (fun _ _ => 0)).toArray 101)).alloc (.cells (pairC 0 (fun _ _ => 0)).toArray 101)).setCells (w.heap.size + 1 + 1) 0 (pairC nm (fun _ _ => 0))) = W at P3 P4 P5 PC ⊢
  clear P0 P1 P2 PB
  simp only [Act.put]
  have c0 := cell_of_one (unhide P5)
  go_wp2
  clear c0
  go_loopw [13] (fun iv wr => ∃ i : Nat, i ≤ nm ∧ iv = .int .i64 i ∧ Hid (PairAt wr (w.heap.size + 1 + 1) nm (begF nm (entry M) i)) ∧ Hid (PairAt wr (w.heap.size + 1) 0 (fun _ _ => 0)) ∧ Hid (Below w.heap.size w wr)) (fun iv _ => nm - (intOf iv).toNat)
  case atStart => exact ⟨0, by omega, rfl, hide (by rw [begF_zero]; exact unhide P3), P4, PC⟩
  case round =>
    obtain ⟨i, hi, rfl, HP, HR, HB⟩ := hrel
    clear P3 P4 P5 PC
    by_cases hlt : i < nm
    · have hlt' : (i : Int) < nm := by omega
      have hi12 : i < 12 := by omega
      have hi12' : (i : Int) < 12 := by omega
      obtain ⟨gm, om, qm, hrow, hcm⟩ := unhide HC i hlt
      have crow := ((unhide HB).cell (cell_lt hrow)).trans hrow
      have hcopy : (Builtin.copy_ #[36, 36] 3 #[.slice (some ⟨w.heap.size + 1 + 1, 1 + i * 24, none⟩) 24 24, .slice (some ⟨gm, om, none⟩) nm qm]).run Tryd.prog wr = .ok (goInt nm) (wr.setCells (w.heap.size + 1 + 1) (1 + i * 24) ((List.range nm).map (fun c => .int .i64 (entry M i c)))) := by
        have hln : ((List.range nm).map (fun c => Value.int .i64 (entry M i c))).length = nm := by simp
        have := run_copy_cells (P := Tryd.prog) wr 36 36 3 3 (w.heap.size + 1 + 1) (1 + i * 24) 24 24 ⟨gm, om, none⟩ nm qm ((List.range nm).map (fun c => .int .i64 (entry M i c))) Tryd.underlying36 (by kernel_rfl) (by rw [hln]; exact (Nat.min_eq_left (by omega)).symm) (fun j v hv => by
            have hj : j < nm := by have := (List.getElem?_eq_some_iff.1 hv).1; rwa [hln] at this
            simp [hj] at hv
            rw [addr_add, ← hv]
            exact ((unhide HB).cell (cell_lt (hcm j hj).1)).trans (hcm j hj).1)
          (fun j hj => ((unhide HP).there hi12 j (by rw [hln] at hj; omega)).1) (fun j hj => ((unhide HP).there hi12 j (by rw [hln] at hj; omega)).2) (by
            intro v hv
            simp only [List.mem_map] at hv
            obtain ⟨c, _, rfl⟩ := hv
            rfl)
        rw [hln] at this
        exact this
      have P6 := hide ((unhide HP).setPart hi12 (n := nm) (by omega) (entry M i))
      have R6 := hide ((setCells_other (w.heap.size + 1 + 1) ((List.range nm).map (fun c => .int .i64 (entry M i c))) (1 + i * 24) wr (w.heap.size + 1) (by omega)).trans (unhide HR))
      have B6 := hide (below_setCells (Nat.le_add_right w.heap.size 2) ((List.range nm).map (fun c => .int .i64 (entry M i c))) (1 + i * 24) _ _ (unhide HB))
      clear hcm hrow
      go_upto_region 6 with fail
      generalize wr.setCells (w.heap.size + 1 + 1) (1 + i * 24) ((List.range nm).map (fun c => .int .i64 (entry M i c))) = w6 at P6 R6 B6 ⊢
      have cz := (unhide P6).size
      have qz := kept_cell (B := w6.heap.size) cz (cell_lt cz)
      clear cz hcopy crow
      obtain ⟨R, eR⟩ : ∃ R, R = nm + i := ⟨_, rfl⟩
      have hR : R < 24 := by omega
      have hR' : (R : Int) < 24 := by omega
      have hwr : IntKind.i64.wrap ((nm : Int) + i) = (R : Int) := by rw [IntKind.wrap_i64]; omega
      have cR := (unhide P6).cell (r := i) (c := R) hi12 hR
      have fR : w6.frozen? ⟨w.heap.size + 1 + 1, 1 + i * 24 + R, none⟩ = false := free_of_list (unhide P6)
      obtain ⟨y, ey⟩ : ∃ y, y = (if i = i ∧ R < nm then entry M i R else begF nm (entry M) i i R) := ⟨_, rfl⟩
      rw [← ey] at cR
      have P7 := hide (((unhide P6).below (w' := w6.drew) ((Below.refl _ _).drew)).setCell (r := i) (c := R) (x := 1) hi12 hR)
      rw [eR, begF_step, ← eR] at P7
      have R7 := hide ((Below.heap_setCell w6.drew ⟨w.heap.size + 1 + 1, 1 + i * 24 + R, none⟩ (.int .i64 1) (w.heap.size + 1) (by show w.heap.size + 1 ≠ w.heap.size + 1 + 1; omega)).trans (unhide R6))
      have B7 := hide (((unhide B6).drew).setCell (p := ⟨w.heap.size + 1 + 1, 1 + i * 24 + R, none⟩) (by show _ ≤ w.heap.size + 1 + 1; omega) (.int .i64 1))
      have ER := hide eR
      clear eR ey
      refine wp_region_ord_thenT (S := Below w6.heap.size w6) [(true, 0), (true, 1), (true, 2), (true, 3), (true, 4), (true, 5), (true, 6), (true, 7)] (List.cons_ne_nil _ _) (by kernel_rfl) (by kernel_rfl) (by kernel_rfl) (by kernel_rfl) (by kernel_rfl) ((Below.refl _ _).drew) ?_
      simp only [List.dropLast_cons_cons, List.dropLast_singleton, List.getLast_cons_cons, List.getLast_singleton, withOps, List.map_cons, List.map_nil, List.getElem?_cons_succ, List.getElem?_cons_zero]
      repeat (refine walkH_read (by rfl) (by (intro gx; go_simp; try (with_reducible rfl))) ?_; try simp only [Act.put, List.setIfInBounds_toArray, List.set_cons_zero, List.set_cons_succ])
      refine lastPost_of_list ?_
      simp only [List.cons_append, List.nil_append]
      go_wp2
      refine NoPanic.normal ?_
      go_wp2
      go_roundw
      case rel => exact ⟨i + 1, by omega, by go_num, P7, R7, B7⟩
      case measure => simp [intOf]; omega
    · have hlt' : ¬ (i : Int) < nm := by omega
      obtain rfl : i = nm := by omega
      generalize hq : begF i (entry M) i = q at HP
      have HE : Hid (Ending.returned (.agg (pairC i q).toArray) = .returned (.agg (pairC i (begF i (entry M) i)).toArray)) := hide (by rw [hq])
      clear hq
      have HS := hide ((unhide HR).setAll (k' := i) (q := q))
      have HBS := hide (below_setCells (Nat.le_add_right w.heap.size 1) (pairC i q) 0 _ _ (unhide HB))
      go_upto_region 8 with fail
      refine wp_region_lit ?_
      refine step_load_pair rfl (.tmp 3) rfl (w.heap.size + 1 + 1) i rfl q (unhide HP) ?_
      refine step_store_pair rfl (.tmp 2) (.tmp 33) rfl (w.heap.size + 1) i 0 rfl q _ rfl (unhide HR) ?_
      refine wpList_nil ?_
      go_wp2_with (exact bodyPost_ret (res_pair Tryd.results63 _ rfl (unhide HS)) rfl ⟨unhide HE, unhide HBS⟩)
end Go.Proofs.YtcgagkaalbljmaaDoor
/- Package invert's Invert: what it returns, whatever the matrix. -/
namespace Go.Proofs.YtcgagkaalbljmaaDoor
open Go.RowKit
set_option linter.unusedVariables false
set_option linter.unusedSimpArgs false
attribute [local go_sem ↓] Go.wp_at_zero Go.wp_at_succ
set_option maxRecDepth 100000 in
set_option maxHeartbeats 2000000 in
theorem invInvert_noMay (pm : Option Addr) (nm cm : Nat) (M : List (List Int)) (w : World) (hm : MatV w (.agg #[.slice pm nm cm]) M) (hno : ¬ MMay M) :
    Calls Tryd.prog 47 #[.agg #[.slice pm nm cm]] w fun e w' => e = .returned (.tuple #[.agg #[.slice none 0 0], .int .i64 400]) ∧ Below w.heap.size w w' := by
  have HM := hide hm
  clear hm
  go_enter Tryd.func47, Tryd.ntmps47
  go_wp2_with fail
  have k0 := hide (two_old w (.cells #[.slice pm nm cm] 52) (.cells #[.slice none 0 0] 52))
  have k2 := hide (two_new w (.cells #[.slice pm nm cm] 52) (.cells #[.slice none 0 0] 52))
  have k3 : Hid (Below w.heap.size w ((w.alloc (.cells #[.slice pm nm cm] 52)).alloc (.cells #[.slice none 0 0] 52))) := hide (by go_grown)
  have k4 : ((w.alloc (.cells #[.slice pm nm cm] 52)).alloc (.cells #[.slice none 0 0] 52)).heap.size = w.heap.size + 2 := by simp
  generalize ((w.alloc (.cells #[.slice pm nm cm] 52)).alloc (.cells #[.slice none 0 0] 52)) = W at k0 k2 k3 k4 ⊢
  have g0 := grown_cell (cell_of_one (unhide k0))
  refine wp_region_grows (by kernel_rfl) (by kernel_rfl) ?_
  repeat (first | go_big_quiet_step ((go_at_call 59; exact Calls.grows (matMay_no _ M _ (((unhide HM).below (unhide k3)).below (GrownW.prop _)) hno))) | quiet_step ((go_at_call 59; exact Calls.grows (matMay_no _ M _ (((unhide HM).below (unhide k3)).below (GrownW.prop _)) hno))))
  refine wpQuiet_nil ?_
  intro gw hw'
  have gb := grown_below hw'
  clear hw'
  clear g0
  have r2 := (gb.block _ (by omega)).trans (unhide k2)
  have c2 := cell_of_one r2
  have f2 := free_of_one r2
  have HB1 := hide (bt (unhide k3) gb)
  clear gb
  go_wp2
  have cr := cell_of_one (one_setCell (u := .slice none 0 0) r2)
  exact bodyPost_ret (v := .tuple #[.agg #[.slice none 0 0], .int .i64 400]) (by simp [results, Tryd.results47, go_sem, cr]) rfl ⟨rfl, (unhide HB1).setCell (by show _ ≤ w.heap.size + 1; omega) _⟩
set_option maxRecDepth 100000 in
set_option maxHeartbeats 2000000 in
theorem invInvert_noSq (pm : Option Addr) (nm cm : Nat) (M : List (List Int)) (w : World) (hm : MatV w (.agg #[.slice pm nm cm]) M) (hmay : MMay M) (hno : M.length ≠ (M.getD 0 []).length) :
    Calls Tryd.prog 47 #[.agg #[.slice pm nm cm]] w fun e w' => e = .returned (.tuple #[.agg #[.slice none 0 0], .int .i64 400]) ∧ Below w.heap.size w w' := by
  obtain ⟨hl, n1, n2, k, b, o, ek, kk1, kk2, rfl, hc⟩ := mat_at hm hmay
  have HM := hide hm
  obtain ⟨g, og, q, hrow, _⟩ := hc 0 n1
  simp only [Nat.add_zero] at hrow
  have t1 : ((nm : Int) != (k : Int)) = true := by simp; omega
  have p1 : (0 : Int) < nm := by omega
  clear hm hc
  go_enter Tryd.func47, Tryd.ntmps47
  go_wp2_with fail
  have k0 := hide (two_old w (.cells #[.slice (some ⟨b, o, none⟩) nm cm] 52) (.cells #[.slice none 0 0] 52))
  have k2 := hide (two_new w (.cells #[.slice (some ⟨b, o, none⟩) nm cm] 52) (.cells #[.slice none 0 0] 52))
  have k3 : Hid (Below w.heap.size w ((w.alloc (.cells #[.slice (some ⟨b, o, none⟩) nm cm] 52)).alloc (.cells #[.slice none 0 0] 52))) := hide (by go_grown)
  have k4 : ((w.alloc (.cells #[.slice (some ⟨b, o, none⟩) nm cm] 52)).alloc (.cells #[.slice none 0 0] 52)).heap.size = w.heap.size + 2 := by simp
  generalize ((w.alloc (.cells #[.slice (some ⟨b, o, none⟩) nm cm] 52)).alloc (.cells #[.slice none 0 0] 52)) = W at k0 k2 k3 k4 ⊢
  have g0 := grown_cell (cell_of_one (unhide k0))
  have g3 := grown_cell (((unhide k3).cell (cell_lt hrow)).trans hrow)
  clear hrow
  refine wp_region_grows (by kernel_rfl) (by kernel_rfl) ?_
  repeat (first | go_big_quiet_step ((go_at_call 59; exact Calls.grows (matMay_yes _ M _ (((unhide HM).below (unhide k3)).below (GrownW.prop _)) hmay))) | quiet_step ((go_at_call 59; exact Calls.grows (matMay_yes _ M _ (((unhide HM).below (unhide k3)).below (GrownW.prop _)) hmay))))
  refine wpQuiet_nil ?_
  intro gw hw'
  have gb := grown_below hw'
  clear hw'
  clear g0 g3
  have r2 := (gb.block _ (by omega)).trans (unhide k2)
  have c2 := cell_of_one r2
  have f2 := free_of_one r2
  have HB1 := hide (bt (unhide k3) gb)
  clear gb
  go_wp2
  have cr := cell_of_one (one_setCell (u := .slice none 0 0) r2)
  exact bodyPost_ret (v := .tuple #[.agg #[.slice none 0 0], .int .i64 400]) (by simp [results, Tryd.results47, go_sem, cr]) rfl ⟨rfl, (unhide HB1).setCell (by show _ ≤ w.heap.size + 1; omega) _⟩
theorem begF_st {k : Nat} {E : Nat → Nat → Nat} (hk : k ≤ 12) (hE : BytK k E) : St k E 0 (begF k E k) := by
  refine ⟨(Two.start hE).eq (fun r s hr hs => by simp [begF, hr, hs]) (fun r s hr hs => ?_), fun r j _ hj => by omega, fun r s _ _ => ?_⟩
  · show idx r s = begF k E k r (k + s)
    unfold begF idx
    by_cases h : r = s
    · subst h; simp [hr]; intro h; omega
    · simp [hr, h, show ¬ s = r from fun e => h e.symm]; intro h; omega
  · unfold begF
    by_cases h : r < k
    · by_cases h2 : s < k
      · simp [h, h2]; exact hE r s h h2
      · simp only [h, h2, if_true, if_false]
        split <;> decide
    · simp [h]
set_option maxRecDepth 100000 in
set_option maxHeartbeats 4000000 in
theorem invInvert_sq (pm : Option Addr) (nm cm : Nat) (M : List (List Int)) (w : World) (hm : MatV w (.agg #[.slice pm nm cm]) M) (hs : SqMay M) :
    Calls Tryd.prog 47 #[.agg #[.slice pm nm cm]] w (invPost M w) := by
  obtain ⟨hl, n1, n2, k, b, o, ek, kk1, kk2, rfl, hc⟩ := mat_at hm hs.1
  obtain rfl : nm = k := by rw [← hl, hs.2, ek]
  have HM := hide hm
  have HL := hide hl
  have HSQ := hide hs
  have HMY := hide hs.1
  have HST : Hid (St nm (entry M) 0 (begF nm (entry M) nm)) := hide (begF_st n2 (by have := hs.byt; rwa [hl] at this))
  obtain ⟨g, og, q, hrow, _⟩ := hc 0 n1
  simp only [Nat.add_zero] at hrow
  have t1 : ((nm : Int) != (nm : Int)) = false := by simp
  have p1 : (0 : Int) < nm := by omega
  have hz := fun w => zero_pair w
  clear hm hc hs hl ek kk1 kk2
  go_enter Tryd.func47, Tryd.ntmps47
  go_wp2_with fail
  have k0 := hide (two_old w (.cells #[.slice (some ⟨b, o, none⟩) nm cm] 52) (.cells #[.slice none 0 0] 52))
  have k2 := hide (two_new w (.cells #[.slice (some ⟨b, o, none⟩) nm cm] 52) (.cells #[.slice none 0 0] 52))
  have k3 : Hid (Below w.heap.size w ((w.alloc (.cells #[.slice (some ⟨b, o, none⟩) nm cm] 52)).alloc (.cells #[.slice none 0 0] 52))) := hide (by go_grown)
  have k4 : ((w.alloc (.cells #[.slice (some ⟨b, o, none⟩) nm cm] 52)).alloc (.cells #[.slice none 0 0] 52)).heap.size = w.heap.size + 2 := by simp
  generalize ((w.alloc (.cells #[.slice (some ⟨b, o, none⟩) nm cm] 52)).alloc (.cells #[.slice none 0 0] 52)) = W at k0 k2 k3 k4 ⊢
  have g0 := grown_cell (cell_of_one (unhide k0))
  have g3 := grown_cell (((unhide k3).cell (cell_lt hrow)).trans hrow)
  clear hrow
  refine wp_region_grows (by kernel_rfl) (by kernel_rfl) ?_
  repeat (first | go_big_quiet_step ((go_at_call 59; exact Calls.grows (matMay_yes _ M _ (((unhide HM).below (unhide k3)).below (GrownW.prop _)) (unhide HMY)))) | quiet_step ((go_at_call 59; exact Calls.grows (matMay_yes _ M _ (((unhide HM).below (unhide k3)).below (GrownW.prop _)) (unhide HMY)))))
  refine wpQuiet_nil ?_
  intro gw hw'
  have gb := grown_below hw'
  clear hw'
  clear g0 g3
  replace k0 := hide ((gb.block _ (lt_of_block (unhide k0))).trans (unhide k0))
  replace k2 := hide ((gb.block _ (lt_of_block (unhide k2))).trans (unhide k2))
  have hB1 := bt (unhide k3) gb
  have hs1 := gb.size
  have HB := hide hB1
  clear gb hB1 k3
  have ck0 := cell_of_one (unhide k0)
  have dk0 := fun o => ((below_alloc gw o).cell (cell_lt ck0)).trans ck0
  have ck2 := cell_of_one (unhide k2)
  have dk2 := fun o => ((below_alloc gw o).cell (cell_lt ck2)).trans ck2
  go_wp2_with fail
  refine (beside_any _ nm cm M gw ((unhide HM).below (unhide HB)) (unhide HSQ)).mono ?_
  rintro e w1 ⟨rfl, b1⟩
  replace k0 := hide ((b1.block _ (lt_of_block (unhide k0))).trans (unhide k0))
  replace k2 := hide ((b1.block _ (lt_of_block (unhide k2))).trans (unhide k2))
  replace HB := hide (bt (unhide HB) b1)
  have hs2 := b1.size
  clear b1 ck0 ck2 dk0 dk2
  generalize begF nm (entry M) nm = F0 at HST ⊢
  have PN : Hid (PairAt (w1.alloc (.cells (pairC 0 (fun _ _ => 0)).toArray 101)) w1.heap.size 0 (fun _ _ => 0)) := hide (heap_alloc_new w1 _)
  have P3 := hide ((unhide PN).setAll (k' := nm) (q := F0))
  have hx := below_alloc w1 (.cells (pairC 0 (fun _ _ => 0)).toArray 101)
  have hx2 := hide (below_setCells (Nat.le_refl w1.heap.size) (pairC nm F0) 0 _ _ hx)
  go_upto_region 4 with (refine step_store_pair rfl (.tmp 4) (.tmp 22) rfl w1.heap.size nm 0 rfl F0 (fun _ _ => 0) rfl ?_ ?_; exact unhide PN)
  replace k0 := hide (((unhide hx2).block _ (lt_of_block (unhide k0))).trans (unhide k0))
  replace k2 := hide (((unhide hx2).block _ (lt_of_block (unhide k2))).trans (unhide k2))
  replace HB := hide ((unhide HB).trans ((unhide hx2).mono (unhide HB).size))
  generalize ((w1.alloc (.cells (pairC 0 (fun _ _ => 0)).toArray 101)).setCells w1.heap.size 0 (pairC nm F0)) = W4 at P3 k0 k2 HB ⊢
  clear PN hx hx2
  generalize w1.heap.size = gp at P3 hs2 ⊢
  have hgp : w.heap.size + 2 ≤ gp := by omega
  clear hs1 hs2 k4
  simp only [Act.put]
  have cz := (unhide P3).size
  go_wp2
  clear cz
  go_loopw [25] (fun cv wr => ∃ c : Nat, c ≤ nm ∧ cv = .int .i64 c ∧ ∃ F, Hid (PairAt wr gp nm F) ∧ Hid (St nm (entry M) c F) ∧ wr.heap[w.heap.size + 1]? = some (.cells #[.slice none 0 0] 52 (0, 0)) ∧ Hid (Below w.heap.size w wr)) (fun cv _ => nm - (intOf cv).toNat)
  case atStart => exact ⟨0, by omega, rfl, F0, P3, HST, unhide k2, HB⟩
  case round =>
    obtain ⟨c, hc, rfl, F, HP, HS, x2, HBR⟩ := hrel
    clear P3 HST k0 k2 HB
    by_cases hlt : c < nm
    · have hlt' : (c : Int) < nm := by omega
      have HX2 := hide x2
      clear x2
      go_wp2_with fail
      refine (settle_any gp nm c (entry M) F wr (unhide HP) n2 hlt (unhide HS)).mono ?_
      rintro e w5 (⟨rfl, rfl, h0⟩ | ⟨rfl, hb5, F', hP', hS'⟩)
      · have HNO := hide (stuck_at (unhide HSQ) (unhide HL) ⟨(unhide HS).1, (unhide HS).2.1, (unhide HS).byt n2, (unhide HS).byt2 n2⟩ hlt h0)
        clear h0
        have c2 := cell_of_one (unhide HX2)
        have f2 := free_of_one (unhide HX2)
        go_wp2
        have cr := cell_of_one (one_setCell (u := .slice none 0 0) (unhide HX2))
        have hpost : invPost M w (.returned (.tuple #[.agg #[.slice none 0 0], .int .i64 401])) (w5.setCell ⟨w.heap.size + 1, 0, none⟩ (.slice none 0 0)) := ⟨_, ([], 401), unhide HNO, rfl, OwnM.nil _ _ _ _, (unhide HBR).setCell (by show _ ≤ w.heap.size + 1; omega) _⟩
        exact bodyPost_ret (res_mat Tryd.results47 _ rfl rfl cr) rfl hpost
      · have x5 := hide ((hb5.block _ (by omega)).trans (unhide HX2))
        have HB5 := hide ((unhide HBR).trans (hb5.mono (by omega)))
        have HP5 := hide hP'
        have HS5 := hide hS'
        clear hb5 hP' hS'
        go_wp2
        go_roundw
        case rel => exact ⟨c + 1, by omega, by go_num, F', HP5, HS5, unhide x5, HB5⟩
        case measure => simp [intOf]; omega
    · have hlt' : ¬ (c : Int) < nm := by omega
      obtain rfl : c = nm := by omega
      have HX2 := hide x2
      clear x2
      go_wp2_with fail
      refine (inverse_any gp c F wr (unhide HP) n1 n2).mono ?_
      rintro e w5 ⟨u, rfl, hO, hb5⟩
      obtain ⟨us, hR⟩ := hO
      obtain ⟨go, co, eu, hgo, _⟩ := hR.form (by rw [matF_len]; omega)
      rw [matF_len] at eu
      subst eu
      have HND := hide (done_at (unhide HSQ) (unhide HL) ⟨(unhide HS).1, (unhide HS).2.1, (unhide HS).byt n2, (unhide HS).byt2 n2⟩)
      have x5 := hide ((hb5.block _ (lt_of_block (unhide HX2))).trans (unhide HX2))
      have HB5 := hide (bt (unhide HBR) hb5)
      have HR := hide hR
      have c2 := cell_of_one (unhide x5)
      have f2 := free_of_one (unhide x5)
      have hwr := lt_of_block (unhide HX2)
      have hsz := (unhide HBR).size
      clear hb5 hR
      go_wp2
      have cr := cell_of_one (one_setCell (u := .slice (some ⟨go, 0, none⟩) c co) (unhide x5))
      have hpost : invPost M w (.returned (.tuple #[.agg #[.slice (some ⟨go, 0, none⟩) c co], .int .i64 0])) (w5.setCell ⟨w.heap.size + 1, 0, none⟩ (.slice (some ⟨go, 0, none⟩) c co)) :=
        ⟨_, (matF c c (fun r s => F r (c + s)), 0), unhide HND, rfl, OwnM.mono (B := wr.heap.size) ⟨us, (unhide HR).setBelow (by show w.heap.size + 1 < _; exact hwr) _⟩ (by omega), (unhide HB5).setCell (by show _ ≤ w.heap.size + 1; omega) _⟩
      exact bodyPost_ret (res_mat Tryd.results47 _ rfl rfl cr) rfl hpost
theorem invInvert_any (v : Value) (M : List (List Int)) (w : World) (hm : MatV w v M) : Calls Tryd.prog 47 #[v] w (invPost M w) := by
  have hm' := hm
  obtain ⟨pm, nm, cm, rfl, _⟩ := hm'
  by_cases h1 : MMay M
  · by_cases h2 : M.length = (M.getD 0 []).length
    · exact invInvert_sq pm nm cm M w hm ⟨h1, h2⟩
    · refine (invInvert_noSq pm nm cm M w hm h1 h2).mono ?_
      rintro e w' ⟨rfl, hb⟩
      exact ⟨_, ([], 400), .inl ⟨fun h => h2 h.2, rfl⟩, rfl, OwnM.nil _ _ _ _, hb⟩
  · refine (invInvert_noMay pm nm cm M w hm h1).mono ?_
    rintro e w' ⟨rfl, hb⟩
    exact ⟨_, ([], 400), .inl ⟨fun h => h1 h.1, rfl⟩, rfl, OwnM.nil _ _ _ _, hb⟩
end Go.Proofs.YtcgagkaalbljmaaDoor
