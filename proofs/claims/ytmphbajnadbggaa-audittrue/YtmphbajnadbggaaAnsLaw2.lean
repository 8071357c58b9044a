/- CopyAnswers, SpoilAnswers (ossuarylaw0): contracts. -/
import Derived.Test.YtmphbajnadbggaaAnsLaw
import Derived.Test.YtmphbajnadbggaaAuditRef3
namespace Go.Proofs.Ytmphbajnadbggaa
open Go.RowKit
set_option linter.unusedVariables false
set_option linter.unusedSimpArgs false
attribute [local go_sem ↓] Go.wp_at_zero Go.wp_at_succ
def copyPost (zs : List Ans) (w : World) (e : Ending) (w' : World) : Prop := ∃ v us, e = .returned v ∧ AnsO w' w.heap.size 64 3 v us zs ∧ Below w.heap.size w w'
theorem free_of_row {w : World} {b : Nat} {C : Array Value} {T : TypeId} (h : w.heap[b]? = some (.cells C T (0, 0))) (i : Nat) : w.frozen? ⟨b, i, none⟩ = false := by
  unfold World.frozen?
  simp [h]
theorem three_set {w : World} {b : Nat} {x y z y' : Value} {T : TypeId} (h : w.heap[b]? = some (.cells #[x, y, z] T (0, 0))) : (w.setCell ⟨b, 1, none⟩ y').heap[b]? = some (.cells #[x, y', z] T (0, 0)) := by
  rw [heap_setCell_same w b 1 _ T y' h]
  rfl
theorem AnsO.set {w0 w : World} {B : Nat} {T E : TypeId} {v : Value} {us : List Value} {zs : List Ans} (h0 : AnsO w0 B T E v us zs) (h : AnsO w B T E v us zs) {a : Addr} (ha : w0.heap.size ≤ a.block) (x : Value) : AnsO (w.setCell a x) B T E v us zs := by
  refine ⟨h.len, ownsRow_setCell_other h.outer (fun e => ?_) x, fun j y hy => ownsRow_setCell_other (h.row j y hy) (fun e => ?_) x, h.apart⟩
  · have := (World.ownsRow.lt h0.outer _ e).2
    omega
  · have := ((h0.row j y hy).lt e).2
    omega
set_option maxRecDepth 100000 in
set_option maxHeartbeats 4000000 in
theorem copyAnswers_any (a : Option Addr) (n c : Nat) (zs : List Ans) (w : World) (hA : AnsV w a n c zs) (hn : n * 48 ≤ 140737488351232) (hp : ∀ j, j < n → (zs.getD j ans0).path.length * 8 ≤ 140737488351232) :
    Calls Try.prog 20 #[.slice a n c] w (copyPost zs w) := by
  have hzl := hA.1
  have HA := hide hA
  have HP := hide hp
  clear hA hp
  go_enter Try.func20, Try.ntmps20
  go_wp2
  go_loopw [3, 4] (fun ov iv wr => ∃ k : Nat, k ≤ n ∧ iv = .int .i64 k ∧ Hid (∃ us, AnsO wr w.heap.size 64 3 ov us (zs.take k)) ∧ Hid (Below w.heap.size w wr)) (fun _ iv _ => n - (intOf iv).toNat)
  case atStart => exact ⟨0, by omega, rfl, hide ⟨[], AnsO.nil _ _ _ _⟩, hide (Below.refl _ _)⟩
  case round =>
    obtain ⟨k, hk, rfl, HO, HW⟩ := hrel
    obtain ⟨us, hO⟩ := unhide HO
    have hkl : (zs.take k).length = k := by rw [List.length_take]; omega
    obtain ⟨pv, cv, ev⟩ := ownZ_slice hO.outer
    rw [hkl] at ev
    subst ev
    have HO' := hide hO
    clear HO hO
    have hszW := (unhide HW).size
    by_cases hlt : k < n
    · have hlt' : (k : Int) < n := by omega
      obtain ⟨b, o, p, pc, rfl, hcap, y0, y1, y2, hPI⟩ := ((unhide HA).below (unhide HW)).at hlt
      have hpl := unhide HP k hlt
      obtain ⟨z, ez⟩ : ∃ z, z = zs.getD k ans0 := ⟨_, rfl⟩
      rw [← ez] at y0 y1 y2 hPI hpl
      have hsn : zs.take (k + 1) = zs.take k ++ [z] := by
        rw [List.take_add_one, ez]
        simp [List.getD, List.getElem?_eq_getElem (show k < zs.length by omega)]
      have HSN := hide hsn
      obtain ⟨B, K0, L⟩ := z
      replace hpl : K0.length * 8 ≤ 140737488351232 := hpl
      replace y0 : wr.cell? ⟨b, o + k * 3, none⟩ = some (.string B) := y0
      replace y1 : wr.cell? ⟨b, o + k * 3 + 1, none⟩ = some (.slice p K0.length pc) := y1
      replace y2 : wr.cell? ⟨b, o + k * 3 + 2, none⟩ = some (.int .i64 L) := y2
      replace hPI : Ints wr p K0.length pc K0 := hPI
      have HI := hide hPI
      clear ez hsn hPI
      go_upto_region 6 with fail
      have BN := hide (heap_alloc_new wr (.cells #[.string B, .slice p K0.length pc, .int .i64 L] 64))
      have hb1 := below_alloc wr (.cells #[.string B, .slice p K0.length pc, .int .i64 L] 64)
      have hs1 : (wr.alloc (.cells #[.string B, .slice p K0.length pc, .int .i64 L] 64)).heap.size = wr.heap.size + 1 := by simp
      generalize (wr.alloc (.cells #[.string B, .slice p K0.length pc, .int .i64 L] 64)) = W1 at *
      have HS1 := hide hs1
      clear hs1
      have hW1 := (unhide HW).trans (hb1.mono hszW)
      have hrow := hide (((unhide HI).below hb1).below (below_alloc W1 (.cells #[] 3))).2
      have hl0 := (unhide HI).1
      obtain ⟨x0, x1, x2⟩ := box_three (unhide BN)
      have x1' := fun o => ((below_alloc W1 o).cell (cell_lt x1)).trans x1
      go_upto_region 7 with (at_builtin; refine wpList_append_row _ (by rfl) _ _ 22 (by rfl) W1.heap.size 3 (.int .i64 0) 8 Try.underlying22 Try.infoInt rfl _ _ _ (by rfl) (own_empty W1 3) p K0.length pc _ (K0.map (Value.int .i64)) (by rfl) (unhide hrow) (by simp) (int_at rfl) (ints_oneCell _ _) (by unfold maxLen; omega) (by omega) (by simp) ?_; intro v5 w5 O5 P5; simp only [Nat.zero_add, List.nil_append] at O5; have hB5 : Below W1.heap.size W1 w5 := (below_alloc W1 _).grown P5 (by simp) (by intro k hk; simp [Value.ownBlock] at hk; omega); have O5' : OwnL w5 W1.heap.size 3 v5 (K0.map (Value.int .i64)) := (by unfold OwnL; rw [List.length_map]; exact O5); obtain ⟨p5, c5, ev5⟩ := O5'.form; rw [List.length_map] at ev5; subst ev5; have BN5 := (hB5.block _ (lt_of_block (unhide BN))).trans (unhide BN); have f5 := free_of_row BN5 1; have y5 := (box_three BN5).2.1; have HO5 := hide O5'; have HB5 := hide hB5; have HN5 := hide BN5; clear O5 O5' P5 hB5 BN5)
      have HA5 := hide (((unhide HO').below hb1).below (unhide HB5))
      have hs1 := unhide HS1
      have HA6 := hide (AnsO.set (unhide HO') (unhide HA5) (a := ⟨wr.heap.size, 1, none⟩) (Nat.le_refl _) (.slice p5 K0.length c5))
      have hO6 : OwnL (w5.setCell ⟨wr.heap.size, 1, none⟩ (.slice p5 K0.length c5)) W1.heap.size 3 (.slice p5 K0.length c5) (K0.map (Value.int .i64)) := ownsRow_setCell_below (unhide HO5) (show wr.heap.size < W1.heap.size by omega) _
      have HO6 := hide hO6
      have BN6 := three_set (y' := .slice p5 K0.length c5) (unhide HN5)
      have hW6 : Below w.heap.size w (w5.setCell ⟨wr.heap.size, 1, none⟩ (.slice p5 K0.length c5)) := (hW1.trans ((unhide HB5).mono (by omega))).setCell (by show w.heap.size ≤ wr.heap.size; omega) _
      have hs6 : W1.heap.size ≤ (w5.setCell ⟨wr.heap.size, 1, none⟩ (.slice p5 K0.length c5)).heap.size := by have := (unhide HB5).size; simp; omega
      have HW6 := hide hW6
      clear hO6 hW6 y5 f5 x0 x1 x2 x1' hrow HA5 HO5 HN5
      generalize (w5.setCell ⟨wr.heap.size, 1, none⟩ (.slice p5 K0.length c5)) = w6 at *
      obtain ⟨u0, u1, u2⟩ := box_three BN6
      have hws : w.heap.size ≤ W1.heap.size := by omega
      clear BN6 hs1
      go_wp2_with (at_builtin; refine wpList_pushZ w6 (by rfl) (.tmp 21) (.tmp 23) 48 (by rfl) w.heap.size 64 (.agg #[.string ByteArray.empty, .slice none 0 0, .int .i64 0]) 3 48 Try.underlying48 Try.infoAns (by rfl) (by decide) (.slice pv k cv) k (ansCells us (zs.take k)) (by rfl) (by have := (unhide HA6).outer; rw [hkl] at this; exact this) [.string B, .slice p5 K0.length c5, .int .i64 L] rfl (by intro u hu; simp only [List.mem_cons, List.not_mem_nil, or_false] at hu; rcases hu with rfl | rfl | rfl <;> rfl) (by rfl) (by omega) (by decide) (by omega) ?_; intro v7 w7 O7 P7; have HB7 := hide (P7.belowZ (unhide HA6).outer (unhide HW6) (Nat.le_refl _) (by omega)); have hrow7 : OwnL w6 W1.heap.size 3 (.slice p5 K0.length c5) ((Ans.path ⟨B, K0, L⟩).map (Value.int .i64)) := unhide HO6; have hout : w7.ownsRow w.heap.size 64 3 v7 ((zs.take k).length + 1) (ansCells us (zs.take k) ++ [.string (Ans.blk ⟨B, K0, L⟩), .slice p5 K0.length c5, .int .i64 (Ans.keyed ⟨B, K0, L⟩)]) := (by rw [hkl]; exact O7); have HA7 := hide (AnsO.push (unhide HA6) (hrow7.mono (by omega)) (fun j y hy => apt_far hrow7 ((unhide HO').row j y hy) (by have := unhide HS1; omega)) (by decide) hout P7); clear O7 P7 hrow7 hout)
      go_roundw
      case rel => exact ⟨k + 1, by omega, by go_num, hide ⟨_, by rw [unhide HSN]; exact unhide HA7⟩, HB7⟩
      case measure => simp [intOf]; omega
    · have hlt' : ¬ (k : Int) < n := by omega
      obtain rfl : k = n := by omega
      have htk : zs.take k = zs := List.take_of_length_le (by omega)
      rw [htk] at HO'
      go_wp2
      go_ret
      exact ⟨_, us, rfl, unhide HO', unhide HW⟩
end Go.Proofs.Ytmphbajnadbggaa
