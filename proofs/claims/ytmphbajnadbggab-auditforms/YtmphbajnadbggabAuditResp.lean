/- The program's answers: Respond. -/
import Derived.Test.YtmphbajnadbggabAuditRefu
import Derived.Test.YtmphbajnadbggabAuditPath
import Derived.Test.YtmphbajnadbggabAuditClone
import Derived.Test.YtmphbajnadbggabAnsMake
namespace Go.Proofs.Ytmphbajnadbggab
open Go.RowKit
set_option linter.unusedVariables false
set_option linter.unusedSimpArgs false
attribute [local go_sem ↓] Go.wp_at_zero Go.wp_at_succ
theorem rsp_set {s : ByteArray} {p : List Int} {q : Int} {bs : List Int} {n k : Nat} (hk : k < n) (hn : n = bs.length) :
    (rspTo s p q bs k ++ List.replicate (n - k) ans0).set k (ansOf s p q (bs.getD k 0).toNat) = rspTo s p q bs (k + 1) ++ List.replicate (n - (k + 1)) ans0 := by
  have hl := rspTo_len s p q bs k (by omega)
  rw [rspTo_snoc s p q bs k (by omega), List.set_append, if_neg (by omega), hl, Nat.sub_self, show n - k = (n - (k + 1)) + 1 by omega, List.replicate_succ, List.set_cons_zero, List.append_assoc]
  rfl
theorem box_two' {w : World} {b : Nat} {x y : Value} {T : TypeId} (h : w.heap[b]? = some (.cells #[x, y] T (0, 0))) : w.cell? ⟨b, 0, none⟩ = some x ∧ w.cell? ⟨b, 1, none⟩ = some y :=
  ⟨by rw [cell_of_row _ _ 0 _ _ _ h]; rfl, by rw [cell_of_row _ _ 1 _ _ _ h]; rfl⟩
set_option maxRecDepth 100000 in
set_option maxHeartbeats 2000000 in
theorem auditRespond_no (s : ByteArray) (pa : Option Addr) (pn pc : Nat) (p : List Int) (q : Int) (ba : Option Addr) (bn bc : Nat) (bs : List Int) (w : World) (hP : Ints w pa pn pc p) (hB : Ints w ba bn bc bs) (hbn : bn ≤ 140737488351232) (h : ¬ RspM s p q bs) :
    Calls Try.prog 9 #[.string s, .slice pa pn pc, .agg #[.int .i64 q, .slice ba bn bc]] w (ansPost ([], 1200) w) := by
  have hB0 := below_alloc w (.cells #[.int .i64 q, .slice ba bn bc] 29)
  obtain ⟨x0, x1⟩ := ask_box w q ba bn bc 29
  have HP0 := hide (hP.below hB0)
  have HBI0 := hide (hB.below hB0)
  have HB := hide hB0
  have HN := hide h
  clear hP hB hB0 h
  go_enter Try.func9, Try.ntmps9
  go_upto_region 1 with fail
  generalize (w.alloc (.cells #[.int .i64 q, .slice ba bn bc] 29)) = W at *
  go_wp2_with fail
  refine (refuse_any s pa pn pc p q ba bn bc bs _ (unhide HP0) (unhide HBI0) hbn).mono ?_
  rintro e w1 ⟨v, rfl, hv, b1⟩
  replace HB := hide (bt (unhide HB) b1)
  clear b1 x0 x1
  rcases hv with ⟨hy, _⟩ | ⟨_, hr⟩
  · exact absurd hy (unhide HN)
  have HR := hide hr
  clear hr
  go_wp2_with fail
  refine (unhide HR _).mono ?_
  rintro e w2 ⟨rfl, b2⟩
  replace HB := hide (bt (unhide HB) b2)
  clear b2
  go_wp2
  go_ret2
  exact ⟨_, [], rfl, AnsO.nil _ _ _ _, unhide HB⟩
set_option maxRecDepth 100000 in
set_option maxHeartbeats 4000000 in
theorem auditRespond_yes (s : ByteArray) (pa : Option Addr) (pn pc : Nat) (p : List Int) (q : Int) (ba : Option Addr) (bn bc : Nat) (bs : List Int) (w : World) (hP : Ints w pa pn pc p) (hB : Ints w ba bn bc bs) (h : RspM s p q bs) :
    Calls Try.prog 9 #[.string s, .slice pa pn pc, .agg #[.int .i64 q, .slice ba bn bc]] w (ansPost (rspTo s p q bs bs.length, 0) w) := by
  have HM := hide h
  obtain ⟨h32, hp, hask⟩ := h
  have hpl := hP.1
  have hbl := hB.1
  have hp3 : pn ≤ 3 := by omega
  have hb1 : 1 ≤ bn := by have := hask.2.1; omega
  have hb64 : bn ≤ 64 := by have := hask.2.2.1; omega
  obtain ⟨bb, bo, rfl, hcb⟩ : ∃ b off, ba = some ⟨b, off, none⟩ ∧ ∀ i, i < bn → w.cell? ⟨b, off + i, none⟩ = some (.int .i64 (bs.getD i 0)) := by
    rcases hB.2.two with h | h
    · omega
    · exact h
  have HBK : Hid (∀ k, k < bn → BkOk (bs.getD k 0)) := hide (fun k hk => by
    have e : bs.getD k 0 = bs[k]'(by omega) := by simp [List.getD, List.getElem?_eq_getElem (show k < bs.length by omega)]
    rw [e]; exact hask.2.2.2 _ (List.getElem_mem _))
  have HQ := hide (wf_sl hask.1)
  have hltb := cell_lt (hcb 0 (by omega))
  have H32 := hide h32
  have hB0 := below_alloc w (.cells #[.int .i64 q, .slice (some ⟨bb, bo, none⟩) bn bc] 29)
  obtain ⟨x0, x1⟩ := ask_box w q (some ⟨bb, bo, none⟩) bn bc 29
  have HP0 := hide (hP.below hB0)
  have HBI0 := hide (hB.below hB0)
  have HB := hide hB0
  have hs0 : (w.alloc (.cells #[.int .i64 q, .slice (some ⟨bb, bo, none⟩) bn bc] 29)).heap.size = w.heap.size + 1 := by simp
  have hbx := hide (heap_alloc_new w (.cells #[.int .i64 q, .slice (some ⟨bb, bo, none⟩) bn bc] 29))
  clear hP hB hask hp hcb hB0 h32
  go_enter Try.func9, Try.ntmps9
  go_upto_region 1 with fail
  generalize (w.alloc (.cells #[.int .i64 q, .slice (some ⟨bb, bo, none⟩) bn bc] 29)) = W at *
  go_wp2_with fail
  refine (refuse_any s pa pn pc p q _ bn bc bs _ (unhide HP0) (unhide HBI0) (by omega)).mono ?_
  rintro e w1 ⟨v, rfl, hv, b1⟩
  have BX := hide ((b1.block _ (lt_of_block (unhide hbx))).trans (unhide hbx))
  replace HP0 := hide ((unhide HP0).below b1)
  replace HBI0 := hide ((unhide HBI0).below b1)
  replace HB := hide (bt (unhide HB) b1)
  have hs1 := b1.size
  clear b1 hbx x0 x1
  rcases hv with ⟨_, rfl⟩ | ⟨hn, _⟩
  rotate_left
  · exact absurd (unhide HM) hn
  obtain ⟨y0, y1⟩ := box_two' (unhide BX)
  go_wp2_with fail
  refine (errIs_nil 1200 _).mono ?_
  rintro e w2 ⟨rfl, rfl⟩
  go_wp2_with fail
  refine (treeLeaves_any s _ (by rw [unhide H32]; decide)).mono ?_
  rintro e w3 ⟨v3, rfl, O3, b3⟩
  obtain ⟨p3, c3, e3, S3⟩ := O3.ints
  rw [nint_len, leaves_32 (unhide H32)] at e3 S3
  subst e3
  have HL := hide S3
  replace BX := hide ((b3.block _ (lt_of_block (unhide BX))).trans (unhide BX))
  replace HP0 := hide ((unhide HP0).below b3)
  replace HBI0 := hide ((unhide HBI0).below b3)
  replace HB := hide (bt (unhide HB) b3)
  have hs3 := b3.size
  clear b3 O3 S3 y0 y1
  obtain ⟨y0, y1⟩ := box_two' (unhide BX)
  obtain ⟨i0, hi, hz0, hz1, hz2⟩ := info_parts (P := Try.prog) (e := 36) (z := .agg #[.string ByteArray.empty, .slice none 0 0, .int .i64 0]) (size := 3) (bytes := 48) Try.infoAns
  have hmk : ∀ W : World, (Instr.makeSlice 30 (.int .i64 (bn : Int)) (.int .i64 (bn : Int))).run Try.prog W = .ok (.slice (some ⟨W.heap.size, 0, none⟩) bn bn) (W.alloc (.cells (madeCells #[.string ByteArray.empty, .slice none 0 0, .int .i64 0] (bn * 3)) 36)) := fun W => by
    have h := run_make (P := Try.prog) W 30 36 i0 _ Try.underlying30 hi hz0 .i64 .i64 (bn : Int) (bn : Int) (by omega) (by omega) (by rw [hz2]; omega) (by omega)
    rw [hz1] at h
    simpa [Value.cells] using h
  clear hz0 hz1 hz2 hi i0
  have hmade := hide (AnsO.made w3 (B := w3.heap.size) 36 3 (Nat.le_refl _) bn hb64)
  have hbm := hide (below_alloc w3 (.cells (madeCells #[.string ByteArray.empty, .slice none 0 0, .int .i64 0] (bn * 3)) 36))
  go_upto_region 5 with fail
  clear hmk
  have BX3 := BX
  have HB3 := HB
  replace BX := hide ((below_alloc w3 (.cells (madeCells #[.string ByteArray.empty, .slice none 0 0, .int .i64 0] (bn * 3)) 36)).block _ (lt_of_block (unhide BX)) |>.trans (unhide BX))
  clear y0 y1
  obtain ⟨y0, y1⟩ := box_two' (unhide BX)
  obtain ⟨A, eA⟩ : ∃ A, A = w3.heap.size := ⟨_, rfl⟩
  obtain ⟨lb, lo, el, hlc⟩ : ∃ b off, p3 = some ⟨b, off, none⟩ ∧ ∀ i, i < 4 → w3.cell? ⟨b, off + i, none⟩ = some (.int .i64 ((nint (leavesL s)).getD i 0)) := by
    rcases (unhide HL).2.two with h | h
    · omega
    · exact h
  subst el
  have hltL := cell_lt (hlc 0 (by omega))
  have HLC := hide hlc
  clear hlc
  have HBI4 := hide ((unhide HBI0).below (unhide hbm))
  replace HB := hide (bt (unhide HB) (unhide hbm))
  rw [← eA] at hltL
  have hltA : w.heap.size < A := by omega
  have hltB : bb < A := by have h : bb < w.heap.size := hltb; omega
  rw [← eA] at hmade hbm ⊢
  have hs4 : (w3.alloc (.cells (madeCells #[.string ByteArray.empty, .slice none 0 0, .int .i64 0] (bn * 3)) 36)).heap.size = A + 1 := by simp; omega
  generalize (w3.alloc (.cells (madeCells #[.string ByteArray.empty, .slice none 0 0, .int .i64 0] (bn * 3)) 36)) = w4 at *
  have HEA := hide eA
  clear eA hs0 hs1 hs3
  go_wp2
  go_loopw [27] (fun iv wr => ∃ k : Nat, k ≤ bn ∧ iv = .int .i64 k ∧ Hid (∃ us, AnsO wr A 36 3 (.slice (some ⟨A, 0, none⟩) bn bn) us (rspTo s p q bs k ++ List.replicate (bn - k) ans0)) ∧ Hid (Below A w3 wr)) (fun iv _ => bn - (intOf iv).toNat)
  case atStart => exact ⟨0, by omega, rfl, hide ⟨_, by simpa [rspTo] using unhide hmade⟩, hbm⟩
  case round =>
    obtain ⟨k, hk, rfl, HO, HW⟩ := hrel
    obtain ⟨us, hO⟩ := unhide HO
    have hzl : (rspTo s p q bs k ++ List.replicate (bn - k) ans0).length = bn := by rw [List.length_append, rspTo_len s p q bs k (by omega), List.length_replicate]; omega
    have HO' := hide hO
    have HZL := hide hzl
    clear HO hO hzl
    have hw3 : Below w3.heap.size w3 wr := by rw [← unhide HEA]; exact unhide HW
    have hszW := hw3.size
    have HW3 := hide hw3
    have bx := (hw3.block _ (by have := unhide HEA; omega)).trans (unhide BX3)
    have x0 : wr.cell? ⟨w.heap.size, 0, none⟩ = some (.int .i64 q) := by rw [cell_of_row _ _ 0 _ _ _ bx]; rfl
    clear bx hw3
    by_cases hlt : k < bn
    · have hlt' : (k : Int) < bn := by omega
      obtain ⟨b2, hbk, hb4⟩ : ∃ b : Nat, bs.getD k 0 = (b : Int) ∧ b < 4 := by
        have := unhide HBK k hlt
        unfold BkOk at this
        exact ⟨(bs.getD k 0).toNat, by omega, by omega⟩
      have cb : wr.cell? ⟨bb, bo + k, none⟩ = some (.int .i64 (b2 : Int)) := by
        have h0 := (unhide HBI0).below (unhide HW3)
        rcases h0.2.two with h | ⟨b', o', e, h⟩
        · omega
        · simp only [Option.some.injEq, Addr.mk.injEq, and_true] at e
          obtain ⟨rfl, rfl⟩ := e
          rw [h k hlt, hbk]
      have HBB := hide hbk
      clear hbk
      have cl : wr.cell? ⟨lb, lo + b2, none⟩ = some (.int .i64 (((leavesL s).getD b2 0 : Nat) : Int)) := by
        rw [← nint_at]
        exact ((unhide HW3).cell (cell_lt (unhide HLC b2 hb4))).trans (unhide HLC b2 hb4)
      obtain ⟨y, ey⟩ : ∃ y, y = (leavesL s).getD b2 0 := ⟨_, rfl⟩
      have hyw : (Lit.int .i64 (y : Int)).wf = true := by
        rw [ey]
        exact wf_nat (getD_lt (leaves_may s) b2)
      rw [← ey] at cl
      have EY := hide ey
      have HYW := hide hyw
      have HP4 := hide ((unhide HP0).below (unhide HW3))
      have HL4 := hide ((unhide HL).below (unhide HW3))
      have k0 := kept_cell (B := A) x0 (by show w.heap.size < _; omega)
      have k1 := kept_cell (B := A) cl (by show lb < A; exact hltL)
      clear x0 cl ey hyw
      obtain ⟨la, ela⟩ : ∃ la : Nat, (b2 : Int) * 8 = (la : Int) := ⟨8 * b2, by omega⟩
      have ela' : 8 * b2 = la := by omega
      have hla : la ≤ 24 := by omega
      have hwl : IntKind.wrap .i64 (la : Int) = (la : Int) := by simp only [IntKind.wrap_i64]; omega
      obtain ⟨nb, enb⟩ : ∃ nb : Nat, (b2 : Int) + 1 = (nb : Int) := ⟨b2 + 1, by omega⟩
      have hwn : IntKind.wrap .i64 (nb : Int) = (nb : Int) := by simp only [IntKind.wrap_i64]; omega
      obtain ⟨ha, eha⟩ : ∃ ha : Nat, (nb : Int) * 8 = (ha : Int) := ⟨8 * nb, by omega⟩
      have eha' : la + 8 = ha := by omega
      have hwh : IntKind.wrap .i64 (ha : Int) = (ha : Int) := by simp only [IntKind.wrap_i64]; omega
      have hsl := fun w => run_slice_lh (P := Try.prog) w 9 s Try.underlying9 la ha (ha : Int) rfl (by omega) (by rw [unhide H32]; omega)
      obtain ⟨x, ex⟩ : ∃ x, x = s.extract la ha := ⟨_, rfl⟩
      rw [← ex] at hsl
      have hx8 : x.size = 8 := by rw [ex, ByteArray.size_extract, unhide H32]; omega
      have HX8 := hide hx8
      have EXB : Hid (x = blk s b2) := hide (by rw [blk_32 (unhide H32) hb4, ex, ela', eha'])
      clear ex ela' eha' hx8
      have hb4' : (b2 : Int) < 4 := by omega
      go_upto_region 8 with fail
      refine wp_region_ord_then (S := Below A wr) [(true, 0), (true, 1), (true, 2), (true, 3), (true, 4), (true, 5), (true, 6), (true, 7), (true, 8), (true, 10), (true, 11), (true, 12), (true, 14), (true, 15), (true, 16), (true, 17), (true, 18), (true, 19), (false, 9), (false, 13), (false, 20), (true, 21), (true, 22)] (List.cons_ne_nil _ _) (by kernel_rfl) (by kernel_rfl) (by kernel_rfl) (by kernel_rfl) (by kernel_rfl) ((Below.refl _ _).drew) ?_
      simp only [List.dropLast_cons_cons, List.dropLast_singleton, List.getLast_cons_cons, List.getLast_singleton, withOps, List.map_cons, List.map_nil, List.getElem?_cons_succ, List.getElem?_cons_zero]
      repeat (refine walkH_read (by rfl) (by (intro gx; go_simp; try (with_reducible rfl))) ?_; try simp only [Act.put, List.setIfInBounds_toArray, List.set_cons_zero, List.set_cons_succ])
      refine walkH_do rfl (fun K hK => ?_)
      go_simp
      refine (clone_any x _ (by rw [unhide HX8]; decide) (by rw [unhide HX8]; decide)).mono ?_
      rintro e w5 ⟨rfl, b5⟩
      have hwA : A ≤ wr.heap.size := by have := unhide HEA; omega
      have b5' : Below wr.heap.size wr w5 := (Below.refl _ _).drew.trans b5
      have B5 := hide (b5'.mono hwA)
      refine hK _ _ (b5'.mono hwA) ?_
      clear hK K
      try simp only [Act.put, List.setIfInBounds_toArray, List.set_cons_zero, List.set_cons_succ]
      have HP5 := hide ((unhide HP4).below b5')
      have HL5 := hide ((unhide HL4).below b5')
      have HA5 := hide ((unhide HO').below b5')
      have hs5 := b5'.size
      clear b5 b5' HP4 HL4
      repeat (refine walkH_read (by rfl) (by (intro gx; go_simp; try (with_reducible rfl))) ?_; try simp only [Act.put, List.setIfInBounds_toArray, List.set_cons_zero, List.set_cons_succ])
      refine walkH_do rfl (fun K hK => ?_)
      go_simp
      refine (pathUp_any _ 4 _ (leavesL s) b2 _ _ _ p _ (unhide HL5) (unhide HP5) hb4 (by decide) (leaves_may s) (by omega)).mono ?_
      rintro e w6 ⟨v6, rfl, O6, b6⟩
      obtain ⟨P, eP⟩ : ∃ P, P = nint (Tree.path (leavesL s) b2) ++ p := ⟨_, rfl⟩
      rw [← eP] at O6
      have EP := hide eP
      have B6 := hide ((unhide B5).trans (b6.mono (Nat.le_trans hwA hs5)))
      refine hK _ _ (unhide B6) ?_
      clear hK K eP
      try simp only [Act.put, List.setIfInBounds_toArray, List.set_cons_zero, List.set_cons_succ]
      obtain ⟨p6, c6, ev6⟩ := O6.form
      rw [List.length_map] at ev6
      subst ev6
      have HO6 := hide O6
      have HA6 := hide ((unhide HA5).below b6)
      have hs6 := b6.size
      clear O6 b6 HP5 HL5 HA5
      repeat (refine walkH_read (by rfl) (by (intro gx; go_simp; try (with_reducible rfl))) ?_; try simp only [Act.put, List.setIfInBounds_toArray, List.set_cons_zero, List.set_cons_succ])
      refine walkH_do rfl (fun K hK => ?_)
      go_simp
      refine (sealPair_any q y _ (unhide HQ) (unhide HYW)).mono ?_
      rintro e w7 ⟨rfl, hw7⟩
      subst hw7
      refine hK _ _ (unhide B6) ?_
      clear hK K k0 k1
      try simp only [Act.put, List.setIfInBounds_toArray, List.set_cons_zero, List.set_cons_succ]
      obtain ⟨kd, ekd⟩ : ∃ kd, kd = Seal.pair q (y : Int) := ⟨_, rfl⟩
      rw [← ekd]
      have EKD := hide ekd
      clear ekd
      obtain ⟨za, zc, ez, hV⟩ := (unhide HA6).ansV
      rw [unhide HZL] at ez hV
      simp only [Value.slice.injEq, true_and] at ez
      obtain ⟨ez1, ez2⟩ := ez
      subst ez1 ez2
      obtain ⟨ab', ao', px', cx', ea', _, z0, z1, z2, _⟩ := hV.at hlt
      simp only [Option.some.injEq, Addr.mk.injEq, and_true] at ea'
      obtain ⟨e1, e2⟩ := ea'
      rw [← e1, ← e2, Nat.zero_add] at z0 z1 z2
      have fz := fun i => World.ownsRow.frozenAt (n := bn) (w := w7) (g := A) (cap := bn) (xs := ansCells us (rspTo s p q bs k ++ List.replicate (bn - k) ans0)) (by have h := (unhide HA6).outer; rw [unhide HZL] at h; exact h) i
      have f0 := fz (k * 3)
      have f1 := fz (k * 3 + 1)
      have f2 := fz (k * 3 + 2)
      clear fz hV e1 e2
      repeat (refine walkH_read (by rfl) (by (intro gx; go_simp; try (with_reducible rfl))) ?_; try simp only [Act.put, List.setIfInBounds_toArray, List.set_cons_zero, List.set_cons_succ])
      refine lastPost_of_list ?_
      simp only [List.cons_append, List.nil_append]
      go_wp2
      refine NoPanic.normal ?_
      have haz : ansOf s p q b2 = ⟨x, P, (kd : Int)⟩ := by
        unfold ansOf
        rw [unhide EXB, unhide EP, unhide EKD, unhide EY]
      have hrow7 : OwnL w7 wr.heap.size 3 (.slice p6 P.length c6) (((ansOf s p q b2).path).map (Value.int .i64)) := by rw [haz]; exact (unhide HO6).mono hs5
      have hput := (unhide HA6).putNew (by decide) (unhide HZL) (j := k) (by rw [unhide HZL]; exact hlt) (hrow7.mono hwA) (fun i y hy => apt_far hrow7 ((unhide HO').row i y hy) (Nat.le_refl _))
      have hset := rsp_set (s := s) (p := p) (q := q) (bs := bs) hlt hbl.symm
      rw [unhide HBB, Int.toNat_natCast] at hset
      rw [hset, haz] at hput
      have HA8 := hide hput
      have hB8 := (((unhide HW).trans (unhide B6)).setCell (p := ⟨A, k * 3, none⟩) (Nat.le_refl _) (.string x)).setCell (p := ⟨A, k * 3 + 1, none⟩) (Nat.le_refl _) (.slice p6 P.length c6) |>.setCell (p := ⟨A, k * 3 + 2, none⟩) (Nat.le_refl _) (.int .i64 (kd : Int))
      have HB8 := hide hB8
      clear hB8 hput hset hrow7 haz z0 z1 z2 f0 f1 f2 HO6 HA6
      have HA9 : Hid (AnsO (((w7.setCell ⟨A, k * 3, none⟩ (.string x)).setCell ⟨A, k * 3 + 1, none⟩ (.slice p6 P.length c6)).setCell ⟨A, k * 3 + 2, none⟩ (.int .i64 (kd : Int))) A 36 3 (.slice (some ⟨A, 0, none⟩) bn bn) (us.set k (.slice p6 P.length c6)) (rspTo s p q bs (k + 1) ++ List.replicate (bn - (k + 1)) ans0)) := HA8
      clear HA8
      generalize (((w7.setCell ⟨A, k * 3, none⟩ (.string x)).setCell ⟨A, k * 3 + 1, none⟩ (.slice p6 P.length c6)).setCell ⟨A, k * 3 + 2, none⟩ (.int .i64 (kd : Int))) = w8 at *
      go_wp2
      go_roundw
      case rel => exact ⟨k + 1, by omega, by go_num, hide ⟨_, unhide HA9⟩, HB8⟩
      case measure => simp [intOf]; omega
    · have hlt' : ¬ (k : Int) < bn := by omega
      obtain rfl : k = bn := by omega
      go_wp2
      go_ret2
      have hf := unhide HO'
      rw [Nat.sub_self, List.replicate_zero, List.append_nil] at hf
      exact ⟨_, us, rfl, hf.mono (Nat.le_of_lt hltA), bt (unhide HB3) (unhide HW3)⟩
theorem auditRespond_any (s : ByteArray) (pa : Option Addr) (pn pc : Nat) (p : List Int) (q : Int) (ba : Option Addr) (bn bc : Nat) (bs : List Int) (w : World) (hP : Ints w pa pn pc p) (hB : Ints w ba bn bc bs) (hpn : pn ≤ 140737488351232) (hbn : bn ≤ 140737488351232) :
    Calls Try.prog 9 #[.string s, .slice pa pn pc, .agg #[.int .i64 q, .slice ba bn bc]] w (ansPost (rspP s p q bs) w) := by
  by_cases h : RspM s p q bs
  · rw [rspP_yes h]; exact auditRespond_yes s pa pn pc p q ba bn bc bs w hP hB h
  · rw [rspP_no h]; exact auditRespond_no s pa pn pc p q ba bn bc bs w hP hB hbn h
end Go.Proofs.Ytmphbajnadbggab
