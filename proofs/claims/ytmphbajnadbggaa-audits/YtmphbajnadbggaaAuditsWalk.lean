/- The Go text of the statement Audits returns true, whatever the shard, the question and the answers. -/
import Derived.Test.YtmphbajnadbggaaAwake12
import Derived.Test.YtmphbajnadbggaaKRegs
namespace Go.Proofs.Ytmphbajnadbggaa
open Go.RowKit
set_option linter.unusedVariables false
set_option linter.unusedSimpArgs false
attribute [local go_sem ↓] Go.wp_at_zero Go.wp_at_succ
theorem Lent.lt {w : World} {base g n cap : Nat} {xs : List Int} (h : Lent w base g n cap xs) : g < w.heap.size := by
  obtain ⟨_, _, _, _, _, h6, _⟩ := h
  exact cell_lt h6
theorem Lent.keep2 {w w' : World} {base g n cap : Nat} {xs : List Int} (h : Lent w base g n cap xs) (hk : w'.heap[g]? = w.heap[g]?) : Lent w' base g n cap xs := by
  obtain ⟨h1, h2, h3, h4, h5, h6, h7⟩ := h
  have e : ∀ i, w'.cell? ⟨g, i, none⟩ = w.cell? ⟨g, i, none⟩ := fun i => by simp [World.cell?, hk]
  exact ⟨h1, h2, h3, h4, fun i hi => (e i).trans (h5 i hi), (e _).trans h6, (e _).trans h7⟩
theorem two_set {w : World} {b : Nat} {x y x' y' : Value} {T : TypeId} (h : w.heap[b]? = some (.cells #[x, y] T (0, 0))) : ((w.setCell ⟨b, 0, none⟩ x').setCell ⟨b, 1, none⟩ y').heap[b]? = some (.cells #[x', y'] T (0, 0)) := by
  rw [heap_setCell_same _ b 1 _ T y' (heap_setCell_same w b 0 _ T x' h)]
  rfl
theorem rspP_len (s : ByteArray) (p : List Int) (q : Int) (bs : List Int) : (rspP s p q bs).1.length ≤ 64 ∧ ∀ j, j < (rspP s p q bs).1.length → ((rspP s p q bs).1.getD j ans0).path.length ≤ 64 := by
  unfold rspP
  split
  · rename_i h
    have hl := h.2.2.2.2.1
    have hp := h.2.1.2
    refine ⟨by rw [rspTo_len _ _ _ _ _ (Nat.le_refl _)]; exact hl, fun j hj => ?_⟩
    rw [rspTo_len _ _ _ _ _ (Nat.le_refl _)] at hj
    have hb := h.2.2.2.2.2 (bs[j]) (List.getElem_mem hj)
    have e : (rspTo s p q bs bs.length).getD j ans0 = ansOf s p q (bs[j]).toNat := by
      unfold rspTo
      simp [List.getD, hj]
    rw [e]
    show (nint (Tree.path (leavesL s) (bs[j]).toNat) ++ p).length ≤ 64
    rw [List.length_append, nint_len, Tree.path_len 4 (leavesL s) _ (leaves_32 h.1) (by decide)]
    have := Tree.depth_le 4 (bs[j]).toNat (by decide) (by unfold BkOk at hb; omega)
    omega
  · exact ⟨by simp, fun j hj => by simp at hj⟩
set_option maxRecDepth 100000 in
set_option maxHeartbeats 4000000 in
theorem Audits_walk {w : World} (s : ByteArray) (hs : s.size ≤ 140737488351232) (a1 : Option Addr) (n1 c1 : Nat) (p : List Int) (h1 : Ints w a1 n1 c1 p) (r1 : n1 * 8 ≤ 140737488351232) (q1 : ∀ x ∈ p, (Lit.int .i64 x).wf = true)
    (q : Int) (wfq : (Lit.int .i64 q).wf = true) (ba : Option Addr) (bn bc : Nat) (bs : List Int) (hB : Ints w ba bn bc bs) (rB : bn * 8 ≤ 140737488351232)
    (root : Int) (wf3 : (Lit.int .i64 root).wf = true) (shards : Int) (wf4 : (Lit.int .i64 shards).wf = true) (shard : Int) (wf5 : (Lit.int .i64 shard).wf = true)
    (za : Option Addr) (zn zc : Nat) (zs : List Ans) (hZ : AnsV w za zn zc zs) (rZ : zn * 48 ≤ 140737488351232) (hpz : ∀ j, j < zn → (zs.getD j ans0).path.length * 8 ≤ 140737488351232) :
    Calls Try.prog 7 #[.string s, .slice a1 n1 c1, .agg #[.int .i64 q, .slice ba bn bc], .int .i64 root, .int .i64 shards, .int .i64 shard, .slice za zn zc] w fun e w' => e = .returned (.bool true) ∧ Below w.heap.size w w' := by
  have HPZ8 := hide hpz
  have HPZ : Hid (∀ j, j < zn → (zs.getD j ans0).path.length ≤ 140737488351232) := hide (fun j hj => by have := hpz j hj; omega)
  have HPZm : Hid (∀ j, j < zn → (zs.getD j ans0).path.length ≤ maxLen) := hide (fun j hj => by have := hpz j hj; unfold maxLen; omega)
  have P0 := hide h1
  have K0 := hide hB
  have Z0 := hide hZ
  have hb0 := below_alloc w (.cells #[.int .i64 q, .slice ba bn bc] 47)
  have BX := hide (heap_alloc_new w (.cells #[.int .i64 q, .slice ba bn bc] 47))
  have HB := hide hb0
  clear hpz h1 hB hZ hb0 q1
  go_enter Try.func7, Try.ntmps7
  go_upto_region 1 with fail
  generalize (w.alloc (.cells #[.int .i64 q, .slice ba bn bc] 47)) = W at *
  go_wp2_with fail
  refine (lendInts_any _ _ _ p _ ((unhide P0).below (unhide HB)) r1).mono ?_
  rintro e w1 ⟨g, cap, rfl, hl, b1⟩
  have HL := hide hl
  replace BX := hide ((b1.block _ (lt_of_block (unhide BX))).trans (unhide BX))
  replace HB := hide (bt (unhide HB) b1)
  clear hl b1
  obtain ⟨x0, x1⟩ := box_2 (unhide BX)
  have k0 := kept_cell (B := w1.heap.size) x0 (cell_lt x0)
  have k1 := kept_cell (B := w1.heap.size) x1 (cell_lt x1)
  clear x0 x1
  go_upto_region 2 with fail
  refine wp_region_ord2 (S := Below w1.heap.size w1) [0, 1, 2, 3] 4 6 [(true, 5), (false, 6), (false, 7)] [(false, 4), (true, 5), (false, 7)] (by kernel_rfl) (by kernel_rfl) (by kernel_rfl) (by kernel_rfl) ((Below.refl _ _).drew) ?_
  simp only [withOps, List.map_cons, List.map_nil, List.getElem?_cons_succ, List.getElem?_cons_zero]
  repeat (refine walkH_read (by rfl) (by (intro gx; go_simp; try (with_reducible rfl))) ?_; try simp only [Act.put, List.setIfInBounds_toArray, List.set_cons_zero, List.set_cons_succ])
  refine walkH_both ?_ ?_
  refine walkH_do rfl (fun K hK => ?_)
  go_simp
  refine (lendInts_any _ _ _ bs _ (((unhide K0).below (unhide HB)).below ((Below.refl _ _).drew)) rB).mono ?_
  rintro e w4 ⟨g2, cap2, rfl, hl2, b4⟩
  have hb4 : Below w1.heap.size w1 w4 := ((Below.refl _ _).drew).trans b4
  refine hK _ _ hb4 ?_
  clear hK K
  try simp only [Act.put, List.setIfInBounds_toArray, List.set_cons_zero, List.set_cons_succ]
  repeat (refine walkH_read (by rfl) (by (intro gx; go_simp; try (with_reducible rfl))) ?_; try simp only [Act.put, List.setIfInBounds_toArray, List.set_cons_zero, List.set_cons_succ])
  refine walkH_do rfl (fun K hK => ?_)
  go_simp
  refine hK _ _ (bt hb4 (below_alloc _ _)) ?_
  clear hK K
  try simp only [Act.put, List.setIfInBounds_toArray, List.set_cons_zero, List.set_cons_succ]
  refine walkH_do rfl (fun K hK => ?_)
  go_simp
  refine hK _ _ (bt hb4 (below_alloc _ _)) ?_
  clear hK K
  try simp only [Act.put, List.setIfInBounds_toArray, List.set_cons_zero, List.set_cons_succ]
  repeat (refine walkH_read (by rfl) (by (intro gx; go_simp; try (with_reducible rfl))) ?_; try simp only [Act.put, List.setIfInBounds_toArray, List.set_cons_zero, List.set_cons_succ])
  refine walkH_nil ?_
  refine NoPanic.normal ?_
  have R5 := hide (heap_alloc_new w4 (.cells #[.int .i64 q, .slice (some ⟨g2, 0, none⟩) bn cap2] 47))
  have HB5 := hide (bt hb4 (below_alloc w4 (.cells #[.int .i64 q, .slice (some ⟨g2, 0, none⟩) bn cap2] 47)))
  have HL5 := hide (hl2.below (below_alloc w4 (.cells #[.int .i64 q, .slice (some ⟨g2, 0, none⟩) bn cap2] 47)))
  obtain ⟨B2, eB2⟩ : ∃ B2, B2 = w1.drew.heap.size := ⟨_, rfl⟩
  rw [← eB2] at HL5
  clear hb4 b4 hl2 eB2
  generalize (w4.alloc (.cells #[.int .i64 q, .slice (some ⟨g2, 0, none⟩) bn cap2] 47)) = W5 at *
  generalize w4.heap.size = g5 at *
  clear w4
  rotate_left
  refine walkH_do rfl (fun K hK => ?_)
  go_simp
  have hbA : Below w1.heap.size w1 (w1.alloc (.cells #[.int .i64 0, .slice none 0 0] 47)).drew := by go_grown
  refine hK _ _ hbA ?_
  clear hK K
  try simp only [Act.put, List.setIfInBounds_toArray, List.set_cons_zero, List.set_cons_succ]
  refine walkH_do rfl (fun K hK => ?_)
  go_simp
  refine (lendInts_any _ _ _ bs _ (((unhide K0).below (unhide HB)).below hbA) rB).mono ?_
  rintro e w4 ⟨g2, cap2, rfl, hl2, b4⟩
  have hb4 : Below w1.heap.size w1 w4 := bt hbA b4
  refine hK _ _ hb4 ?_
  clear hK K
  try simp only [Act.put, List.setIfInBounds_toArray, List.set_cons_zero, List.set_cons_succ]
  have r9 : w4.heap[w1.heap.size]? = some (.cells #[.int .i64 0, .slice none 0 0] 47 (0, 0)) := (b4.block w1.heap.size (by simp)).trans (heap_alloc_new w1 _)
  obtain ⟨d0, d1⟩ := box_2 r9
  have f0 := free_of_row r9 0
  have f1 := free_of_row r9 1
  have hg2 : w1.heap.size < g2 := by have := hl2.1; simp at this; omega
  repeat (refine walkH_read (by rfl) (by (intro gx; go_simp; try (with_reducible rfl))) ?_; try simp only [Act.put, List.setIfInBounds_toArray, List.set_cons_zero, List.set_cons_succ])
  refine walkH_do rfl (fun K hK => ?_)
  go_simp
  have hb5 : Below w1.heap.size w1 ((w4.setCell ⟨w1.heap.size, 0, none⟩ (.int .i64 q)).setCell ⟨w1.heap.size, 1, none⟩ (.slice (some ⟨g2, 0, none⟩) bn cap2)) := (hb4.setCell (Nat.le_refl _) _).setCell (Nat.le_refl _) _
  refine hK _ _ hb5 ?_
  clear hK K
  try simp only [Act.put, List.setIfInBounds_toArray, List.set_cons_zero, List.set_cons_succ]
  repeat (refine walkH_read (by rfl) (by (intro gx; go_simp; try (with_reducible rfl))) ?_; try simp only [Act.put, List.setIfInBounds_toArray, List.set_cons_zero, List.set_cons_succ])
  refine walkH_nil ?_
  refine NoPanic.normal ?_
  have R5 := hide (two_set (x' := .int .i64 q) (y' := .slice (some ⟨g2, 0, none⟩) bn cap2) r9)
  have HB5 := hide hb5
  have hl5 : Lent ((w4.setCell ⟨w1.heap.size, 0, none⟩ (.int .i64 q)).setCell ⟨w1.heap.size, 1, none⟩ (.slice (some ⟨g2, 0, none⟩) bn cap2)) _ g2 bn cap2 bs := hl2.keep2 ((Below.heap_setCell _ _ _ _ (by show g2 ≠ w1.heap.size; omega)).trans (Below.heap_setCell _ _ _ _ (by show g2 ≠ w1.heap.size; omega)))
  have HL5 := hide hl5
  obtain ⟨B2, eB2⟩ : ∃ B2, B2 = (w1.alloc (.cells #[.int .i64 0, .slice none 0 0] 47)).drew.heap.size := ⟨_, rfl⟩
  rw [← eB2] at HL5
  clear hb4 b4 hl2 eB2 hb5 hl5 r9 d0 d1 f0 f1 hg2 hbA
  generalize ((w4.setCell ⟨w1.heap.size, 0, none⟩ (.int .i64 q)).setCell ⟨w1.heap.size, 1, none⟩ (.slice (some ⟨g2, 0, none⟩) bn cap2)) = W5 at *
  obtain ⟨g5, eg⟩ : ∃ g5, g5 = w1.heap.size := ⟨_, rfl⟩
  rw [← eg] at R5 ⊢
  clear eg w4
  all_goals
    replace BX := hide (((unhide HB5).block _ (lt_of_block (unhide BX))).trans (unhide BX))
    replace HL := hide ((unhide HL).below (unhide HB5))
    replace HB := hide (bt (unhide HB) (unhide HB5))
    clear HB5 k0 k1
    go_wp2_with fail
    refine (copyAnswers_any _ _ _ zs _ ((unhide Z0).below (unhide HB)) rZ (unhide HPZ8)).mono ?_
    rintro e w6 ⟨v6, us6, rfl, O6, b6⟩
    obtain ⟨a6, c6, ev6, V6⟩ := O6.ansV
    rw [(unhide Z0).1] at ev6 V6
    subst ev6
    have HV6 := hide V6
    replace BX := hide ((b6.block _ (lt_of_block (unhide BX))).trans (unhide BX))
    replace R5 := hide ((b6.block _ (lt_of_block (unhide R5))).trans (unhide R5))
    replace HL := hide ((unhide HL).below b6)
    replace HL5 := hide ((unhide HL5).below b6)
    replace HB := hide (bt (unhide HB) b6)
    clear b6 O6 V6
    obtain ⟨x0, x1⟩ := box_2 (unhide BX)
    obtain ⟨u0, u1⟩ := box_2 (unhide R5)
    go_wp2_with fail
    obtain ⟨rl, rp⟩ := rspP_len s p q bs
    obtain ⟨Zr, eZr⟩ : ∃ Zr, Zr = (rspP s p q bs).1 := ⟨_, rfl⟩
    obtain ⟨Er, eEr⟩ : ∃ Er, Er = (rspP s p q bs).2 := ⟨_, rfl⟩
    rw [← eZr] at rl rp
    have EZ := hide eZr
    have EE := hide eEr
    have RP : Hid (∀ j, j < Zr.length → (Zr.getD j ans0).path.length ≤ maxLen) := hide (fun j hj => by have := rp j hj; unfold maxLen; omega)
    clear eZr eEr rp
    have hrl : Zr.length ≤ maxLen := by unfold maxLen; omega
    have HRL := hide hrl
    clear hrl
    refine (auditRespond_any s _ _ _ p q _ _ _ bs _ (unhide HL).ints (unhide HL5).ints (by omega) (by omega)).mono ?_
    rintro e w7 ⟨v7, us7, he, O7, b7⟩
    rw [← unhide EZ] at O7
    rw [← unhide EE] at he
    subst he
    obtain ⟨a7, c7, ev7, V7⟩ := O7.ansV
    subst ev7
    have HO7 := hide O7
    have HV7 := hide V7
    have y0 := (b7.cell (cell_lt x0)).trans x0
    have y1 := (b7.cell (cell_lt x1)).trans x1
    have B67 := hide b7
    have HV6b := hide ((unhide HV6).below b7)
    have hlt6 : w.heap.size ≤ w6.heap.size := (unhide HB).size
    have HB7 := hide (bt (unhide HB) b7)
    have LU := hide (lt_of_block (unhide R5))
    clear O7 V7 b7 x0 x1 u0 u1
    go_wp2_with fail
    refine (refRespond_any s _ _ _ p q _ _ _ bs _ ((unhide P0).below (unhide HB7)) ((unhide K0).below (unhide HB7)) (by omega) (by omega)).mono ?_
    rintro e w8 ⟨v8, us8, he, O8, b8⟩
    rw [← unhide EZ] at O8
    rw [← unhide EE] at he
    subst he
    obtain ⟨a8, c8, ev8, V8⟩ := O8.ansV
    subst ev8
    have HV8 := hide V8
    replace HV7 := hide ((unhide HV7).below b8)
    replace HV6b := hide ((unhide HV6b).below b8)
    replace HO7 := hide ((unhide HO7).below b8)
    replace B67 := hide (bt (unhide B67) b8)
    have HB8 := hide (bt (unhide HB7) b8)
    clear O8 V8 b8 HB7 y0 y1
    have bx8 := ((unhide B67).block _ (lt_of_block (unhide BX))).trans (unhide BX)
    have r58 := ((unhide B67).block _ (lt_of_block (unhide R5))).trans (unhide R5)
    obtain ⟨x0, x1⟩ := box_2 bx8
    obtain ⟨u0, u1⟩ := box_2 r58
    have k0 := kept_cell (B := w8.heap.size) x0 (cell_lt x0)
    have k1 := kept_cell (B := w8.heap.size) x1 (cell_lt x1)
    have l0 := kept_cell (B := w8.heap.size) u0 (cell_lt u0)
    have l1 := kept_cell (B := w8.heap.size) u1 (cell_lt u1)
    clear bx8 r58 x0 x1 u0 u1
    have tE : (Er != Er) = false := by simp
    obtain ⟨D, eD⟩ : ∃ D, D = decide (Aud root shards shard q bs zs) := ⟨_, rfl⟩
    have ED := hide eD
    clear eD
    have tD : (D != D) = false := by simp
    go_upto_region 6 with fail
    refine wp_region_ord_thenT (S := Below w8.heap.size w8) [(true, 0), (true, 1), (false, 2), (true, 3), (true, 4), (true, 5), (true, 7), (false, 6), (true, 8), (true, 9), (true, 10), (true, 11), (true, 12), (true, 13), (true, 14), (true, 15), (true, 17), (true, 18), (true, 19), (true, 20), (true, 21), (false, 16), (false, 22), (true, 23)] (List.cons_ne_nil _ _) (by kernel_rfl) (by kernel_rfl) (by kernel_rfl) (by kernel_rfl) (by kernel_rfl) ((Below.refl _ _).drew) ?_
    simp only [List.dropLast_cons_cons, List.dropLast_singleton, List.getLast_cons_cons, List.getLast_singleton, withOps, List.map_cons, List.map_nil, List.getElem?_cons_succ, List.getElem?_cons_zero]
    repeat (refine walkH_read (by rfl) (by (intro gx; go_simp; try (with_reducible rfl))) ?_; try simp only [Act.put, List.setIfInBounds_toArray, List.set_cons_zero, List.set_cons_succ])
    refine walkH_do rfl (fun K hK => ?_)
    go_simp
    refine (sameAnswers_yes _ _ _ _ _ Zr _ ((unhide HV7).below ((Below.refl _ _).drew)) ((unhide HV8).below ((Below.refl _ _).drew)) (unhide HRL) (unhide RP)).mono ?_
    rintro e w9 ⟨rfl, b9⟩
    have hb9 : Below w8.heap.size w8 w9 := ((Below.refl _ _).drew).trans b9
    refine hK _ _ hb9 ?_
    clear hK K
    try simp only [Act.put, List.setIfInBounds_toArray, List.set_cons_zero, List.set_cons_succ]
    repeat (refine walkH_read (by rfl) (by (intro gx; go_simp; try (with_reducible rfl))) ?_; try simp only [Act.put, List.setIfInBounds_toArray, List.set_cons_zero, List.set_cons_succ])
    refine walkH_do rfl (fun K hK => ?_)
    go_simp
    refine (num_any _ _).mono ?_
    rintro e wn ⟨rfl, hwn⟩
    subst hwn
    refine hK _ _ hb9 ?_
    clear hK K
    try simp only [Act.put, List.setIfInBounds_toArray, List.set_cons_zero, List.set_cons_succ]
    repeat (refine walkH_read (by rfl) (by (intro gx; go_simp; try (with_reducible rfl))) ?_; try simp only [Act.put, List.setIfInBounds_toArray, List.set_cons_zero, List.set_cons_succ])
    refine walkH_do rfl (fun K hK => ?_)
    go_simp
    refine (auditCheck_any _ _ _ _ _ _ _ bs _ _ _ zs _ (((unhide HL5).below (unhide B67)).ints.below hb9) ((unhide HV6b).below hb9) (by omega) (unhide HPZ)).mono ?_
    rintro e w10 ⟨he, b10⟩
    rw [← unhide ED] at he
    subst he
    have hb10 : Below w8.heap.size w8 w10 := bt hb9 b10
    refine hK _ _ hb10 ?_
    clear hK K
    try simp only [Act.put, List.setIfInBounds_toArray, List.set_cons_zero, List.set_cons_succ]
    repeat (refine walkH_read (by rfl) (by (intro gx; go_simp; try (with_reducible rfl))) ?_; try simp only [Act.put, List.setIfInBounds_toArray, List.set_cons_zero, List.set_cons_succ])
    refine walkH_do rfl (fun K hK => ?_)
    go_simp
    refine (refCheckAudit_any _ _ _ _ _ _ _ bs _ _ _ zs _ ((unhide K0).below (bt (unhide HB8) hb10)) ((unhide Z0).below (bt (unhide HB8) hb10)) (by omega) (unhide HPZ)).mono ?_
    rintro e w11 ⟨he, b11⟩
    rw [← unhide ED] at he
    subst he
    have hb11 : Below w8.heap.size w8 w11 := bt hb10 b11
    refine hK _ _ hb11 ?_
    clear hK K
    try simp only [Act.put, List.setIfInBounds_toArray, List.set_cons_zero, List.set_cons_succ]
    repeat (refine walkH_read (by rfl) (by (intro gx; go_simp; try (with_reducible rfl))) ?_; try simp only [Act.put, List.setIfInBounds_toArray, List.set_cons_zero, List.set_cons_succ])
    refine lastPost_of_list ?_
    simp only [List.cons_append, List.nil_append]
    go_wp2_with fail
    refine NoPanic.normal ?_
    have HO11 := hide ((unhide HO7).below hb11)
    have B611 := hide (bt (unhide B67) hb11)
    clear k0 k1 l0 l1 tE tD hb9 hb10 hb11 b9 b10 b11 HO7 HV7 HV8 HV6b
    go_wp2_with fail
    refine (spoilAnswers_any w6.heap.size _ us7 Zr _ (unhide HO11) (unhide HRL) (unhide RP) (unhide B611).size).mono ?_
    rintro e w12 ⟨rfl, b12⟩
    have b612 := (unhide B611).trans b12
    have L12 := hide ((unhide HL).below b612)
    have M12 := hide ((unhide HL5).below b612)
    have V12 := hide ((unhide HV6).below b612)
    have B12 := hide (bt (unhide HB) b612)
    have bx12 := (b612.block _ (lt_of_block (unhide BX))).trans (unhide BX)
    have r512 := (b612.block _ (lt_of_block (unhide R5))).trans (unhide R5)
    have BX12 := hide bx12
    have R12 := hide r512
    clear b12 b612 bx12 r512 HO11 B611 B67 HB8
    go_wp2_with fail
    refine (keptInts_yes _ _ _ _ _ _ p _ ((unhide P0).below (unhide B12)) (unhide L12) r1).mono ?_
    rintro e w13 ⟨rfl, m13, rfl⟩
    have bd := below_drewN w12 w12.heap.size m13
    replace M12 := hide ((unhide M12).below bd)
    replace V12 := hide ((unhide V12).below bd)
    replace B12 := hide (bt (unhide B12) bd)
    replace BX12 := hide ((bd.block _ (lt_of_block (unhide BX12))).trans (unhide BX12))
    replace R12 := hide ((bd.block _ (lt_of_block (unhide R12))).trans (unhide R12))
    clear bd L12
    generalize w12.drewN m13 = w13 at *
    obtain ⟨x0, x1⟩ := box_2 (unhide BX12)
    obtain ⟨u0, u1⟩ := box_2 (unhide R12)
    go_wp2_with fail
    refine (keptInts_yes _ _ _ _ _ _ bs _ ((unhide K0).below (unhide B12)) (unhide M12) rB).mono ?_
    rintro e w14 ⟨rfl, m14, rfl⟩
    have bd := below_drewN w13 w13.heap.size m14
    replace V12 := hide ((unhide V12).below bd)
    replace B12 := hide (bt (unhide B12) bd)
    clear bd M12 x0 x1 u0 u1
    generalize w13.drewN m14 = w14 at *
    go_wp2_with fail
    refine (sameAnswers_yes _ _ _ _ _ zs _ (unhide V12) ((unhide Z0).below (unhide B12)) (by unfold maxLen; omega) (unhide HPZm)).mono ?_
    rintro e w15 ⟨rfl, b15⟩
    replace B12 := hide (bt (unhide B12) b15)
    clear b15
    go_wp2_with fail
    refine (awake12_any _).mono ?_
    rintro e w16 ⟨rfl, b16⟩
    replace B12 := hide (bt (unhide B12) b16)
    clear b16
    go_wp2
    go_ret
    exact ⟨rfl, unhide B12⟩
end Go.Proofs.Ytmphbajnadbggaa
