/- The document's own audit (ossuaryref1.CheckAudit): a contract. -/
import Derived.Test.YtmphbajnadbggaaAuditRef2
namespace Go.Proofs.Ytmphbajnadbggaa
open Go.RowKit
set_option linter.unusedVariables false
set_option linter.unusedSimpArgs false
attribute [local go_sem ↓] Go.wp_at_zero Go.wp_at_succ
/-- an answer that is right -/
def AnsOk (r sh st q : Int) (b : Nat) (z : Ans) : Prop := z.blk.size = 8 ∧ z.keyed = ((Seal.pair q ((Seal.of (byts z.blk) : Nat) : Int) : Nat) : Int) ∧ 2 ≤ z.path.length ∧ (Sls z.path ∧ z.path.length ≤ 64) ∧
  Chk r sh st ((Tree.climb 4 b (Seal.of (byts z.blk)) (nats (z.path.take 2)) : Nat) : Int) (z.path.drop 2)
instance ansOkDec (r sh st q : Int) (b : Nat) (z : Ans) : Decidable (AnsOk r sh st q b z) := by unfold AnsOk; exact inferInstance
def AudHead (sh st q : Int) (bs : List Int) (n : Nat) : Prop := AskM q bs ∧ n = bs.length ∧ 1 ≤ sh ∧ sh ≤ 6 ∧ 0 ≤ st ∧ st < sh
/-- answers that are right -/
def Aud (r sh st q : Int) (bs : List Int) (zs : List Ans) : Prop := (AskM q bs ∧ zs.length = bs.length ∧ 1 ≤ sh ∧ sh ≤ 6 ∧ 0 ≤ st ∧ st < sh) ∧ ∀ i, i < zs.length → AnsOk r sh st q (bs.getD i 0).toNat (zs.getD i ans0)
instance audDec (r sh st q : Int) (bs : List Int) (zs : List Ans) : Decidable (Aud r sh st q bs zs) := by unfold Aud; exact inferInstance
theorem aud_false {r sh st q : Int} {bs : List Int} {zs : List Ans} {e : Ending} (h : ¬ Aud r sh st q bs zs) (he : e = .returned (.bool false)) : e = .returned (.bool (decide (Aud r sh st q bs zs))) := by rw [decide_eq_false h]; exact he
theorem dep_4 : ∀ b, b < 4 → Tree.depth 4 b = 2 := by decide +kernel
theorem box_three {w : World} {b : Nat} {x y z : Value} {T : TypeId} (h : w.heap[b]? = some (.cells #[x, y, z] T (0, 0))) : w.cell? ⟨b, 0, none⟩ = some x ∧ w.cell? ⟨b, 1, none⟩ = some y ∧ w.cell? ⟨b, 2, none⟩ = some z :=
  ⟨by rw [cell_of_row _ _ 0 _ _ _ h]; rfl, by rw [cell_of_row _ _ 1 _ _ _ h]; rfl, by rw [cell_of_row _ _ 2 _ _ _ h]; rfl⟩
/-- from the k-th on -/
theorem Ints.from {w : World} {b o n cap k : Nat} {xs : List Int} (h : Ints w (some ⟨b, o, none⟩) n cap xs) (h0 : 0 < n) (hk : k ≤ n) : Ints w (if cap = k then some ⟨b, o, none⟩ else some ⟨b, o + k, none⟩) (n - k) (cap - k) (xs.drop k) := by
  have hc := (h.cap h0).1
  have hl := h.1
  by_cases h1 : n = k
  · refine ⟨by rw [List.length_drop]; omega, .inr (.inl ⟨by omega, ?_⟩)⟩
    split <;> exact ⟨_, rfl⟩
  · rw [if_neg (by omega)]
    exact h.rest (by omega)
set_option maxRecDepth 100000 in
set_option maxHeartbeats 4000000 in
theorem refCheckAudit_loop (r sh st q : Int) (ba : Option Addr) (bn bc : Nat) (bs : List Int) (za : Option Addr) (zn zc : Nat) (zs : List Ans) (w : World) (hB : Ints w ba bn bc bs) (hZ : AnsV w za zn zc zs)
    (hh : AskM q bs ∧ zs.length = bs.length ∧ 1 ≤ sh ∧ sh ≤ 6 ∧ 0 ≤ st ∧ st < sh) (hpz : ∀ j, j < zn → (zs.getD j ans0).path.length ≤ 140737488351232) :
    Calls Try.prog 25 #[.int .i64 r, .int .i64 sh, .int .i64 st, .agg #[.int .i64 q, .slice ba bn bc], .slice za zn zc] w fun e w' => e = .returned (.bool (decide (Aud r sh st q bs zs))) ∧ Below w.heap.size w w' := by
  obtain ⟨hask, hzl, hs1, hs6, ht0, ht1⟩ := hh
  have HH := hide (show AskM q bs ∧ zs.length = bs.length ∧ 1 ≤ sh ∧ sh ≤ 6 ∧ 0 ≤ st ∧ st < sh from ⟨hask, hzl, hs1, hs6, ht0, ht1⟩)
  have hbl := hB.1
  have hzn := hZ.1
  have hb1 : 1 ≤ bn := by have := hask.2.1; omega
  have hb64 : bn ≤ 64 := by have := hask.2.2.1; omega
  obtain rfl : zn = bn := by omega
  have d2 := decide_eq_true hask
  obtain ⟨bb, bo, rfl, hcb⟩ : ∃ b off, ba = some ⟨b, off, none⟩ ∧ ∀ i, i < zn → w.cell? ⟨b, off + i, none⟩ = some (.int .i64 (bs.getD i 0)) := by
    rcases hB.2.two with h | h
    · omega
    · exact h
  have HBK : Hid (∀ k, k < zn → BkOk (bs.getD k 0)) := hide (fun k hk => by
    have e : bs.getD k 0 = bs[k]'(by omega) := by simp [List.getD, List.getElem?_eq_getElem (show k < bs.length by omega)]
    rw [e]; exact hask.2.2.2 _ (List.getElem_mem _))
  have HQ := hide (wf_sl hask.1)
  have hB0 := below_alloc w (.cells #[.int .i64 q, .slice (some ⟨bb, bo, none⟩) zn bc] 47)
  obtain ⟨x0, x1⟩ := ask_box w q (some ⟨bb, bo, none⟩) zn bc 47
  have HBI0 := hide (hB.below hB0)
  have HZ0 := hide (hZ.below hB0)
  have HB := hide hB0
  have HPZ := hide hpz
  have hbx := hide (heap_alloc_new w (.cells #[.int .i64 q, .slice (some ⟨bb, bo, none⟩) zn bc] 47))
  have t1 : ¬ sh < 1 := by omega
  have t2 : ¬ 6 < sh := by omega
  have t3 : ¬ st < 0 := by omega
  have t4 : ¬ sh ≤ st := by omega
  have t5 : ((zn : Int) != (zn : Int)) = false := by simp
  clear hB hZ hask hcb hB0 hpz
  go_enter Try.func25, Try.ntmps25
  go_upto_region 1 with fail
  generalize (w.alloc (.cells #[.int .i64 q, .slice (some ⟨bb, bo, none⟩) zn bc] 47)) = W at *
  go_wp2_with fail
  refine (refAskMay_any q _ _ _ bs _ (unhide HBI0) (by omega)).mono ?_
  rintro e w1 ⟨rfl, b1⟩
  rw [d2]
  have BX := hide ((b1.block _ (lt_of_block (unhide hbx))).trans (unhide hbx))
  replace HBI0 := hide ((unhide HBI0).below b1)
  replace HZ0 := hide ((unhide HZ0).below b1)
  replace HB := hide (bt (unhide HB) b1)
  clear b1 hbx x0 x1 d2
  have x0 : w1.cell? ⟨w.heap.size, 0, none⟩ = some (.int .i64 q) := by rw [cell_of_row _ _ 0 _ _ _ (unhide BX)]; rfl
  have x1 : w1.cell? ⟨w.heap.size, 1, none⟩ = some (.slice (some ⟨bb, bo, none⟩) zn bc) := by rw [cell_of_row _ _ 1 _ _ _ (unhide BX)]; rfl
  go_wp2
  clear x0 x1 t1 t2 t3 t4 t5
  go_loopw [11] (fun iv wr => ∃ k : Nat, k ≤ zn ∧ iv = .int .i64 k ∧ Hid (∀ j, j < k → AnsOk r sh st q (bs.getD j 0).toNat (zs.getD j ans0)) ∧ Hid (Below w1.heap.size w1 wr)) (fun iv _ => zn - (intOf iv).toNat)
  case atStart => exact ⟨0, by omega, rfl, hide (fun j hj => by omega), hide (Below.refl _ _)⟩
  case round =>
    obtain ⟨k, hk, rfl, HS, HW⟩ := hrel
    by_cases hlt : k < zn
    · have hlt' : (k : Int) < zn := by omega
      have hszW := (unhide HW).size
      obtain ⟨b2, hbk, hb4⟩ : ∃ b : Nat, bs.getD k 0 = (b : Int) ∧ b < 4 := by
        have := unhide HBK k hlt
        unfold BkOk at this
        exact ⟨(bs.getD k 0).toNat, by omega, by omega⟩
      obtain ⟨ab, ao, pp, pc, rfl, hcap, y0, y1, y2, hPI⟩ := ((unhide HZ0).below (unhide HW)).at hlt
      obtain ⟨z, ez⟩ : ∃ z, z = zs.getD k ans0 := ⟨_, rfl⟩
      have hzp := unhide HPZ k hlt
      rw [← ez] at y0 y1 y2 hPI hzp
      have cb : wr.cell? ⟨bb, bo + k, none⟩ = some (.int .i64 (b2 : Int)) := by
        have hI := (unhide HBI0).below (unhide HW)
        rcases hI.2.two with h | ⟨b', o', e, h⟩
        · omega
        · simp only [Option.some.injEq, Addr.mk.injEq, and_true] at e
          obtain ⟨rfl, rfl⟩ := e
          rw [h k hlt, hbk]
      have hcc : (k : Int) < zc := by omega
      have HBB := hide hbk
      have EZ := hide ez
      have HPI := hide hPI
      have hHC := hide cb
      clear hbk ez hPI cb
      go_upto_region 7 with fail
      have hbw := below_alloc wr (.cells #[.string z.blk, .slice pp z.path.length pc, .int .i64 z.keyed] 64)
      have BN := heap_alloc_new wr (.cells #[.string z.blk, .slice pp z.path.length pc, .int .i64 z.keyed] 64)
      have hszN : wr.heap.size < (wr.alloc (.cells #[.string z.blk, .slice pp z.path.length pc, .int .i64 z.keyed] 64)).heap.size := by simp
      generalize (wr.alloc (.cells #[.string z.blk, .slice pp z.path.length pc, .int .i64 z.keyed] 64)) = W1 at *
      have HW1 := hide ((unhide HW).trans (hbw.mono hszW))
      have HB1 := hide (bt (unhide HB) (unhide HW1))
      replace HPI := hide ((unhide HPI).below hbw)
      have cb := (hbw.cell (cell_lt (unhide hHC))).trans (unhide hHC)
      have bx := ((unhide HW1).block _ (lt_of_block (unhide BX))).trans (unhide BX)
      have x0 : W1.cell? ⟨w.heap.size, 0, none⟩ = some (.int .i64 q) := by rw [cell_of_row _ _ 0 _ _ _ bx]; rfl
      have x1 : W1.cell? ⟨w.heap.size, 1, none⟩ = some (.slice (some ⟨bb, bo, none⟩) zn bc) := by rw [cell_of_row _ _ 1 _ _ _ bx]; rfl
      obtain ⟨z0, z1, z2⟩ := box_three BN
      clear hbw bx y0 y1 y2 hHC BN
      go_wp2_with fail
      refine (refDepth_any 4 b2 _ (by decide) (by decide) hb4).mono ?_
      rintro e w2 ⟨rfl, hw2⟩
      subst hw2
      rw [dep_4 b2 hb4]
      have k0 := kept_cell (B := w2.heap.size) x0 (cell_lt x0)
      have k1 := kept_cell (B := w2.heap.size) x1 (cell_lt x1)
      have kb := kept_cell (B := w2.heap.size) cb (cell_lt cb)
      have kz0 := kept_cell (B := w2.heap.size) z0 hszN
      have kz1 := kept_cell (B := w2.heap.size) z1 hszN
      have kz2 := kept_cell (B := w2.heap.size) z2 hszN
      have C0 := hide x0
      have C1 := hide x1
      have CB := hide cb
      have Z0 := hide z0
      have Z1 := hide z1
      clear x0 x1 cb z0 z1 z2
      have hnoK : ∀ h : ¬ AnsOk r sh st q b2 z, ¬ Aud r sh st q bs zs := fun h ha => h (by
        have := ha.2 k (by omega)
        rw [unhide HBB, ← unhide EZ, Int.toNat_natCast] at this
        exact this)
      have HNK := hide hnoK
      clear hnoK
      by_cases hz8 : z.blk.size = 8
      case neg =>
        have HN := hide (unhide HNK (fun h => hz8 h.1))
        have t8 : ((z.blk.size : Int) != 8) = true := by simp; omega
        clear hz8
        go_upto_region 8 with fail
        refine wp_region_ord_thenT (S := Below w2.heap.size w2) [(true, 0), (true, 1), (true, 2), (true, 3), (true, 4), (true, 5), (true, 6), (true, 7), (true, 8), (true, 9), (true, 10), (false, 11), (false, 12), (true, 13), (true, 14), (true, 15), (true, 16), (true, 17), (true, 18), (true, 19), (true, 20), (true, 21), (true, 22), (true, 23), (true, 24), (false, 25), (true, 26)] (List.cons_ne_nil _ _) (by kernel_rfl) (by kernel_rfl) (by kernel_rfl) (by kernel_rfl) (by kernel_rfl) ((Below.refl _ _).drew) ?_
        simp only [List.dropLast_cons_cons, List.dropLast_singleton, List.getLast_cons_cons, List.getLast_singleton, withOps, List.map_cons, List.map_nil, List.getElem?_cons_succ, List.getElem?_cons_zero]
        repeat ((first | (refine walkH_read (by rfl) (by (intro gx; go_simp; try (with_reducible rfl))) ?_) | (refine walkH_skip (by rfl) ?_)); try simp only [Act.put, List.setIfInBounds_toArray, List.set_cons_zero, List.set_cons_succ])
        refine walkH_do rfl (fun K hK => ?_)
        go_simp
        refine hK _ _ ((Below.refl _ _).drew) ?_
        clear hK K
        try simp only [Act.put, List.setIfInBounds_toArray, List.set_cons_zero, List.set_cons_succ]
        repeat ((first | (refine walkH_read (by rfl) (by (intro gx; go_simp; try (with_reducible rfl))) ?_) | (refine walkH_skip (by rfl) ?_)); try simp only [Act.put, List.setIfInBounds_toArray, List.set_cons_zero, List.set_cons_succ])
        refine walkH_do rfl (fun K hK => ?_)
        go_simp
        refine hK _ _ ((Below.refl _ _).drew) ?_
        clear hK K
        try simp only [Act.put, List.setIfInBounds_toArray, List.set_cons_zero, List.set_cons_succ]
        repeat ((first | (refine walkH_read (by rfl) (by (intro gx; go_simp; try (with_reducible rfl))) ?_) | (refine walkH_skip (by rfl) ?_)); try simp only [Act.put, List.setIfInBounds_toArray, List.set_cons_zero, List.set_cons_succ])
        refine walkH_do rfl (fun K hK => ?_)
        go_simp
        refine hK _ _ ((Below.refl _ _).drew) ?_
        clear hK K
        try simp only [Act.put, List.setIfInBounds_toArray, List.set_cons_zero, List.set_cons_succ]
        repeat ((first | (refine walkH_read (by rfl) (by (intro gx; go_simp; try (with_reducible rfl))) ?_) | (refine walkH_skip (by rfl) ?_)); try simp only [Act.put, List.setIfInBounds_toArray, List.set_cons_zero, List.set_cons_succ])
        refine lastPost_of_list ?_
        simp only [List.cons_append, List.nil_append]
        go_wp2
        refine NoPanic.normal ?_
        go_wp2
        go_ret
        exact ⟨aud_false (unhide HN) rfl, bt (unhide HB1) (Below.refl _ _).drew⟩
      have t8 : ((z.blk.size : Int) != 8) = false := by rw [hz8]; rfl
      have hzo : z.blk.size ≤ 140737488351232 := by omega
      obtain ⟨f, ef⟩ : ∃ f, f = Seal.of (byts z.blk) := ⟨_, rfl⟩
      have hfl : f < 2147483647 := by rw [ef]; exact Seal.of_lt _
      have HFW := hide (wf_nat hfl)
      have HFL := hide hfl
      have EOF := hide ef
      obtain ⟨kd, ekd⟩ : ∃ kd, kd = Seal.pair q (f : Int) := ⟨_, rfl⟩
      have EKD := hide ekd
      clear hfl
      by_cases hkd : z.keyed = (kd : Int)
      case neg =>
        have HN := hide (unhide HNK (fun h => hkd (by rw [ekd, ef]; exact h.2.1)))
        have tk : (z.keyed != (kd : Int)) = true := by simp; exact hkd
        clear hkd ekd ef hz8
        go_upto_region 8 with fail
        refine wp_region_ord_thenT (S := Below w2.heap.size w2) [(true, 0), (true, 1), (true, 2), (true, 3), (true, 4), (true, 5), (true, 6), (true, 7), (true, 8), (true, 9), (true, 10), (false, 11), (false, 12), (true, 13), (true, 14), (true, 15), (true, 16), (true, 17), (true, 18), (true, 19), (true, 20), (true, 21), (true, 22), (true, 23), (true, 24), (false, 25), (true, 26)] (List.cons_ne_nil _ _) (by kernel_rfl) (by kernel_rfl) (by kernel_rfl) (by kernel_rfl) (by kernel_rfl) ((Below.refl _ _).drew) ?_
        simp only [List.dropLast_cons_cons, List.dropLast_singleton, List.getLast_cons_cons, List.getLast_singleton, withOps, List.map_cons, List.map_nil, List.getElem?_cons_succ, List.getElem?_cons_zero]
        repeat ((first | (refine walkH_read (by rfl) (by (intro gx; go_simp; try (with_reducible rfl))) ?_) | (refine walkH_skip (by rfl) ?_)); try simp only [Act.put, List.setIfInBounds_toArray, List.set_cons_zero, List.set_cons_succ])
        refine walkH_do rfl (fun K hK => ?_)
        go_simp
        refine (refOf_any z.blk _ (by omega)).mono ?_
        rintro e w6 ⟨rfl, hw6⟩
        subst hw6
        rw [← unhide EOF]
        refine hK _ _ ((Below.refl _ _).drew) ?_
        clear hK K
        try simp only [Act.put, List.setIfInBounds_toArray, List.set_cons_zero, List.set_cons_succ]
        repeat ((first | (refine walkH_read (by rfl) (by (intro gx; go_simp; try (with_reducible rfl))) ?_) | (refine walkH_skip (by rfl) ?_)); try simp only [Act.put, List.setIfInBounds_toArray, List.set_cons_zero, List.set_cons_succ])
        refine walkH_do rfl (fun K hK => ?_)
        go_simp
        refine (refPair_any q f _ (unhide HQ) (unhide HFW)).mono ?_
        rintro e w6 ⟨rfl, hw6⟩
        subst hw6
        rw [← unhide EKD]
        refine hK _ _ ((Below.refl _ _).drew) ?_
        clear hK K
        try simp only [Act.put, List.setIfInBounds_toArray, List.set_cons_zero, List.set_cons_succ]
        repeat ((first | (refine walkH_read (by rfl) (by (intro gx; go_simp; try (with_reducible rfl))) ?_) | (refine walkH_skip (by rfl) ?_)); try simp only [Act.put, List.setIfInBounds_toArray, List.set_cons_zero, List.set_cons_succ])
        refine walkH_do rfl (fun K hK => ?_)
        go_simp
        refine hK _ _ ((Below.refl _ _).drew) ?_
        clear hK K
        try simp only [Act.put, List.setIfInBounds_toArray, List.set_cons_zero, List.set_cons_succ]
        repeat ((first | (refine walkH_read (by rfl) (by (intro gx; go_simp; try (with_reducible rfl))) ?_) | (refine walkH_skip (by rfl) ?_)); try simp only [Act.put, List.setIfInBounds_toArray, List.set_cons_zero, List.set_cons_succ])
        refine lastPost_of_list ?_
        simp only [List.cons_append, List.nil_append]
        go_wp2
        refine NoPanic.normal ?_
        go_wp2
        go_ret
        exact ⟨aud_false (unhide HN) rfl, bt (unhide HB1) (Below.refl _ _).drew⟩
      have tk : (z.keyed != (kd : Int)) = false := by rw [hkd]; simp
      by_cases hp2 : z.path.length < 2
      · have HN := hide (unhide HNK (fun h => by have := h.2.2.1; omega))
        have tp : (z.path.length : Int) < 2 := by omega
        clear hkd ekd ef hz8
        go_upto_region 8 with fail
        refine wp_region_ord_thenT (S := Below w2.heap.size w2) [(true, 0), (true, 1), (true, 2), (true, 3), (true, 4), (true, 5), (true, 6), (true, 7), (true, 8), (true, 9), (true, 10), (false, 11), (false, 12), (true, 13), (true, 14), (true, 15), (true, 16), (true, 17), (true, 18), (true, 19), (true, 20), (true, 21), (true, 22), (true, 23), (true, 24), (false, 25), (true, 26)] (List.cons_ne_nil _ _) (by kernel_rfl) (by kernel_rfl) (by kernel_rfl) (by kernel_rfl) (by kernel_rfl) ((Below.refl _ _).drew) ?_
        simp only [List.dropLast_cons_cons, List.dropLast_singleton, List.getLast_cons_cons, List.getLast_singleton, withOps, List.map_cons, List.map_nil, List.getElem?_cons_succ, List.getElem?_cons_zero]
        repeat ((first | (refine walkH_read (by rfl) (by (intro gx; go_simp; try (with_reducible rfl))) ?_) | (refine walkH_skip (by rfl) ?_)); try simp only [Act.put, List.setIfInBounds_toArray, List.set_cons_zero, List.set_cons_succ])
        refine walkH_do rfl (fun K hK => ?_)
        go_simp
        refine (refOf_any z.blk _ (by omega)).mono ?_
        rintro e w6 ⟨rfl, hw6⟩
        subst hw6
        rw [← unhide EOF]
        refine hK _ _ ((Below.refl _ _).drew) ?_
        clear hK K
        try simp only [Act.put, List.setIfInBounds_toArray, List.set_cons_zero, List.set_cons_succ]
        repeat ((first | (refine walkH_read (by rfl) (by (intro gx; go_simp; try (with_reducible rfl))) ?_) | (refine walkH_skip (by rfl) ?_)); try simp only [Act.put, List.setIfInBounds_toArray, List.set_cons_zero, List.set_cons_succ])
        refine walkH_do rfl (fun K hK => ?_)
        go_simp
        refine (refPair_any q f _ (unhide HQ) (unhide HFW)).mono ?_
        rintro e w6 ⟨rfl, hw6⟩
        subst hw6
        rw [← unhide EKD]
        refine hK _ _ ((Below.refl _ _).drew) ?_
        clear hK K
        try simp only [Act.put, List.setIfInBounds_toArray, List.set_cons_zero, List.set_cons_succ]
        repeat ((first | (refine walkH_read (by rfl) (by (intro gx; go_simp; try (with_reducible rfl))) ?_) | (refine walkH_skip (by rfl) ?_)); try simp only [Act.put, List.setIfInBounds_toArray, List.set_cons_zero, List.set_cons_succ])
        refine walkH_do rfl (fun K hK => ?_)
        go_simp
        refine hK _ _ ((Below.refl _ _).drew) ?_
        clear hK K
        try simp only [Act.put, List.setIfInBounds_toArray, List.set_cons_zero, List.set_cons_succ]
        repeat ((first | (refine walkH_read (by rfl) (by (intro gx; go_simp; try (with_reducible rfl))) ?_) | (refine walkH_skip (by rfl) ?_)); try simp only [Act.put, List.setIfInBounds_toArray, List.set_cons_zero, List.set_cons_succ])
        refine lastPost_of_list ?_
        simp only [List.cons_append, List.nil_append]
        go_wp2
        refine NoPanic.normal ?_
        go_wp2
        go_ret
        exact ⟨aud_false (unhide HN) rfl, bt (unhide HB1) (Below.refl _ _).drew⟩
      have tp : decide ((z.path.length : Int) < 2) = false := by simp; omega
      have tp' : decide (z.path.length < 2) = false := by simp; omega
      by_cases h6 : Sls z.path ∧ z.path.length ≤ 64
      case neg =>
        have HN := hide (unhide HNK (fun h => h6 h.2.2.2.1))
        have d6 := decide_eq_false h6
        clear hkd ekd ef hz8 h6
        go_upto_region 8 with fail
        refine wp_region_ord_thenT (S := Below w2.heap.size w2) [(true, 0), (true, 1), (true, 2), (true, 3), (true, 4), (true, 5), (true, 6), (true, 7), (true, 8), (true, 9), (true, 10), (false, 11), (false, 12), (true, 13), (true, 14), (true, 15), (true, 16), (true, 17), (true, 18), (true, 19), (true, 20), (true, 21), (true, 22), (true, 23), (true, 24), (false, 25), (true, 26)] (List.cons_ne_nil _ _) (by kernel_rfl) (by kernel_rfl) (by kernel_rfl) (by kernel_rfl) (by kernel_rfl) ((Below.refl _ _).drew) ?_
        simp only [List.dropLast_cons_cons, List.dropLast_singleton, List.getLast_cons_cons, List.getLast_singleton, withOps, List.map_cons, List.map_nil, List.getElem?_cons_succ, List.getElem?_cons_zero]
        repeat ((first | (refine walkH_read (by rfl) (by (intro gx; go_simp; try (with_reducible rfl))) ?_) | (refine walkH_skip (by rfl) ?_)); try simp only [Act.put, List.setIfInBounds_toArray, List.set_cons_zero, List.set_cons_succ])
        refine walkH_do rfl (fun K hK => ?_)
        go_simp
        refine (refOf_any z.blk _ (by omega)).mono ?_
        rintro e w6 ⟨rfl, hw6⟩
        subst hw6
        rw [← unhide EOF]
        refine hK _ _ ((Below.refl _ _).drew) ?_
        clear hK K
        try simp only [Act.put, List.setIfInBounds_toArray, List.set_cons_zero, List.set_cons_succ]
        repeat ((first | (refine walkH_read (by rfl) (by (intro gx; go_simp; try (with_reducible rfl))) ?_) | (refine walkH_skip (by rfl) ?_)); try simp only [Act.put, List.setIfInBounds_toArray, List.set_cons_zero, List.set_cons_succ])
        refine walkH_do rfl (fun K hK => ?_)
        go_simp
        refine (refPair_any q f _ (unhide HQ) (unhide HFW)).mono ?_
        rintro e w6 ⟨rfl, hw6⟩
        subst hw6
        rw [← unhide EKD]
        refine hK _ _ ((Below.refl _ _).drew) ?_
        clear hK K
        try simp only [Act.put, List.setIfInBounds_toArray, List.set_cons_zero, List.set_cons_succ]
        repeat ((first | (refine walkH_read (by rfl) (by (intro gx; go_simp; try (with_reducible rfl))) ?_) | (refine walkH_skip (by rfl) ?_)); try simp only [Act.put, List.setIfInBounds_toArray, List.set_cons_zero, List.set_cons_succ])
        refine walkH_do rfl (fun K hK => ?_)
        go_simp
        refine (refSealNums_any _ _ _ z.path 64 _ ((unhide HPI).below ((Below.refl _ _).drew)) (by omega) (by decide)).mono ?_
        rintro e w6 ⟨rfl, hw6⟩
        subst hw6
        rw [d6]
        refine hK _ _ ((Below.refl _ _).drew) ?_
        clear hK K
        try simp only [Act.put, List.setIfInBounds_toArray, List.set_cons_zero, List.set_cons_succ]
        repeat ((first | (refine walkH_read (by rfl) (by (intro gx; go_simp; try (with_reducible rfl))) ?_) | (refine walkH_skip (by rfl) ?_)); try simp only [Act.put, List.setIfInBounds_toArray, List.set_cons_zero, List.set_cons_succ])
        refine lastPost_of_list ?_
        simp only [List.cons_append, List.nil_append]
        go_wp2
        refine NoPanic.normal ?_
        go_wp2
        go_ret
        exact ⟨aud_false (unhide HN) rfl, bt (unhide HB1) (Below.refl _ _).drew⟩
      have d6 := decide_eq_true h6
      obtain ⟨hpc, pb, po, epp⟩ := (unhide HPI).cap (by omega)
      subst epp
      have hp2' : 2 ≤ z.path.length := by omega
      have hI2 := (unhide HPI).first (k := 2) hp2'
      have hS2 : Sls (z.path.take 2) := fun x hx => h6.1 x (List.mem_of_mem_take hx)
      have hnb : nint (nats (z.path.take 2)) = z.path.take 2 := nats_back hS2
      rw [← hnb] at hI2
      have hm2 := nats_may hS2
      obtain ⟨X, eX⟩ : ∃ X, X = Tree.climb 4 b2 f (nats (z.path.take 2)) := ⟨_, rfl⟩
      have HI2 := hide hI2
      have HM2 := hide hm2
      have EX := hide eX
      have HOK : Hid (AnsOk r sh st q b2 z ↔ Chk r sh st (X : Int) (z.path.drop 2)) := hide (by
        constructor
        · intro h
          have := h.2.2.2.2
          rw [← ef, ← eX] at this
          exact this
        · intro h
          refine ⟨hz8, by rw [hkd, ekd, ef], hp2', h6, ?_⟩
          rw [← ef, ← eX]
          exact h)
      have hp64 : z.path.length ≤ 64 := h6.2
      have c2 : (2 : Int) ≤ pc := by omega
      have c2' : (2 : Int) ≤ z.path.length := by omega
      clear hkd ekd ef hz8 h6 hI2 hS2 hnb hm2 eX
      go_upto_region 8 with fail
      refine wp_region_ord_thenT (S := Below w2.heap.size w2) [(true, 0), (true, 1), (true, 2), (true, 3), (true, 4), (true, 5), (true, 6), (true, 7), (true, 8), (true, 9), (true, 10), (false, 11), (false, 12), (true, 13), (true, 14), (true, 15), (true, 16), (true, 17), (true, 18), (true, 19), (true, 20), (true, 21), (true, 22), (true, 23), (true, 24), (false, 25), (true, 26)] (List.cons_ne_nil _ _) (by kernel_rfl) (by kernel_rfl) (by kernel_rfl) (by kernel_rfl) (by kernel_rfl) ((Below.refl _ _).drew) ?_
      simp only [List.dropLast_cons_cons, List.dropLast_singleton, List.getLast_cons_cons, List.getLast_singleton, withOps, List.map_cons, List.map_nil, List.getElem?_cons_succ, List.getElem?_cons_zero]
      repeat ((first | (refine walkH_read (by rfl) (by (intro gx; go_simp; try (with_reducible rfl))) ?_) | (refine walkH_skip (by rfl) ?_)); try simp only [Act.put, List.setIfInBounds_toArray, List.set_cons_zero, List.set_cons_succ])
      refine walkH_do rfl (fun K hK => ?_)
      go_simp
      refine (refOf_any z.blk _ (by omega)).mono ?_
      rintro e w6 ⟨rfl, hw6⟩
      subst hw6
      rw [← unhide EOF]
      refine hK _ _ ((Below.refl _ _).drew) ?_
      clear hK K
      try simp only [Act.put, List.setIfInBounds_toArray, List.set_cons_zero, List.set_cons_succ]
      repeat ((first | (refine walkH_read (by rfl) (by (intro gx; go_simp; try (with_reducible rfl))) ?_) | (refine walkH_skip (by rfl) ?_)); try simp only [Act.put, List.setIfInBounds_toArray, List.set_cons_zero, List.set_cons_succ])
      refine walkH_do rfl (fun K hK => ?_)
      go_simp
      refine (refPair_any q f _ (unhide HQ) (unhide HFW)).mono ?_
      rintro e w6 ⟨rfl, hw6⟩
      subst hw6
      rw [← unhide EKD]
      refine hK _ _ ((Below.refl _ _).drew) ?_
      clear hK K
      try simp only [Act.put, List.setIfInBounds_toArray, List.set_cons_zero, List.set_cons_succ]
      repeat ((first | (refine walkH_read (by rfl) (by (intro gx; go_simp; try (with_reducible rfl))) ?_) | (refine walkH_skip (by rfl) ?_)); try simp only [Act.put, List.setIfInBounds_toArray, List.set_cons_zero, List.set_cons_succ])
      refine walkH_do rfl (fun K hK => ?_)
      go_simp
      refine (refSealNums_any _ _ _ z.path 64 _ ((unhide HPI).below ((Below.refl _ _).drew)) (by omega) (by decide)).mono ?_
      rintro e w6 ⟨rfl, hw6⟩
      subst hw6
      rw [d6]
      refine hK _ _ ((Below.refl _ _).drew) ?_
      clear hK K
      try simp only [Act.put, List.setIfInBounds_toArray, List.set_cons_zero, List.set_cons_succ]
      repeat ((first | (refine walkH_read (by rfl) (by (intro gx; go_simp; try (with_reducible rfl))) ?_) | (refine walkH_skip (by rfl) ?_)); try simp only [Act.put, List.setIfInBounds_toArray, List.set_cons_zero, List.set_cons_succ])
      refine lastPost_of_list ?_
      simp only [List.cons_append, List.nil_append]
      go_wp2
      refine NoPanic.normal ?_
      have bd := (Below.refl w2.heap.size w2).drew
      have x1 := (bd.cell (cell_lt (unhide C1))).trans (unhide C1)
      have cb := (bd.cell (cell_lt (unhide CB))).trans (unhide CB)
      have z0 := (bd.cell hszN).trans (unhide Z0)
      have z1 := (bd.cell hszN).trans (unhide Z1)
      replace HI2 := hide ((unhide HI2).below bd)
      replace HPI := hide ((unhide HPI).below bd)
      replace HB1 := hide (bt (unhide HB1) bd)
      replace HW1 := hide ((unhide HW1).trans (bd.mono (by have := (unhide HW1).size; omega)))
      have hszd : wr.heap.size < w2.drew.heap.size := hszN
      clear bd k0 k1 kb kz0 kz1 kz2 C0 C1 CB Z0 Z1
      generalize w2.drew = W3 at *
      have k1 := kept_cell (B := W3.heap.size) x1 (cell_lt x1)
      have kb := kept_cell (B := W3.heap.size) cb (cell_lt cb)
      have kz0 := kept_cell (B := W3.heap.size) z0 hszd
      have kz1 := kept_cell (B := W3.heap.size) z1 hszd
      have Z1 := hide z1
      clear x1 cb z0 z1
      go_upto_region 10 with fail
      refine wp_region_ord_then (S := Below W3.heap.size W3) [(true, 0), (true, 1), (true, 2), (true, 3), (true, 4), (true, 5), (true, 6), (true, 8), (true, 9), (true, 10), (true, 11), (false, 7), (false, 12)] (List.cons_ne_nil _ _) (by kernel_rfl) (by kernel_rfl) (by kernel_rfl) (by kernel_rfl) (by kernel_rfl) ((Below.refl _ _).drew) ?_
      simp only [List.dropLast_cons_cons, List.dropLast_singleton, List.getLast_cons_cons, List.getLast_singleton, withOps, List.map_cons, List.map_nil, List.getElem?_cons_succ, List.getElem?_cons_zero]
      repeat (refine walkH_read (by rfl) (by (intro gx; go_simp; try (with_reducible rfl))) ?_; try simp only [Act.put, List.setIfInBounds_toArray, List.set_cons_zero, List.set_cons_succ])
      refine walkH_do rfl (fun K hK => ?_)
      go_simp
      refine (refOf_any z.blk _ (by omega)).mono ?_
      rintro e w6 ⟨rfl, hw6⟩
      subst hw6
      rw [← unhide EOF]
      refine hK _ _ ((Below.refl _ _).drew) ?_
      clear hK K
      try simp only [Act.put, List.setIfInBounds_toArray, List.set_cons_zero, List.set_cons_succ]
      repeat (refine walkH_read (by rfl) (by (intro gx; go_simp; try (with_reducible rfl))) ?_; try simp only [Act.put, List.setIfInBounds_toArray, List.set_cons_zero, List.set_cons_succ])
      refine walkH_do rfl (fun K hK => ?_)
      go_simp
      refine (refclimb_any 4 b2 f (nats (z.path.take 2)) _ 2 _ _ (by decide) (by decide) hb4 (unhide HFL) ((unhide HI2).below ((Below.refl _ _).drew)) (unhide HM2) (dep_4 b2 hb4).symm).mono ?_
      rintro e w7 ⟨rfl, b7⟩
      rw [← unhide EX]
      have hb7 : Below W3.heap.size W3 w7 := ((Below.refl _ _).drew).trans b7
      refine hK _ _ hb7 ?_
      clear hK K
      try simp only [Act.put, List.setIfInBounds_toArray, List.set_cons_zero, List.set_cons_succ]
      repeat (refine walkH_read (by rfl) (by (intro gx; go_simp; try (with_reducible rfl))) ?_; try simp only [Act.put, List.setIfInBounds_toArray, List.set_cons_zero, List.set_cons_succ])
      refine lastPost_of_list ?_
      simp only [List.cons_append, List.nil_append]
      go_wp2_with fail
      refine NoPanic.normal ?_
      have z1 := (hb7.cell hszd).trans (unhide Z1)
      replace HPI := hide ((unhide HPI).below hb7)
      replace HB1 := hide (bt (unhide HB1) hb7)
      replace HW1 := hide ((unhide HW1).trans (hb7.mono (by have := (unhide HW1).size; omega)))
      clear hb7 b7 k1 kb kz0 kz1 Z1
      by_cases hpc2 : pc = 2
      · have hf : Ints w7 (some ⟨pb, po, none⟩) (z.path.length - 2) 0 (z.path.drop 2) := by
          have := (unhide HPI).from (k := 2) (by omega) hp2'
          rw [if_pos hpc2, hpc2] at this
          exact this
        have HF := hide hf
        clear hf
        go_wp2_with fail
        refine (refCheckPath_any r sh st X _ _ _ (z.path.drop 2) _ (unhide HF) (by omega)).mono ?_
        rintro e w8 ⟨he, b8⟩
        replace HB1 := hide (bt (unhide HB1) b8)
        replace HW1 := hide ((unhide HW1).trans (b8.mono (by have := (unhide HW1).size; omega)))
        clear b8
        by_cases hc : Chk r sh st (X : Int) (z.path.drop 2)
        · rw [decide_eq_true hc] at he
          subst he
          have hok := (unhide HOK).2 hc
          have HNEW : Hid (∀ j, j < k + 1 → AnsOk r sh st q (bs.getD j 0).toNat (zs.getD j ans0)) := hide (fun j hj => by
            by_cases e : j < k
            · exact unhide HS j e
            · obtain rfl : j = k := by omega
              rw [unhide HBB, ← unhide EZ, Int.toNat_natCast]
              exact hok)
          clear hok hc
          go_wp2
          go_roundw
          case rel => exact ⟨k + 1, by omega, by go_num, HNEW, HW1⟩
          case measure => simp [intOf]; omega
        · rw [decide_eq_false hc] at he
          subst he
          have HN := hide (unhide HNK (fun h => hc ((unhide HOK).1 h)))
          clear hc
          go_wp2
          go_ret
          exact ⟨aud_false (unhide HN) rfl, unhide HB1⟩
      · have hf : Ints w7 (some ⟨pb, po + 2, none⟩) (z.path.length - 2) (pc - 2) (z.path.drop 2) := by
          have := (unhide HPI).from (k := 2) (by omega) hp2'
          rw [if_neg hpc2] at this
          exact this
        have HF := hide hf
        clear hf
        go_wp2_with fail
        refine (refCheckPath_any r sh st X _ _ _ (z.path.drop 2) _ (unhide HF) (by omega)).mono ?_
        rintro e w8 ⟨he, b8⟩
        replace HB1 := hide (bt (unhide HB1) b8)
        replace HW1 := hide ((unhide HW1).trans (b8.mono (by have := (unhide HW1).size; omega)))
        clear b8
        by_cases hc : Chk r sh st (X : Int) (z.path.drop 2)
        · rw [decide_eq_true hc] at he
          subst he
          have hok := (unhide HOK).2 hc
          have HNEW : Hid (∀ j, j < k + 1 → AnsOk r sh st q (bs.getD j 0).toNat (zs.getD j ans0)) := hide (fun j hj => by
            by_cases e : j < k
            · exact unhide HS j e
            · obtain rfl : j = k := by omega
              rw [unhide HBB, ← unhide EZ, Int.toNat_natCast]
              exact hok)
          clear hok hc
          go_wp2
          go_roundw
          case rel => exact ⟨k + 1, by omega, by go_num, HNEW, HW1⟩
          case measure => simp [intOf]; omega
        · rw [decide_eq_false hc] at he
          subst he
          have HN := hide (unhide HNK (fun h => hc ((unhide HOK).1 h)))
          clear hc
          go_wp2
          go_ret
          exact ⟨aud_false (unhide HN) rfl, unhide HB1⟩
    · have hyes : Aud r sh st q bs zs := ⟨unhide HH, fun i hi => unhide HS i (by omega)⟩
      have HY := hide hyes
      clear hyes
      have hlt' : ¬ (k : Int) < zn := by omega
      go_wp2
      go_ret
      exact ⟨by rw [decide_eq_true (unhide HY)]; rfl, bt (unhide HB) (unhide HW)⟩
end Go.Proofs.Ytmphbajnadbggaa
