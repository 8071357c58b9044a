/- The program's audit: Respond, Check. -/
import Derived.Test.YtmphbajnadbggabAuditResp
import Derived.Test.YtmphbajnadbggabAuditTwo
import Derived.Test.YtmphbajnadbggabAuditRef4
import Derived.Test.YtmphbajnadbggabAuditText
namespace Go.Proofs.Ytmphbajnadbggab
open Go.RowKit
set_option linter.unusedVariables false
set_option linter.unusedSimpArgs false
attribute [local go_sem ↓] Go.wp_at_zero Go.wp_at_succ
def KeyOk (q : Int) (z : Ans) : Prop := z.blk.size = 8 ∧ z.keyed = ((Seal.pair q ((Seal.of (byts z.blk) : Nat) : Int) : Nat) : Int)
instance keyDec (q : Int) (z : Ans) : Decidable (KeyOk q z) := by unfold KeyOk; exact inferInstance
theorem key_false {q : Int} {z : Ans} {e : Ending} (h : ¬ KeyOk q z) (he : e = .returned (.bool false)) : e = .returned (.bool (decide (KeyOk q z))) := by rw [decide_eq_false h]; exact he
set_option maxRecDepth 100000 in
set_option maxHeartbeats 2000000 in
theorem isKeyed_any (q : Int) (pa : Option Addr) (pc : Nat) (z : Ans) (w : World) (hq : (Lit.int .i64 q).wf = true) :
    Calls Try.prog 24 #[.int .i64 q, .agg #[.string z.blk, .slice pa z.path.length pc, .int .i64 z.keyed]] w fun e w' => e = .returned (.bool (decide (KeyOk q z))) ∧ Below w.heap.size w w' := by
  obtain ⟨s, P, k⟩ := z
  obtain ⟨n, en⟩ : ∃ n, n = P.length := ⟨_, rfl⟩
  show Calls Try.prog 24 #[.int .i64 q, .agg #[.string s, .slice pa P.length pc, .int .i64 k]] w fun e w' => e = .returned (.bool (decide (KeyOk q ⟨s, P, k⟩))) ∧ Below w.heap.size w w'
  rw [← en]
  have HB := hide (below_alloc w (.cells #[.string s, .slice pa n pc, .int .i64 k] 36))
  obtain ⟨x0, x1, x2⟩ := box_three (heap_alloc_new w (.cells #[.string s, .slice pa n pc, .int .i64 k] 36))
  clear en
  by_cases h8 : s.size = 8
  case neg =>
    have hno : ¬ KeyOk q ⟨s, P, k⟩ := fun h => h8 h.1
    have HN := hide hno
    have t8 : ((s.size : Int) == 8) = false := by simp; omega
    clear hno h8
    go_enter Try.func24, Try.ntmps24
    go_wp2
    go_quiet (fail)
    go_wp2
    go_ret
    exact ⟨key_false (unhide HN) rfl, (unhide HB).trans (below_drewN _ _ _)⟩
  have t8 : ((s.size : Int) == 8) = true := by rw [h8]; rfl
  have hb : s.size ≤ 140737488351232 := by omega
  have hsw : (Lit.int .i64 ((Seal.of (byts s) : Nat) : Int)).wf = true := wf_nat (Seal.of_lt _)
  have HSW := hide hsw
  have HQ := hide hq
  have hK : decide (KeyOk q ⟨s, P, k⟩) = ((k : Int) == ((Seal.pair q ((Seal.of (byts s) : Nat) : Int) : Nat) : Int)) := by
    by_cases e : k = ((Seal.pair q ((Seal.of (byts s) : Nat) : Int) : Nat) : Int)
    · rw [decide_eq_true (show KeyOk q ⟨s, P, k⟩ from ⟨h8, e⟩)]; simp [e]
    · rw [decide_eq_false (show ¬ KeyOk q ⟨s, P, k⟩ from fun h => e h.2)]; simp [e]
  rw [hK]
  clear hK hsw hq h8
  go_enter Try.func24, Try.ntmps24
  go_upto_region 1 with fail
  generalize (w.alloc (.cells #[.string s, .slice pa n pc, .int .i64 k] 36)) = W at *
  go_quiet ((first | (go_at_call 35; exact Calls.quiet_of_same (sealOf_any s _ hb)) | (go_at_call 22; exact Calls.quiet_of_same (sealPair_any q _ _ (unhide HQ) (unhide HSW)))))
  go_wp2
  go_ret
  exact ⟨rfl, (unhide HB).trans (below_drewN _ _ _)⟩
theorem ansOk_iff {r : Int} {n i b : Nat} {q : Int} {z : Ans} (hn1 : 1 ≤ n) (hn : n ≤ 6) (hi : i < n) (hb : b < 4) : AnsOk r n i q b z ↔ KeyOk q z ∧ Chk r ((4 * n : Nat) : Int) ((4 * i + b : Nat) : Int) ((Seal.of (byts z.blk) : Nat) : Int) z.path := by
  rw [chk_four hn1 hn hi hb (Seal.of_lt _)]
  unfold AnsOk KeyOk
  constructor
  · rintro ⟨h1, h2, h3, h4, h5⟩; exact ⟨⟨h1, h2⟩, h3, h4, h5⟩
  · rintro ⟨⟨h1, h2⟩, h3, h4, h5⟩; exact ⟨h1, h2, h3, h4, h5⟩
set_option maxRecDepth 100000 in
set_option maxHeartbeats 2000000 in
theorem leads_any (r : Int) (n i b : Nat) (pa : Option Addr) (pc : Nat) (z : Ans) (w : World) (hn : n ≤ 6) (hi : i < n) (hb : b < 4) (h8 : z.blk.size = 8) (hI : Ints w pa z.path.length pc z.path) (hp : z.path.length ≤ 140737488351232) :
    Calls Try.prog 25 #[.int .i64 r, .int .i64 n, .int .i64 i, .int .i64 b, .agg #[.string z.blk, .slice pa z.path.length pc, .int .i64 z.keyed]] w fun e w' => e = .returned (.bool (decide (Chk r ((4 * n : Nat) : Int) ((4 * i + b : Nat) : Int) ((Seal.of (byts z.blk) : Nat) : Int) z.path))) ∧ Below w.heap.size w w' := by
  have hB0 := below_alloc w (.cells #[.string z.blk, .slice pa z.path.length pc, .int .i64 z.keyed] 36)
  obtain ⟨x0, x1, x2⟩ := box_three (heap_alloc_new w (.cells #[.string z.blk, .slice pa z.path.length pc, .int .i64 z.keyed] 36))
  have hszN : w.heap.size < (w.alloc (.cells #[.string z.blk, .slice pa z.path.length pc, .int .i64 z.keyed] 36)).heap.size := by simp
  have HI := hide (hI.below hB0)
  have HB := hide hB0
  have hzo : z.blk.size ≤ 140737488351232 := by omega
  obtain ⟨s, es⟩ : ∃ s, s = z.blk := ⟨_, rfl⟩
  obtain ⟨P, eP⟩ : ∃ P, P = z.path := ⟨_, rfl⟩
  obtain ⟨k, ek⟩ : ∃ k, k = z.keyed := ⟨_, rfl⟩
  rw [← es] at x0 x1 x2 hszN HB hzo HI ⊢
  rw [← eP] at x0 x1 x2 hszN HB HI hp ⊢
  rw [← ek] at x0 x1 x2 hszN HB HI ⊢
  clear hB0 hI es eP ek h8
  obtain ⟨N4, eN⟩ : ∃ N4, N4 = 4 * n := ⟨_, rfl⟩
  obtain ⟨I4, eI⟩ : ∃ I4, I4 = 4 * i := ⟨_, rfl⟩
  obtain ⟨J4, eJ⟩ : ∃ J4, J4 = 4 * i + b := ⟨_, rfl⟩
  rw [← eN, ← eJ]
  have m1 : (n : Int) * 4 = (N4 : Int) := by omega
  have m2 : (i : Int) * 4 = (I4 : Int) := by omega
  have m3 : (I4 : Int) + (b : Int) = (J4 : Int) := by omega
  have w1 : IntKind.wrap .i64 (N4 : Int) = (N4 : Int) := by simp only [IntKind.wrap_i64]; omega
  have w2 : IntKind.wrap .i64 (I4 : Int) = (I4 : Int) := by simp only [IntKind.wrap_i64]; omega
  have w3 : IntKind.wrap .i64 (J4 : Int) = (J4 : Int) := by simp only [IntKind.wrap_i64]; omega
  obtain ⟨n', en'⟩ : ∃ n', n' = P.length := ⟨_, rfl⟩
  rw [← en'] at x0 x1 x2 hszN HB HI hp ⊢
  clear eN eI eJ hn hi hb en'
  go_enter Try.func25, Try.ntmps25
  go_upto_region 1 with fail
  generalize (w.alloc (.cells #[.string s, .slice pa n' pc, .int .i64 k] 36)) = W at *
  have k0 := kept_cell (B := W.heap.size) x0 hszN
  have k1 := kept_cell (B := W.heap.size) x1 hszN
  clear x0 x1 x2
  refine wp_region_ord (S := Below W.heap.size W) [(true, 0), (true, 1), (true, 2), (true, 3), (true, 4), (true, 5), (true, 6), (true, 7), (true, 8), (true, 10), (true, 11), (false, 9), (false, 12), (true, 13)] (by kernel_rfl) (by kernel_rfl) (by kernel_rfl) (by kernel_rfl) ((Below.refl _ _).drew) ?_
  simp only [withOps, List.map_cons, List.map_nil, List.getElem?_cons_succ, List.getElem?_cons_zero]
  repeat (refine walkH_read (by rfl) (by (intro gx; go_simp; try (with_reducible rfl))) ?_; try simp only [Act.put, List.setIfInBounds_toArray, List.set_cons_zero, List.set_cons_succ])
  refine walkH_do rfl (fun K hK => ?_)
  go_simp
  refine (sealOf_any s _ hzo).mono ?_
  rintro e w6 ⟨rfl, hw6⟩
  subst hw6
  refine hK _ _ ((Below.refl _ _).drew) ?_
  clear hK K
  try simp only [Act.put, List.setIfInBounds_toArray, List.set_cons_zero, List.set_cons_succ]
  repeat (refine walkH_read (by rfl) (by (intro gx; go_simp; try (with_reducible rfl))) ?_; try simp only [Act.put, List.setIfInBounds_toArray, List.set_cons_zero, List.set_cons_succ])
  refine walkH_do rfl (fun K hK => ?_)
  go_simp
  refine (proofCheck_any r N4 J4 ((Seal.of (byts s) : Nat) : Int) pa n' pc P _ ((unhide HI).below (Below.refl _ _).drew) hp).mono ?_
  rintro e w7 ⟨rfl, b7⟩
  have B7 := hide ((Below.refl W.heap.size W).drew.trans b7)
  refine hK _ _ (unhide B7) ?_
  clear hK K b7
  try simp only [Act.put, List.setIfInBounds_toArray, List.set_cons_zero, List.set_cons_succ]
  repeat (refine walkH_read (by rfl) (by (intro gx; go_simp; try (with_reducible rfl))) ?_; try simp only [Act.put, List.setIfInBounds_toArray, List.set_cons_zero, List.set_cons_succ])
  refine (show walkH _ _ _ _ [] _ _ from NoPanic.normal ?_)
  go_wp2
  go_ret
  exact ⟨rfl, bt (unhide HB) (unhide B7)⟩
set_option maxRecDepth 100000 in
set_option maxHeartbeats 4000000 in
theorem auditCheck_any (r sh st q : Int) (ba : Option Addr) (bn bc : Nat) (bs : List Int) (za : Option Addr) (zn zc : Nat) (zs : List Ans) (w : World) (hB : Ints w ba bn bc bs) (hZ : AnsV w za zn zc zs)
    (hbn : bn ≤ 140737488351232) (hpz : ∀ j, j < zn → (zs.getD j ans0).path.length ≤ 140737488351232) :
    Calls Try.prog 11 #[.int .i64 r, .int .i64 sh, .int .i64 st, .agg #[.int .i64 q, .slice ba bn bc], .slice za zn zc] w fun e w' => e = .returned (.bool (decide (Aud r sh st q bs zs))) ∧ Below w.heap.size w w' := by
  have hbl := hB.1
  have hzl := hZ.1
  have hB0 := below_alloc w (.cells #[.int .i64 q, .slice ba bn bc] 29)
  have hbx := hide (heap_alloc_new w (.cells #[.int .i64 q, .slice ba bn bc] 29))
  have HBI0 := hide (hB.below hB0)
  have HZ0 := hide (hZ.below hB0)
  have HPZ := hide hpz
  have HB := hide hB0
  obtain ⟨x0, x1⟩ := ask_box w q ba bn bc 29
  clear hB hZ hB0 hpz
  go_enter Try.func11, Try.ntmps11
  go_upto_region 1 with fail
  generalize (w.alloc (.cells #[.int .i64 q, .slice ba bn bc] 29)) = W at *
  go_wp2_with fail
  refine (refuseAsk_any q ba bn bc bs _ (unhide HBI0) hbn).mono ?_
  rintro e w1 ⟨v, rfl, hv, b1⟩
  have BX := hide ((b1.block _ (lt_of_block (unhide hbx))).trans (unhide hbx))
  replace HBI0 := hide ((unhide HBI0).below b1)
  replace HZ0 := hide ((unhide HZ0).below b1)
  replace HB := hide (bt (unhide HB) b1)
  clear b1 hbx x0 x1
  rcases hv with ⟨h1, rfl⟩ | ⟨h1, v', rfl⟩
  rotate_left
  · have HN : Hid (¬ Aud r sh st q bs zs) := hide (fun h => h1 h.1.1)
    clear h1
    go_wp2_with fail
    refine (errIs_one v' 1200 _).mono ?_
    rintro e w2 ⟨rfl, b2⟩
    replace HB := hide (bt (unhide HB) b2)
    clear b2
    go_wp2
    go_ret
    exact ⟨aud_false (unhide HN) rfl, unhide HB⟩
  have H1 := hide h1
  clear h1
  obtain ⟨y0, y1⟩ := box_two' (unhide BX)
  go_wp2_with fail
  refine (errIs_nil 1200 _).mono ?_
  rintro e w2 ⟨rfl, rfl⟩
  by_cases h2 : zn = bn
  case neg =>
    have HN : Hid (¬ Aud r sh st q bs zs) := hide (fun h => by have := h.1.2.1; omega)
    have t2 : ((zn : Int) != (bn : Int)) = true := by simp; omega
    clear h2
    go_wp2
    go_ret
    exact ⟨aud_false (unhide HN) rfl, unhide HB⟩
  subst h2
  have t2 : ((zn : Int) != (zn : Int)) = false := by simp
  by_cases h3 : sh < 1
  · have HN : Hid (¬ Aud r sh st q bs zs) := hide (fun h => by have := h.1.2.2.1; omega)
    have t3 : decide (sh < 1) = true := decide_eq_true h3
    clear h3
    go_wp2
    go_ret
    exact ⟨aud_false (unhide HN) rfl, unhide HB⟩
  have t3 : decide (sh < 1) = false := decide_eq_false h3
  by_cases h4 : 6 < sh
  · have HN : Hid (¬ Aud r sh st q bs zs) := hide (fun h => by have := h.1.2.2.2.1; omega)
    have t4 : decide (6 < sh) = true := decide_eq_true h4
    clear h4
    go_wp2
    go_ret
    exact ⟨aud_false (unhide HN) rfl, unhide HB⟩
  have t4 : decide (6 < sh) = false := decide_eq_false h4
  by_cases h5 : st < 0
  · have HN : Hid (¬ Aud r sh st q bs zs) := hide (fun h => by have := h.1.2.2.2.2.1; omega)
    have t5 : decide (st < 0) = true := decide_eq_true h5
    clear h5
    go_wp2
    go_ret
    exact ⟨aud_false (unhide HN) rfl, unhide HB⟩
  have t5 : decide (st < 0) = false := decide_eq_false h5
  by_cases h6 : sh ≤ st
  · have HN : Hid (¬ Aud r sh st q bs zs) := hide (fun h => by have := h.1.2.2.2.2.2; omega)
    have t6 : decide (sh ≤ st) = true := decide_eq_true h6
    clear h6
    go_wp2
    go_ret
    exact ⟨aud_false (unhide HN) rfl, unhide HB⟩
  have t6 : decide (sh ≤ st) = false := decide_eq_false h6
  have hh : AskM q bs ∧ zs.length = bs.length ∧ 1 ≤ sh ∧ sh ≤ 6 ∧ 0 ≤ st ∧ st < sh := ⟨unhide H1, by omega, by omega, by omega, by omega, by omega⟩
  have HH := hide hh
  obtain ⟨n, rfl⟩ : ∃ n : Nat, sh = (n : Int) := ⟨sh.toNat, by omega⟩
  obtain ⟨i, rfl⟩ : ∃ i : Nat, st = (i : Int) := ⟨st.toNat, by omega⟩
  have hn1 : 1 ≤ n := by omega
  have hn6 : n ≤ 6 := by omega
  have hin : i < n := by omega
  have hb1 : 1 ≤ zn := by have := hh.1.2.1; omega
  have hb64 : zn ≤ 64 := by have := hh.1.2.2.1; omega
  have HBK : Hid (∀ k, k < zn → BkOk (bs.getD k 0)) := hide (fun k hk => by
    have e : bs.getD k 0 = bs[k]'(by omega) := by simp [List.getD, List.getElem?_eq_getElem (show k < bs.length by omega)]
    rw [e]; exact hh.1.2.2.2 _ (List.getElem_mem _))
  have HQ := hide (wf_sl hh.1.1)
  obtain ⟨bb, bo, rfl, hcb⟩ : ∃ b off, ba = some ⟨b, off, none⟩ ∧ ∀ i, i < zn → w2.cell? ⟨b, off + i, none⟩ = some (.int .i64 (bs.getD i 0)) := by
    rcases (unhide HBI0).2.two with h | h
    · omega
    · exact h
  have t7 : decide (n ≤ i) = false := decide_eq_false (by omega)
  clear hh hcb h3 h4 h5 h6 H1
  go_wp2
  clear t7 y0 y1 t2 t3 t4 t5 t6
  go_loopw [43] (fun iv wr => ∃ k : Nat, k ≤ zn ∧ iv = .int .i64 k ∧ Hid (∀ j, j < k → AnsOk r n i q (bs.getD j 0).toNat (zs.getD j ans0)) ∧ Hid (Below w2.heap.size w2 wr)) (fun iv _ => zn - (intOf iv).toNat)
  case atStart => exact ⟨0, by omega, rfl, hide (fun j hj => by omega), hide (Below.refl _ _)⟩
  case round =>
    obtain ⟨k, hk, rfl, HS, HW⟩ := hrel
    by_cases hlt : k < zn
    · have hlt' : (k : Int) < zn := by omega
      have hszW := (unhide HW).size
      obtain ⟨b2, hbk, hb4⟩ : ∃ b : Nat, bs.getD k 0 = (b : Int) ∧ b < 4 := by
        have := unhide HBK k hlt
        unfold BkOk at this
        exact ⟨(bs.getD k 0).toNat, by omega, by omega⟩
      obtain ⟨ab, ao, pp, pc, rfl, hcap, y0, y1, y2, hPI⟩ := ((unhide HZ0).below (unhide HW)).at hlt
      obtain ⟨z, ez⟩ : ∃ z, z = zs.getD k ans0 := ⟨_, rfl⟩
      have hzp := unhide HPZ k hlt
      rw [← ez] at y0 y1 y2 hPI hzp
      have cb : wr.cell? ⟨bb, bo + k, none⟩ = some (.int .i64 (b2 : Int)) := by
        have hI := (unhide HBI0).below (unhide HW)
        rcases hI.2.two with h | ⟨b', o', e, h⟩
        · omega
        · simp only [Option.some.injEq, Addr.mk.injEq, and_true] at e
          obtain ⟨rfl, rfl⟩ := e
          rw [h k hlt, hbk]
      have hcc : (k : Int) < zc := by omega
      have HBB := hide hbk
      have EZ := hide ez
      have HPI := hide hPI
      have bx := ((unhide HW).block _ (lt_of_block (unhide BX))).trans (unhide BX)
      have x0 : wr.cell? ⟨w.heap.size, 0, none⟩ = some (.int .i64 q) := by rw [cell_of_row _ _ 0 _ _ _ bx]; rfl
      have hnoK : ¬ AnsOk r n i q b2 z → ¬ Aud r n i q bs zs := fun h ha => h (by
        have := ha.2 k (by omega)
        rw [unhide HBB, ← unhide EZ, Int.toNat_natCast] at this
        exact this)
      have HNK := hide hnoK
      have hiff := ansOk_iff (r := r) (q := q) (z := z) hn1 hn6 hin hb4
      have HIF := hide hiff
      have k0 := kept_cell (B := wr.heap.size) x0 (cell_lt x0)
      have k1 := kept_cell (B := wr.heap.size) y0 (cell_lt y0)
      have k2 := kept_cell (B := wr.heap.size) y1 (cell_lt y1)
      have k3 := kept_cell (B := wr.heap.size) y2 (cell_lt y2)
      clear hbk ez hPI bx hnoK hiff x0 y0 y1 y2
      by_cases hky : KeyOk q z
      case neg =>
        have HN := hide (unhide HNK (fun h => hky ((unhide HIF).1 h).1))
        have dk := decide_eq_false hky
        clear hky
        go_upto_region 8 with fail
        refine wp_region_ord_thenT (S := Below wr.heap.size wr) [(true, 0), (true, 1), (true, 2), (true, 3), (true, 4), (true, 5), (false, 6), (true, 7), (true, 8), (true, 9), (true, 10), (true, 11), (true, 12), (true, 13), (true, 14), (true, 15), (true, 16), (false, 17), (true, 18)] (List.cons_ne_nil _ _) (by kernel_rfl) (by kernel_rfl) (by kernel_rfl) (by kernel_rfl) (by kernel_rfl) ((Below.refl _ _).drew) ?_
        simp only [List.dropLast_cons_cons, List.dropLast_singleton, List.getLast_cons_cons, List.getLast_singleton, withOps, List.map_cons, List.map_nil, List.getElem?_cons_succ, List.getElem?_cons_zero]
        repeat ((first | (refine walkH_read (by rfl) (by (intro gx; go_simp; try (with_reducible rfl))) ?_) | (refine walkH_skip (by rfl) ?_)); try simp only [Act.put, List.setIfInBounds_toArray, List.set_cons_zero, List.set_cons_succ])
        refine walkH_do rfl (fun K hK => ?_)
        go_simp
        refine (isKeyed_any q pp pc z _ (unhide HQ)).mono ?_
        rintro e w5 ⟨rfl, b5⟩
        rw [dk]
        have B5 := hide ((Below.refl wr.heap.size wr).drew.trans b5)
        refine hK _ _ (unhide B5) ?_
        clear hK K b5
        try simp only [Act.put, List.setIfInBounds_toArray, List.set_cons_zero, List.set_cons_succ]
        repeat ((first | (refine walkH_read (by rfl) (by (intro gx; go_simp; try (with_reducible rfl))) ?_) | (refine walkH_skip (by rfl) ?_)); try simp only [Act.put, List.setIfInBounds_toArray, List.set_cons_zero, List.set_cons_succ])
        refine walkH_do rfl (fun K hK => ?_)
        go_simp
        refine hK _ _ (unhide B5) ?_
        clear hK K
        try simp only [Act.put, List.setIfInBounds_toArray, List.set_cons_zero, List.set_cons_succ]
        repeat ((first | (refine walkH_read (by rfl) (by (intro gx; go_simp; try (with_reducible rfl))) ?_) | (refine walkH_skip (by rfl) ?_)); try simp only [Act.put, List.setIfInBounds_toArray, List.set_cons_zero, List.set_cons_succ])
        refine lastPost_of_list ?_
        simp only [List.cons_append, List.nil_append]
        go_wp2
        refine NoPanic.normal ?_
        go_wp2
        go_ret
        exact ⟨aud_false (unhide HN) rfl, bt (unhide HB) (bt (unhide HW) (unhide B5))⟩
      have dk := decide_eq_true hky
      have h8 := hky.1
      by_cases hld : Chk r ((4 * n : Nat) : Int) ((4 * i + b2 : Nat) : Int) ((Seal.of (byts z.blk) : Nat) : Int) z.path
      case neg =>
        have HN := hide (unhide HNK (fun h => hld ((unhide HIF).1 h).2))
        have dl := decide_eq_false hld
        clear hky hld
        go_upto_region 8 with fail
        refine wp_region_ord_thenT (S := Below wr.heap.size wr) [(true, 0), (true, 1), (true, 2), (true, 3), (true, 4), (true, 5), (false, 6), (true, 7), (true, 8), (true, 9), (true, 10), (true, 11), (true, 12), (true, 13), (true, 14), (true, 15), (true, 16), (false, 17), (true, 18)] (List.cons_ne_nil _ _) (by kernel_rfl) (by kernel_rfl) (by kernel_rfl) (by kernel_rfl) (by kernel_rfl) ((Below.refl _ _).drew) ?_
        simp only [List.dropLast_cons_cons, List.dropLast_singleton, List.getLast_cons_cons, List.getLast_singleton, withOps, List.map_cons, List.map_nil, List.getElem?_cons_succ, List.getElem?_cons_zero]
        repeat ((first | (refine walkH_read (by rfl) (by (intro gx; go_simp; try (with_reducible rfl))) ?_) | (refine walkH_skip (by rfl) ?_)); try simp only [Act.put, List.setIfInBounds_toArray, List.set_cons_zero, List.set_cons_succ])
        refine walkH_do rfl (fun K hK => ?_)
        go_simp
        refine (isKeyed_any q pp pc z _ (unhide HQ)).mono ?_
        rintro e w5 ⟨rfl, b5⟩
        rw [dk]
        have B5 := hide ((Below.refl wr.heap.size wr).drew.trans b5)
        refine hK _ _ (unhide B5) ?_
        clear hK K b5
        try simp only [Act.put, List.setIfInBounds_toArray, List.set_cons_zero, List.set_cons_succ]
        repeat ((first | (refine walkH_read (by rfl) (by (intro gx; go_simp; try (with_reducible rfl))) ?_) | (refine walkH_skip (by rfl) ?_)); try simp only [Act.put, List.setIfInBounds_toArray, List.set_cons_zero, List.set_cons_succ])
        refine walkH_do rfl (fun K hK => ?_)
        go_simp
        refine (leads_any r n i b2 pp pc z _ hn6 hin hb4 h8 ((unhide HPI).below (unhide B5)) hzp).mono ?_
        rintro e w6 ⟨rfl, b6⟩
        rw [dl]
        have B6 := hide (bt (unhide B5) b6)
        refine hK _ _ (unhide B6) ?_
        clear hK K b6
        try simp only [Act.put, List.setIfInBounds_toArray, List.set_cons_zero, List.set_cons_succ]
        repeat ((first | (refine walkH_read (by rfl) (by (intro gx; go_simp; try (with_reducible rfl))) ?_) | (refine walkH_skip (by rfl) ?_)); try simp only [Act.put, List.setIfInBounds_toArray, List.set_cons_zero, List.set_cons_succ])
        refine lastPost_of_list ?_
        simp only [List.cons_append, List.nil_append]
        go_wp2
        refine NoPanic.normal ?_
        go_wp2
        go_ret
        exact ⟨aud_false (unhide HN) rfl, bt (unhide HB) (bt (unhide HW) (unhide B6))⟩
      have HOK := hide ((unhide HIF).2 ⟨hky, hld⟩)
      have dl := decide_eq_true hld
      clear hky hld
      go_upto_region 8 with fail
      refine wp_region_ord_thenT (S := Below wr.heap.size wr) [(true, 0), (true, 1), (true, 2), (true, 3), (true, 4), (true, 5), (false, 6), (true, 7), (true, 8), (true, 9), (true, 10), (true, 11), (true, 12), (true, 13), (true, 14), (true, 15), (true, 16), (false, 17), (true, 18)] (List.cons_ne_nil _ _) (by kernel_rfl) (by kernel_rfl) (by kernel_rfl) (by kernel_rfl) (by kernel_rfl) ((Below.refl _ _).drew) ?_
      simp only [List.dropLast_cons_cons, List.dropLast_singleton, List.getLast_cons_cons, List.getLast_singleton, withOps, List.map_cons, List.map_nil, List.getElem?_cons_succ, List.getElem?_cons_zero]
      repeat ((first | (refine walkH_read (by rfl) (by (intro gx; go_simp; try (with_reducible rfl))) ?_) | (refine walkH_skip (by rfl) ?_)); try simp only [Act.put, List.setIfInBounds_toArray, List.set_cons_zero, List.set_cons_succ])
      refine walkH_do rfl (fun K hK => ?_)
      go_simp
      refine (isKeyed_any q pp pc z _ (unhide HQ)).mono ?_
      rintro e w5 ⟨rfl, b5⟩
      rw [dk]
      have B5 := hide ((Below.refl wr.heap.size wr).drew.trans b5)
      refine hK _ _ (unhide B5) ?_
      clear hK K b5
      try simp only [Act.put, List.setIfInBounds_toArray, List.set_cons_zero, List.set_cons_succ]
      repeat ((first | (refine walkH_read (by rfl) (by (intro gx; go_simp; try (with_reducible rfl))) ?_) | (refine walkH_skip (by rfl) ?_)); try simp only [Act.put, List.setIfInBounds_toArray, List.set_cons_zero, List.set_cons_succ])
      refine walkH_do rfl (fun K hK => ?_)
      go_simp
      refine (leads_any r n i b2 pp pc z _ hn6 hin hb4 h8 ((unhide HPI).below (unhide B5)) hzp).mono ?_
      rintro e w6 ⟨rfl, b6⟩
      rw [dl]
      have B6 := hide (bt (unhide B5) b6)
      refine hK _ _ (unhide B6) ?_
      clear hK K b6
      try simp only [Act.put, List.setIfInBounds_toArray, List.set_cons_zero, List.set_cons_succ]
      repeat ((first | (refine walkH_read (by rfl) (by (intro gx; go_simp; try (with_reducible rfl))) ?_) | (refine walkH_skip (by rfl) ?_)); try simp only [Act.put, List.setIfInBounds_toArray, List.set_cons_zero, List.set_cons_succ])
      refine lastPost_of_list ?_
      simp only [List.cons_append, List.nil_append]
      go_wp2
      refine NoPanic.normal ?_
      go_wp2
      go_roundw
      case rel =>
        refine ⟨k + 1, by omega, by go_num, hide (fun j hj => ?_), hide (bt (unhide HW) (unhide B6))⟩
        by_cases e : j < k
        · exact unhide HS j e
        · obtain rfl : j = k := by omega
          rw [unhide HBB, Int.toNat_natCast, ← unhide EZ]
          exact unhide HOK
      case measure => simp [intOf]; omega
    · have hlt' : ¬ (k : Int) < zn := by omega
      obtain rfl : k = zn := by omega
      go_wp2
      go_ret
      refine ⟨?_, bt (unhide HB) (unhide HW)⟩
      rw [decide_eq_true (show Aud r n i q bs zs from ⟨unhide HH, fun j hj => unhide HS j (by omega)⟩)]
      rfl
end Go.Proofs.Ytmphbajnadbggab
