/- The Go text of the statement AuditMoved returns true, whatever the numbers. -/
import Derived.Test.YtmphbajnadbggabAwake12
import Derived.Test.YtmphbajnadbggabAuditMath3
import Derived.Test.YtmphbajnadbggabTreeTurnedWalk
import Derived.Test.YtmphbajnadbggabKRegs
namespace Go.Proofs.Ytmphbajnadbggab
open Go.RowKit
set_option linter.unusedVariables false
set_option linter.unusedSimpArgs false
attribute [local go_sem ↓] Go.wp_at_zero Go.wp_at_succ
theorem and_3q (n : Int) : bits .and .i64 n 3 = n % 4 := and_mask_i64 n 2 3 (by decide) (by decide)
theorem and_3' (n : Int) : ∃ m : Nat, m < 4 ∧ bits .and .i64 n 3 = (m : Int) := ⟨(n % 4).toNat, by omega, by rw [and_3q]; omega⟩
theorem and3_next (c : Nat) (hc : c < 4) : bits .and .i64 (IntKind.i64.wrap ((c : Int) + 1)) 3 = (((c + 1) % 4 : Nat) : Int) := by
  rw [and_3q, IntKind.wrap_i64]; omega
theorem and3_plain (c : Nat) : bits .and .i64 ((c : Int) + 1) 3 = (((c + 1) % 4 : Nat) : Int) := by
  rw [and_3q]; omega
theorem wrap_next (c : Nat) (hc : c < 4) : wrap64 ((c : Int) + 1) = (c : Int) + 1 := by unfold wrap64; omega
theorem low30_eq (x : Int) : (IntKind.u32.wrap x).toNat / 4 = low30 x := by
  rw [IntKind.wrap_u32]; rfl
theorem by40 (a : Int) (k : Nat) : wrap64 (a + 40 * (k : Int)) % 256 = ((((a % 256).toNat + 40 * k) % 256 : Nat) : Int) := by
  unfold wrap64; omega
theorem by40' (a : Int) {k : Nat} (hk : k < 4) : IntKind.u8.wrap (IntKind.i64.wrap (a + IntKind.i64.wrap (40 * (k : Int)))) = ((((a % 256).toNat + 40 * k) % 256 : Nat) : Int) := by
  simp only [IntKind.wrap_u8, IntKind.wrap_i64]; omega
theorem nint_append (l m : List Nat) : nint (l ++ m) = nint l ++ nint m := by simp [nint]
theorem textS_mod (b : Nat) : (leavesL (textS b)).length = 4 := leaves_32 (textS_size b)
theorem root_text (b : Nat) : rootP (nint (leavesL (textS b))) = ((((Tree.root (leavesL (textS b))) : Nat) : Int), 0) := rootP_nint (by rw [textS_mod]; decide) (by rw [textS_mod]; decide) (leaves_may _)
theorem rts_snoc (b k : Nat) (hk : k < 4) : (rts b).take (k + 1) = (rts b).take k ++ [Tree.root (leavesL (textS ((b + 40 * k) % 256)))] := by
  have hl := rts_len b
  rw [List.take_succ_eq_append_getElem (by omega)]
  congr 1
  have := rts_at b hk
  rw [List.getD, List.getElem?_eq_getElem (by omega)] at this
  simpa using this
theorem rts_root (b : Nat) : rootP (nint (rts b)) = (((Tree.root (rts b) : Nat) : Int), 0) := rootP_nint (by rw [rts_len]; decide) (by rw [rts_len]; decide) (rts_may b)
theorem rts_path (b : Nat) {k : Nat} (hk : k < 4) : pathP (nint (rts b)) (k : Int) = (nint (Tree.path (rts b) k), 0) := pathP_nint (by rw [rts_len]; decide) (by rw [rts_len]; decide) (by rw [rts_len]; exact hk) (rts_may b)
theorem path_sls (b : Nat) {k : Nat} (hk : k < 4) : Sls (nint (Tree.path (rts b) k)) ∧ (nint (Tree.path (rts b) k)).length = 2 := by
  refine ⟨sls_nint (Tree.path_may 4 (rts b) k (rts_len b) hk (rts_may b)), ?_⟩
  rw [nint_len, Tree.path_len 4 (rts b) k (rts_len b) (by decide)]
  exact dep_4 k hk
theorem ask_m {N : Nat} (hN : N < 1073741825) {bs : List Int} (h1 : 1 ≤ bs.length) (h2 : bs.length ≤ 64) (hb : ∀ b ∈ bs, BkOk b) : AskM (N : Int) bs := ⟨by unfold Sl; omega, h1, h2, hb⟩
/-- what is answered to questions that may be -/
theorem rsp_some (b : Nat) {k : Nat} (hk : k < 4) (c : Nat) {N : Nat} {bs : List Int} (ha : AskM (N : Int) bs) :
    rspP (textS c) (nint (Tree.path (rts b) k)) (N : Int) bs = (bs.map (fun x => ansOf (textS c) (nint (Tree.path (rts b) k)) N x.toNat), 0) := by
  have h := path_sls b hk
  rw [rspP_yes ⟨textS_size c, ⟨h.1, by rw [h.2]; decide⟩, ha⟩, rspTo, List.take_length]
theorem aud_true (b : Nat) {k : Nat} (hk : k < 4) {N : Nat} {bs : List Int} (ha : AskM (N : Int) bs) :
    Aud (Tree.root (rts b) : Nat) 4 k N bs (bs.map (fun x => ansOf (textS ((b + 40 * k) % 256)) (nint (Tree.path (rts b) k)) N x.toNat)) := by
  refine ⟨⟨ha, by simp, by decide, by decide, by omega, by omega⟩, fun i hi => ?_⟩
  rw [List.length_map] at hi
  have hb := ha.2.2.2 _ (List.getElem_mem hi)
  have e1 : (bs.map (fun x => ansOf (textS ((b + 40 * k) % 256)) (nint (Tree.path (rts b) k)) N x.toNat)).getD i ans0 = ansOf (textS ((b + 40 * k) % 256)) (nint (Tree.path (rts b) k)) N (bs[i]).toNat := by
    simp [List.getD, hi]
  have e2 : bs.getD i 0 = bs[i] := by simp [List.getD, hi]
  rw [e1, e2]
  exact ans_true (n := 4) (textS_size _) (rts_len b) (by decide) hk (rts_may b) (rts_at b hk) (by unfold BkOk at hb; omega)
theorem ints_set {w : World} {g n c : Nat} {xs : List Int} (h : Ints w (some ⟨g, 0, none⟩) n c xs) {d : Addr} (x : Value) (hd : g ≠ d.block) : Ints (w.setCell d x) (some ⟨g, 0, none⟩) n c xs := by
  refine ⟨h.1, ?_⟩
  rcases h.2 with h | h | ⟨h1, h2, b, off, e, hc⟩
  · exact .inl h
  · exact .inr (.inl h)
  · refine .inr (.inr ⟨h1, h2, b, off, e, fun i hi => ?_⟩)
    simp only [Option.some.injEq, Addr.mk.injEq, and_true] at e
    have hk : (w.setCell d x).heap[b]? = w.heap[b]? := Below.heap_setCell _ _ _ _ (by rw [← e.1]; exact hd)
    rw [← hc i hi]
    simp [World.cell?, hk]
theorem two_put {w : World} {b : Nat} {x y x' y' : Value} {T : TypeId} (h : w.heap[b]? = some (.cells #[x, y] T (0, 0))) : ((w.setCell ⟨b, 0, none⟩ x').setCell ⟨b, 1, none⟩ y').heap[b]? = some (.cells #[x', y'] T (0, 0)) := by
  rw [heap_setCell_same _ b 1 _ T y' (heap_setCell_same w b 0 _ T x' h)]
  rfl
theorem aud_other {r sh st q : Int} {x : Int} {z : Ans} (h : ¬ AnsOk r sh st q x.toNat z) : decide (Aud r sh st q [x] [z]) = false := decide_eq_false (fun ha => h (ha.2 0 (by simp)))
theorem aud_count {r sh st q : Int} {bs : List Int} {zs : List Ans} (h : zs.length ≠ bs.length) : decide (Aud r sh st q bs zs) = false := decide_eq_false (fun ha => h ha.1.2.1)
set_option maxRecDepth 100000 in
set_option maxHeartbeats 4000000 in
theorem AuditMoved_walk {w : World} (a0 : Int) (w0 : (Lit.int .i64 a0).wf = true) (a1 : Int) (w1 : (Lit.int .i64 a1).wf = true)
    (q : Int) (wfq : (Lit.int .i64 q).wf = true) (ba : Option Addr) (bn bc : Nat) (bs : List Int) (hB : Ints w ba bn bc bs) (rB : bn * 8 ≤ 140737488351232) :
    Calls Try.prog 4 #[.int .i64 a0, .int .i64 a1, .agg #[.int .i64 q, .slice ba bn bc]] w fun e w' => e = .returned (.bool true) ∧ Below w.heap.size w w' := by
  obtain ⟨b, eb⟩ : ∃ b, b = (a0 % 256).toNat := ⟨_, rfl⟩
  have hb : b < 256 := by omega
  obtain ⟨k, hk, ek⟩ := and_3' a1
  obtain ⟨c, hc, ec⟩ := and_3' q
  have BX := hide (heap_alloc_new w (.cells #[.int .i64 q, .slice ba bn bc] 29))
  have HB := hide (below_alloc w (.cells #[.int .i64 q, .slice ba bn bc] 29))
  have EB := hide eb
  clear hB rB eb
  go_enter Try.func4, Try.ntmps4
  go_upto_region 1 with fail
  generalize (w.alloc (.cells #[.int .i64 q, .slice ba bn bc] 29)) = W at *
  go_wp2_with fail
  refine (awake12_any _).mono ?_
  rintro e w1 ⟨rfl, b1⟩
  replace BX := hide ((b1.block _ (lt_of_block (unhide BX))).trans (unhide BX))
  replace HB := hide (bt (unhide HB) b1)
  clear b1
  go_upto_region 4 with fail
  have HB1 := hide (Below.refl w1.heap.size w1)
  go_wp2
  go_loopw [7, 8] (fun rv iv wr => ∃ i : Nat, i ≤ 4 ∧ iv = .int .i64 i ∧ Hid (OwnL wr w1.heap.size 3 rv ((nint ((rts b).take i)).map (Value.int .i64))) ∧ Hid (Below w1.heap.size w1 wr)) (fun _ iv _ => 4 - (intOf iv).toNat)
  case atStart => exact ⟨0, by omega, rfl, hide (OwnL.nil _ _ _), HB1⟩
  case round =>
    obtain ⟨i, hi, rfl, O1, HW⟩ := hrel
    have hsz := (unhide HW).size
    obtain ⟨p1, q1, e1⟩ := (unhide O1).form
    rw [List.length_map, nint_len, List.length_take, rts_len, Nat.min_eq_left hi] at e1
    subst e1
    by_cases hlt : i < 4
    · have hlt' : (i : Int) < 4 := by omega
      have e8 := by40 a0 i
      rw [← unhide EB] at e8
      go_wp2_with fail
      rw [e8]
      refine (text_any ((b + 40 * i) % 256) (Nat.mod_lt _ (by decide)) _).mono ?_
      rintro e w2 ⟨rfl, b2⟩
      obtain ⟨s, es⟩ : ∃ s, s = textS ((b + 40 * i) % 256) := ⟨_, rfl⟩
      have hss : s.size = 32 := by rw [es]; exact textS_size _
      have hrt := root_text ((b + 40 * i) % 256)
      have hsn := rts_snoc b i hlt
      rw [← es] at hrt hsn ⊢
      have hll : (nint (leavesL s)).length = 4 := by rw [nint_len, leaves_32 hss]
      obtain ⟨l, el⟩ : ∃ l, l = leavesL s := ⟨_, rfl⟩
      obtain ⟨R, eR⟩ : ∃ R, R = Tree.root (leavesL s) := ⟨_, rfl⟩
      rw [← eR] at hrt hsn
      rw [← el] at hrt hll
      have HRT := hide hrt
      have HSN := hide hsn
      have HLL := hide hll
      have EL := hide el
      have HW2 := hide (bt (unhide HW) b2)
      have O2 := hide ((unhide O1).below b2)
      clear es hrt hsn hll el eR b2 HW O1 e8
      go_wp2_with fail
      refine (refLeaves_any s _ (by omega)).mono ?_
      rintro e w3 ⟨v2, rfl, O3, b3⟩
      rw [← unhide EL] at O3
      obtain ⟨p2, c2, rfl, S2⟩ := O3.ints
      rw [unhide HLL] at S2 ⊢
      have HI := hide S2
      replace HW2 := hide (bt (unhide HW2) b3)
      replace O2 := hide ((unhide O2).below b3)
      clear O3 S2 b3
      go_wp2_with fail
      refine (refRoot_any _ _ _ (nint l) _ (unhide HI) (by decide)).mono ?_
      rintro e w4 ⟨he, b4⟩
      rw [unhide HRT] at he
      subst he
      replace HW2 := hide (bt (unhide HW2) b4)
      replace O2 := hide ((unhide O2).below b4)
      have hsz4 := (unhide HW2).size
      have hl1 : ((nint ((rts b).take i)).map (Value.int .i64)).length ≤ 6 := by rw [List.length_map, nint_len, List.length_take, rts_len]; omega
      clear b4 HI
      go_wp2_with (at_builtin; go_loud (refine wpList_push w4 (by rfl) (.tmp 40) (.tmp 42) 26 (by rfl) w1.heap.size 3 (.int .i64 0) 8 Try.underlying26 Try.infoInt rfl _ _ (by rfl) (unhide O2) _ (by rfl) (by rfl) (by omega) (by omega) hsz4 ?_); intro v1' wa O1' P1; have HBa := hide (P1.below (unhide O2) (unhide HW2) (Nat.le_refl _) hsz4); have OO := hide O1'; clear O1' P1)
      go_roundw
      case rel =>
        refine ⟨i + 1, by omega, by go_num, hide ?_, HBa⟩
        rw [unhide HSN, nint_append, List.map_append]
        exact unhide OO
      case measure => simp [intOf]; omega
    · have hlt' : ¬ (i : Int) < 4 := by omega
      obtain rfl : i = 4 := by omega
      have htk : (rts b).take 4 = rts b := List.take_of_length_le (by rw [rts_len]; decide)
      rw [htk] at O1
      clear htk
      have hlr : (nint (rts b)).length = 4 := by rw [nint_len, rts_len]
      obtain ⟨pr, cr, ev, IR⟩ := (unhide O1).ints
      rw [hlr] at ev IR
      simp only [Value.slice.injEq, true_and] at ev
      obtain ⟨rfl, rfl⟩ := ev
      have HR := hide IR
      replace BX := hide (((unhide HW).block _ (lt_of_block (unhide BX))).trans (unhide BX))
      replace HB := hide (bt (unhide HB) (unhide HW))
      clear O1 HW HB1 hsz
      go_wp2_with fail
      refine (refRoot_any _ _ _ (nint (rts b)) _ (unhide HR) (by decide)).mono ?_
      rintro e w5 ⟨he, b5⟩
      rw [rts_root b] at he
      obtain ⟨R, eR⟩ : ∃ R, R = Tree.root (rts b) := ⟨_, rfl⟩
      rw [← eR] at he
      have ER := hide eR
      subst he
      replace HR := hide ((unhide HR).below b5)
      replace BX := hide ((b5.block _ (lt_of_block (unhide BX))).trans (unhide BX))
      replace HB := hide (bt (unhide HB) b5)
      clear b5 eR
      obtain ⟨x0, x1⟩ := box_2 (unhide BX)
      go_upto_region 12 with fail
      obtain ⟨N, eN, hN⟩ : ∃ N : Nat, q % 4294967296 / 4 = (N : Int) ∧ N < 1073741824 := ⟨(q % 4294967296 / 4).toNat, by omega, by omega⟩
      rw [eN]
      have hbw := below_two w5 (.cells #[.int .i64 (c : Int)] 3) (.cells #[.int .i64 (N : Int), .slice (some ⟨w5.heap.size, 0, none⟩) 1 1] 29)
      have HK := hide ((int_lit w5 [(c : Int)] 3 w5.heap.size #[.int .i64 (c : Int)] 1 rfl rfl rfl).below (below_alloc _ (.cells #[.int .i64 (N : Int), .slice (some ⟨w5.heap.size, 0, none⟩) 1 1] 29)))
      have BQ := hide (two_new w5 (.cells #[.int .i64 (c : Int)] 3) (.cells #[.int .i64 (N : Int), .slice (some ⟨w5.heap.size, 0, none⟩) 1 1] 29))
      replace HR := hide ((unhide HR).below hbw)
      replace HB := hide (bt (unhide HB) hbw)
      clear hbw x0 x1 BX eN
      generalize ((w5.alloc (.cells #[.int .i64 (c : Int)] 3)).alloc (.cells #[.int .i64 (N : Int), .slice (some ⟨w5.heap.size, 0, none⟩) 1 1] 29)) = W6 at *
      generalize w5.heap.size + 1 = gq at *
      generalize w5.heap.size = gl at *
      go_wp2_with fail
      refine (refPath_any _ _ _ (nint (rts b)) k _ (unhide HR) (by decide)).mono ?_
      rintro e w7 ⟨v7, he, O7, b7⟩
      rw [rts_path b hk] at he O7
      subst he
      have hps := path_sls b hk
      obtain ⟨p, ep⟩ : ∃ p, p = nint (Tree.path (rts b) k) := ⟨_, rfl⟩
      rw [← ep] at hps O7
      have EP := hide ep
      obtain ⟨pp, pc, rfl, IP⟩ := O7.ints
      rw [hps.2] at IP ⊢
      have HP := hide IP
      have HPS := hide hps
      replace HR := hide ((unhide HR).below b7)
      replace HK := hide ((unhide HK).below b7)
      replace BQ := hide ((b7.block _ (lt_of_block (unhide BQ))).trans (unhide BQ))
      replace HB := hide (bt (unhide HB) b7)
      clear b7 O7 IP hps ep
      have e8 : IntKind.u8.wrap (IntKind.i64.wrap (a0 + IntKind.i64.wrap (40 * (k : Int)))) = (((b + 40 * k) % 256 : Nat) : Int) := by rw [unhide EB]; exact by40' a0 hk
      have E8 := hide e8
      obtain ⟨x0, x1⟩ := box_2 (unhide BQ)
      have k0 := kept_cell (B := w7.heap.size) x0 (cell_lt x0)
      have k1 := kept_cell (B := w7.heap.size) x1 (cell_lt x1)
      clear x0 x1
      go_upto_region 13 with fail
      refine wp_region_ord_then (S := Below w7.heap.size w7) [(true, 0), (true, 1), (true, 2), (true, 3), (true, 4), (true, 6), (true, 7), (false, 5), (false, 8), (true, 9), (true, 10), (true, 11), (true, 12)] (List.cons_ne_nil _ _) (by kernel_rfl) (by kernel_rfl) (by kernel_rfl) (by kernel_rfl) (by kernel_rfl) ((Below.refl _ _).drew) ?_
      simp only [List.dropLast_cons_cons, List.dropLast_singleton, List.getLast_cons_cons, List.getLast_singleton, withOps, List.map_cons, List.map_nil, List.getElem?_cons_succ, List.getElem?_cons_zero]
      repeat (refine walkH_read (by rfl) (by (intro gx; go_simp; try (with_reducible rfl))) ?_; try simp only [Act.put, List.setIfInBounds_toArray, List.set_cons_zero, List.set_cons_succ])
      refine walkH_do rfl (fun K hK => ?_)
      go_simp
      rw [show ((b : Int) + 40 * (k : Int)) % 256 = (((b + 40 * k) % 256 : Nat) : Int) by omega]
      refine (text_any ((b + 40 * k) % 256) (Nat.mod_lt _ (by decide)) _).mono ?_
      rintro e w8 ⟨rfl, b8⟩
      obtain ⟨s, es⟩ : ∃ s, s = textS ((b + 40 * k) % 256) := ⟨_, rfl⟩
      rw [← es]
      have ES := hide es
      have hb8 : Below w7.heap.size w7 w8 := ((Below.refl _ _).drew).trans b8
      refine hK _ _ hb8 ?_
      clear hK K es b8 e8
      try simp only [Act.put, List.setIfInBounds_toArray, List.set_cons_zero, List.set_cons_succ]
      repeat (refine walkH_read (by rfl) (by (intro gx; go_simp; try (with_reducible rfl))) ?_; try simp only [Act.put, List.setIfInBounds_toArray, List.set_cons_zero, List.set_cons_succ])
      refine walkH_do rfl (fun K hK => ?_)
      go_simp
      have ha1 : AskM (N : Int) [(c : Int)] := ask_m (by omega) (by simp) (by simp) (fun x hx => by rw [List.mem_singleton.1 hx]; unfold BkOk; omega)
      have hr1 := rsp_some b hk ((b + 40 * k) % 256) ha1
      have ht1 := aud_true b hk ha1
      have hm1 := moved_place (q := (N : Int)) hb hk hc
      have hm2 := moved_block (q := (N : Int)) hb hk hc
      rw [← unhide EP, ← unhide ES] at hr1 ht1 hm1 hm2
      rw [← unhide ER] at ht1 hm1 hm2
      simp only [List.map_cons, List.map_nil, Int.toNat_natCast] at hr1 ht1
      obtain ⟨z, ez⟩ : ∃ z, z = ansOf s p N c := ⟨_, rfl⟩
      have hzl : z.path.length = 4 := by
        rw [ez]
        show (nint (Tree.path (leavesL s) c) ++ p).length = 4
        rw [List.length_append, nint_len, Tree.path_len 4 (leavesL s) c (by rw [unhide ES]; exact textS_mod _) (by decide), dep_4 c hc, (unhide HPS).2]
      rw [← ez] at hr1 ht1 hm1 hm2
      have A1 := hide ha1
      have R1 := hide hr1
      have T1 := hide (decide_eq_true ht1)
      have M1 := hide hm1
      have M2 := hide hm2
      have EZ := hide ez
      have HZL := hide hzl
      have HPZ : Hid (∀ j, j < 1 → ([z].getD j ans0).path.length ≤ 140737488351232) := hide (fun j hj => by
        obtain rfl : j = 0 := by omega
        show z.path.length ≤ _
        omega)
      clear ha1 hr1 ht1 hm1 hm2 ez hzl
      refine (auditRespond_any s _ _ _ p N _ _ _ [(c : Int)] _ ((unhide HP).below hb8) ((unhide HK).below hb8) (by decide) (by decide)).mono ?_
      rintro e w9 ⟨v9, us, he, O9, b9⟩
      rw [unhide R1] at he O9
      subst he
      obtain ⟨a9, c9, ev, V9⟩ := O9.ansV
      simp only [List.length_cons, List.length_nil, Nat.zero_add] at ev V9
      subst ev
      have HV := hide V9
      have hb9 : Below w7.heap.size w7 w9 := bt hb8 b9
      refine hK _ _ hb9 ?_
      clear hK K O9 V9 b9 hb8
      try simp only [Act.put, List.setIfInBounds_toArray, List.set_cons_zero, List.set_cons_succ]
      repeat (refine walkH_read (by rfl) (by (intro gx; go_simp; try (with_reducible rfl))) ?_; try simp only [Act.put, List.setIfInBounds_toArray, List.set_cons_zero, List.set_cons_succ])
      refine lastPost_of_list ?_
      simp only [List.cons_append, List.nil_append]
      go_wp2_with fail
      refine NoPanic.normal ?_
      replace HR := hide ((unhide HR).below hb9)
      replace HP := hide ((unhide HP).below hb9)
      replace HK := hide ((unhide HK).below hb9)
      replace BQ := hide ((hb9.block _ (lt_of_block (unhide BQ))).trans (unhide BQ))
      replace HB := hide (bt (unhide HB) hb9)
      clear hb9 k0 k1
      obtain ⟨x0, x1⟩ := box_2 (unhide BQ)
      go_wp2_with (go_at_call 10; refine (num_any _ _).mono ?_; rintro e w' ⟨rfl, hw'⟩; rw [hw']; clear hw' w')
      refine (auditCheck_any _ _ _ _ _ _ _ [(c : Int)] _ _ _ [z] _ (unhide HK) (unhide HV) (by decide) (unhide HPZ)).mono ?_
      rintro e w10 ⟨he, b10⟩
      rw [unhide T1] at he
      subst he
      replace HR := hide ((unhide HR).below b10)
      replace HP := hide ((unhide HP).below b10)
      replace HK := hide ((unhide HK).below b10)
      replace HV := hide ((unhide HV).below b10)
      replace BQ := hide ((b10.block _ (lt_of_block (unhide BQ))).trans (unhide BQ))
      replace HB := hide (bt (unhide HB) b10)
      clear b10 x0 x1
      obtain ⟨x0, x1⟩ := box_2 (unhide BQ)
      have x2 : w10.cell? ⟨gl, 0, none⟩ = some (.int .i64 (c : Int)) := by
        rcases (unhide HK).2.two with h | ⟨b', o', e, h⟩
        · omega
        · simp only [Option.some.injEq, Addr.mk.injEq, and_true] at e
          obtain ⟨rfl, rfl⟩ := e
          exact h 0 (by decide)
      have k0 := kept_cell (B := w10.heap.size) x0 (cell_lt x0)
      have k1 := kept_cell (B := w10.heap.size) x1 (cell_lt x1)
      have k2 := kept_cell (B := w10.heap.size) x2 (cell_lt x2)
      clear x0 x1 x2
      obtain ⟨d, hd⟩ : ∃ d : Nat, (c + 1) % 4 = d := ⟨_, rfl⟩
      have hd4 : d < 4 := by omega
      have ed : bits .and .i64 (IntKind.i64.wrap ((c : Int) + 1)) 3 = (d : Int) := by rw [and3_next c hc, hd]
      go_upto_region 16 with fail
      refine wp_region_ord2 (S := Below w10.heap.size w10) [0, 1, 2, 3, 4, 5, 6, 7] 8 10 [(true, 9), (false, 10), (false, 11)] [(false, 8), (true, 9), (false, 11)] (by kernel_rfl) (by kernel_rfl) (by kernel_rfl) (by kernel_rfl) ((Below.refl _ _).drew) ?_
      simp only [withOps, List.map_cons, List.map_nil, List.getElem?_cons_succ, List.getElem?_cons_zero]
      repeat (refine walkH_read (by rfl) (by (intro gx; go_simp; try (with_reducible rfl))) ?_; try simp only [Act.put, List.setIfInBounds_toArray, List.set_cons_zero, List.set_cons_succ])
      refine' (fun (H : Later _) => ?main) (Later.mk ?prf)
      case main =>
        refine walkH_both ?_ ?_
        · refine walkH_do rfl (fun K hK => ?_)
          go_simp
          have hbA : Below w10.heap.size w10 (w10.alloc (.cells #[.int .i64 (d : Int)] 3)).drew := by go_grown
          refine hK _ _ hbA ?_
          clear hK K
          try simp only [Act.put, List.setIfInBounds_toArray, List.set_cons_zero, List.set_cons_succ]
          repeat (refine walkH_read (by rfl) (by (intro gx; go_simp; try (with_reducible rfl))) ?_; try simp only [Act.put, List.setIfInBounds_toArray, List.set_cons_zero, List.set_cons_succ])
          refine walkH_do rfl (fun K hK => ?_)
          go_simp
          refine hK _ _ (bt hbA (below_alloc _ _)) ?_
          clear hK K
          try simp only [Act.put, List.setIfInBounds_toArray, List.set_cons_zero, List.set_cons_succ]
          refine walkH_do rfl (fun K hK => ?_)
          go_simp
          refine hK _ _ (bt hbA (below_alloc _ _)) ?_
          clear hK K
          try simp only [Act.put, List.setIfInBounds_toArray, List.set_cons_zero, List.set_cons_succ]
          refine walkH_nil ?_
          refine NoPanic.normal ?_
          have H11 : Hid (Below w10.heap.size w10 ((w10.alloc (.cells #[.int .i64 (d : Int)] 3)).alloc (.cells #[.int .i64 (N : Int), .slice (some ⟨w10.heap.size, 0, none⟩) 1 1] 29)).drew) := hide (by go_grown)
          have HY : Hid (Ints ((w10.alloc (.cells #[.int .i64 (d : Int)] 3)).alloc (.cells #[.int .i64 (N : Int), .slice (some ⟨w10.heap.size, 0, none⟩) 1 1] 29)).drew (some ⟨w10.heap.size, 0, none⟩) 1 1 [(d : Int)]) :=
            hide ((int_lit w10 [(d : Int)] 3 w10.heap.size #[.int .i64 (d : Int)] 1 rfl rfl rfl).below ((below_alloc _ _).trans (Below.refl _ _).drew))
          have BY : Hid (((w10.alloc (.cells #[.int .i64 (d : Int)] 3)).alloc (.cells #[.int .i64 (N : Int), .slice (some ⟨w10.heap.size, 0, none⟩) 1 1] 29)).drew.heap[w10.heap.size + 1]? = some (.cells #[.int .i64 (N : Int), .slice (some ⟨w10.heap.size, 0, none⟩) 1 1] 29 (0, 0))) := hide (two_new w10 _ _)
          clear hbA
          generalize ((w10.alloc (.cells #[.int .i64 (d : Int)] 3)).alloc (.cells #[.int .i64 (N : Int), .slice (some ⟨w10.heap.size, 0, none⟩) 1 1] 29)).drew = W11 at *
          obtain ⟨gy, ey⟩ : ∃ gy, gy = w10.heap.size + 1 := ⟨_, rfl⟩
          rw [← ey] at BY ⊢
          obtain ⟨g2, e2⟩ : ∃ g2, g2 = w10.heap.size := ⟨_, rfl⟩
          rw [← e2] at BY HY ⊢
          clear ey e2
          revert H11; revert HY; revert BY; revert W11; revert gy; revert g2
          exact H.get
        · refine walkH_do rfl (fun K hK => ?_)
          go_simp
          have hbA : Below w10.heap.size w10 (w10.alloc (.cells #[.int .i64 0, .slice none 0 0] 29)).drew := by go_grown
          refine hK _ _ hbA ?_
          clear hK K
          try simp only [Act.put, List.setIfInBounds_toArray, List.set_cons_zero, List.set_cons_succ]
          refine walkH_do rfl (fun K hK => ?_)
          go_simp
          refine hK _ _ (bt hbA (below_alloc _ _)) ?_
          clear hK K
          try simp only [Act.put, List.setIfInBounds_toArray, List.set_cons_zero, List.set_cons_succ]
          have r9 : ((w10.alloc (.cells #[.int .i64 0, .slice none 0 0] 29)).alloc (.cells #[.int .i64 (d : Int)] 3)).drew.heap[w10.heap.size]? = some (.cells #[.int .i64 0, .slice none 0 0] 29 (0, 0)) :=
            ((below_alloc (w10.alloc (.cells #[.int .i64 0, .slice none 0 0] 29)) (.cells #[.int .i64 (d : Int)] 3)).block w10.heap.size (by simp)).trans (heap_alloc_new w10 _)
          have HY0 : Ints ((w10.alloc (.cells #[.int .i64 0, .slice none 0 0] 29)).alloc (.cells #[.int .i64 (d : Int)] 3)).drew (some ⟨w10.heap.size + 1, 0, none⟩) 1 1 [(d : Int)] :=
            (int_lit (w10.alloc (.cells #[.int .i64 0, .slice none 0 0] 29)) [(d : Int)] 3 (w10.heap.size + 1) #[.int .i64 (d : Int)] 1 (by simp) rfl rfl).below (Below.refl _ _).drew
          have hb4 : Below w10.heap.size w10 ((w10.alloc (.cells #[.int .i64 0, .slice none 0 0] 29)).alloc (.cells #[.int .i64 (d : Int)] 3)).drew := by go_grown
          clear hbA
          generalize ((w10.alloc (.cells #[.int .i64 0, .slice none 0 0] 29)).alloc (.cells #[.int .i64 (d : Int)] 3)).drew = w4 at *
          obtain ⟨d0, d1⟩ := box_2 r9
          have f0 := free_of_row r9 0
          have f1 := free_of_row r9 1
          repeat (refine walkH_read (by rfl) (by (intro gx; go_simp; try (with_reducible rfl))) ?_; try simp only [Act.put, List.setIfInBounds_toArray, List.set_cons_zero, List.set_cons_succ])
          refine walkH_do rfl (fun K hK => ?_)
          go_simp
          have hb5 : Below w10.heap.size w10 ((w4.setCell ⟨w10.heap.size, 0, none⟩ (.int .i64 (N : Int))).setCell ⟨w10.heap.size, 1, none⟩ (.slice (some ⟨w10.heap.size + 1, 0, none⟩) 1 1)) := (hb4.setCell (Nat.le_refl _) _).setCell (Nat.le_refl _) _
          refine hK _ _ hb5 ?_
          clear hK K
          try simp only [Act.put, List.setIfInBounds_toArray, List.set_cons_zero, List.set_cons_succ]
          refine walkH_nil ?_
          refine NoPanic.normal ?_
          have H11 := hide hb5
          have BY := hide (two_put (x' := .int .i64 (N : Int)) (y' := .slice (some ⟨w10.heap.size + 1, 0, none⟩) 1 1) r9)
          have HY := hide (ints_set (ints_set HY0 (d := ⟨w10.heap.size, 0, none⟩) (.int .i64 (N : Int)) (by simp)) (d := ⟨w10.heap.size, 1, none⟩) (.slice (some ⟨w10.heap.size + 1, 0, none⟩) 1 1) (by simp))
          clear hb4 hb5 d0 d1 f0 f1 r9 HY0
          generalize ((w4.setCell ⟨w10.heap.size, 0, none⟩ (.int .i64 (N : Int))).setCell ⟨w10.heap.size, 1, none⟩ (.slice (some ⟨w10.heap.size + 1, 0, none⟩) 1 1)) = W11 at *
          obtain ⟨g2, e2⟩ : ∃ g2, g2 = w10.heap.size + 1 := ⟨_, rfl⟩
          rw [← e2] at BY HY ⊢
          obtain ⟨gy, ey⟩ : ∃ gy, gy = w10.heap.size := ⟨_, rfl⟩
          rw [← ey] at BY ⊢
          clear ey e2
          revert H11; revert HY; revert BY; revert W11; revert gy; revert g2
          exact H.get
      case prf =>
        intro g2 gy W11 BY HY H11
        clear k0 k1 k2
        replace HR := hide ((unhide HR).below (unhide H11))
        replace HP := hide ((unhide HP).below (unhide H11))
        replace HK := hide ((unhide HK).below (unhide H11))
        replace HV := hide ((unhide HV).below (unhide H11))
        replace BQ := hide (((unhide H11).block _ (lt_of_block (unhide BQ))).trans (unhide BQ))
        replace HB := hide (bt (unhide HB) (unhide H11))
        clear H11
        obtain ⟨x0, x1⟩ := box_2 (unhide BQ)
        have x2 : W11.cell? ⟨gl, 0, none⟩ = some (.int .i64 (c : Int)) := by
          rcases (unhide HK).2.two with h | ⟨b', o', e, h⟩
          · omega
          · simp only [Option.some.injEq, Addr.mk.injEq, and_true] at e
            obtain ⟨rfl, rfl⟩ := e
            exact h 0 (by decide)
        have k0 := kept_cell (B := W11.heap.size) x0 (cell_lt x0)
        have k1 := kept_cell (B := W11.heap.size) x1 (cell_lt x1)
        have k2 := kept_cell (B := W11.heap.size) x2 (cell_lt x2)
        clear x0 x1 x2
        go_upto_region 17 with fail
        refine wp_region_ord2 (S := Below W11.heap.size W11) [0, 1, 2, 3, 4, 5, 6, 7, 8, 9] 10 12 [(true, 11), (false, 12), (false, 13)] [(false, 10), (true, 11), (false, 13)] (by kernel_rfl) (by kernel_rfl) (by kernel_rfl) (by kernel_rfl) ((Below.refl _ _).drew) ?_
        simp only [withOps, List.map_cons, List.map_nil, List.getElem?_cons_succ, List.getElem?_cons_zero]
        repeat (refine walkH_read (by rfl) (by (intro gx; go_simp; try (with_reducible rfl))) ?_; try simp only [Act.put, List.setIfInBounds_toArray, List.set_cons_zero, List.set_cons_succ])
        refine' (fun (H2 : Later _) => ?main) (Later.mk ?prf)
        case main =>
          refine walkH_both ?_ ?_
          · refine walkH_do rfl (fun K hK => ?_)
            go_simp
            have hbA : Below W11.heap.size W11 (W11.alloc (.cells #[.int .i64 (c : Int), .int .i64 (c : Int)] 3)).drew := by go_grown
            refine hK _ _ hbA ?_
            clear hK K
            try simp only [Act.put, List.setIfInBounds_toArray, List.set_cons_zero, List.set_cons_succ]
            repeat (refine walkH_read (by rfl) (by (intro gx; go_simp; try (with_reducible rfl))) ?_; try simp only [Act.put, List.setIfInBounds_toArray, List.set_cons_zero, List.set_cons_succ])
            refine walkH_do rfl (fun K hK => ?_)
            go_simp
            refine hK _ _ (bt hbA (below_alloc _ _)) ?_
            clear hK K
            try simp only [Act.put, List.setIfInBounds_toArray, List.set_cons_zero, List.set_cons_succ]
            refine walkH_do rfl (fun K hK => ?_)
            go_simp
            refine hK _ _ (bt hbA (below_alloc _ _)) ?_
            clear hK K
            try simp only [Act.put, List.setIfInBounds_toArray, List.set_cons_zero, List.set_cons_succ]
            refine walkH_nil ?_
            refine NoPanic.normal ?_
            have H12 : Hid (Below W11.heap.size W11 ((W11.alloc (.cells #[.int .i64 (c : Int), .int .i64 (c : Int)] 3)).alloc (.cells #[.int .i64 (N : Int), .slice (some ⟨W11.heap.size, 0, none⟩) 2 2] 29)).drew) := hide (by go_grown)
            have HZ : Hid (Ints ((W11.alloc (.cells #[.int .i64 (c : Int), .int .i64 (c : Int)] 3)).alloc (.cells #[.int .i64 (N : Int), .slice (some ⟨W11.heap.size, 0, none⟩) 2 2] 29)).drew (some ⟨W11.heap.size, 0, none⟩) 2 2 [(c : Int), (c : Int)]) :=
              hide ((int_lit W11 [(c : Int), (c : Int)] 3 W11.heap.size #[.int .i64 (c : Int), .int .i64 (c : Int)] 2 rfl rfl rfl).below ((below_alloc _ _).trans (Below.refl _ _).drew))
            have BZ : Hid (((W11.alloc (.cells #[.int .i64 (c : Int), .int .i64 (c : Int)] 3)).alloc (.cells #[.int .i64 (N : Int), .slice (some ⟨W11.heap.size, 0, none⟩) 2 2] 29)).drew.heap[W11.heap.size + 1]? = some (.cells #[.int .i64 (N : Int), .slice (some ⟨W11.heap.size, 0, none⟩) 2 2] 29 (0, 0))) := hide (two_new W11 _ _)
            clear hbA
            generalize ((W11.alloc (.cells #[.int .i64 (c : Int), .int .i64 (c : Int)] 3)).alloc (.cells #[.int .i64 (N : Int), .slice (some ⟨W11.heap.size, 0, none⟩) 2 2] 29)).drew = W12 at *
            obtain ⟨gz, ey⟩ : ∃ gz, gz = W11.heap.size + 1 := ⟨_, rfl⟩
            rw [← ey] at BZ ⊢
            obtain ⟨g3, e2⟩ : ∃ g3, g3 = W11.heap.size := ⟨_, rfl⟩
            rw [← e2] at BZ HZ ⊢
            clear ey e2
            revert H12; revert HZ; revert BZ; revert W12; revert gz; revert g3
            exact H2.get
          · refine walkH_do rfl (fun K hK => ?_)
            go_simp
            have hbA : Below W11.heap.size W11 (W11.alloc (.cells #[.int .i64 0, .slice none 0 0] 29)).drew := by go_grown
            refine hK _ _ hbA ?_
            clear hK K
            try simp only [Act.put, List.setIfInBounds_toArray, List.set_cons_zero, List.set_cons_succ]
            refine walkH_do rfl (fun K hK => ?_)
            go_simp
            refine hK _ _ (bt hbA (below_alloc _ _)) ?_
            clear hK K
            try simp only [Act.put, List.setIfInBounds_toArray, List.set_cons_zero, List.set_cons_succ]
            have r9 : ((W11.alloc (.cells #[.int .i64 0, .slice none 0 0] 29)).alloc (.cells #[.int .i64 (c : Int), .int .i64 (c : Int)] 3)).drew.heap[W11.heap.size]? = some (.cells #[.int .i64 0, .slice none 0 0] 29 (0, 0)) :=
              ((below_alloc (W11.alloc (.cells #[.int .i64 0, .slice none 0 0] 29)) (.cells #[.int .i64 (c : Int), .int .i64 (c : Int)] 3)).block W11.heap.size (by simp)).trans (heap_alloc_new W11 _)
            have HZ0 : Ints ((W11.alloc (.cells #[.int .i64 0, .slice none 0 0] 29)).alloc (.cells #[.int .i64 (c : Int), .int .i64 (c : Int)] 3)).drew (some ⟨W11.heap.size + 1, 0, none⟩) 2 2 [(c : Int), (c : Int)] :=
              (int_lit (W11.alloc (.cells #[.int .i64 0, .slice none 0 0] 29)) [(c : Int), (c : Int)] 3 (W11.heap.size + 1) #[.int .i64 (c : Int), .int .i64 (c : Int)] 2 (by simp) rfl rfl).below (Below.refl _ _).drew
            have hb4 : Below W11.heap.size W11 ((W11.alloc (.cells #[.int .i64 0, .slice none 0 0] 29)).alloc (.cells #[.int .i64 (c : Int), .int .i64 (c : Int)] 3)).drew := by go_grown
            clear hbA
            generalize ((W11.alloc (.cells #[.int .i64 0, .slice none 0 0] 29)).alloc (.cells #[.int .i64 (c : Int), .int .i64 (c : Int)] 3)).drew = w4 at *
            obtain ⟨d0, d1⟩ := box_2 r9
            have f0 := free_of_row r9 0
            have f1 := free_of_row r9 1
            repeat (refine walkH_read (by rfl) (by (intro gx; go_simp; try (with_reducible rfl))) ?_; try simp only [Act.put, List.setIfInBounds_toArray, List.set_cons_zero, List.set_cons_succ])
            refine walkH_do rfl (fun K hK => ?_)
            go_simp
            have hb5 : Below W11.heap.size W11 ((w4.setCell ⟨W11.heap.size, 0, none⟩ (.int .i64 (N : Int))).setCell ⟨W11.heap.size, 1, none⟩ (.slice (some ⟨W11.heap.size + 1, 0, none⟩) 2 2)) := (hb4.setCell (Nat.le_refl _) _).setCell (Nat.le_refl _) _
            refine hK _ _ hb5 ?_
            clear hK K
            try simp only [Act.put, List.setIfInBounds_toArray, List.set_cons_zero, List.set_cons_succ]
            refine walkH_nil ?_
            refine NoPanic.normal ?_
            have H12 := hide hb5
            have BZ := hide (two_put (x' := .int .i64 (N : Int)) (y' := .slice (some ⟨W11.heap.size + 1, 0, none⟩) 2 2) r9)
            have HZ := hide (ints_set (ints_set HZ0 (d := ⟨W11.heap.size, 0, none⟩) (.int .i64 (N : Int)) (by simp)) (d := ⟨W11.heap.size, 1, none⟩) (.slice (some ⟨W11.heap.size + 1, 0, none⟩) 2 2) (by simp))
            clear hb4 hb5 d0 d1 f0 f1 r9 HZ0
            generalize ((w4.setCell ⟨W11.heap.size, 0, none⟩ (.int .i64 (N : Int))).setCell ⟨W11.heap.size, 1, none⟩ (.slice (some ⟨W11.heap.size + 1, 0, none⟩) 2 2)) = W12 at *
            obtain ⟨g3, e2⟩ : ∃ g3, g3 = W11.heap.size + 1 := ⟨_, rfl⟩
            rw [← e2] at BZ HZ ⊢
            obtain ⟨gz, ey⟩ : ∃ gz, gz = W11.heap.size := ⟨_, rfl⟩
            rw [← ey] at BZ ⊢
            clear ey e2
            revert H12; revert HZ; revert BZ; revert W12; revert gz; revert g3
            exact H2.get
        case prf =>
          intro g3 gz W12 BZ HZ H12
          clear k0 k1 k2
          replace HR := hide ((unhide HR).below (unhide H12))
          replace HP := hide ((unhide HP).below (unhide H12))
          replace HK := hide ((unhide HK).below (unhide H12))
          replace HV := hide ((unhide HV).below (unhide H12))
          replace HY := hide ((unhide HY).below (unhide H12))
          replace BQ := hide (((unhide H12).block _ (lt_of_block (unhide BQ))).trans (unhide BQ))
          replace BY := hide (((unhide H12).block _ (lt_of_block (unhide BY))).trans (unhide BY))
          replace HB := hide (bt (unhide HB) (unhide H12))
          clear H12
          obtain ⟨x0, x1⟩ := box_2 (unhide BZ)
          have k0 := kept_cell (B := W12.heap.size) x0 (cell_lt x0)
          have k1 := kept_cell (B := W12.heap.size) x1 (cell_lt x1)
          clear x0 x1
          go_upto_region 18 with fail
          refine wp_region_ord_then (S := Below W12.heap.size W12) [(true, 0), (true, 1), (true, 2), (true, 3), (true, 4), (true, 6), (true, 7), (false, 5), (false, 8), (true, 9), (true, 10), (true, 11), (true, 12)] (List.cons_ne_nil _ _) (by kernel_rfl) (by kernel_rfl) (by kernel_rfl) (by kernel_rfl) (by kernel_rfl) ((Below.refl _ _).drew) ?_
          simp only [List.dropLast_cons_cons, List.dropLast_singleton, List.getLast_cons_cons, List.getLast_singleton, withOps, List.map_cons, List.map_nil, List.getElem?_cons_succ, List.getElem?_cons_zero]
          repeat (refine walkH_read (by rfl) (by (intro gx; go_simp; try (with_reducible rfl))) ?_; try simp only [Act.put, List.setIfInBounds_toArray, List.set_cons_zero, List.set_cons_succ])
          refine walkH_do rfl (fun K hK => ?_)
          have e8 := unhide E8
          go_simp
          rw [show ((b : Int) + 40 * (k : Int)) % 256 = (((b + 40 * k) % 256 : Nat) : Int) by omega]
          refine (text_any ((b + 40 * k) % 256) (Nat.mod_lt _ (by decide)) _).mono ?_
          rintro e w8 ⟨rfl, b8⟩
          rw [← unhide ES]
          have hb8 : Below W12.heap.size W12 w8 := ((Below.refl _ _).drew).trans b8
          refine hK _ _ hb8 ?_
          clear hK K b8 e8
          try simp only [Act.put, List.setIfInBounds_toArray, List.set_cons_zero, List.set_cons_succ]
          repeat (refine walkH_read (by rfl) (by (intro gx; go_simp; try (with_reducible rfl))) ?_; try simp only [Act.put, List.setIfInBounds_toArray, List.set_cons_zero, List.set_cons_succ])
          refine walkH_do rfl (fun K hK => ?_)
          go_simp
          have ha2 : AskM (N : Int) [(c : Int), (c : Int)] := ask_m (by omega) (by simp) (by simp) (fun x hx => by
            have : x = (c : Int) := by simpa using hx
            rw [this]; unfold BkOk; omega)
          have hr2 := rsp_some b hk ((b + 40 * k) % 256) ha2
          have ht2 := aud_true b hk ha2
          rw [← unhide EP, ← unhide ES] at hr2 ht2
          rw [← unhide ER] at ht2
          simp only [List.map_cons, List.map_nil, Int.toNat_natCast] at hr2 ht2
          rw [← unhide EZ] at hr2 ht2
          have R2 := hide hr2
          have T2 := hide (decide_eq_true ht2)
          have HPZ2 : Hid (∀ j, j < 2 → ([z, z].getD j ans0).path.length ≤ 140737488351232) := hide (fun j hj => by
            have hz := unhide HZL
            have : j = 0 ∨ j = 1 := by omega
            rcases this with rfl | rfl
            · show z.path.length ≤ _; omega
            · show z.path.length ≤ _; omega)
          clear ha2 hr2 ht2
          refine (auditRespond_any s _ _ _ p N _ _ _ [(c : Int), (c : Int)] _ ((unhide HP).below hb8) ((unhide HZ).below hb8) (by decide) (by decide)).mono ?_
          rintro e w13 ⟨v13, us13, he, O13, b13⟩
          rw [unhide R2] at he O13
          subst he
          obtain ⟨a13, c13, ev, V13⟩ := O13.ansV
          simp only [List.length_cons, List.length_nil, Nat.zero_add, Nat.reduceAdd] at ev V13
          subst ev
          have HV2 := hide V13
          have hb13 : Below W12.heap.size W12 w13 := bt hb8 b13
          refine hK _ _ hb13 ?_
          clear hK K O13 V13 b13 hb8
          try simp only [Act.put, List.setIfInBounds_toArray, List.set_cons_zero, List.set_cons_succ]
          repeat (refine walkH_read (by rfl) (by (intro gx; go_simp; try (with_reducible rfl))) ?_; try simp only [Act.put, List.setIfInBounds_toArray, List.set_cons_zero, List.set_cons_succ])
          refine lastPost_of_list ?_
          simp only [List.cons_append, List.nil_append]
          go_wp2_with fail
          refine NoPanic.normal ?_
          replace HK := hide ((unhide HK).below hb13)
          replace HY := hide ((unhide HY).below hb13)
          replace HZ := hide ((unhide HZ).below hb13)
          replace HV := hide ((unhide HV).below hb13)
          replace BQ := hide ((hb13.block _ (lt_of_block (unhide BQ))).trans (unhide BQ))
          replace BY := hide ((hb13.block _ (lt_of_block (unhide BY))).trans (unhide BY))
          replace BZ := hide ((hb13.block _ (lt_of_block (unhide BZ))).trans (unhide BZ))
          replace HB := hide (bt (unhide HB) hb13)
          clear hb13 k0 k1
          obtain ⟨m, hm⟩ : ∃ m : Nat, (k + 1) % 4 = m := ⟨_, rfl⟩
          have em : bits .and .i64 (IntKind.i64.wrap ((k : Int) + 1)) 3 = (m : Int) := by rw [and3_next k hk, hm]
          have em' : bits .and .i64 (wrap64 ((k : Int) + 1)) 3 = (m : Int) := by rw [wrap_next k hk, and3_plain, hm]
          have em2 : bits .and .i64 ((k : Int) + 1) 3 = (m : Int) := by rw [and3_plain, hm]
          have M1' := unhide M1
          rw [hm] at M1'
          have M2' := unhide M2
          rw [hd] at M2'
          have N1 : Hid (decide (Aud (R : Int) 4 (m : Int) N [(c : Int)] [z]) = false) := hide (aud_other M1')
          have N2 : Hid (decide (Aud (R : Int) 4 (k : Int) N [(d : Int)] [z]) = false) := hide (aud_other M2')
          have N3 : Hid (decide (Aud (R : Int) 4 (k : Int) N [(c : Int), (c : Int)] [z]) = false) := hide (aud_count (by simp))
          clear M1' M2' hm
          obtain ⟨x0, x1⟩ := box_2 (unhide BQ)
          go_wp2_with fail
          refine (auditCheck_any _ _ _ _ _ _ _ [(c : Int)] _ _ _ [z] _ (unhide HK) (unhide HV) (by decide) (unhide HPZ)).mono ?_
          rintro e w14 ⟨he, b14⟩
          rw [unhide N1] at he
          subst he
          replace HK := hide ((unhide HK).below b14)
          replace HY := hide ((unhide HY).below b14)
          replace HZ := hide ((unhide HZ).below b14)
          replace HV := hide ((unhide HV).below b14)
          replace HV2 := hide ((unhide HV2).below b14)
          replace BQ := hide ((b14.block _ (lt_of_block (unhide BQ))).trans (unhide BQ))
          replace BY := hide ((b14.block _ (lt_of_block (unhide BY))).trans (unhide BY))
          replace BZ := hide ((b14.block _ (lt_of_block (unhide BZ))).trans (unhide BZ))
          replace HB := hide (bt (unhide HB) b14)
          clear b14 x0 x1
          obtain ⟨x0, x1⟩ := box_2 (unhide BY)
          go_wp2_with fail
          refine (auditCheck_any _ _ _ _ _ _ _ [(d : Int)] _ _ _ [z] _ (unhide HY) (unhide HV) (by decide) (unhide HPZ)).mono ?_
          rintro e w15 ⟨he, b15⟩
          rw [unhide N2] at he
          subst he
          replace HK := hide ((unhide HK).below b15)
          replace HY := hide ((unhide HY).below b15)
          replace HZ := hide ((unhide HZ).below b15)
          replace HV := hide ((unhide HV).below b15)
          replace HV2 := hide ((unhide HV2).below b15)
          replace BQ := hide ((b15.block _ (lt_of_block (unhide BQ))).trans (unhide BQ))
          replace BY := hide ((b15.block _ (lt_of_block (unhide BY))).trans (unhide BY))
          replace BZ := hide ((b15.block _ (lt_of_block (unhide BZ))).trans (unhide BZ))
          replace HB := hide (bt (unhide HB) b15)
          clear b15 x0 x1
          obtain ⟨x0, x1⟩ := box_2 (unhide BZ)
          go_wp2_with fail
          refine (auditCheck_any _ _ _ _ _ _ _ [(c : Int), (c : Int)] _ _ _ [z] _ (unhide HZ) (unhide HV) (by decide) (unhide HPZ)).mono ?_
          rintro e w16 ⟨he, b16⟩
          rw [unhide N3] at he
          subst he
          replace HK := hide ((unhide HK).below b16)
          replace HY := hide ((unhide HY).below b16)
          replace HZ := hide ((unhide HZ).below b16)
          replace HV := hide ((unhide HV).below b16)
          replace HV2 := hide ((unhide HV2).below b16)
          replace BQ := hide ((b16.block _ (lt_of_block (unhide BQ))).trans (unhide BQ))
          replace BY := hide ((b16.block _ (lt_of_block (unhide BY))).trans (unhide BY))
          replace BZ := hide ((b16.block _ (lt_of_block (unhide BZ))).trans (unhide BZ))
          replace HB := hide (bt (unhide HB) b16)
          clear b16 x0 x1
          obtain ⟨x0, x1⟩ := box_2 (unhide BZ)
          go_wp2_with (go_at_call 10; refine (num_any _ _).mono ?_; rintro e w' ⟨rfl, hw'⟩; rw [hw']; clear hw' w')
          refine (auditCheck_any _ _ _ _ _ _ _ [(c : Int), (c : Int)] _ _ _ [z, z] _ (unhide HZ) (unhide HV2) (by decide) (unhide HPZ2)).mono ?_
          rintro e w17 ⟨he, b17⟩
          rw [unhide T2] at he
          subst he
          replace HB := hide (bt (unhide HB) b17)
          clear b17 x0 x1
          go_wp2
          go_ret
          exact ⟨rfl, unhide HB⟩
end Go.Proofs.Ytmphbajnadbggab
