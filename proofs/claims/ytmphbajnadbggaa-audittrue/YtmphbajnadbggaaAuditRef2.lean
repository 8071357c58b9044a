/- The document's own answers (ossuaryref1.Respond): a contract. -/
import Derived.Test.YtmphbajnadbggaaAuditRef
import Derived.Test.YtmphbajnadbggaaAnsMem
import Derived.Test.YtmphbajnadbggaaKRegs
namespace Go.Proofs.Ytmphbajnadbggaa
open Go.RowKit
set_option linter.unusedVariables false
set_option linter.unusedSimpArgs false
attribute [local go_sem ↓] Go.wp_at_zero Go.wp_at_succ
/-- the answer to block b -/
def ansOf (s : ByteArray) (p : List Int) (q : Int) (b : Nat) : Ans := ⟨blk s b, nint (Tree.path (leavesL s) b) ++ p, ((Seal.pair q (((leavesL s).getD b 0 : Nat) : Int) : Nat) : Int)⟩
def RspM (s : ByteArray) (p : List Int) (q : Int) (bs : List Int) : Prop := s.size = 32 ∧ (Sls p ∧ p.length ≤ 3) ∧ AskM q bs
instance rspDec (s : ByteArray) (p : List Int) (q : Int) (bs : List Int) : Decidable (RspM s p q bs) := by unfold RspM; exact inferInstance
def rspTo (s : ByteArray) (p : List Int) (q : Int) (bs : List Int) (k : Nat) : List Ans := (bs.take k).map fun b => ansOf s p q b.toNat
def rspP (s : ByteArray) (p : List Int) (q : Int) (bs : List Int) : List Ans × Int := if RspM s p q bs then (rspTo s p q bs bs.length, 0) else ([], 1200)
theorem rspP_no {s : ByteArray} {p : List Int} {q : Int} {bs : List Int} (h : ¬ RspM s p q bs) : rspP s p q bs = ([], 1200) := by unfold rspP; rw [if_neg h]
theorem rspP_yes {s : ByteArray} {p : List Int} {q : Int} {bs : List Int} (h : RspM s p q bs) : rspP s p q bs = (rspTo s p q bs bs.length, 0) := by unfold rspP; rw [if_pos h]
theorem rspTo_len (s : ByteArray) (p : List Int) (q : Int) (bs : List Int) (k : Nat) (h : k ≤ bs.length) : (rspTo s p q bs k).length = k := by simp [rspTo]; omega
theorem rspTo_snoc (s : ByteArray) (p : List Int) (q : Int) (bs : List Int) (k : Nat) (h : k < bs.length) : rspTo s p q bs (k + 1) = rspTo s p q bs k ++ [ansOf s p q (bs.getD k 0).toNat] := by
  unfold rspTo
  rw [List.take_add_one, List.map_append]
  simp [List.getD, List.getElem?_eq_getElem h]
theorem leaves_32 {s : ByteArray} (h : s.size = 32) : (leavesL s).length = 4 := by rw [leavesL, leavesTo_len, h]
theorem leaves_may (s : ByteArray) : Tree.May (leavesL s) := by
  intro x hx
  unfold leavesL leavesTo at hx
  obtain ⟨i, _, rfl⟩ := List.mem_map.1 hx
  exact Seal.of_lt _
theorem blk_32 {s : ByteArray} (h : s.size = 32) {b : Nat} (hb : b < 4) : blk s b = s.extract (8 * b) (8 * b + 8) := by
  unfold blk
  rw [h, show min (8 * b + 8) 32 = 8 * b + 8 by omega]
theorem wf_sl {q : Int} (h : Sl q) : (Lit.int .i64 q).wf = true := by
  obtain ⟨h1, h2⟩ := h
  obtain ⟨n, rfl⟩ : ∃ n : Nat, q = n := ⟨q.toNat, by omega⟩
  exact wf_nat (by omega)
theorem Try.infoAns : (Try.prog.info? 64).map (fun i => (i.zero, i.size, i.bytes)) = some (some (.agg #[.string ByteArray.empty, .slice none 0 0, .int .i64 0]), 3, 48) := by kernel_rfl
theorem apt_far {w : World} {B C : Nat} {e e' : TypeId} {v x : Value} {xs ys : List Value} {w' : World} (h : OwnL w B e v xs) (h' : OwnL w' C e' x ys) (hs : w'.heap.size ≤ B) : Apt v x := by
  intro g hg hg'
  have h1 := (h.lt hg).1
  have h2 := (h'.lt hg').2
  omega
/-- what Respond leaves: answers of the call's own, a number -/
def ansPost (r : List Ans × Int) (w : World) (e : Ending) (w' : World) : Prop := ∃ v us, e = .returned (.tuple #[v, .int .i64 r.2]) ∧ AnsO w' w.heap.size 64 3 v us r.1 ∧ Below w.heap.size w w'
theorem ownZ_mono {w : World} {B B' : Nat} {e : TypeId} {z n : Nat} {v : Value} {xs : List Value} (h : w.ownsRow B e z v n xs) (hB : B' ≤ B) : w.ownsRow B' e z v n xs := by
  rcases h with ⟨h1, h2 | ⟨g, cap, cur, e, hb, rest⟩⟩
  · exact ⟨h1, .inl h2⟩
  · exact ⟨h1, .inr ⟨g, cap, cur, e, Nat.le_trans hB hb, rest⟩⟩
theorem AnsO.mono {w : World} {B B' : Nat} {T E : TypeId} {v : Value} {us : List Value} {zs : List Ans} (h : AnsO w B T E v us zs) (hB : B' ≤ B) : AnsO w B' T E v us zs :=
  ⟨h.len, ownZ_mono h.outer hB, fun j x hx => (h.row j x hx).mono hB, h.apart⟩
set_option maxRecDepth 100000 in
set_option maxHeartbeats 4000000 in
theorem refRespond_yes (s : ByteArray) (pa : Option Addr) (pn pc : Nat) (p : List Int) (q : Int) (ba : Option Addr) (bn bc : Nat) (bs : List Int) (w : World) (hP : Ints w pa pn pc p) (hB : Ints w ba bn bc bs) (h : RspM s p q bs) :
    Calls Try.prog 22 #[.string s, .slice pa pn pc, .agg #[.int .i64 q, .slice ba bn bc]] w (ansPost (rspTo s p q bs bs.length, 0) w) := by
  obtain ⟨h32, hp, hask⟩ := h
  have hpl := hP.1
  have hbl := hB.1
  have hp3 : pn ≤ 3 := by omega
  have hb1 : 1 ≤ bn := by have := hask.2.1; omega
  have hb64 : bn ≤ 64 := by have := hask.2.2.1; omega
  have d1 : decide (Sls p ∧ pn ≤ 3) = true := decide_eq_true ⟨hp.1, hp3⟩
  have d2 := decide_eq_true hask
  have t32 : ((s.size : Int) != 32) = false := by rw [h32]; rfl
  obtain ⟨bb, bo, rfl, hcb⟩ : ∃ b off, ba = some ⟨b, off, none⟩ ∧ ∀ i, i < bn → w.cell? ⟨b, off + i, none⟩ = some (.int .i64 (bs.getD i 0)) := by
    rcases hB.2.two with h | h
    · omega
    · exact h
  have HBK : Hid (∀ k, k < bn → BkOk (bs.getD k 0)) := hide (fun k hk => by
    have e : bs.getD k 0 = bs[k]'(by omega) := by simp [List.getD, List.getElem?_eq_getElem (show k < bs.length by omega)]
    rw [e]; exact hask.2.2.2 _ (List.getElem_mem _))
  have HQ := hide (wf_sl hask.1)
  have HP := hide hP
  have HBI := hide hB
  have H32 := hide h32
  have hB0 := below_alloc w (.cells #[.int .i64 q, .slice (some ⟨bb, bo, none⟩) bn bc] 47)
  obtain ⟨x0, x1⟩ := ask_box w q (some ⟨bb, bo, none⟩) bn bc 47
  have HP0 := hide (hP.below hB0)
  have HBI0 := hide (hB.below hB0)
  have HB := hide hB0
  have hs0 : (w.alloc (.cells #[.int .i64 q, .slice (some ⟨bb, bo, none⟩) bn bc] 47)).heap.size = w.heap.size + 1 := by simp
  have hbx := hide (heap_alloc_new w (.cells #[.int .i64 q, .slice (some ⟨bb, bo, none⟩) bn bc] 47))
  clear hP hB hask hp hcb hB0 h32
  go_enter Try.func22, Try.ntmps22
  go_upto_region 1 with fail
  generalize (w.alloc (.cells #[.int .i64 q, .slice (some ⟨bb, bo, none⟩) bn bc] 47)) = W at *
  go_wp2_with (go_at_call 40; refine (refSealNums_any _ _ _ p 3 _ (unhide HP0) (by omega) (by decide)).mono ?_; rintro e w' ⟨rfl, hw'⟩; rw [d1, hw']; clear hw' w')
  refine (refAskMay_any q _ _ _ bs _ (unhide HBI0) (by omega)).mono ?_
  rintro e w1 ⟨rfl, b1⟩
  rw [d2]
  have BX := hide ((b1.block _ (lt_of_block (unhide hbx))).trans (unhide hbx))
  replace HP0 := hide ((unhide HP0).below b1)
  replace HBI0 := hide ((unhide HBI0).below b1)
  replace HB := hide (bt (unhide HB) b1)
  have hs1 := b1.size
  clear b1 hbx x0 x1 t32 d1 d2
  go_wp2_with fail
  refine (refLeaves_any s _ (by rw [unhide H32]; decide)).mono ?_
  rintro e w3 ⟨v3, rfl, O3, b3⟩
  obtain ⟨p3, c3, e3, S3⟩ := O3.ints
  rw [nint_len, leaves_32 (unhide H32)] at e3 S3
  subst e3
  have HL := hide S3
  replace BX := hide ((b3.block _ (lt_of_block (unhide BX))).trans (unhide BX))
  replace HP0 := hide ((unhide HP0).below b3)
  replace HBI0 := hide ((unhide HBI0).below b3)
  replace HB := hide (bt (unhide HB) b3)
  have hs3 := b3.size
  clear b3 O3 S3
  go_wp2
  go_loopw [9, 10] (fun ov iv wr => ∃ k : Nat, k ≤ bn ∧ iv = .int .i64 k ∧ Hid (∃ us, AnsO wr w3.heap.size 64 3 ov us (rspTo s p q bs k)) ∧ Hid (Below w3.heap.size w3 wr)) (fun _ iv _ => bn - (intOf iv).toNat)
  case atStart => exact ⟨0, by omega, rfl, hide ⟨[], AnsO.nil _ _ _ _⟩, hide (Below.refl _ _)⟩
  case round =>
    obtain ⟨k, hk, rfl, HO, HW⟩ := hrel
    obtain ⟨us, hO⟩ := unhide HO
    have hkl := rspTo_len s p q bs k (by omega)
    obtain ⟨pv, cv, ev⟩ := ownZ_slice hO.outer
    rw [hkl] at ev
    subst ev
    have HO' := hide hO
    clear HO hO
    have hszW := (unhide HW).size
    have bx := (((unhide HW).block _ (lt_of_block (unhide BX))).trans (unhide BX))
    have x0 : wr.cell? ⟨w.heap.size, 0, none⟩ = some (.int .i64 q) := by rw [cell_of_row _ _ 0 _ _ _ bx]; rfl
    have x1 : wr.cell? ⟨w.heap.size, 1, none⟩ = some (.slice (some ⟨bb, bo, none⟩) bn bc) := by rw [cell_of_row _ _ 1 _ _ _ bx]; rfl
    clear bx
    by_cases hlt : k < bn
    · have hlt' : (k : Int) < bn := by omega
      obtain ⟨b2, hbk, hb4⟩ : ∃ b : Nat, bs.getD k 0 = (b : Int) ∧ b < 4 := by
        have := unhide HBK k hlt
        unfold BkOk at this
        exact ⟨(bs.getD k 0).toNat, by omega, by omega⟩
      have cb : wr.cell? ⟨bb, bo + k, none⟩ = some (.int .i64 (b2 : Int)) := by
        have hI := (unhide HBI0).below (unhide HW)
        rcases hI.2.two with h | ⟨b', o', e, h⟩
        · omega
        · simp only [Option.some.injEq, Addr.mk.injEq, and_true] at e
          obtain ⟨rfl, rfl⟩ := e
          rw [h k hlt, hbk]
      have HBB := hide hbk
      clear hbk
      go_wp2_with fail
      refine (refpath_any 4 b2 _ _ (leavesL s) _ (by decide) (by decide) hb4 ((unhide HL).below (unhide HW)) (leaves_may s)).mono ?_
      rintro e w4 ⟨v4, rfl, O4, b4⟩
      obtain ⟨P, eP⟩ : ∃ P, P = Tree.path (leavesL s) b2 := ⟨_, rfl⟩
      rw [← eP] at O4
      have hPl : P.length < 4 := by
        rw [eP, Tree.path_len 4 (leavesL s) b2 (leaves_32 (unhide H32)) (by decide)]
        exact Tree.depth_le 4 b2 (by decide) hb4
      have EP := hide eP
      clear eP
      obtain ⟨p4, c4, ev4⟩ := O4.form
      rw [List.length_map, nint_len] at ev4
      subst ev4
      have HO4 := hide O4
      have hw4 := b4.size
      have HW4 := hide (bt (unhide HW) b4)
      have HA4 := hide ((unhide HO').below b4)
      clear O4 b4 x0 x1 cb
      have HP4 := hide ((unhide HP0).below (unhide HW4))
      go_upto_region 11 with (at_builtin; refine wpList_append_row _ (by rfl) _ _ 22 (by rfl) wr.heap.size 3 (.int .i64 0) 8 Try.underlying22 Try.infoInt rfl _ P.length ((nint P).map (Value.int .i64)) (by rfl) (by have := unhide HO4; unfold OwnL at this; rw [List.length_map, nint_len] at this; exact this) pa pn pc _ (p.map (Value.int .i64)) (by rfl) (unhide HP4).2 (by simp; omega) (int_at (unhide HP4).1) (ints_oneCell _ _) (by unfold maxLen; omega) (by omega) hw4 ?_; intro v5 w5 O5 P5; have P5' : w4.grownBy w5 (Value.slice p4 P.length c4).ownBlock := P5; have O5' : OwnL w5 wr.heap.size 3 v5 ((nint P ++ p).map (Value.int .i64)) := (by unfold OwnL; rw [List.map_append, List.length_append, List.length_map, List.length_map, nint_len, (unhide HP4).1]; exact O5); obtain ⟨p5, c5, ev5⟩ := O5'.form; rw [List.length_map] at ev5; subst ev5; have HO5 := hide O5'; have HG5 := hide P5'; clear O5 P5 O5' P5')
      have el5 : (nint P ++ p).length = (nint P).length + pn := by rw [List.length_append, hpl]
      rw [el5] at HO5
      clear el5
      have hfar : ∀ g, (Value.slice p4 P.length c4).ownBlock = some g → wr.heap.size ≤ g := fun g hg => ((unhide HO4).lt hg).1
      have HA5 := hide (AnsO.far (unhide HO') (unhide HA4) (unhide HG5) hfar)
      have HW5 := hide ((unhide HW4).grown (unhide HG5) (by omega) (fun g hg => Nat.le_trans hszW (hfar g hg)))
      have hw5 : wr.heap.size ≤ w5.heap.size := Nat.le_trans hw4 (unhide HG5).size
      clear hfar HG5 HO4 HA4 HW4 HP4
      have bx5 := (((unhide HW5).block _ (lt_of_block (unhide BX))).trans (unhide BX))
      have x0 : w5.cell? ⟨w.heap.size, 0, none⟩ = some (.int .i64 q) := by rw [cell_of_row _ _ 0 _ _ _ bx5]; rfl
      have hwb := lt_of_block (unhide BX)
      obtain ⟨lb, lo, el, hlc⟩ : ∃ b off, p3 = some ⟨b, off, none⟩ ∧ ∀ i, i < 4 → w3.cell? ⟨b, off + i, none⟩ = some (.int .i64 ((nint (leavesL s)).getD i 0)) := by
        rcases (unhide HL).2.two with h | h
        · omega
        · exact h
      subst el
      have hlt3 := cell_lt (hlc b2 hb4)
      have cl : w5.cell? ⟨lb, lo + b2, none⟩ = some (.int .i64 (((leavesL s).getD b2 0 : Nat) : Int)) := by
        rw [← nint_at]
        exact ((unhide HW5).cell hlt3).trans (hlc b2 hb4)
      obtain ⟨y, ey⟩ : ∃ y, y = (leavesL s).getD b2 0 := ⟨_, rfl⟩
      have hyw : (Lit.int .i64 (y : Int)).wf = true := by
        rw [ey]
        refine wf_nat ?_
        have hb' : b2 < (leavesL s).length := by rw [leaves_32 (unhide H32)]; exact hb4
        have e : (leavesL s).getD b2 0 = (leavesL s)[b2] := by simp [List.getD, List.getElem?_eq_getElem hb']
        rw [e]
        exact leaves_may s _ (List.getElem_mem hb')
      rw [← ey] at cl
      have EY := hide ey
      have HYW := hide hyw
      have k0 := kept_cell (B := w3.heap.size) x0 (by show w.heap.size < _; omega)
      have k1 := kept_cell (B := w3.heap.size) cl hlt3
      clear x0 cl bx5 hlc ey hyw hlt3
      obtain ⟨la, ela⟩ : ∃ la : Nat, 8 * (b2 : Int) = (la : Int) := ⟨8 * b2, by omega⟩
      have ela' : 8 * b2 = la := by omega
      have hla : la ≤ 24 := by omega
      have hwl : IntKind.wrap .i64 (la : Int) = (la : Int) := by simp only [IntKind.wrap_i64]; omega
      obtain ⟨ha, eha⟩ : ∃ ha : Nat, (la : Int) + 8 = (ha : Int) := ⟨la + 8, by omega⟩
      have eha' : la + 8 = ha := by omega
      have hwh : IntKind.wrap .i64 (ha : Int) = (ha : Int) := by simp only [IntKind.wrap_i64]; omega
      have hsl := fun w => run_slice_lh (P := Try.prog) w 9 s Try.underlying9 la ha (ha : Int) rfl (by omega) (by rw [unhide H32]; omega)
      obtain ⟨x, ex⟩ : ∃ x, x = s.extract la ha := ⟨_, rfl⟩
      rw [← ex] at hsl
      have EXB : Hid (x = blk s b2) := hide (by rw [blk_32 (unhide H32) hb4, ex, ela', eha'])
      clear ex ela' eha'
      have hb4' : (b2 : Int) < 4 := by omega
      refine wp_region_ord_then (S := Below w3.heap.size w5) [(true, 0), (true, 1), (true, 2), (true, 3), (true, 4), (true, 5), (true, 6), (true, 7), (true, 8), (true, 9), (true, 10), (true, 11), (true, 12), (true, 13), (true, 14), (false, 15), (true, 16), (false, 17), (false, 18)] (List.cons_ne_nil _ _) (by kernel_rfl) (by kernel_rfl) (by kernel_rfl) (by kernel_rfl) (by kernel_rfl) ((Below.refl _ _).drew) ?_
      simp only [List.dropLast_cons_cons, List.dropLast_singleton, List.getLast_cons_cons, List.getLast_singleton, withOps, List.map_cons, List.map_nil, List.getElem?_cons_succ, List.getElem?_cons_zero]
      repeat (refine walkH_read (by rfl) (by (intro gx; go_simp; try (with_reducible rfl))) ?_; try simp only [Act.put, List.setIfInBounds_toArray, List.set_cons_zero, List.set_cons_succ])
      refine walkH_do rfl (fun K hK => ?_)
      go_simp
      refine (refPair_any q y _ (unhide HQ) (unhide HYW)).mono ?_
      rintro e w6 ⟨rfl, hw6⟩
      subst hw6
      refine hK _ _ ((Below.refl _ _).drew) ?_
      clear hK K
      try simp only [Act.put, List.setIfInBounds_toArray, List.set_cons_zero, List.set_cons_succ]
      obtain ⟨kd, ekd⟩ : ∃ kd, kd = Seal.pair q (y : Int) := ⟨_, rfl⟩
      rw [← ekd]
      have EKD := hide ekd
      clear ekd k0 k1
      repeat (refine walkH_read (by rfl) (by (intro gx; go_simp; try (with_reducible rfl))) ?_; try simp only [Act.put, List.setIfInBounds_toArray, List.set_cons_zero, List.set_cons_succ])
      refine walkH_do rfl (fun K hK => ?_)
      go_simp
      have hbA : Below w5.heap.size w5 (w5.alloc (.cells #[.string x, .slice p5 ((nint P).length + pn) c5, .int .i64 (kd : Int)] 64)).drew := by go_grown
      have hblk : (w5.alloc (.cells #[.string x, .slice p5 ((nint P).length + pn) c5, .int .i64 (kd : Int)] 64)).drew.heap[w5.heap.size]? = some (.cells #[.string x, .slice p5 ((nint P).length + pn) c5, .int .i64 (kd : Int)] 64 (0, 0)) := heap_alloc_new w5 _
      have hszA : (w5.alloc (.cells #[.string x, .slice p5 ((nint P).length + pn) c5, .int .i64 (kd : Int)] 64)).drew.heap.size = w5.heap.size + 1 := by simp
      have hw35 : w3.heap.size ≤ w5.heap.size := by omega
      refine hK _ _ (hbA.mono hw35) ?_
      clear hK K
      try simp only [Act.put, List.setIfInBounds_toArray, List.set_cons_zero, List.set_cons_succ]
      have HA6 := hide ((unhide HA5).below hbA)
      have HO6 := hide ((unhide HO5).below hbA)
      generalize (w5.alloc (.cells #[.string x, .slice p5 ((nint P).length + pn) c5, .int .i64 (kd : Int)] 64)).drew = w6 at *
      refine walkH_do rfl (fun K hK => ?_)
      refine step_pushZ _ (by rfl) (.tmp 46) (.tmp 63) 48 (by rfl) w3.heap.size 64 (.agg #[.string ByteArray.empty, .slice none 0 0, .int .i64 0]) 3 48 Try.underlying48 Try.infoAns (by rfl) (by decide) (.slice pv k cv) k (ansCells us (rspTo s p q bs k)) (by simp [Act.eval]) (by have := (unhide HA6).outer; rw [hkl] at this; exact this) [.string x, .slice p5 ((nint P).length + pn) c5, .int .i64 (kd : Int)] rfl (by intro u hu; simp only [List.mem_cons, List.not_mem_nil, or_false] at hu; rcases hu with rfl | rfl | rfl <;> rfl) w5.heap.size (by simp [Act.eval]) hblk (by omega) (by decide) (by omega) ?_
      intro v7 w7 O7 P7
      have hB7 : Below w3.heap.size w5 w7 := P7.belowZ (unhide HA6).outer (hbA.mono hw35) (Nat.le_refl _) (by omega)
      refine hK _ _ hB7 ?_
      clear hK K
      have ha : ansOf s p q b2 = ⟨x, nint P ++ p, (kd : Int)⟩ := by
        unfold ansOf
        rw [unhide EXB, unhide EP, unhide EKD, unhide EY]
      have hrow6 : OwnL w6 wr.heap.size 3 (.slice p5 ((nint P).length + pn) c5) (((ansOf s p q b2).path).map (Value.int .i64)) := by rw [ha]; exact unhide HO6
      have hout : w7.ownsRow w3.heap.size 64 3 v7 ((rspTo s p q bs k).length + 1) (ansCells us (rspTo s p q bs k) ++ [.string (ansOf s p q b2).blk, .slice p5 ((nint P).length + pn) c5, .int .i64 (ansOf s p q b2).keyed]) := by
        rw [ha, hkl]; exact O7
      have hA7 := AnsO.push (unhide HA6) (hrow6.mono hszW) (fun j y hy => apt_far hrow6 ((unhide HO').row j y hy) (Nat.le_refl _)) (by decide) hout P7
      have hsn := rspTo_snoc s p q bs k (by omega)
      rw [unhide HBB, Int.toNat_natCast] at hsn
      rw [← hsn] at hA7
      have HA7 := hide hA7
      have HW7 := hide ((unhide HW5).trans hB7)
      clear hA7 hsn hout hrow6 ha O7 P7 hB7 hbA HA6 HO6 hblk
      try simp only [Act.put, List.setIfInBounds_toArray, List.set_cons_zero, List.set_cons_succ]
      obtain ⟨p7, c7, e7⟩ := ownZ_slice (unhide HA7).outer
      subst e7
      refine lastPost_of_list ?_
      simp only [List.cons_append, List.nil_append]
      go_wp2
      refine NoPanic.normal ?_
      go_wp2
      go_roundw
      case rel => exact ⟨k + 1, by omega, by go_num, hide ⟨_, unhide HA7⟩, HW7⟩
      case measure => simp [intOf]; omega
    · have hlt' : ¬ (k : Int) < bn := by omega
      obtain rfl : k = bn := by omega
      go_wp2
      go_ret2
      refine ⟨_, us, rfl, ?_, bt (unhide HB) (unhide HW)⟩
      have hf := (unhide HO').mono (B' := w.heap.size) (by have := (unhide HB).size; omega)
      rw [← hbl] at hf
      rw [← hbl]
      exact hf
set_option maxRecDepth 100000 in
set_option maxHeartbeats 2000000 in
theorem refRespond_no (s : ByteArray) (pa : Option Addr) (pn pc : Nat) (p : List Int) (q : Int) (ba : Option Addr) (bn bc : Nat) (bs : List Int) (w : World) (hP : Ints w pa pn pc p) (hB : Ints w ba bn bc bs) (hpn : pn ≤ 140737488351232) (hbn : bn ≤ 140737488351232) (h : ¬ RspM s p q bs) :
    Calls Try.prog 22 #[.string s, .slice pa pn pc, .agg #[.int .i64 q, .slice ba bn bc]] w (ansPost ([], 1200) w) := by
  have hpl := hP.1
  have hB0 := below_alloc w (.cells #[.int .i64 q, .slice ba bn bc] 47)
  obtain ⟨x0, x1⟩ := ask_box w q ba bn bc 47
  have HP0 := hide (hP.below hB0)
  have HBI0 := hide (hB.below hB0)
  have HB := hide hB0
  clear hP hB hB0
  by_cases h32 : s.size = 32
  case neg =>
    have t32 : ((s.size : Int) != 32) = true := by simp; omega
    clear h h32
    go_enter Try.func22, Try.ntmps22
    go_wp2
    go_ret2
    exact ⟨_, [], rfl, AnsO.nil _ _ _ _, unhide HB⟩
  have t32 : ((s.size : Int) != 32) = false := by rw [h32]; rfl
  by_cases hp : Sls p ∧ pn ≤ 3
  case neg =>
    have d1 := decide_eq_false hp
    clear h h32 hp
    go_enter Try.func22, Try.ntmps22
    go_wp2_with (go_at_call 40; refine (refSealNums_any _ _ _ p 3 _ (unhide HP0) hpn (by decide)).mono ?_; rintro e w' ⟨rfl, hw'⟩; rw [d1, hw']; clear hw' w')
    go_ret2
    exact ⟨_, [], rfl, AnsO.nil _ _ _ _, unhide HB⟩
  have d1 := decide_eq_true hp
  have hno : ¬ AskM q bs := fun ha => h ⟨h32, ⟨hp.1, by omega⟩, ha⟩
  have d2 := decide_eq_false hno
  clear h h32 hp hno
  go_enter Try.func22, Try.ntmps22
  go_upto_region 1 with fail
  generalize (w.alloc (.cells #[.int .i64 q, .slice ba bn bc] 47)) = W at *
  go_wp2_with (go_at_call 40; refine (refSealNums_any _ _ _ p 3 _ (unhide HP0) hpn (by decide)).mono ?_; rintro e w' ⟨rfl, hw'⟩; rw [d1, hw']; clear hw' w')
  refine (refAskMay_any q _ _ _ bs _ (unhide HBI0) hbn).mono ?_
  rintro e w1 ⟨rfl, b1⟩
  rw [d2]
  replace HB := hide (bt (unhide HB) b1)
  clear b1
  go_wp2
  go_ret2
  exact ⟨_, [], rfl, AnsO.nil _ _ _ _, unhide HB⟩
theorem refRespond_any (s : ByteArray) (pa : Option Addr) (pn pc : Nat) (p : List Int) (q : Int) (ba : Option Addr) (bn bc : Nat) (bs : List Int) (w : World) (hP : Ints w pa pn pc p) (hB : Ints w ba bn bc bs) (hpn : pn ≤ 140737488351232) (hbn : bn ≤ 140737488351232) :
    Calls Try.prog 22 #[.string s, .slice pa pn pc, .agg #[.int .i64 q, .slice ba bn bc]] w (ansPost (rspP s p q bs) w) := by
  by_cases h : RspM s p q bs
  · rw [rspP_yes h]; exact refRespond_yes s pa pn pc p q ba bn bc bs w hP hB h
  · rw [rspP_no h]; exact refRespond_no s pa pn pc p q ba bn bc bs w hP hB hpn hbn h
end Go.Proofs.Ytmphbajnadbggaa
