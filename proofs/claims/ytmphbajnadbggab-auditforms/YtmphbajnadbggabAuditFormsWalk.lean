/- The Go text of the statement AuditForms returns true, whatever the numbers. -/
import Derived.Test.YtmphbajnadbggabAwake12
import Derived.Test.YtmphbajnadbggabAllocs
import Derived.Test.YtmphbajnadbggabTreeTurnedWalk
import Derived.Test.YtmphbajnadbggabTreeFormsWalk
namespace Go.Proofs.Ytmphbajnadbggab
open Go.RowKit
set_option linter.unusedVariables false
set_option linter.unusedSimpArgs false
attribute [local go_sem ↓] Go.wp_at_zero Go.wp_at_succ
def fS : ByteArray := textS 107
def fR : Nat := Tree.root (leavesL fS)
def fZ : List Ans := [ansOf fS [] 3 1, ansOf fS [] 3 3]
theorem f_rsp : rspP fS [] 3 [1, 3] = (fZ, 0) := by
  have h : RspM fS [] 3 [1, 3] := by decide +kernel
  rw [rspP_yes h]
  rfl
theorem f_root : rootP (nint (leavesL fS)) = ((fR : Int), 0) := by decide +kernel
theorem f_len : (nint (leavesL fS)).length = 4 := by decide +kernel
theorem f_yes : decide (Aud (fR : Int) 1 0 3 [1, 3] fZ) = true := by decide +kernel
theorem f_path : ∀ j, j < 2 → (fZ.getD j ans0).path.length = 2 := by decide +kernel
theorem aud_ask {r sh st q : Int} {bs : List Int} {zs : List Ans} (h : ¬ AskM q bs) : decide (Aud r sh st q bs zs) = false := decide_eq_false (fun ha => h ha.1.1)
theorem aud_sh {r sh st q : Int} {bs : List Int} {zs : List Ans} (h : sh < 1 ∨ 6 < sh ∨ st < 0 ∨ sh ≤ st) : decide (Aud r sh st q bs zs) = false := decide_eq_false (fun ha => by obtain ⟨⟨_, _, h1, h2, h3, h4⟩, _⟩ := ha; omega)
theorem rsp_ask {s : ByteArray} {p : List Int} {q : Int} {bs : List Int} (h : ¬ AskM q bs) : rspP s p q bs = ([], 1200) := rspP_no (fun hr => h hr.2.2)
theorem rsp_size {s : ByteArray} {p : List Int} {q : Int} {bs : List Int} (h : s.size ≠ 32) : rspP s p q bs = ([], 1200) := rspP_no (fun hr => h hr.1)
theorem rsp_path {s : ByteArray} {p : List Int} {q : Int} {bs : List Int} (h : ¬ (Sls p ∧ p.length ≤ 3)) : rspP s p q bs = ([], 1200) := rspP_no (fun hr => h hr.2.1)
/-- questions that are none -/
def askObjs (T S : TypeId) (H D M : Nat) : List Obj := [.cells #[.int .i64 0] T, .cells #[.int .i64 0] T, .cells #[.int .i64 (-(D : Int))] T, .cells #[.int .i64 (3 + (D : Int))] T, .cells (madeCells #[.int .i64 0] M) T,
  .cells #[.int .i64 (-(D : Int)), .slice (some ⟨H, 0, none⟩) 1 1, .int .i64 (2147483646 + (D : Int)), .slice (some ⟨H + 1, 0, none⟩) 1 1, .int .i64 0, .slice none 0 0, .int .i64 0, .slice (some ⟨H + 2, 0, none⟩) 1 1, .int .i64 0, .slice (some ⟨H + 3, 0, none⟩) 1 1, .int .i64 0, .slice (some ⟨H + 4, 0, none⟩) M M] S]
theorem ask_cells (T S : TypeId) (D M i : Nat) (w : World) (hD : 1 ≤ D) (hM : 64 < M) (hM2 : M ≤ 2000) (hi : i < 6) : ∃ q a n c bs, (allocs w (askObjs T S w.heap.size D M)).cell? ⟨w.heap.size + 5, i * 2, none⟩ = some (.int .i64 q) ∧ (allocs w (askObjs T S w.heap.size D M)).cell? ⟨w.heap.size + 5, i * 2 + 1, none⟩ = some (.slice a n c) ∧ Ints (allocs w (askObjs T S w.heap.size D M)) a n c bs ∧ n ≤ 2000 ∧ (∀ b o, a = some ⟨b, o, none⟩ → w.heap.size ≤ b) ∧ ¬ AskM q bs := by
  have h5 := allocs_heap w (askObjs T S w.heap.size D M) 5 _ rfl
  have h : i = 0 ∨ i = 1 ∨ i = 2 ∨ i = 3 ∨ i = 4 ∨ i = 5 := by omega
  rcases h with rfl | rfl | rfl | rfl | rfl | rfl
  · exact ⟨-(D : Int), _, 1, 1, [0], by rw [cell_of_row _ _ _ _ _ _ h5]; rfl, by rw [cell_of_row _ _ _ _ _ _ h5]; rfl, ints_obj (allocs_heap w (askObjs T S w.heap.size D M) 0 _ rfl) rfl rfl, by omega, fun b o e => by simp at e; omega, fun h => by have := h.1.1; omega⟩
  · exact ⟨2147483646 + (D : Int), _, 1, 1, [0], by rw [cell_of_row _ _ _ _ _ _ h5]; rfl, by rw [cell_of_row _ _ _ _ _ _ h5]; rfl, ints_obj (allocs_heap w (askObjs T S w.heap.size D M) 1 _ rfl) rfl rfl, by omega, fun b o e => by simp at e; omega, fun h => by have := h.1.2; omega⟩
  · exact ⟨0, none, 0, 0, [], by rw [cell_of_row _ _ _ _ _ _ h5]; rfl, by rw [cell_of_row _ _ _ _ _ _ h5]; rfl, ⟨rfl, .inl ⟨rfl, rfl, rfl⟩⟩, by omega, fun b o e => by simp at e, fun h => by have := h.2.1; simp at this⟩
  · exact ⟨0, _, 1, 1, [-(D : Int)], by rw [cell_of_row _ _ _ _ _ _ h5]; rfl, by rw [cell_of_row _ _ _ _ _ _ h5]; rfl, ints_obj (allocs_heap w (askObjs T S w.heap.size D M) 2 _ rfl) rfl rfl, by omega, fun b o e => by simp at e; omega, fun h => by have := h.2.2.2 _ (List.mem_singleton.2 rfl); unfold BkOk at this; omega⟩
  · exact ⟨0, _, 1, 1, [3 + (D : Int)], by rw [cell_of_row _ _ _ _ _ _ h5]; rfl, by rw [cell_of_row _ _ _ _ _ _ h5]; rfl, ints_obj (allocs_heap w (askObjs T S w.heap.size D M) 3 _ rfl) rfl rfl, by omega, fun b o e => by simp at e; omega, fun h => by have := h.2.2.2 _ (List.mem_singleton.2 rfl); unfold BkOk at this; omega⟩
  · refine ⟨0, _, M, M, List.replicate M 0, by rw [cell_of_row _ _ _ _ _ _ h5]; rfl, by rw [cell_of_row _ _ _ _ _ _ h5]; rfl, ints_obj (allocs_heap w (askObjs T S w.heap.size D M) 4 _ rfl) ?_ (by simp), hM2, fun b o e => by simp at e; omega, fun h => by have := h.2.2.1; simp at this; omega⟩
    apply Array.toList_inj.1
    rw [toList_madeCells_one]
    simp
/-- the second answer's path, cut to its first number -/
theorem AnsO.cut {w : World} {B : Nat} {T E : TypeId} {g c : Nat} {us : List Value} {zs : List Ans} (h : AnsO w B T E (.slice (some ⟨g, 0, none⟩) 2 c) us zs) (hl : zs.length = 2) (hne : T ≠ E) {p : Option Addr} {pc : Nat} (hu : us[1]? = some (.slice p (zs.getD 1 ans0).path.length pc)) (hp : 1 ≤ (zs.getD 1 ans0).path.length) :
    AnsV (w.setCell ⟨g, 4, none⟩ (.slice p 1 pc)) (some ⟨g, 0, none⟩) 2 c [zs.getD 0 ans0, ⟨(zs.getD 1 ans0).blk, (zs.getD 1 ans0).path.take 1, (zs.getD 1 ans0).keyed⟩] := by
  have hul := h.len
  rw [hl] at hul
  match zs, us, hl, hul with
  | [z0, z1], [u0, u1], _, _ =>
    simp only [List.getElem?_cons_succ, List.getElem?_cons_zero, Option.some.injEq] at hu
    subst hu
    have ho := h.outer
    have hst := (World.ownsRow.stored ho 4 (.slice p 1 pc)).1
    have hcs : (ansCells [u0, .slice p z1.path.length pc] [z0, z1]).set 4 (.slice p 1 pc) = ansCells [u0, .slice p 1 pc] [z0, ⟨z1.blk, z1.path.take 1, z1.keyed⟩] := rfl
    obtain ⟨a, cap, e, hr⟩ := ownZ_rec (f := fun i => (ansCells [u0, .slice p 1 pc] [z0, ⟨z1.blk, z1.path.take 1, z1.keyed⟩]).getD i undef) hst (fun i hi => by
      show ((ansCells [u0, .slice p z1.path.length pc] [z0, z1]).set 4 (.slice p 1 pc))[i]? = _
      rw [hcs]
      have hlen : (ansCells [u0, .slice p 1 pc] [z0, ⟨z1.blk, z1.path.take 1, z1.keyed⟩]).length = 6 := rfl
      have hi' : i < 6 := hi
      simp [List.getD, List.getElem?_eq_getElem (show i < (ansCells [u0, .slice p 1 pc] [z0, ⟨z1.blk, z1.path.take 1, z1.keyed⟩]).length by omega)])
    simp only [Value.slice.injEq, true_and] at e
    obtain ⟨rfl, rfl⟩ := e
    refine ⟨rfl, [u0, .slice p 1 pc], rfl, hr, fun j hj => ?_⟩
    have r0 := h.row 0 u0 rfl
    have r1 := h.row 1 (.slice p z1.path.length pc) rfl
    have r0' : OwnL (w.setCell ⟨g, 4, none⟩ (.slice p 1 pc)) B E u0 (z0.path.map (Value.int .i64)) := ownsRow_setCell_other (a := ⟨g, 4, none⟩) r0 (fun e => apt_typesZ r0 ho (Ne.symm hne) g e rfl) _
    have r1' : OwnL (w.setCell ⟨g, 4, none⟩ (.slice p 1 pc)) B E (.slice p z1.path.length pc) (z1.path.map (Value.int .i64)) := ownsRow_setCell_other (a := ⟨g, 4, none⟩) r1 (fun e => apt_typesZ r1 ho (Ne.symm hne) g e rfl) _
    have : j = 0 ∨ j = 1 := by omega
    rcases this with rfl | rfl
    · obtain ⟨p0, c0, e0, hI⟩ := r0'.ints
      exact ⟨p0, c0, by rw [e0]; rfl, hI⟩
    · obtain ⟨p1, c1, e1, hI⟩ := r1'.ints
      simp only [Value.slice.injEq, true_and] at e1
      obtain ⟨rfl, rfl⟩ := e1
      have hp' : 1 ≤ z1.path.length := hp
      obtain ⟨_, b, o, rfl⟩ := hI.cap (by omega)
      have hf := hI.first (k := 1) hp'
      have hl1 : (z1.path.take 1).length = 1 := by rw [List.length_take]; omega
      refine ⟨some ⟨b, o, none⟩, pc, ?_, ?_⟩
      · show some (Value.slice (some ⟨b, o, none⟩) 1 pc) = some (.slice (some ⟨b, o, none⟩) (z1.path.take 1).length pc)
        rw [hl1]
      · show Ints _ (some ⟨b, o, none⟩) (z1.path.take 1).length pc (z1.path.take 1)
        rw [hl1]; exact hf
theorem Ints.set {w : World} {a : Option Addr} {n c : Nat} {xs : List Int} (h : Ints w a n c xs) {d : Addr} (x : Value) (hd : ∀ b o, a = some ⟨b, o, none⟩ → b ≠ d.block) : Ints (w.setCell d x) a n c xs := by
  refine ⟨h.1, ?_⟩
  rcases h.2 with h | h | ⟨h1, h2, b, off, e, hc⟩
  · exact .inl h
  · exact .inr (.inl h)
  · refine .inr (.inr ⟨h1, h2, b, off, e, fun i hi => ?_⟩)
    have hk : (w.setCell d x).heap[b]? = w.heap[b]? := Below.heap_setCell _ _ _ _ (hd b off e)
    rw [← hc i hi]
    simp [World.cell?, hk]
theorem aud_cut {r : Int} {zs : List Ans} {z : Ans} {y : ByteArray} {k : Int} {p : List Int} (hp : p.length ≤ 1) : decide (Aud r 1 0 3 [1, 3] [z, ⟨y, p, k⟩]) = false := decide_eq_false (fun ha => by
  have := (ha.2 1 (by simp)).2.2.1
  simp at this
  omega)
theorem modU5 (a : Int) : ∃ i : Nat, i < 5 ∧ (IntKind.u64.wrap a).tmod 5 = (i : Int) := by
  have h0 : IntKind.u64.wrap a = a % 18446744073709551616 := IntKind.wrap_u64 a
  have : 0 ≤ a % 18446744073709551616 := Int.emod_nonneg _ (by decide)
  rw [h0, Int.tmod_eq_emod_of_nonneg (by omega)]
  exact ⟨(a % 18446744073709551616 % 5).toNat, by omega, by omega⟩
set_option maxRecDepth 100000 in
set_option maxHeartbeats 4000000 in
theorem AuditForms_walk {w : World} (a0 : Int) (w0 : (Lit.int .i64 a0).wf = true) (a1 : Int) (w1 : (Lit.int .i64 a1).wf = true) : Calls Try.prog 3 #[.int .i64 a0, .int .i64 a1] w fun e w' => e = .returned (.bool true) ∧ Below w.heap.size w w' := by
  obtain ⟨i, hi, ei⟩ := modT a0 6 (by decide) (by decide)
  have hx : ∃ d : Nat, d < 1024 ∧ bits .and .i64 a1 1023 = (d : Int) := by
    refine ⟨(a1 % 1024).toNat, by omega, ?_⟩
    rw [and_1023]; omega
  obtain ⟨d, hd, ed⟩ := hx
  obtain ⟨D, eD⟩ : ∃ D : Nat, 1 + (d : Int) = (D : Int) := ⟨1 + d, by omega⟩
  have hD1 : 1 ≤ D := by omega
  have hD2 : D ≤ 1024 := by omega
  obtain ⟨M, eM⟩ : ∃ M : Nat, 64 + (D : Int) = (M : Int) := ⟨64 + D, by omega⟩
  have hM1 : 64 < M := by omega
  have hM2 : M ≤ 2000 := by omega
  have hmk := fun w => run_make_row' (P := Try.prog) 26 3 (.int .i64 0) 8 Try.underlying26 Try.infoInt rfl .i64 .i64 M (by omega) (by omega) w
  obtain ⟨s, es⟩ : ∃ s, s = fS := ⟨_, rfl⟩
  have hss : s.size = 32 := by rw [es]; exact textS_size 107
  obtain ⟨l, el⟩ : ∃ l, l = leavesL s := ⟨_, rfl⟩
  have hll : (nint l).length = 4 := by rw [el, es]; exact f_len
  obtain ⟨R, eR⟩ : ∃ R, R = fR := ⟨_, rfl⟩
  have HRT : Hid (rootP (nint l) = ((R : Int), 0)) := hide (by rw [el, es, eR]; exact f_root)
  obtain ⟨zs, ezs⟩ : ∃ zs, zs = fZ := ⟨_, rfl⟩
  have HZL : Hid (zs.length = 2) := hide (by rw [ezs]; rfl)
  have R1 : Hid (rspP s [] 3 [1, 3] = (zs, 0)) := hide (by rw [es, ezs]; exact f_rsp)
  have A1 : Hid (decide (Aud (R : Int) 1 0 3 [1, 3] zs) = true) := hide (by rw [eR, ezs]; exact f_yes)
  have HZ2 : Hid (∀ j, j < 2 → (zs.getD j ans0).path.length = 2) := hide (by rw [ezs]; exact f_path)
  have HPZ : Hid (∀ j, j < 2 → (zs.getD j ans0).path.length ≤ 140737488351232) := hide (fun j hj => by rw [unhide HZ2 j hj]; decide)
  have ES : Hid (textS 107 = s) := hide es.symm
  have EL := hide el
  have HLL := hide hll
  have HNIL : Hid (∀ w : World, Ints w none 0 0 []) := hide (fun w => ⟨rfl, .inl ⟨rfl, rfl, rfl⟩⟩)
  clear es el eR ezs hll hd
  go_enter Try.func3, Try.ntmps3
  go_wp2_with fail
  refine (awake12_any _).mono ?_
  rintro e w1 ⟨rfl, b1⟩
  have B := hide b1
  clear b1
  go_wp2_with fail
  refine (text_any 107 (by decide) _).mono ?_
  rintro e w2 ⟨rfl, b2⟩
  rw [unhide ES]
  replace B := hide (bt (unhide B) b2)
  clear b2
  go_wp2_with fail
  refine (refLeaves_any s _ (by omega)).mono ?_
  rintro e w2' ⟨v2, rfl, O2, b2⟩
  rw [← unhide EL] at O2
  obtain ⟨p2, c2, rfl, S2⟩ := O2.ints
  rw [unhide HLL] at S2 ⊢
  have HI := hide S2
  replace B := hide (bt (unhide B) b2)
  clear O2 S2 b2
  go_wp2_with fail
  refine (refRoot_any _ _ _ (nint l) _ (unhide HI) (by decide)).mono ?_
  rintro e w3 ⟨he, b3⟩
  rw [unhide HRT] at he
  subst he
  replace B := hide (bt (unhide B) b3)
  clear b3 HI
  go_upto_region 7 with fail
  have hbw := below_two w3 (.cells #[.int .i64 1, .int .i64 3] 3) (.cells #[.int .i64 3, .slice (some ⟨w3.heap.size, 0, none⟩) 2 2] 29)
  have HK := hide ((int_lit w3 [1, 3] 3 w3.heap.size #[.int .i64 1, .int .i64 3] 2 rfl rfl rfl).below (below_alloc _ (.cells #[.int .i64 3, .slice (some ⟨w3.heap.size, 0, none⟩) 2 2] 29)))
  have BX := hide (two_new w3 (.cells #[.int .i64 1, .int .i64 3] 3) (.cells #[.int .i64 3, .slice (some ⟨w3.heap.size, 0, none⟩) 2 2] 29))
  replace B := hide (bt (unhide B) hbw)
  clear hbw
  generalize ((w3.alloc (.cells #[.int .i64 1, .int .i64 3] 3)).alloc (.cells #[.int .i64 3, .slice (some ⟨w3.heap.size, 0, none⟩) 2 2] 29)) = W at *
  obtain ⟨x0, x1⟩ := box_2 (unhide BX)
  go_wp2_with fail
  refine (auditRespond_any s _ _ _ [] 3 _ _ _ [1, 3] _ (unhide HNIL _) (unhide HK) (by decide) (by decide)).mono ?_
  rintro e w4' ⟨v4, us, he, O4, b4⟩
  rw [unhide R1] at he O4
  subst he
  obtain ⟨a4, c4, ev, V4⟩ := O4.ansV
  rw [unhide HZL] at ev V4
  subst ev
  have HV := hide V4
  have HO := hide O4
  have hW4 := lt_of_block (unhide BX)
  have hwW := (unhide B).size
  replace BX := hide ((b4.block _ (lt_of_block (unhide BX))).trans (unhide BX))
  replace HK := hide ((unhide HK).below b4)
  replace B := hide (bt (unhide B) b4)
  clear O4 V4 b4 x0 x1
  obtain ⟨x0, x1⟩ := box_2 (unhide BX)
  obtain ⟨ab, ao, pp, pc, ea, hcap, y0, y1, y2, _⟩ := (unhide HV).at (j := 0) (by decide)
  subst ea
  rw [Nat.zero_mul, Nat.add_zero] at y0 y1 y2
  rw [unhide HZ2 0 (by decide)] at y1
  go_wp2_with (go_at_call 10; refine (num_any _ _).mono ?_; rintro e w' ⟨rfl, hw'⟩; rw [hw']; clear hw' w')
  refine (auditCheck_any _ _ _ _ _ _ _ [1, 3] _ _ _ zs _ (unhide HK) (unhide HV) (by decide) (unhide HPZ)).mono ?_
  rintro e w4 ⟨he, b5⟩
  rw [unhide A1] at he
  subst he
  replace BX := hide ((b5.block _ (lt_of_block (unhide BX))).trans (unhide BX))
  replace HK := hide ((unhide HK).below b5)
  replace HV := hide ((unhide HV).below b5)
  replace HO := hide ((unhide HO).below b5)
  replace B := hide (bt (unhide B) b5)
  clear b5 x0 x1 y0 y1 y2
  obtain ⟨q', ba', bn', bc', bs', hq, hc, hI, hn, hwh, hno⟩ := ask_cells 3 29 D M i w4 hD1 hM1 hM2 (by omega)
  have HI := hide hI
  have HNO := hide hno
  have HWH := hide hwh
  have hab1 := hide (World.ownsRow.lt (unhide HO).outer ab rfl)
  clear hwh
  have HA := hide (allocs_below w4 (askObjs 3 29 w4.heap.size D M))
  clear hI hno
  go_upto_region 11 with fail
  replace hq : ((((((w4.alloc (.cells #[.int .i64 0] 3)).alloc (.cells #[.int .i64 0] 3)).alloc (.cells #[.int .i64 (-(D : Int))] 3)).alloc (.cells #[.int .i64 (3 + (D : Int))] 3)).alloc (.cells (madeCells #[.int .i64 0] M) 3)).alloc (.cells #[.int .i64 (-(D : Int)), .slice (some ⟨w4.heap.size, 0, none⟩) 1 1, .int .i64 (2147483646 + (D : Int)), .slice (some ⟨w4.heap.size + 1, 0, none⟩) 1 1, .int .i64 0, .slice none 0 0, .int .i64 0, .slice (some ⟨w4.heap.size + 1 + 1, 0, none⟩) 1 1, .int .i64 0, .slice (some ⟨w4.heap.size + 1 + 1 + 1, 0, none⟩) 1 1, .int .i64 0, .slice (some ⟨w4.heap.size + 1 + 1 + 1 + 1, 0, none⟩) M M] 29)).cell? ⟨w4.heap.size + 1 + 1 + 1 + 1 + 1, i * 2, none⟩ = some (.int .i64 q') := hq
  replace hc : ((((((w4.alloc (.cells #[.int .i64 0] 3)).alloc (.cells #[.int .i64 0] 3)).alloc (.cells #[.int .i64 (-(D : Int))] 3)).alloc (.cells #[.int .i64 (3 + (D : Int))] 3)).alloc (.cells (madeCells #[.int .i64 0] M) 3)).alloc (.cells #[.int .i64 (-(D : Int)), .slice (some ⟨w4.heap.size, 0, none⟩) 1 1, .int .i64 (2147483646 + (D : Int)), .slice (some ⟨w4.heap.size + 1, 0, none⟩) 1 1, .int .i64 0, .slice none 0 0, .int .i64 0, .slice (some ⟨w4.heap.size + 1 + 1, 0, none⟩) 1 1, .int .i64 0, .slice (some ⟨w4.heap.size + 1 + 1 + 1, 0, none⟩) 1 1, .int .i64 0, .slice (some ⟨w4.heap.size + 1 + 1 + 1 + 1, 0, none⟩) M M] 29)).cell? ⟨w4.heap.size + 1 + 1 + 1 + 1 + 1, i * 2 + 1, none⟩ = some (.slice ba' bn' bc') := hc
  replace HI : Hid (Ints ((((((w4.alloc (.cells #[.int .i64 0] 3)).alloc (.cells #[.int .i64 0] 3)).alloc (.cells #[.int .i64 (-(D : Int))] 3)).alloc (.cells #[.int .i64 (3 + (D : Int))] 3)).alloc (.cells (madeCells #[.int .i64 0] M) 3)).alloc (.cells #[.int .i64 (-(D : Int)), .slice (some ⟨w4.heap.size, 0, none⟩) 1 1, .int .i64 (2147483646 + (D : Int)), .slice (some ⟨w4.heap.size + 1, 0, none⟩) 1 1, .int .i64 0, .slice none 0 0, .int .i64 0, .slice (some ⟨w4.heap.size + 1 + 1, 0, none⟩) 1 1, .int .i64 0, .slice (some ⟨w4.heap.size + 1 + 1 + 1, 0, none⟩) 1 1, .int .i64 0, .slice (some ⟨w4.heap.size + 1 + 1 + 1 + 1, 0, none⟩) M M] 29)) ba' bn' bc' bs') := HI
  replace HA : Hid (Below w4.heap.size w4 ((((((w4.alloc (.cells #[.int .i64 0] 3)).alloc (.cells #[.int .i64 0] 3)).alloc (.cells #[.int .i64 (-(D : Int))] 3)).alloc (.cells #[.int .i64 (3 + (D : Int))] 3)).alloc (.cells (madeCells #[.int .i64 0] M) 3)).alloc (.cells #[.int .i64 (-(D : Int)), .slice (some ⟨w4.heap.size, 0, none⟩) 1 1, .int .i64 (2147483646 + (D : Int)), .slice (some ⟨w4.heap.size + 1, 0, none⟩) 1 1, .int .i64 0, .slice none 0 0, .int .i64 0, .slice (some ⟨w4.heap.size + 1 + 1, 0, none⟩) 1 1, .int .i64 0, .slice (some ⟨w4.heap.size + 1 + 1 + 1, 0, none⟩) 1 1, .int .i64 0, .slice (some ⟨w4.heap.size + 1 + 1 + 1 + 1, 0, none⟩) M M] 29))) := HA
  generalize ((((((w4.alloc (.cells #[.int .i64 0] 3)).alloc (.cells #[.int .i64 0] 3)).alloc (.cells #[.int .i64 (-(D : Int))] 3)).alloc (.cells #[.int .i64 (3 + (D : Int))] 3)).alloc (.cells (madeCells #[.int .i64 0] M) 3)).alloc (.cells #[.int .i64 (-(D : Int)), .slice (some ⟨w4.heap.size, 0, none⟩) 1 1, .int .i64 (2147483646 + (D : Int)), .slice (some ⟨w4.heap.size + 1, 0, none⟩) 1 1, .int .i64 0, .slice none 0 0, .int .i64 0, .slice (some ⟨w4.heap.size + 1 + 1, 0, none⟩) 1 1, .int .i64 0, .slice (some ⟨w4.heap.size + 1 + 1 + 1, 0, none⟩) 1 1, .int .i64 0, .slice (some ⟨w4.heap.size + 1 + 1 + 1 + 1, 0, none⟩) M M] 29)) = W5 at *
  replace BX := hide (((unhide HA).block _ (lt_of_block (unhide BX))).trans (unhide BX))
  replace HK := hide ((unhide HK).below (unhide HA))
  replace HV := hide ((unhide HV).below (unhide HA))
  replace HO := hide ((unhide HO).below (unhide HA))
  replace B := hide (bt (unhide B) (unhide HA))
  clear HA hmk
  go_upto_region 12 with fail
  have habY := hide (World.ownsRow.lt (unhide HO).outer ab rfl).2
  have BY := hide (heap_alloc_new W5 (.cells #[.int .i64 q', .slice ba' bn' bc'] 29))
  have hb6 := below_alloc W5 (.cells #[.int .i64 q', .slice ba' bn' bc'] 29)
  replace BX := hide ((hb6.block _ (lt_of_block (unhide BX))).trans (unhide BX))
  replace HK := hide ((unhide HK).below hb6)
  replace HI := hide ((unhide HI).below hb6)
  replace HV := hide ((unhide HV).below hb6)
  replace HO := hide ((unhide HO).below hb6)
  replace B := hide (bt (unhide B) hb6)
  clear hb6 hq hc
  generalize (W5.alloc (.cells #[.int .i64 q', .slice ba' bn' bc'] 29)) = W6 at *
  generalize W5.heap.size = gy at *
  obtain ⟨x0, x1⟩ := box_2 (unhide BX)
  obtain ⟨y0, y1⟩ := box_2 (unhide BY)
  go_wp2_with fail
  refine (auditRespond_any s _ _ _ [] q' _ _ _ bs' _ (unhide HNIL _) (unhide HI) (by decide) (by omega)).mono ?_
  rintro e w7 ⟨v7, us7, he, O7, b7⟩
  rw [rsp_ask (unhide HNO)] at he O7
  subst he
  obtain ⟨a7, c7, ev7, _⟩ := O7.ansV
  subst ev7
  replace BX := hide ((b7.block _ (lt_of_block (unhide BX))).trans (unhide BX))
  replace BY := hide ((b7.block _ (lt_of_block (unhide BY))).trans (unhide BY))
  replace HK := hide ((unhide HK).below b7)
  replace HI := hide ((unhide HI).below b7)
  replace HV := hide ((unhide HV).below b7)
  replace HO := hide ((unhide HO).below b7)
  replace B := hide (bt (unhide B) b7)
  clear O7 b7 x0 x1 y0 y1
  obtain ⟨x0, x1⟩ := box_2 (unhide BX)
  go_wp2_with fail
  refine (auditRespond_any _ _ _ _ [] 3 _ _ _ [1, 3] _ (unhide HNIL _) (unhide HK) (by decide) (by decide)).mono ?_
  rintro e w8 ⟨v8, us8, he, O8, b8⟩
  rw [rsp_size (by rw [ByteArray.size_append, hss]; decide)] at he O8
  subst he
  obtain ⟨a8, c8, ev8, _⟩ := O8.ansV
  subst ev8
  replace BX := hide ((b8.block _ (lt_of_block (unhide BX))).trans (unhide BX))
  replace BY := hide ((b8.block _ (lt_of_block (unhide BY))).trans (unhide BY))
  replace HK := hide ((unhide HK).below b8)
  replace HI := hide ((unhide HI).below b8)
  replace HV := hide ((unhide HV).below b8)
  replace HO := hide ((unhide HO).below b8)
  replace B := hide (bt (unhide B) b8)
  clear O8 b8 x0 x1
  obtain ⟨x0, x1⟩ := box_2 (unhide BX)
  obtain ⟨M3, eM3⟩ : ∃ M3 : Nat, 3 + (D : Int) = (M3 : Int) := ⟨3 + D, by omega⟩
  have hM31 : 3 < M3 := by omega
  have hM32 : M3 ≤ 2000 := by omega
  have hwM : IntKind.i64.wrap (M3 : Int) = (M3 : Int) := by simp only [IntKind.wrap_i64]; omega
  have hmk3 := fun w => run_make_row' (P := Try.prog) 26 3 (.int .i64 0) 8 Try.underlying26 Try.infoInt rfl .i64 .i64 M3 (by omega) (by omega) w
  have k0 := kept_cell (B := w8.heap.size) x0 (cell_lt x0)
  have k1 := kept_cell (B := w8.heap.size) x1 (cell_lt x1)
  clear x0 x1
  go_upto_region 14 with fail
  refine wp_region_ord_then (S := Below w8.heap.size w8) [(true, 0), (true, 1), (true, 2), (true, 4), (false, 3), (false, 5), (true, 6), (true, 7), (true, 8), (true, 9)] (List.cons_ne_nil _ _) (by kernel_rfl) (by kernel_rfl) (by kernel_rfl) (by kernel_rfl) (by kernel_rfl) ((Below.refl _ _).drew) ?_
  simp only [List.dropLast_cons_cons, List.dropLast_singleton, List.getLast_cons_cons, List.getLast_singleton, withOps, List.map_cons, List.map_nil, List.getElem?_cons_succ, List.getElem?_cons_zero]
  repeat (refine walkH_read (by rfl) (by (intro gx; go_simp; try (with_reducible rfl))) ?_; try simp only [Act.put, List.setIfInBounds_toArray, List.set_cons_zero, List.set_cons_succ])
  refine walkH_do rfl (fun K hK => ?_)
  go_simp
  have hbA : Below w8.heap.size w8 (w8.alloc (.cells (madeCells #[.int .i64 0] M3) 3)).drew := by go_grown
  have hOA := own_made w8 w8.heap.size M3 3 (Nat.le_refl _) (by unfold maxLen; omega)
  obtain ⟨pA, cA, eA, IA⟩ := hOA.ints
  simp only [Value.slice.injEq, List.length_replicate, true_and] at eA
  obtain ⟨eA1, eA2⟩ := eA
  rw [← eA1, ← eA2, List.length_replicate] at IA
  have HIA := hide (IA.below (w' := (w8.alloc (.cells (madeCells #[.int .i64 0] M3) 3)).drew) ((Below.refl _ _).drew))
  refine hK _ _ hbA ?_
  clear hK K hOA IA eA1 eA2
  try simp only [Act.put, List.setIfInBounds_toArray, List.set_cons_zero, List.set_cons_succ]
  generalize (w8.alloc (.cells (madeCells #[.int .i64 0] M3) 3)).drew = w9 at *
  repeat (refine walkH_read (by rfl) (by (intro gx; go_simp; try (with_reducible rfl))) ?_; try simp only [Act.put, List.setIfInBounds_toArray, List.set_cons_zero, List.set_cons_succ])
  refine walkH_do rfl (fun K hK => ?_)
  go_simp
  refine (auditRespond_any s _ _ _ (List.replicate M3 0) 3 _ _ _ [1, 3] _ (unhide HIA) ((unhide HK).below hbA) (by omega) (by decide)).mono ?_
  rintro e w10 ⟨v10, us10, he, O10, b10⟩
  rw [rsp_path (fun h => by have := h.2; simp at this; omega)] at he O10
  subst he
  obtain ⟨a10, c10, ev10, _⟩ := O10.ansV
  subst ev10
  have hb10 : Below w8.heap.size w8 w10 := bt hbA b10
  refine hK _ _ hb10 ?_
  clear hK K O10 b10 hbA HIA k0 k1 hwM hmk3
  try simp only [Act.put, List.setIfInBounds_toArray, List.set_cons_zero, List.set_cons_succ]
  repeat (refine walkH_read (by rfl) (by (intro gx; go_simp; try (with_reducible rfl))) ?_; try simp only [Act.put, List.setIfInBounds_toArray, List.set_cons_zero, List.set_cons_succ])
  refine lastPost_of_list ?_
  simp only [List.cons_append, List.nil_append]
  go_wp2_with fail
  refine NoPanic.normal ?_
  replace BX := hide ((hb10.block _ (lt_of_block (unhide BX))).trans (unhide BX))
  replace BY := hide ((hb10.block _ (lt_of_block (unhide BY))).trans (unhide BY))
  replace HK := hide ((unhide HK).below hb10)
  replace HI := hide ((unhide HI).below hb10)
  replace HV := hide ((unhide HV).below hb10)
  replace HO := hide ((unhide HO).below hb10)
  replace B := hide (bt (unhide B) hb10)
  clear hb10
  obtain ⟨x0, x1⟩ := box_2 (unhide BX)
  have x0' := fun o => ((below_alloc w10 o).cell (cell_lt x0)).trans x0
  have x1' := fun o => ((below_alloc w10 o).cell (cell_lt x1)).trans x1
  go_wp2_with fail
  have b11a := below_alloc w10 (.cells #[.int .i64 (-(D : Int))] 3)
  refine (auditRespond_any s _ _ _ [-(D : Int)] 3 _ _ _ [1, 3] _ (int_lit w10 [-(D : Int)] 3 w10.heap.size #[.int .i64 (-(D : Int))] 1 rfl rfl rfl) ((unhide HK).below b11a) (by decide) (by decide)).mono ?_
  rintro e w11 ⟨v11, us11, he, O11, b11⟩
  rw [rsp_path (fun h => by have := h.1 _ (List.mem_singleton.2 rfl); unfold Sl at this; omega)] at he O11
  subst he
  obtain ⟨a11, c11, ev11, _⟩ := O11.ansV
  subst ev11
  have hb11 := bt b11a b11
  replace BX := hide ((hb11.block _ (lt_of_block (unhide BX))).trans (unhide BX))
  replace BY := hide ((hb11.block _ (lt_of_block (unhide BY))).trans (unhide BY))
  replace HK := hide ((unhide HK).below hb11)
  replace HI := hide ((unhide HI).below hb11)
  replace HV := hide ((unhide HV).below hb11)
  replace HO := hide ((unhide HO).below hb11)
  replace B := hide (bt (unhide B) hb11)
  clear O11 b11 b11a hb11 x0 x1 x0' x1'
  obtain ⟨j, hj, ej⟩ := modU5 a0
  go_upto_region 17 with fail
  have hjj : j = 0 ∨ j = 1 ∨ j = 2 ∨ j = 3 ∨ j = 4 := by omega
  clear hj
  rcases hjj with rfl | rfl | rfl | rfl | rfl
  · go_upto_region 27 with fail
    obtain ⟨x0, x1⟩ := box_2 (unhide BX)
    obtain ⟨y0, y1⟩ := box_2 (unhide BY)
    go_wp2_with fail
    refine (auditCheck_any _ _ _ _ _ _ _ bs' _ _ _ zs _ (unhide HI) (unhide HV) (by omega) (unhide HPZ)).mono ?_
    rintro e w12 ⟨he, b12⟩
    rw [aud_ask (unhide HNO)] at he
    subst he
    have u0 := (b12.cell (cell_lt x0)).trans x0
    have u1 := (b12.cell (cell_lt x1)).trans x1
    replace HK := hide ((unhide HK).below b12)
    replace HV := hide ((unhide HV).below b12)
    replace B := hide (bt (unhide B) b12)
    clear b12 x0 x1 y0 y1
    go_wp2_with (go_at_call 10; refine (num_any _ _).mono ?_; rintro e w' ⟨rfl, hw'⟩; rw [hw']; clear hw' w')
    refine (auditCheck_any _ _ _ _ _ _ _ [1, 3] _ _ _ zs _ (unhide HK) (unhide HV) (by decide) (unhide HPZ)).mono ?_
    rintro e w13 ⟨he, b13⟩
    rw [aud_sh (.inl (by decide))] at he
    subst he
    replace B := hide (bt (unhide B) b13)
    clear b13 u0 u1
    go_wp2
    go_ret
    exact ⟨rfl, unhide B⟩
  · go_upto_region 27 with fail
    obtain ⟨x0, x1⟩ := box_2 (unhide BX)
    obtain ⟨y0, y1⟩ := box_2 (unhide BY)
    go_wp2_with fail
    refine (auditCheck_any _ _ _ _ _ _ _ bs' _ _ _ zs _ (unhide HI) (unhide HV) (by omega) (unhide HPZ)).mono ?_
    rintro e w12 ⟨he, b12⟩
    rw [aud_ask (unhide HNO)] at he
    subst he
    have u0 := (b12.cell (cell_lt x0)).trans x0
    have u1 := (b12.cell (cell_lt x1)).trans x1
    replace HK := hide ((unhide HK).below b12)
    replace HV := hide ((unhide HV).below b12)
    replace B := hide (bt (unhide B) b12)
    clear b12 x0 x1 y0 y1
    go_wp2_with (go_at_call 10; refine (num_any _ _).mono ?_; rintro e w' ⟨rfl, hw'⟩; rw [hw']; clear hw' w')
    refine (auditCheck_any _ _ _ _ _ _ _ [1, 3] _ _ _ zs _ (unhide HK) (unhide HV) (by decide) (unhide HPZ)).mono ?_
    rintro e w13 ⟨he, b13⟩
    rw [aud_sh (.inr (.inl (by omega)))] at he
    subst he
    replace B := hide (bt (unhide B) b13)
    clear b13 u0 u1
    go_wp2
    go_ret
    exact ⟨rfl, unhide B⟩
  · go_upto_region 27 with fail
    obtain ⟨x0, x1⟩ := box_2 (unhide BX)
    obtain ⟨y0, y1⟩ := box_2 (unhide BY)
    go_wp2_with fail
    refine (auditCheck_any _ _ _ _ _ _ _ bs' _ _ _ zs _ (unhide HI) (unhide HV) (by omega) (unhide HPZ)).mono ?_
    rintro e w12 ⟨he, b12⟩
    rw [aud_ask (unhide HNO)] at he
    subst he
    have u0 := (b12.cell (cell_lt x0)).trans x0
    have u1 := (b12.cell (cell_lt x1)).trans x1
    replace HK := hide ((unhide HK).below b12)
    replace HV := hide ((unhide HV).below b12)
    replace B := hide (bt (unhide B) b12)
    clear b12 x0 x1 y0 y1
    go_wp2_with (go_at_call 10; refine (num_any _ _).mono ?_; rintro e w' ⟨rfl, hw'⟩; rw [hw']; clear hw' w')
    refine (auditCheck_any _ _ _ _ _ _ _ [1, 3] _ _ _ zs _ (unhide HK) (unhide HV) (by decide) (unhide HPZ)).mono ?_
    rintro e w13 ⟨he, b13⟩
    rw [aud_sh (.inr (.inr (.inr (by omega))))] at he
    subst he
    replace B := hide (bt (unhide B) b13)
    clear b13 u0 u1
    go_wp2
    go_ret
    exact ⟨rfl, unhide B⟩
  · go_upto_region 27 with fail
    obtain ⟨x0, x1⟩ := box_2 (unhide BX)
    obtain ⟨y0, y1⟩ := box_2 (unhide BY)
    go_wp2_with fail
    refine (auditCheck_any _ _ _ _ _ _ _ bs' _ _ _ zs _ (unhide HI) (unhide HV) (by omega) (unhide HPZ)).mono ?_
    rintro e w12 ⟨he, b12⟩
    rw [aud_ask (unhide HNO)] at he
    subst he
    have u0 := (b12.cell (cell_lt x0)).trans x0
    have u1 := (b12.cell (cell_lt x1)).trans x1
    replace HK := hide ((unhide HK).below b12)
    replace HV := hide ((unhide HV).below b12)
    replace B := hide (bt (unhide B) b12)
    clear b12 x0 x1 y0 y1
    go_wp2_with (go_at_call 10; refine (num_any _ _).mono ?_; rintro e w' ⟨rfl, hw'⟩; rw [hw']; clear hw' w')
    refine (auditCheck_any _ _ _ _ _ _ _ [1, 3] _ _ _ zs _ (unhide HK) (unhide HV) (by decide) (unhide HPZ)).mono ?_
    rintro e w13 ⟨he, b13⟩
    rw [aud_sh (.inr (.inr (.inl (by omega))))] at he
    subst he
    replace B := hide (bt (unhide B) b13)
    clear b13 u0 u1
    go_wp2
    go_ret
    exact ⟨rfl, unhide B⟩
  · obtain ⟨g, cap, eg, hg, hcc, _, _⟩ := ownZ_form (unhide HO).outer (by rw [unhide HZL]; decide)
    simp only [Value.slice.injEq, Option.some.injEq, Addr.mk.injEq, and_true] at eg
    obtain ⟨⟨rfl, rfl⟩, -, rfl⟩ := eg
    have hO := unhide HO
    obtain ⟨v1, hv1⟩ : ∃ v1, us[1]? = some v1 := ⟨_, List.getElem?_eq_getElem (show 1 < us.length by rw [hO.len, unhide HZL]; decide)⟩
    have hr1 := hO.row 1 v1 hv1
    obtain ⟨p1, c1, e1, I1⟩ := hr1.ints
    subst e1
    have h2 := unhide HZ2 1 (by decide)
    obtain ⟨hc1, pb, po, ep1⟩ := I1.cap (by omega)
    subst ep1
    have cy : w11.cell? ⟨ab, 4, none⟩ = some (.slice (some ⟨pb, po, none⟩) 2 c1) := by
      have ho := hO.outer
      rw [unhide HZL] at ho
      rw [World.ownsRow.cellAt ho 4 (by decide), (ansCells_at hO.len (i := 1) (by rw [unhide HZL]; decide)).2.1, hv1, h2]
    have fy : w11.frozen? ⟨ab, 4, none⟩ = false := by
      have ho := hO.outer
      rw [unhide HZL] at ho
      exact World.ownsRow.frozenAt ho 4
    have hcut := AnsO.cut (g := ab) (c := c4) hO (unhide HZL) (by decide) hv1 (by omega)
    rw [h2] at hc1
    have hc1' : (1 : Int) ≤ c1 := by omega
    obtain ⟨hbW, _⟩ := unhide hab1
    have hY := unhide habY
    have BX2 : Hid ((w11.setCell ⟨ab, 4, none⟩ (.slice (some ⟨pb, po, none⟩) 1 c1)).heap[w3.heap.size + 1]? = _) := hide ((Below.heap_setCell _ _ _ _ (by show w3.heap.size + 1 ≠ ab; omega)).trans (unhide BX))
    have BY2 : Hid ((w11.setCell ⟨ab, 4, none⟩ (.slice (some ⟨pb, po, none⟩) 1 c1)).heap[gy]? = _) := hide ((Below.heap_setCell _ _ _ _ (by show gy ≠ ab; omega)).trans (unhide BY))
    have HK2 := hide ((unhide HK).set (d := ⟨ab, 4, none⟩) (.slice (some ⟨pb, po, none⟩) 1 c1) (fun b o e => by simp at e; show b ≠ ab; omega))
    have HI2 := hide ((unhide HI).set (d := ⟨ab, 4, none⟩) (.slice (some ⟨pb, po, none⟩) 1 c1) (fun b o e => by have := unhide HWH b o e; have := (unhide hab1).2; show b ≠ ab; omega))
    have HV2 := hide hcut
    have hwab : w.heap.size ≤ ab := by omega
    have B2 := hide ((unhide B).setCell (p := ⟨ab, 4, none⟩) hwab (.slice (some ⟨pb, po, none⟩) 1 c1))
    obtain ⟨Z2, eZ2⟩ : ∃ Z2, Z2 = [zs.getD 0 ans0, ⟨(zs.getD 1 ans0).blk, (zs.getD 1 ans0).path.take 1, (zs.getD 1 ans0).keyed⟩] := ⟨_, rfl⟩
    rw [← eZ2] at HV2
    have HZP : Hid (decide (Aud (R : Int) 1 0 3 [1, 3] Z2) = false) := hide (by rw [eZ2]; exact aud_cut (zs := zs) (by rw [List.length_take]; omega))
    have HPZ2 : Hid (∀ j, j < 2 → (Z2.getD j ans0).path.length ≤ 140737488351232) := hide (fun j hj => by
      rw [eZ2]
      have : j = 0 ∨ j = 1 := by omega
      rcases this with rfl | rfl
      · exact unhide HPZ 0 (by decide)
      · show ((zs.getD 1 ans0).path.take 1).length ≤ _
        rw [List.length_take]; omega)
    clear eZ2 hcut hO hr1 hv1 I1 HO HV HK HI BX BY B
    go_upto_region 27 with fail
    generalize (w11.setCell ⟨ab, 4, none⟩ (.slice (some ⟨pb, po, none⟩) 1 c1)) = w11' at *
    obtain ⟨x0, x1⟩ := box_2 (unhide BX2)
    obtain ⟨y0, y1⟩ := box_2 (unhide BY2)
    go_wp2_with fail
    refine (auditCheck_any _ _ _ _ _ _ _ bs' _ _ _ Z2 _ (unhide HI2) (unhide HV2) (by omega) (unhide HPZ2)).mono ?_
    rintro e w12 ⟨he, b12⟩
    rw [aud_ask (unhide HNO)] at he
    subst he
    have u0 := (b12.cell (cell_lt x0)).trans x0
    have u1 := (b12.cell (cell_lt x1)).trans x1
    replace HK2 := hide ((unhide HK2).below b12)
    replace HV2 := hide ((unhide HV2).below b12)
    replace B2 := hide (bt (unhide B2) b12)
    clear b12 x0 x1 y0 y1
    go_wp2_with (go_at_call 10; refine (num_any _ _).mono ?_; rintro e w' ⟨rfl, hw'⟩; rw [hw']; clear hw' w')
    refine (auditCheck_any _ _ _ _ _ _ _ [1, 3] _ _ _ Z2 _ (unhide HK2) (unhide HV2) (by decide) (unhide HPZ2)).mono ?_
    rintro e w13 ⟨he, b13⟩
    rw [unhide HZP] at he
    subst he
    replace B2 := hide (bt (unhide B2) b13)
    clear b13 u0 u1
    go_wp2
    go_ret
    exact ⟨rfl, unhide B2⟩
end Go.Proofs.Ytmphbajnadbggab
