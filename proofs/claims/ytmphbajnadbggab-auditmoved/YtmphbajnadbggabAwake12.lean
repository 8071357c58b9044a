/- 'awake' of the statements over package audit returns true. -/
import Derived.Test.YtmphbajnadbggabAuditWalk
import Derived.Test.YtmphbajnadbggabTreeWalk
import Derived.Test.YtmphbajnadbggabAwake10
namespace Go.Proofs.Ytmphbajnadbggab
open Go.RowKit
set_option linter.unusedVariables false
set_option linter.unusedSimpArgs false
def wS : ByteArray := textS 97
def wR : Nat := Tree.root (leavesL wS)
def wZ : List Ans := [ansOf wS [] 7 2, ansOf wS [] 7 0]
theorem w_rsp : rspP wS [] 7 [2, 0] = (wZ, 0) := by
  have h : RspM wS [] 7 [2, 0] := by decide +kernel
  rw [rspP_yes h]
  rfl
theorem w_root : rootP (nint (leavesL wS)) = ((wR : Int), 0) := by decide +kernel
theorem w_len : (nint (leavesL wS)).length = 4 := by decide +kernel
theorem w_x : rspP ⟨#[120]⟩ [] 7 [2, 0] = ([], 1200) := rspP_no (by decide +kernel)
theorem w_4 : rspP wS [] 0 [4] = ([], 1200) := rspP_no (by decide +kernel)
theorem w_yes : decide (Aud (wR : Int) 1 0 7 [2, 0] wZ) = true := by decide +kernel
theorem w_no : decide (Aud ((wR : Int) + 1) 1 0 7 [2, 0] wZ) = false := by decide +kernel
theorem w_small : wR < 2147483647 := by decide +kernel
theorem w_path : ∀ j, j < 2 → (wZ.getD j ans0).path.length ≤ 140737488351232 := by decide +kernel
theorem w_p2 : (wZ.getD 0 ans0).path.length = 2 := by decide +kernel
theorem box_2 {w : World} {b : Nat} {x y : Value} {T : TypeId} (h : w.heap[b]? = some (.cells #[x, y] T (0, 0))) : w.cell? ⟨b, 0, none⟩ = some x ∧ w.cell? ⟨b, 1, none⟩ = some y :=
  ⟨by rw [cell_of_row _ _ 0 _ _ _ h]; rfl, by rw [cell_of_row _ _ 1 _ _ _ h]; rfl⟩
theorem w_blk : (wZ.getD 0 ans0).blk = wS.extract 16 24 := rfl
theorem w_key : (wZ.getD 0 ans0).keyed = ((Seal.pair 7 (((leavesL wS).getD 2 0 : Nat) : Int) : Nat) : Int) := rfl
set_option maxRecDepth 100000 in
set_option maxHeartbeats 4000000 in
theorem awake12_any (w : World) : Calls Try.prog 5 #[] w fun e w' => e = .returned (.bool true) ∧ Below w.heap.size w w' := by
  obtain ⟨s, es⟩ : ∃ s, s = wS := ⟨_, rfl⟩
  have hss : s.size = 32 := by rw [es]; exact textS_size 97
  obtain ⟨l, el⟩ : ∃ l, l = leavesL s := ⟨_, rfl⟩
  have hll : (nint l).length = 4 := by rw [el, es]; exact w_len
  obtain ⟨R, eR⟩ : ∃ R, R = wR := ⟨_, rfl⟩
  have hrt : rootP (nint l) = ((R : Int), 0) := by rw [el, es, eR]; exact w_root
  obtain ⟨zs, ezs⟩ : ∃ zs, zs = wZ := ⟨_, rfl⟩
  have hzl : zs.length = 2 := by rw [ezs]; rfl
  have r1 : rspP s [] 7 [2, 0] = (zs, 0) := by rw [es, ezs]; exact w_rsp
  have r3 : rspP s [] 0 [4] = ([], 1200) := by rw [es]; exact w_4
  have a1 : decide (Aud (R : Int) 1 0 7 [2, 0] zs) = true := by rw [eR, ezs]; exact w_yes
  have a2 : decide (Aud ((R : Int) + 1) 1 0 7 [2, 0] zs) = false := by rw [eR, ezs]; exact w_no
  have hpz : ∀ j, j < 2 → (zs.getD j ans0).path.length ≤ 140737488351232 := by rw [ezs]; exact w_path
  obtain ⟨y, ey⟩ : ∃ y, y = l.getD 2 0 := ⟨_, rfl⟩
  have hyl : (Lit.int .i64 (y : Int)).wf = true := by rw [ey, el, es]; exact wf_nat (by decide +kernel)
  obtain ⟨kd, ekd⟩ : ∃ kd, kd = Seal.pair 7 (y : Int) := ⟨_, rfl⟩
  have z0b : (zs.getD 0 ans0).blk = s.extract 16 24 := by rw [ezs, es]; exact w_blk
  have z0p : (zs.getD 0 ans0).path.length = 2 := by rw [ezs]; exact w_p2
  have z0k : (zs.getD 0 ans0).keyed = (kd : Int) := by rw [ezs, ekd, ey, el, es]; exact w_key
  have hRs : R < 2147483647 := by rw [eR]; exact w_small
  have ES : Hid (textS 97 = s) := hide es.symm
  have EL := hide el
  have HRT := hide hrt
  have R1 := hide r1
  have R3 := hide r3
  have A1 := hide a1
  have A2 := hide a2
  have HPZ := hide hpz
  have EY := hide ey
  have HYL := hide hyl
  have EKD := hide ekd
  have ZB := hide z0b
  have ZP := hide z0p
  have ZK := hide z0k
  have hR1 : wrap64 ((R : Int) + 1) = (R : Int) + 1 := by unfold wrap64; omega
  have HZL := hide hzl
  have HLL := hide hll
  have H7 : Hid ((Lit.int .i64 7).wf = true) := hide (by decide)
  clear es el eR hrt ezs r1 r3 a1 a2 hpz ey hyl ekd z0b z0p z0k hRs hzl hll
  go_enter Try.func5, Try.ntmps5
  go_wp2_with fail
  refine (text_any 97 (by decide) _).mono ?_
  rintro e w1 ⟨rfl, b1⟩
  rw [unhide ES]
  have B := hide b1
  clear b1
  go_wp2_with fail
  refine (refLeaves_any s _ (by omega)).mono ?_
  rintro e w2 ⟨v2, rfl, O2, b2⟩
  rw [← unhide EL] at O2
  obtain ⟨p2, c2, rfl, S2⟩ := O2.ints
  rw [unhide HLL] at S2 ⊢
  have HI := hide S2
  replace B := hide (bt (unhide B) b2)
  clear O2 S2 b2
  go_wp2_with fail
  refine (refRoot_any _ _ _ (nint l) _ (unhide HI) (by decide)).mono ?_
  rintro e w3 ⟨he, b3⟩
  rw [unhide HRT] at he
  subst he
  replace HI := hide ((unhide HI).below b3)
  replace B := hide (bt (unhide B) b3)
  clear b3
  go_upto_region 5 with fail
  have hbw := below_two w3 (.cells #[.int .i64 2, .int .i64 0] 3) (.cells #[.int .i64 7, .slice (some ⟨w3.heap.size, 0, none⟩) 2 2] 29)
  have HK := hide ((int_lit w3 [2, 0] 3 w3.heap.size #[.int .i64 2, .int .i64 0] 2 rfl rfl rfl).below (below_alloc _ (.cells #[.int .i64 7, .slice (some ⟨w3.heap.size, 0, none⟩) 2 2] 29)))
  have BX := hide (two_new w3 (.cells #[.int .i64 2, .int .i64 0] 3) (.cells #[.int .i64 7, .slice (some ⟨w3.heap.size, 0, none⟩) 2 2] 29))
  replace HI := hide ((unhide HI).below hbw)
  replace B := hide (bt (unhide B) hbw)
  clear hbw
  generalize ((w3.alloc (.cells #[.int .i64 2, .int .i64 0] 3)).alloc (.cells #[.int .i64 7, .slice (some ⟨w3.heap.size, 0, none⟩) 2 2] 29)) = W at *
  obtain ⟨x0, x1⟩ := box_2 (unhide BX)
  have hnil : ∀ w : World, Ints w none 0 0 [] := fun w => ⟨rfl, .inl ⟨rfl, rfl, rfl⟩⟩
  have HNIL := hide hnil
  clear hnil
  go_wp2_with fail
  refine (auditRespond_any s _ _ _ [] 7 _ _ _ [2, 0] _ (unhide HNIL _) (unhide HK) (by decide) (by decide)).mono ?_
  rintro e w4 ⟨v4, us, he, O4, b4⟩
  rw [unhide R1] at he O4
  subst he
  obtain ⟨a4, c4, ev, V4⟩ := O4.ansV
  rw [unhide HZL] at ev V4
  subst ev
  have HV := hide V4
  have hx0 := hide ((b4.cell (cell_lt x0)).trans x0)
  have hx1 := hide ((b4.cell (cell_lt x1)).trans x1)
  replace HI := hide ((unhide HI).below b4)
  replace HK := hide ((unhide HK).below b4)
  replace B := hide (bt (unhide B) b4)
  clear O4 V4 b4 x0 x1 BX
  have x0 := unhide hx0
  have x1 := unhide hx1
  go_wp2_with fail
  refine (auditRespond_any _ _ _ _ [] 7 _ _ _ [2, 0] _ (unhide HNIL _) (unhide HK) (by decide) (by decide)).mono ?_
  rintro e w5 ⟨v5, us5, he, O5, b5⟩
  rw [w_x] at he O5
  subst he
  obtain ⟨a5, c5, ev5, _⟩ := O5.ansV
  subst ev5
  replace hx0 := hide ((b5.cell (cell_lt x0)).trans x0)
  replace hx1 := hide ((b5.cell (cell_lt x1)).trans x1)
  replace HI := hide ((unhide HI).below b5)
  replace HK := hide ((unhide HK).below b5)
  replace HV := hide ((unhide HV).below b5)
  replace B := hide (bt (unhide B) b5)
  clear O5 b5 x0 x1
  go_wp2_with fail
  refine (auditRespond_any s _ _ _ [] 0 _ _ _ [4] _ (unhide HNIL _) (int_lit w5 [4] 3 w5.heap.size #[.int .i64 4] 1 rfl rfl rfl) (by decide) (by decide)).mono ?_
  rintro e w6 ⟨v6, us6, he, O6, b6⟩
  rw [unhide R3] at he O6
  subst he
  obtain ⟨a6, c6, ev6, _⟩ := O6.ansV
  subst ev6
  have b6' := bt (below_alloc w5 (.cells #[.int .i64 4] 3)) b6
  have x0 := (b6'.cell (cell_lt (unhide hx0))).trans (unhide hx0)
  have x1 := (b6'.cell (cell_lt (unhide hx1))).trans (unhide hx1)
  replace HI := hide ((unhide HI).below b6')
  replace HK := hide ((unhide HK).below b6')
  replace HV := hide ((unhide HV).below b6')
  replace B := hide (bt (unhide B) b6')
  clear O6 b6 b6' hx0 hx1
  obtain ⟨ab, ao, pp, pc, ea, hcap, y0, y1, y2, _⟩ := (unhide HV).at (j := 0) (by decide)
  subst ea
  rw [Nat.zero_mul, Nat.add_zero] at y0 y1 y2
  rw [unhide ZB] at y0
  rw [unhide ZP] at y1
  rw [unhide ZK] at y2
  obtain ⟨lb, lo, el2, hlc⟩ : ∃ b off, p2 = some ⟨b, off, none⟩ ∧ ∀ i, i < 4 → w6.cell? ⟨b, off + i, none⟩ = some (.int .i64 ((nint l).getD i 0)) := by
    rcases (unhide HI).2.two with h | h
    · omega
    · exact h
  subst el2
  have cl := hlc 2 (by decide)
  rw [nint_at, ← unhide EY] at cl
  have k0 := kept_cell (B := w6.heap.size) x0 (cell_lt x0)
  have k1 := kept_cell (B := w6.heap.size) x1 (cell_lt x1)
  have ky0 := kept_cell (B := w6.heap.size) y0 (cell_lt y0)
  have ky1 := kept_cell (B := w6.heap.size) y1 (cell_lt y1)
  have ky2 := kept_cell (B := w6.heap.size) y2 (cell_lt y2)
  have kl := kept_cell (B := w6.heap.size) cl (cell_lt cl)
  have h16 : (16 : Int) ≤ 24 := by decide
  have h24 : (24 : Int) ≤ (s.size : Int) := by omega
  have h24' : 24 ≤ s.size := by omega
  have tkd : ((kd : Int) == (kd : Int)) = true := by simp
  have hRw : IntKind.i64.wrap ((R : Int) + 1) = (R : Int) + 1 := by rw [← hR1]; simp only [IntKind.wrap_i64]; unfold wrap64; omega
  clear x0 x1 y0 y1 y2 cl hlc
  go_upto_region 10 with fail
  refine wp_region_ord_then (S := Below w6.heap.size w6) [(true, 0), (false, 1), (true, 2), (true, 3), (true, 4), (true, 5), (true, 6), (true, 7), (true, 8), (true, 9), (true, 10), (true, 11), (true, 12), (true, 13), (true, 14), (true, 15), (true, 16), (true, 17), (true, 18), (true, 19), (false, 20), (true, 21), (true, 22), (true, 23), (true, 24), (true, 25), (true, 26), (true, 27), (true, 28), (true, 29), (true, 30), (true, 31), (true, 32), (true, 33), (true, 34), (false, 35), (true, 36), (true, 37), (true, 38), (true, 39), (true, 40), (true, 41), (false, 42), (true, 43), (true, 44), (true, 45), (true, 46), (false, 47), (true, 48), (true, 49), (true, 50), (true, 51), (false, 52), (true, 53), (true, 54)] (List.cons_ne_nil _ _) (by kernel_rfl) (by kernel_rfl) (by kernel_rfl) (by kernel_rfl) (by kernel_rfl) ((Below.refl _ _).drew) ?_
  simp only [List.dropLast_cons_cons, List.dropLast_singleton, List.getLast_cons_cons, List.getLast_singleton, withOps, List.map_cons, List.map_nil, List.getElem?_cons_succ, List.getElem?_cons_zero]
  repeat (refine walkH_read (by rfl) (by (intro gx; go_simp; try (with_reducible rfl))) ?_; try simp only [Act.put, List.setIfInBounds_toArray, List.set_cons_zero, List.set_cons_succ])
  refine walkH_do rfl (fun K hK => ?_)
  go_simp
  refine (num_any _ _).mono ?_
  rintro e wn ⟨rfl, hwn⟩
  subst hwn
  refine hK _ _ ((Below.refl _ _).drew) ?_
  clear hK K
  try simp only [Act.put, List.setIfInBounds_toArray, List.set_cons_zero, List.set_cons_succ]
  repeat (refine walkH_read (by rfl) (by (intro gx; go_simp; try (with_reducible rfl))) ?_; try simp only [Act.put, List.setIfInBounds_toArray, List.set_cons_zero, List.set_cons_succ])
  refine walkH_do rfl (fun K hK => ?_)
  go_simp
  refine (refPair_any 7 y _ (unhide H7) (unhide HYL)).mono ?_
  rintro e wn ⟨rfl, hwn⟩
  subst hwn
  rw [← unhide EKD]
  refine hK _ _ ((Below.refl _ _).drew) ?_
  clear hK K
  try simp only [Act.put, List.setIfInBounds_toArray, List.set_cons_zero, List.set_cons_succ]
  repeat (refine walkH_read (by rfl) (by (intro gx; go_simp; try (with_reducible rfl))) ?_; try simp only [Act.put, List.setIfInBounds_toArray, List.set_cons_zero, List.set_cons_succ])
  refine walkH_do rfl (fun K hK => ?_)
  go_simp
  refine (auditCheck_any _ _ _ _ _ _ _ [2, 0] _ _ _ zs _ ((unhide HK).below ((Below.refl _ _).drew)) ((unhide HV).below ((Below.refl _ _).drew)) (by decide) (unhide HPZ)).mono ?_
  rintro e w7 ⟨he, b7⟩
  rw [unhide A1] at he
  subst he
  have hb7 : Below w6.heap.size w6 w7 := ((Below.refl _ _).drew).trans b7
  refine hK _ _ hb7 ?_
  clear hK K
  try simp only [Act.put, List.setIfInBounds_toArray, List.set_cons_zero, List.set_cons_succ]
  repeat (refine walkH_read (by rfl) (by (intro gx; go_simp; try (with_reducible rfl))) ?_; try simp only [Act.put, List.setIfInBounds_toArray, List.set_cons_zero, List.set_cons_succ])
  refine walkH_do rfl (fun K hK => ?_)
  go_simp
  refine (auditCheck_any _ _ _ _ _ _ _ [2, 0] _ _ _ zs _ ((unhide HK).below hb7) ((unhide HV).below hb7) (by decide) (unhide HPZ)).mono ?_
  rintro e w8 ⟨he, b8⟩
  rw [unhide A2] at he
  subst he
  have hb8 : Below w6.heap.size w6 w8 := bt hb7 b8
  refine hK _ _ hb8 ?_
  clear hK K
  try simp only [Act.put, List.setIfInBounds_toArray, List.set_cons_zero, List.set_cons_succ]
  repeat (refine walkH_read (by rfl) (by (intro gx; go_simp; try (with_reducible rfl))) ?_; try simp only [Act.put, List.setIfInBounds_toArray, List.set_cons_zero, List.set_cons_succ])
  refine walkH_do rfl (fun K hK => ?_)
  go_simp
  refine (num_any _ _).mono ?_
  rintro e wn ⟨rfl, hwn⟩
  subst hwn
  refine hK _ _ hb8 ?_
  clear hK K
  try simp only [Act.put, List.setIfInBounds_toArray, List.set_cons_zero, List.set_cons_succ]
  repeat (refine walkH_read (by rfl) (by (intro gx; go_simp; try (with_reducible rfl))) ?_; try simp only [Act.put, List.setIfInBounds_toArray, List.set_cons_zero, List.set_cons_succ])
  refine walkH_do rfl (fun K hK => ?_)
  go_simp
  refine (num_any _ _).mono ?_
  rintro e wn ⟨rfl, hwn⟩
  subst hwn
  refine hK _ _ hb8 ?_
  clear hK K
  try simp only [Act.put, List.setIfInBounds_toArray, List.set_cons_zero, List.set_cons_succ]
  repeat (refine walkH_read (by rfl) (by (intro gx; go_simp; try (with_reducible rfl))) ?_; try simp only [Act.put, List.setIfInBounds_toArray, List.set_cons_zero, List.set_cons_succ])
  refine lastPost_of_list ?_
  simp only [List.cons_append, List.nil_append]
  go_wp2
  refine NoPanic.normal ?_
  go_wp2
  go_ret
  exact ⟨rfl, bt (unhide B) hb8⟩
end Go.Proofs.Ytmphbajnadbggab
