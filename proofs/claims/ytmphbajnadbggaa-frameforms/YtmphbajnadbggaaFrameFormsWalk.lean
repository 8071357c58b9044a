/- The Go text of the statement FrameForms returns true, whatever the numbers. -/
import Derived.Test.YtmphbajnadbggaaAwake14
import Derived.Test.YtmphbajnadbggaaFrLows
import Derived.Deep.Cut
namespace Go.Proofs.Ytmphbajnadbggaa
open Go.RowKit
set_option linter.unusedVariables false
set_option linter.unusedSimpArgs false
theorem put_no {sl sh : Int} {s : ByteArray} {p : List Int} (h : ¬ FrMay sl sh s p) : putF sl sh s p = (ByteArray.empty, 1400) := if_neg h
theorem get_size {t : ByteArray} (h : t.size ≠ 64) (sl sh : Int) : getF t sl sh = (ByteArray.empty, [], 1400) := if_neg (fun q => h q.1)
theorem get_slot (t : ByteArray) (sl sh : Int) (h : ¬ ((0 ≤ sl ∧ sl < 24) ∧ (0 ≤ sh ∧ sh < 6))) : getF t sl sh = (ByteArray.empty, [], 1400) := by
  refine if_neg (fun q => ?_)
  have h1 := q.2
  unfold putF at h1
  rw [if_neg (fun m => h ⟨m.1, m.2.1⟩)] at h1
  have := congrArg Prod.snd h1
  simp at this
def zz64 : ByteArray := strOfNums (List.replicate 64 0)
theorem get_zeros : getF zz64 2 1 = (ByteArray.empty, [], 1400) := by
  refine if_neg (fun q => ?_)
  have h1 : byts (putF 2 1 (zz64.extract 4 36) (getPath zz64 (frCount zz64))).1 = byts zz64 := by rw [q.2]
  exact absurd h1 (by decide +kernel)
theorem OwnL.ints0 {w : World} {B e : Nat} {p : Option Addr} {n cap : Nat} {ss : List Int} (h : OwnL w B e (.slice p n cap) (ss.map (Value.int .i64))) : Ints w p n cap ss := by
  obtain ⟨a, c, e, hi⟩ := h.ints
  simp only [Value.slice.injEq] at e
  obtain ⟨rfl, rfl, rfl⟩ := e
  exact hi
theorem none_ints (w : World) : Ints w none 0 0 [] := ⟨rfl, .inl ⟨rfl, rfl, rfl⟩⟩
set_option maxRecDepth 100000 in
set_option maxHeartbeats 4000000 in
theorem FrameForms_walk {w : World} (a0 : Int) (w0 : (Lit.int .i64 a0).wf = true) (a1 : Int) (w1 : (Lit.int .i64 a1).wf = true) : Calls Try.prog 5 #[.int .i64 a0, .int .i64 a1] w fun e w' => e = .returned (.bool true) ∧ Below w.heap.size w w' := by
  obtain ⟨wh, hwh, ewh⟩ := modT a0 4 (by decide) (by decide)
  have hx : ∃ d : Nat, d < 1024 ∧ bits .and .i64 a1 1023 = (d : Int) := by
    refine ⟨(a1 % 1024).toNat, by omega, ?_⟩
    rw [and_1023]; omega
  obtain ⟨d, hd, ed⟩ := hx
  obtain ⟨D, eD⟩ : ∃ D : Nat, 1 + (d : Int) = (D : Int) := ⟨1 + d, by omega⟩
  have hD1 : 1 ≤ D := by omega
  have hD2 : D ≤ 1024 := by omega
  obtain ⟨A, eA⟩ : ∃ A : Nat, 23 + (D : Int) = (A : Int) := ⟨23 + D, by omega⟩
  obtain ⟨C, eC⟩ : ∃ C : Nat, 5 + (D : Int) = (C : Int) := ⟨5 + D, by omega⟩
  obtain ⟨M, eM⟩ : ∃ M : Nat, 3 + (D : Int) = (M : Int) := ⟨3 + D, by omega⟩
  obtain ⟨G, eG⟩ : ∃ G : Nat, 2147483646 + (D : Int) = (G : Int) := ⟨2147483646 + D, by omega⟩
  have hA : 24 ≤ A := by omega
  have hC : 6 ≤ C := by omega
  have hM1 : 4 ≤ M := by omega
  have hM2 : M ≤ 2000 := by omega
  have hG : 2147483647 ≤ (G : Int) := by omega
  have hmk := fun w => run_make_row' (P := Try.prog) 22 3 (.int .i64 0) 8 Try.underlying22 Try.infoInt rfl .i64 .i64 M (by omega) (by omega) w
  obtain ⟨s, es⟩ : ∃ s, s = textS 113 := ⟨_, rfl⟩
  have hss : s.size = 32 := by rw [es]; exact textS_size 113
  have pa := put_no (sl := (A : Int)) (sh := 0) (s := s) (p := []) (fun m => by have := m.1.2; omega)
  have pb := put_no (sl := -(D : Int)) (sh := 0) (s := s) (p := []) (fun m => by have := m.1.1; omega)
  have pc := put_no (sl := 0) (sh := (C : Int)) (s := s) (p := []) (fun m => by have := m.2.1.2; omega)
  have pe := put_no (sl := 0) (sh := -(D : Int)) (s := s) (p := []) (fun m => by have := m.2.1.1; omega)
  obtain ⟨sx, esx⟩ : ∃ sx : ByteArray, s ++ (⟨#[120]⟩ : ByteArray) = sx := ⟨_, rfl⟩
  have hsx : sx.size = 33 := by rw [← esx, ByteArray.size_append, hss]; rfl
  have pf := put_no (sl := 0) (sh := 0) (s := sx) (p := []) (fun m => by have := m.2.2.1; omega)
  have pg := put_no (sl := 0) (sh := 0) (s := s) (p := List.replicate M 0) (fun m => by have := m.2.2.2.2; rw [List.length_replicate] at this; omega)
  have ph := put_no (sl := 0) (sh := 0) (s := s) (p := [-(D : Int)]) (fun m => by have := (m.2.2.2.1 _ (List.mem_singleton.2 rfl)).1; omega)
  have pi := put_no (sl := 0) (sh := 0) (s := s) (p := [(G : Int)]) (fun m => by have := (m.2.2.2.1 _ (List.mem_singleton.2 rfl)).2; omega)
  have hfm : FrMay 2 1 s [7] := by rw [es]; decide +kernel
  have pj : putF 2 1 s [7] = (frB 2 1 s [7], 0) := if_pos hfm
  obtain ⟨F, eF⟩ : ∃ F, F = frB 2 1 s [7] := ⟨_, rfl⟩
  have hF : F.size = 64 := by rw [eF]; exact frB_size _ _ _ _ hss
  rw [← eF] at pj
  have gm := get_slot F (-(D : Int)) 1 (fun m => by have := m.1.1; omega)
  have go := get_slot F 2 (C : Int) (fun m => by have := m.2.2; omega)
  have ES : Hid (textS 113 = s) := hide es.symm
  have PA := hide pa
  have PB := hide pb
  have PC := hide pc
  have PE := hide pe
  have PF := hide pf
  have PG := hide pg
  have PH := hide ph
  have PI := hide pi
  have PJ := hide pj
  have GM := hide gm
  have GO := hide go
  have HG := hide hG
  clear pa pb pc pe pf pg ph pi pj gm go es hfm eF hG
  go_enter Try.func5, Try.ntmps5
  go_wp2_with fail
  refine (awake14_any _).mono ?_
  rintro e w2 ⟨rfl, b2⟩
  have B := hide b2
  clear b2
  go_wp2_with fail
  refine (text_any 113 (by decide) _).mono ?_
  rintro e w3 ⟨rfl, b3⟩
  rw [unhide ES]
  replace B := hide (bt (unhide B) b3)
  clear b3
  -- PUTS
  go_wp2_with fail
  refine (framePut_any (A : Int) 0 s none 0 0 [] _ (none_ints _) (by decide)).mono ?_
  rintro e w4 ⟨he, b4⟩
  rw [unhide PA] at he
  replace he : e = Ending.returned (.tuple #[.string ByteArray.empty, .int .i64 1400]) := he
  subst he
  replace B := hide (bt (unhide B) b4)
  clear b4
  go_wp2_with fail
  refine (framePut_any (-(D : Int)) 0 s none 0 0 [] _ (none_ints _) (by decide)).mono ?_
  rintro e w5 ⟨he, b5⟩
  rw [unhide PB] at he
  replace he : e = Ending.returned (.tuple #[.string ByteArray.empty, .int .i64 1400]) := he
  subst he
  replace B := hide (bt (unhide B) b5)
  clear b5
  go_wp2_with fail
  refine (framePut_any 0 (C : Int) s none 0 0 [] _ (none_ints _) (by decide)).mono ?_
  rintro e w6 ⟨he, b6⟩
  rw [unhide PC] at he
  replace he : e = Ending.returned (.tuple #[.string ByteArray.empty, .int .i64 1400]) := he
  subst he
  replace B := hide (bt (unhide B) b6)
  clear b6
  go_wp2_with fail
  refine (framePut_any 0 (-(D : Int)) s none 0 0 [] _ (none_ints _) (by decide)).mono ?_
  rintro e w7 ⟨he, b7⟩
  rw [unhide PE] at he
  replace he : e = Ending.returned (.tuple #[.string ByteArray.empty, .int .i64 1400]) := he
  subst he
  replace B := hide (bt (unhide B) b7)
  clear b7
  go_wp2_with fail
  refine (framePut_any 0 0 sx none 0 0 [] _ (none_ints _) (by decide)).mono ?_
  rintro e w8 ⟨he, b8⟩
  rw [unhide PF] at he
  replace he : e = Ending.returned (.tuple #[.string ByteArray.empty, .int .i64 1400]) := he
  subst he
  replace B := hide (bt (unhide B) b8)
  clear b8
  go_wp2_with fail
  refine (framePut_any 0 0 s _ M M (List.replicate M 0) _ (own_made w8 w8.heap.size M 3 (Nat.le_refl _) (by unfold maxLen; omega)).ints0 (by omega)).mono ?_
  rintro e w9 ⟨he, b9⟩
  rw [unhide PG] at he
  replace he : e = Ending.returned (.tuple #[.string ByteArray.empty, .int .i64 1400]) := he
  subst he
  replace B := hide (bt (unhide B) (bt (below_alloc w8 (.cells (madeCells #[.int .i64 0] M) 3)) b9))
  clear b9
  go_wp2_with fail
  refine (framePut_any 0 0 s _ 1 1 [-(D : Int)] _ (int_lit w9 [-(D : Int)] 3 w9.heap.size _ 1 rfl rfl rfl) (by decide)).mono ?_
  rintro e w10 ⟨he, b10⟩
  rw [unhide PH] at he
  replace he : e = Ending.returned (.tuple #[.string ByteArray.empty, .int .i64 1400]) := he
  subst he
  replace B := hide (bt (unhide B) (bt (below_alloc w9 (.cells #[.int .i64 (-(D : Int))] 3)) b10))
  clear b10
  go_wp2_with fail
  refine (framePut_any 0 0 s _ 1 1 [(G : Int)] _ (int_lit w10 [(G : Int)] 3 w10.heap.size _ 1 rfl rfl rfl) (by decide)).mono ?_
  rintro e w11 ⟨he, b11⟩
  rw [unhide PI] at he
  replace he : e = Ending.returned (.tuple #[.string ByteArray.empty, .int .i64 1400]) := he
  subst he
  replace B := hide (bt (unhide B) (bt (below_alloc w10 (.cells #[.int .i64 (G : Int)] 3)) b11))
  clear b11
  go_wp2_with fail
  refine (framePut_any 2 1 s _ 1 1 [7] _ (int_lit w11 [7] 3 w11.heap.size _ 1 rfl rfl rfl) (by decide)).mono ?_
  rintro e w12 ⟨he, b12⟩
  rw [unhide PJ] at he
  replace he : e = Ending.returned (.tuple #[.string F, .int .i64 0]) := he
  subst he
  replace B := hide (bt (unhide B) (bt (below_alloc w11 (.cells #[.int .i64 7] 3)) b12))
  clear b12
  go_upto_region 14 with fail
  have hmk8 : ∀ w, (Instr.makeSlice 41 (.int .i64 64) (.int .i64 64)).run Try.prog w = .ok (.slice (some ⟨w.heap.size, 0, none⟩) 64 64) (w.alloc (.cells (madeCells #[.int .u8 0] 64) 5)) := fun w => run_make_row' (P := Try.prog) 41 5 (.int .u8 0) 1 Try.underlying41 Try.infoByte' rfl .i64 .i64 64 (by omega) (by omega) w
  have hmin := fun w => run_min_int2 (P := Try.prog) w #[3, 3] 3 .i64 .i64 64 63
  have hsl := fun w => run_slice_0h (P := Try.prog) w 9 F Try.underlying9 63 63 rfl (by omega)
  obtain ⟨Fx, eFx⟩ : ∃ Fx : ByteArray, F ++ (⟨#[120]⟩ : ByteArray) = Fx := ⟨_, rfl⟩
  have hFx : Fx.size = 65 := by rw [← eFx, ByteArray.size_append, hF]; rfl
  obtain ⟨Fs, eFs⟩ : ∃ Fs, Fs = F.extract 0 63 := ⟨_, rfl⟩
  have hFs : Fs.size = 63 := by rw [eFs, ByteArray.size_extract, hF]; rfl
  rw [← eFs] at hsl
  clear eFs
  refine wp_region_ord_then (S := fun _ => True) [(true, 0), (true, 1), (true, 4), (true, 5), (true, 6), (true, 7), (true, 8), (false, 2), (false, 3), (false, 9)] (List.cons_ne_nil _ _) (by kernel_rfl) (by kernel_rfl) (by kernel_rfl) (by kernel_rfl) (by kernel_rfl) True.intro ?_
  simp only [List.dropLast_cons_cons, List.dropLast_singleton, List.getLast_cons_cons, List.getLast_singleton, withOps, List.map_cons, List.map_nil, List.getElem?_cons_succ, List.getElem?_cons_zero]
  repeat (refine walkH_read (by rfl) (by (intro gx; go_simp; try (with_reducible rfl))) ?_; try simp only [Act.put, List.setIfInBounds_toArray, List.set_cons_zero, List.set_cons_succ])
  refine walkH_do rfl (fun K hK => ?_)
  go_simp
  have HO := own_made8 w12 w12.heap.size 64 5 (Nat.le_refl _) (by decide)
  have hcell : ∀ j, j < 64 → ((w12.alloc (.cells (madeCells #[.int .u8 0] 64) 5)).drew).cell? ⟨w12.heap.size, 0 + j, none⟩ = some (.int .u8 ((List.replicate 64 (0 : Int)).getD j 0)) := fun j hj => by
    rw [Nat.zero_add]
    refine (World.ownsRow.cellAt (own_row' HO) j (by simpa using hj)).trans ?_
    rw [List.getElem?_map, List.getElem?_eq_getElem (by simpa using hj)]
    simp [List.getD, hj]
  have hcb := run_convert_bytes_arg (P := Try.prog) ((w12.alloc (.cells (madeCells #[.int .u8 0] 64) 5)).drew) 41 5 Try.underlying41 Try.underlying5 w12.heap.size 0 64 64 (List.replicate 64 (0 : Int)) List.length_replicate hcell 9 Try.underlying9
  replace hcb : (convert 41 9 (.slice (some ⟨w12.heap.size, 0, none⟩) 64 64)).run Try.prog ((w12.alloc (.cells (madeCells #[.int .u8 0] 64) 5)).drew) = .ok (.string zz64) ((w12.alloc (.cells (madeCells #[.int .u8 0] 64) 5)).drew) := hcb
  replace B := hide ((bt (unhide B) (below_alloc w12 (.cells (madeCells #[.int .u8 0] 64) 5))).drew)
  clear HO hcell
  refine hK _ _ trivial ?_
  clear hK K
  try simp only [Act.put, List.setIfInBounds_toArray, List.set_cons_zero, List.set_cons_succ]
  refine walkH_do rfl (fun K hK => ?_)
  go_simp
  generalize (w12.alloc (.cells (madeCells #[.int .u8 0] 64) 5)).drew = V2 at *
  refine hK _ _ trivial ?_
  clear hK K hcb
  try simp only [Act.put, List.setIfInBounds_toArray, List.set_cons_zero, List.set_cons_succ]
  refine walkH_do rfl (fun K hK => ?_)
  go_simp
  refine hK _ _ trivial ?_
  clear hK K
  try simp only [Act.put, List.setIfInBounds_toArray, List.set_cons_zero, List.set_cons_succ]
  refine lastPost_of_list ?_
  simp only [List.cons_append, List.nil_append]
  go_wp2_with fail
  refine NoPanic.normal ?_
  obtain ⟨tb, etb⟩ : ∃ tb, tb = [(⟨#[]⟩ : ByteArray), Fx, zz64, Fs].getD wh ByteArray.empty := ⟨_, rfl⟩
  have hgb : getF tb 2 1 = (ByteArray.empty, [], 1400) := by
    rcases (show wh = 0 ∨ wh = 1 ∨ wh = 2 ∨ wh = 3 by omega) with h | h | h | h
    · subst h; rw [etb]; exact get_size (show (⟨#[]⟩ : ByteArray).size ≠ 64 by decide) 2 1
    · subst h; rw [etb]; exact get_size (show Fx.size ≠ 64 by omega) 2 1
    · subst h; rw [etb]; exact get_zeros
    · subst h; rw [etb]; exact get_size (show Fs.size ≠ 64 by omega) 2 1
  have hcc : (V2.alloc (.cells #[.string ⟨#[]⟩, .string Fx, .string zz64, .string Fs] 9)).cell? ⟨V2.heap.size, wh, none⟩ = some (.string tb) := by
    rw [cell_of_row _ _ wh _ _ (0, 0) (heap_alloc_new V2 _)]
    rcases (show wh = 0 ∨ wh = 1 ∨ wh = 2 ∨ wh = 3 by omega) with h | h | h | h <;> (subst h; rw [etb]; rfl)
  replace B := hide (bt (unhide B) (below_alloc V2 (.cells #[.string ⟨#[]⟩, .string Fx, .string zz64, .string Fs] 9)))
  have HGB := hide hgb
  clear etb hgb
  generalize V2.alloc (.cells #[.string ⟨#[]⟩, .string Fx, .string zz64, .string Fs] 9) = V3 at *
  go_wp2_with fail
  refine (frameGet_any tb 2 1 _ (by decide)).mono ?_
  rintro e w14 ⟨v14, he, O14, b14⟩
  rw [unhide HGB] at he O14
  replace he : e = Ending.returned (.tuple #[.string ByteArray.empty, v14, .int .i64 1400]) := he
  subst he
  obtain ⟨p14, c14, rfl, _⟩ := O14.ints
  replace B := hide (bt (unhide B) b14)
  clear O14 b14 hcc
  go_wp2_with fail
  refine (frameGet_any F (-(D : Int)) 1 _ (wf_fr (by omega) (by omega))).mono ?_
  rintro e w15 ⟨v15, he, O15, b15⟩
  rw [unhide GM] at he O15
  replace he : e = Ending.returned (.tuple #[.string ByteArray.empty, v15, .int .i64 1400]) := he
  subst he
  obtain ⟨p15, c15, rfl, _⟩ := O15.ints
  replace B := hide (bt (unhide B) b15)
  clear O15 b15
  go_wp2_with fail
  refine (frameGet_any F 2 (C : Int) _ (by decide)).mono ?_
  rintro e w16 ⟨v16, he, O16, b16⟩
  rw [unhide GO] at he O16
  replace he : e = Ending.returned (.tuple #[.string ByteArray.empty, v16, .int .i64 1400]) := he
  subst he
  obtain ⟨p16, c16, rfl, _⟩ := O16.ints
  replace B := hide (bt (unhide B) b16)
  clear O16 b16
  go_wp2_with (go_at_call 14; refine (num_any _ _).mono ?_; rintro e w' ⟨rfl, rfl⟩)
  go_ret
  exact ⟨rfl, unhide B⟩
end Go.Proofs.Ytmphbajnadbggaa
