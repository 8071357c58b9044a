/- What the statement DiskForms asks: disks that may not be, and what lies between its table's operations. -/
import Derived.Test.YtpmbmhjhclekeaaDskLoop
import Derived.Test.YtpmbmhjhclekeaaKEnc
namespace Go.Proofs.Ytpmbmhjhclekeaa
open Go.RowKit
set_option linter.unusedVariables false
set_option linter.unusedSimpArgs false
attribute [local go_sem ↓] Go.wp_at_zero Go.wp_at_succ
theorem st_no {d : Dsk} (h : ¬ MayD d) : stateD d = 1300 := by rw [stateD, if_neg h]
theorem no_read {d : Dsk} (h : ¬ MayD d) (a : Int) : readD d a = (ByteArray.empty, 1300) := by rw [readD, st_no h, if_neg (by decide)]
theorem no_write {d : Dsk} (h : ¬ MayD d) (a : Int) (s : ByteArray) : writeD d a s = (dsk0, 1300) := by rw [writeD, st_no h, if_neg (by decide)]
theorem no_crash {d : Dsk} (h : ¬ MayD d) (k : Int) : crashD d k = (dsk0, 1300) := by rw [crashD, st_no h, if_neg (by decide)]
theorem no_flush {d : Dsk} (h : ¬ MayD d) : flushD d = (dsk0, 1300) := no_crash h _
theorem no_rot {d : Dsk} (h : ¬ MayD d) (a p b : Int) : rotD d a p b = (dsk0, 1300) := by rw [rotD, st_no h, if_neg (by decide)]
theorem no_lose {d : Dsk} (h : ¬ MayD d) : loseD d = (dsk0, 1300) := by rw [loseD, if_neg h]
theorem g_rd (a : Int) (h : ¬ (0 ≤ a ∧ a < 2)) : readD aD0 a = (ByteArray.empty, 1300) := by
  have h2 : ¬ (0 ≤ a ∧ a < (aD0.secs.length : Int)) := h
  rw [readD, if_pos aD0_st.2, if_neg h2]
theorem g_wat (a : Int) (s : ByteArray) (h : ¬ (0 ≤ a ∧ a < 2)) : writeD aD0 a s = (dsk0, 1300) := by rw [writeD, if_pos aD0_st.2, if_neg (fun h' => h ⟨h'.1, h'.2.1⟩)]
theorem g_wsz (a : Int) (s : ByteArray) (h : s.size ≠ 64) : writeD aD0 a s = (dsk0, 1300) := by rw [writeD, if_pos aD0_st.2, if_neg (fun h' => h h'.2.2.1)]
theorem g_rt (a p b : Int) (h : ¬ (0 ≤ p ∧ p < 64 ∧ 1 ≤ b ∧ b ≤ 255)) : rotD aD0 a p b = (dsk0, 1300) := by rw [rotD, if_pos aD0_st.2, if_neg (fun h' => h h'.2.2)]
theorem g_nw (a : Int) (h : 72 < a) : newD a = (dsk0, 1300) := by rw [newD, if_neg (by omega)]
theorem g1 (d : Nat) : readD aD0 (1 + (1 + (d : Int))) = (ByteArray.empty, 1300) := g_rd _ (by omega)
theorem g2 (d : Nat) : readD aD0 (-(1 + (d : Int))) = (ByteArray.empty, 1300) := g_rd _ (by omega)
theorem g3 (d : Nat) (s : ByteArray) : writeD aD0 (1 + (1 + (d : Int))) s = (dsk0, 1300) := g_wat _ _ (by omega)
theorem g5 (d : Nat) : rotD aD0 0 (63 + (1 + (d : Int))) 1 = (dsk0, 1300) := g_rt _ _ _ (by omega)
theorem g6' (d : Nat) : rotD aD0 0 (-(1 + (d : Int))) 1 = (dsk0, 1300) := g_rt _ _ _ (by omega)
theorem g7 : rotD aD0 0 0 0 = (dsk0, 1300) := g_rt _ _ _ (by omega)
theorem g8 (d : Nat) : rotD aD0 0 0 (255 + (1 + (d : Int))) = (dsk0, 1300) := g_rt _ _ _ (by omega)
theorem g9 (d : Nat) : newD (72 + (1 + (d : Int))) = (dsk0, 1300) := g_nw _ (by omega)
def sh5 : ByteArray := ⟨#[115, 104, 111, 114, 116]⟩
def sx1 : ByteArray := ⟨#[120]⟩
def s97 : ByteArray := fullB 97
/-- the disks of the table -/
def badD (d : Nat) : Nat → Dsk
  | 0 => dsk0
  | 1 => ⟨false, [sh5], []⟩
  | 2 => ⟨false, [aZ, aZ], [(2, s97)]⟩
  | 3 => ⟨false, [aZ, aZ], [(-(1 + (d : Int)), s97)]⟩
  | 4 => ⟨false, [aZ, aZ], [(0, sx1)]⟩
  | 5 => ⟨true, [aZ, aZ], []⟩
  | 6 => ⟨true, [], [(0, s97)]⟩
  | _ => ⟨false, List.replicate (72 + (1 + d)) ByteArray.empty, []⟩
theorem bad_no (d i : Nat) (hi : i < 8) : ¬ MayD (badD d i) := by
  have hc : i = 0 ∨ i = 1 ∨ i = 2 ∨ i = 3 ∨ i = 4 ∨ i = 5 ∨ i = 6 ∨ i = 7 := by omega
  rcases hc with rfl | rfl | rfl | rfl | rfl | rfl | rfl | rfl
  · intro h; have := ((mayD_live rfl).1 h).1; simp [badD, dsk0] at this
  · intro h; have : sh5.size = 64 := ((mayD_live rfl).1 h).2.2.2.1 0 (by simp [badD]); exact absurd this (by decide)
  · intro h; have := (((mayD_live rfl).1 h).2.2.2.2 0 (by simp [badD])).2.1; simp [badD] at this
  · intro h; have := (((mayD_live rfl).1 h).2.2.2.2 0 (by simp [badD])).1; simp [badD] at this; omega
  · intro h; have : sx1.size = 64 := (((mayD_live rfl).1 h).2.2.2.2 0 (by simp [badD])).2.2; exact absurd this (by decide)
  · intro h; have := ((mayD_lost rfl).1 h).1; simp [badD] at this
  · intro h; have := ((mayD_lost rfl).1 h).2; simp [badD] at this
  · intro h; have := ((mayD_live rfl).1 h).2.1; simp [badD] at this; omega
theorem bad_fit (d i : Nat) (hd : d < 1024) (hi : i < 8) : (badD d i).secs.length * 16 ≤ 140737488351232 ∧ (badD d i).cache.length * 24 ≤ 140737488351232 := by
  have hc : i = 0 ∨ i = 1 ∨ i = 2 ∨ i = 3 ∨ i = 4 ∨ i = 5 ∨ i = 6 ∨ i = 7 := by omega
  rcases hc with rfl | rfl | rfl | rfl | rfl | rfl | rfl | rfl <;> simp [badD, dsk0]
  omega
/-- texts, writes, disks that can be read; a table of disks -/
def SV (w : World) (v : Value) (ss : List ByteArray) : Prop := ∃ a c, v = .slice a ss.length c ∧ Strs w a ss.length c ss
def WV (w : World) (v : Value) (l : List (Int × ByteArray)) : Prop := ∃ a c, v = .slice a l.length c ∧ WrV w a l.length c l
def DV (w : World) (v : Value) (d : Dsk) : Prop := ∃ sa sc ca cc, v = .agg #[.bool d.lost, .slice sa d.secs.length sc, .slice ca d.cache.length cc] ∧ Strs w sa d.secs.length sc d.secs ∧ WrV w ca d.cache.length cc d.cache
def DAt (w : World) (g o : Nat) (d : Dsk) : Prop := ∃ sa sc ca cc, w.cell? ⟨g, o, none⟩ = some (.bool d.lost) ∧ w.cell? ⟨g, o + 1, none⟩ = some (.slice sa d.secs.length sc) ∧ w.cell? ⟨g, o + 2, none⟩ = some (.slice ca d.cache.length cc) ∧ Strs w sa d.secs.length sc d.secs ∧ WrV w ca d.cache.length cc d.cache
def TabD (w : World) (v : Value) (d : Nat) : Prop := ∃ g, v = .slice (some ⟨g, 0, none⟩) 8 8 ∧ ∀ i, i < 8 → DAt w g (i * 3) (badD d i)
theorem SV.below {w w' : World} {v : Value} {x : List ByteArray} (h : SV w v x) (hb : Below w.heap.size w w') : SV w' v x := by obtain ⟨a, c, e, h⟩ := h; exact ⟨a, c, e, h.below hb⟩
theorem WV.below {w w' : World} {v : Value} {x : List (Int × ByteArray)} (h : WV w v x) (hb : Below w.heap.size w w') : WV w' v x := by obtain ⟨a, c, e, h⟩ := h; exact ⟨a, c, e, h.below hb⟩
theorem DV.below {w w' : World} {v : Value} {x : Dsk} (h : DV w v x) (hb : Below w.heap.size w w') : DV w' v x := by obtain ⟨a, c, a', c', e, h, h'⟩ := h; exact ⟨a, c, a', c', e, h.below hb, h'.below hb⟩
theorem TabD.below {w w' : World} {v : Value} {d : Nat} (h : TabD w v d) (hb : Below w.heap.size w w') : TabD w' v d := by
  obtain ⟨g, e, h⟩ := h
  refine ⟨g, e, fun i hi => ?_⟩
  obtain ⟨sa, sc, ca, cc, h1, h2, h3, h4, h5⟩ := h i hi
  exact ⟨sa, sc, ca, cc, (hb.cell (cell_lt h1)).trans h1, (hb.cell (cell_lt h2)).trans h2, (hb.cell (cell_lt h3)).trans h3, h4.below hb, h5.below hb⟩
theorem sv_one (w : World) (s : ByteArray) (T : TypeId) : SV (w.alloc (.cells #[.string s] T)) (.slice (some ⟨w.heap.size, 0, none⟩) 1 1) [s] := by
  refine ⟨_, _, rfl, rfl, .inr (.inr ⟨Nat.one_pos, Nat.le_refl _, _, _, rfl, fun i hi => ?_⟩)⟩
  obtain rfl : i = 0 := by simpa using hi
  rw [cell_of_row _ _ _ _ _ _ (heap_alloc_new w _)]
  rfl
theorem wv_one (w : World) (x : Int) (s : ByteArray) (T : TypeId) : WV (w.alloc (.cells #[.int .i64 x, .string s] T)) (.slice (some ⟨w.heap.size, 0, none⟩) 1 1) [(x, s)] := by
  refine ⟨_, _, rfl, rfl, .inr (.inr ⟨Nat.one_pos, Nat.le_refl _, _, _, rfl, fun i hi => ?_⟩)⟩
  have : i = 0 ∨ i = 1 := by have : i < 2 := hi; omega
  rcases this with rfl | rfl
  · rw [cell_of_row _ _ _ _ _ _ (heap_alloc_new w _)]; rfl
  · rw [cell_of_row _ _ _ _ _ _ (heap_alloc_new w _)]; rfl
theorem SV.dv {w : World} {v u : Value} {ss : List ByteArray} {l : List (Int × ByteArray)} (h : SV w v ss) (h' : WV w u l) (b : Bool) : DV w (.agg #[.bool b, v, u]) ⟨b, ss, l⟩ := by
  obtain ⟨a, c, rfl, h⟩ := h
  obtain ⟨a', c', rfl, h'⟩ := h'
  exact ⟨a, c, a', c', rfl, h, h'⟩
theorem sv_nil (w : World) : SV w (.slice none 0 0) [] := ⟨_, _, rfl, rfl, .inl ⟨rfl, rfl, rfl⟩⟩
theorem wv_nil (w : World) : WV w (.slice none 0 0) [] := ⟨_, _, rfl, WrV.nil w⟩
/-- what each operation of the table's region leaves -/
def predF (d g : Nat) (vS : Value) : Nat → Value → World → Prop
  | 0, v, _ => v = (.agg #[.bool false, .slice none 0 0, .slice none 0 0])
  | 1, v, w => SV w v [sh5]
  | 2, v, w => DV w v (badD d 1)
  | 3, v, _ => v = (.pointer (some ⟨g, 1, none⟩))
  | 4, v, _ => v = vS
  | 5, v, _ => v = (.string s97)
  | 6, v, _ => v = (.agg #[.int .i64 2, .string s97])
  | 7, v, w => WV w v [(2, s97)]
  | 8, v, w => DV w v (badD d 2)
  | 9, v, _ => v = (.pointer (some ⟨g, 1, none⟩))
  | 10, v, _ => v = vS
  | 11, v, _ => v = (.int .i64 (1 + (d : Int)))
  | 12, v, _ => v = (.int .i64 (-(1 + (d : Int))))
  | 13, v, _ => v = (.string s97)
  | 14, v, _ => v = (.agg #[.int .i64 (-(1 + (d : Int))), .string s97])
  | 15, v, w => WV w v [(-(1 + (d : Int)), s97)]
  | 16, v, w => DV w v (badD d 3)
  | 17, v, _ => v = (.pointer (some ⟨g, 1, none⟩))
  | 18, v, _ => v = vS
  | 19, v, _ => v = (.agg #[.int .i64 0, .string sx1])
  | 20, v, w => WV w v [(0, sx1)]
  | 21, v, w => DV w v (badD d 4)
  | 22, v, _ => v = (.pointer (some ⟨g, 1, none⟩))
  | 23, v, _ => v = vS
  | 24, v, w => DV w v (badD d 5)
  | 25, v, _ => v = (.string s97)
  | 26, v, _ => v = (.agg #[.int .i64 0, .string s97])
  | 27, v, w => WV w v [(0, s97)]
  | 28, v, w => DV w v (badD d 6)
  | 29, v, _ => v = (.int .i64 (1 + (d : Int)))
  | 30, v, _ => v = (.int .i64 (72 + (1 + (d : Int))))
  | 31, v, w => SV w v (List.replicate (72 + (1 + d)) ByteArray.empty)
  | 32, v, w => DV w v (badD d 7)
  | 33, v, w => TabD w v d
  | 34, v, w => TabD w v d
  | _, _, _ => True
theorem predF_stable (d g : Nat) (vS : Value) : ∀ i v w w', predF d g vS i v w → Below w.heap.size w w' → predF d g vS i v w' := by
  intro i v w w' h hb
  match i with
  | 0 => exact h
  | 1 => exact SV.below h hb
  | 2 => exact DV.below h hb
  | 3 => exact h
  | 4 => exact h
  | 5 => exact h
  | 6 => exact h
  | 7 => exact WV.below h hb
  | 8 => exact DV.below h hb
  | 9 => exact h
  | 10 => exact h
  | 11 => exact h
  | 12 => exact h
  | 13 => exact h
  | 14 => exact h
  | 15 => exact WV.below h hb
  | 16 => exact DV.below h hb
  | 17 => exact h
  | 18 => exact h
  | 19 => exact h
  | 20 => exact WV.below h hb
  | 21 => exact DV.below h hb
  | 22 => exact h
  | 23 => exact h
  | 24 => exact DV.below h hb
  | 25 => exact h
  | 26 => exact h
  | 27 => exact WV.below h hb
  | 28 => exact DV.below h hb
  | 29 => exact h
  | 30 => exact h
  | 31 => exact SV.below h hb
  | 32 => exact DV.below h hb
  | 33 => exact TabD.below h hb
  | 34 => exact TabD.below h hb
  | n + 35 => trivial
theorem cons_of {α : Type} {n : Nat} : ∀ {l : List α}, l.length = n + 1 → ∃ v t, l = v :: t ∧ t.length = n
  | [], h => by simp at h
  | v :: t, h => ⟨v, t, rfl, by simpa using h⟩
theorem list35 {α : Type} {l0 : List α} (h0 : l0.length = 35) : ∃ v0 v1 v2 v3 v4 v5 v6 v7 v8 v9 v10 v11 v12 v13 v14 v15 v16 v17 v18 v19 v20 v21 v22 v23 v24 v25 v26 v27 v28 v29 v30 v31 v32 v33 v34, l0 = [v0, v1, v2, v3, v4, v5, v6, v7, v8, v9, v10, v11, v12, v13, v14, v15, v16, v17, v18, v19, v20, v21, v22, v23, v24, v25, v26, v27, v28, v29, v30, v31, v32, v33, v34] := by
  obtain ⟨v0, l1, e0, h1⟩ := cons_of (n := 34) h0
  subst e0
  obtain ⟨v1, l2, e1, h2⟩ := cons_of (n := 33) h1
  subst e1
  obtain ⟨v2, l3, e2, h3⟩ := cons_of (n := 32) h2
  subst e2
  obtain ⟨v3, l4, e3, h4⟩ := cons_of (n := 31) h3
  subst e3
  obtain ⟨v4, l5, e4, h5⟩ := cons_of (n := 30) h4
  subst e4
  obtain ⟨v5, l6, e5, h6⟩ := cons_of (n := 29) h5
  subst e5
  obtain ⟨v6, l7, e6, h7⟩ := cons_of (n := 28) h6
  subst e6
  obtain ⟨v7, l8, e7, h8⟩ := cons_of (n := 27) h7
  subst e7
  obtain ⟨v8, l9, e8, h9⟩ := cons_of (n := 26) h8
  subst e8
  obtain ⟨v9, l10, e9, h10⟩ := cons_of (n := 25) h9
  subst e9
  obtain ⟨v10, l11, e10, h11⟩ := cons_of (n := 24) h10
  subst e10
  obtain ⟨v11, l12, e11, h12⟩ := cons_of (n := 23) h11
  subst e11
  obtain ⟨v12, l13, e12, h13⟩ := cons_of (n := 22) h12
  subst e12
  obtain ⟨v13, l14, e13, h14⟩ := cons_of (n := 21) h13
  subst e13
  obtain ⟨v14, l15, e14, h15⟩ := cons_of (n := 20) h14
  subst e14
  obtain ⟨v15, l16, e15, h16⟩ := cons_of (n := 19) h15
  subst e15
  obtain ⟨v16, l17, e16, h17⟩ := cons_of (n := 18) h16
  subst e16
  obtain ⟨v17, l18, e17, h18⟩ := cons_of (n := 17) h17
  subst e17
  obtain ⟨v18, l19, e18, h19⟩ := cons_of (n := 16) h18
  subst e18
  obtain ⟨v19, l20, e19, h20⟩ := cons_of (n := 15) h19
  subst e19
  obtain ⟨v20, l21, e20, h21⟩ := cons_of (n := 14) h20
  subst e20
  obtain ⟨v21, l22, e21, h22⟩ := cons_of (n := 13) h21
  subst e21
  obtain ⟨v22, l23, e22, h23⟩ := cons_of (n := 12) h22
  subst e22
  obtain ⟨v23, l24, e23, h24⟩ := cons_of (n := 11) h23
  subst e23
  obtain ⟨v24, l25, e24, h25⟩ := cons_of (n := 10) h24
  subst e24
  obtain ⟨v25, l26, e25, h26⟩ := cons_of (n := 9) h25
  subst e25
  obtain ⟨v26, l27, e26, h27⟩ := cons_of (n := 8) h26
  subst e26
  obtain ⟨v27, l28, e27, h28⟩ := cons_of (n := 7) h27
  subst e27
  obtain ⟨v28, l29, e28, h29⟩ := cons_of (n := 6) h28
  subst e28
  obtain ⟨v29, l30, e29, h30⟩ := cons_of (n := 5) h29
  subst e29
  obtain ⟨v30, l31, e30, h31⟩ := cons_of (n := 4) h30
  subst e30
  obtain ⟨v31, l32, e31, h32⟩ := cons_of (n := 3) h31
  subst e31
  obtain ⟨v32, l33, e32, h33⟩ := cons_of (n := 2) h32
  subst e32
  obtain ⟨v33, l34, e33, h34⟩ := cons_of (n := 1) h33
  subst e33
  obtain ⟨v34, l35, e34, h35⟩ := cons_of (n := 0) h34
  subst e34
  obtain rfl : l35 = [] := List.length_eq_zero_iff.1 h35
  exact ⟨v0, v1, v2, v3, v4, v5, v6, v7, v8, v9, v10, v11, v12, v13, v14, v15, v16, v17, v18, v19, v20, v21, v22, v23, v24, v25, v26, v27, v28, v29, v30, v31, v32, v33, v34, rfl⟩
theorem dat_of {w : World} {g o : Nat} {d : Dsk} {C : Array Value} {T : TypeId} (h : w.heap[g]? = some (.cells C T (0, 0))) {sa ca : Option Addr} {sc cc : Nat} (h0 : C[o]? = some (.bool d.lost)) (h1 : C[o + 1]? = some (.slice sa d.secs.length sc)) (h2 : C[o + 2]? = some (.slice ca d.cache.length cc)) (hS : Strs w sa d.secs.length sc d.secs) (hC : WrV w ca d.cache.length cc d.cache) : DAt w g o d :=
  ⟨sa, sc, ca, cc, by rw [cell_of_row _ _ _ _ _ _ h]; exact h0, by rw [cell_of_row _ _ _ _ _ _ h]; exact h1, by rw [cell_of_row _ _ _ _ _ _ h]; exact h2, hS, hC⟩
theorem g4 (a : Int) : writeD aD0 a (s97 ++ sx1) = (dsk0, 1300) := g_wsz _ _ (by rw [ByteArray.size_append]; rw [show s97.size = 64 from fullB_size 97]; decide)
theorem s97_size : s97.size = 64 := fullB_size 97
theorem sv_made (w : World) (n : Nat) (T : TypeId) (h : n ≤ maxLen) : SV (w.alloc (.cells (madeCells #[.string ByteArray.empty] n) T)) (.slice (some ⟨w.heap.size, 0, none⟩) n n) (List.replicate n ByteArray.empty) := by
  have O := own_madeT w w.heap.size n T (Nat.le_refl _) h
  obtain ⟨a, c, e, hs⟩ := O.strs
  rw [List.length_replicate] at e hs
  exact ⟨a, c, by rw [List.length_replicate]; exact e, by rw [List.length_replicate]; exact hs⟩
theorem and_1k (n : Int) : bits .and .i64 n 1023 = n % 1024 := and_mask_i64 n 10 1023 (by decide) (by decide)
end Go.Proofs.Ytpmbmhjhclekeaa
