/- DecodeSums: what is decoded of sums is the sum of what is decoded. -/
import Derived.Test.YtncehpbghnokpaaDoorAwake7
import Derived.Test.YtncehpbghnokpaaDoorPieces
import Derived.Test.YtncehpbghnokpaaDoorFormsT
import Derived.Test.YtncehpbghnokpaaDoorSomeMath
import Derived.Test.YtncehpbghnokpaaDoorSumMath2
import Derived.Test.YtncehpbghnokpaaDoorKCore
import Derived.Test.YtncehpbghnokpaaDoorBools2
import Derived.Test.YtncehpbghnokpaaDoorKRegs
import Derived.Deep.Cut
import Derived.Laws.Cover1
namespace Go.Proofs.YtncehpbghnokpaaDoor
open Go.RowKit
set_option linter.unusedVariables false
set_option linter.unusedSimpArgs false
open Vec (alikeTo numsTo May)
theorem run_min30 {P : Program} (ts : Array TypeId) (t : TypeId) (a b : Nat) : ∃ m : Nat, m ≤ a ∧ m ≤ b ∧ m ≤ 30 ∧ ∀ w : World,
    (Builtin.min_ ts t #[.int .i64 (a : Int), .int .i64 (b : Int), .int .i64 30]).run P w = .ok (.int .i64 (m : Int)) w := by
  refine ⟨min (min a b) 30, by omega, by omega, by omega, fun w => ?_⟩
  have h : (if (30 : Int) < (if (b : Int) < (a : Int) then (b : Int) else (a : Int)) then (30 : Int) else (if (b : Int) < (a : Int) then (b : Int) else (a : Int))) = ((min (min a b) 30 : Nat) : Int) := by
    split <;> split at * <;> omega
  have h2 : (Builtin.min_ ts t #[.int .i64 (a : Int), .int .i64 (b : Int), .int .i64 30]).run P w = .ok (.int .i64 (if (30 : Int) < (if (b : Int) < (a : Int) then (b : Int) else (a : Int)) then (30 : Int) else (if (b : Int) < (a : Int) then (b : Int) else (a : Int)))) w := run_min_int3 w ts t .i64 .i64 .i64 (a : Int) (b : Int) 30
  rw [h2, h]
/-- the sum of two texts, by the document's Combine -/
theorem refSum_any (p q : Option Addr) (ca cb : Nat) (A B : ByteArray) (w : World) (hx : Ints w p 2 ca [1, 1]) (hy : Strs w q 2 cb [A, B]) (hs : B.size = A.size) (h4 : A.size ≤ 4096) :
    Calls Tryd.prog 16 #[.slice p 2 ca, .slice q 2 cb] w fun e w' => e = .returned (.tuple #[.string (sum2 A B), .int .i64 0]) ∧ Below w.heap.size w w' := by
  refine (refCombine_any p q 2 2 ca cb [1, 1] [A, B] w hx hy (by decide)).mono ?_
  rintro e w' ⟨r, hr, rfl, hb⟩
  refine ⟨?_, hb⟩
  have hm : May [1, 1] [A, B] := by
    refine ⟨by decide, by decide, rfl, ?_, ?_⟩
    · intro i hi
      match i, hi with
      | 0, _ => exact ⟨rfl, h4⟩
      | 1, _ => exact ⟨hs, by show B.size ≤ 4096; omega⟩
      | n + 2, h => exact absurd h (by simp)
    · intro i hi
      match i, hi with
      | 0, _ => exact ⟨by decide, by decide⟩
      | 1, _ => exact ⟨by decide, by decide⟩
      | n + 2, h => exact absurd h (by simp)
  rcases hr with ⟨_, rfl⟩ | ⟨hno, _⟩
  · rfl
  · exact absurd hm hno
/-- the sums of the pieces -/
def sms (s t : ByteArray) (m j : Nat) : List ByteArray := (List.range j).map fun i => sum2 (s.extract (m * i) (m * i + m)) (t.extract (m * i) (m * i + m))
theorem sms_len (s t : ByteArray) (m j : Nat) : (sms s t m j).length = j := by simp [sms]
theorem sms_snoc (s t : ByteArray) (m j : Nat) : sms s t m (j + 1) = sms s t m j ++ [sum2 (s.extract (m * j) (m * j + m)) (t.extract (m * j) (m * j + m))] := by
  unfold sms
  rw [List.range_succ, List.map_append]
  rfl
theorem pcs_at' {t : ByteArray} {m j i : Nat} (h : i < j) : (pcs t m j).getD i ByteArray.empty = t.extract (m * i) (m * i + m) := by simp [pcs, List.getD, h]
theorem pcs_size' {t : ByteArray} {m k i : Nat} (hm : m * k ≤ t.size) (hi : i < k) : ((pcs t m k).getD i ByteArray.empty).size = m := by
  rw [pcs_at' hi, ByteArray.size_extract]
  have h3 : m * i + m ≤ m * k := by
    rw [← Nat.mul_succ]; exact Nat.mul_le_mul_left _ hi
  omega
theorem sms_at {s t : ByteArray} {m j i : Nat} (h : i < j) : (sms s t m j).getD i ByteArray.empty = sum2 ((pcs s m j).getD i ByteArray.empty) ((pcs t m j).getD i ByteArray.empty) := by
  rw [pcs_at' h, pcs_at' h]; simp [sms, List.getD, h]
theorem sms_size {s t : ByteArray} {m k i : Nat} (hm : m * k ≤ s.size) (hi : i < k) : ((sms s t m k).getD i ByteArray.empty).size = m := by
  rw [sms_at hi, sum2_size, pcs_size' hm hi]
theorem ints_11 (w : World) (T : TypeId) : Ints (w.alloc (.cells #[.int .i64 1, .int .i64 1] T)) (some ⟨w.heap.size, 0, none⟩) 2 2 [1, 1] := by
  refine ⟨rfl, .inr (.inr ⟨by decide, by decide, w.heap.size, 0, rfl, fun i hi => ?_⟩)⟩
  rw [Nat.zero_add, cell_of_row _ _ i _ T (0, 0) (heap_alloc_new w _)]
  match i, hi with
  | 0, _ => rfl
  | 1, _ => rfl
  | n + 2, h => exact absurd h (by omega)
theorem sum_args1 (W : World) (A B : ByteArray) (T U : TypeId) : Ints ((W.alloc (.cells #[.int .i64 1, .int .i64 1] T)).alloc (.cells #[.string A, .string B] U)).drew (some ⟨W.heap.size, 0, none⟩) 2 2 [1, 1] ∧ Strs ((W.alloc (.cells #[.int .i64 1, .int .i64 1] T)).alloc (.cells #[.string A, .string B] U)).drew (some ⟨W.heap.size + 1, 0, none⟩) 2 2 [A, B] :=
  ⟨((ints_11 W T).below (below_alloc _ _)).below ((Below.refl _ _).drew), (txt_lit (W.alloc (.cells #[.int .i64 1, .int .i64 1] T)) [A, B] U (W.heap.size + 1) #[.string A, .string B] 2 (by simp) rfl rfl).below ((Below.refl _ _).drew)⟩
theorem sum_args2 (W : World) (A B : ByteArray) (T U : TypeId) : Ints ((W.alloc (.cells #[.string A, .string B] U)).alloc (.cells #[.int .i64 1, .int .i64 1] T)).drew (some ⟨W.heap.size + 1, 0, none⟩) 2 2 [1, 1] ∧ Strs ((W.alloc (.cells #[.string A, .string B] U)).alloc (.cells #[.int .i64 1, .int .i64 1] T)).drew (some ⟨W.heap.size, 0, none⟩) 2 2 [A, B] := by
  refine ⟨?_, ((txt_lit W [A, B] U W.heap.size #[.string A, .string B] 2 rfl rfl rfl).below (below_alloc _ _)).below ((Below.refl _ _).drew)⟩
  have h := ints_11 (W.alloc (.cells #[.string A, .string B] U)) T
  have e : (W.alloc (.cells #[.string A, .string B] U)).heap.size = W.heap.size + 1 := by simp
  rw [e] at h
  exact h.below ((Below.refl _ _).drew)
set_option maxRecDepth 100000 in
set_option maxHeartbeats 8000000 in
theorem DecodeSums_walk {w : World} (hM : Made w) (a0 : Int) (w0 : (Lit.int .i64 a0).wf = true) (s : ByteArray) (ws : s.size ≤ 140737488351232) (t : ByteArray) (wt : t.size ≤ 140737488351232) (a3 : Int) (w3' : (Lit.int .i64 a3).wf = true) :
    Calls Tryd.prog 6 #[.int .i64 a0, .string s, .string t, .int .i64 a3] w fun e w' => e = .returned (.bool true) ∧ Below w.heap.size w w' := by
  have MD := hide hM
  clear hM
  obtain ⟨i, hi, ei⟩ := modK a0 4 (by decide) (by decide)
  obtain ⟨d, hd⟩ : ∃ d : Nat, d = 1 + i := ⟨_, rfl⟩
  have ed : (1 + (i : Int)) = (d : Int) := by omega
  have h1 : 1 ≤ d := by omega
  have h2 : d ≤ 4 := by omega
  have ED := hide ed
  clear ed hd
  obtain ⟨R, eR⟩ : ∃ R : Nat, R = d + 2 := ⟨_, rfl⟩
  have hR6 : R ≤ 6 := by omega
  have hR1 : 1 ≤ R := by omega
  have hRI : (d : Int) + 2 = (R : Int) := by omega
  have ER := hide eR
  have HRI := hide hRI
  clear eR hRI
  have hmk : ∀ w, (Instr.makeSlice 25 (.int .i64 R) (.int .i64 R)).run Tryd.prog w = .ok (.slice (some ⟨w.heap.size, 0, none⟩) R R) (w.alloc (.cells (madeCells #[.bool false] R) 4)) := fun w => run_make_row' (P := Tryd.prog) 25 4 (.bool false) 1 Tryd.underlying25 Tryd.infoBool rfl .i64 .i64 R (by omega) (by omega) w
  go_enter Tryd.func6, Tryd.ntmps6
  go_wp2_with fail
  refine (awake7_any _ (unhide MD)).mono ?_
  rintro e w2 ⟨rfl, b2⟩
  have HB := hide b2
  clear b2
  go_upto_region 4 with fail
  rw [unhide ED]
  have BS := hide (heap_alloc_new w2 (.cells #[.int .i64 d, .int .i64 2] 23))
  have hx := below_alloc w2 (.cells #[.int .i64 d, .int .i64 2] 23)
  generalize (w2.alloc (.cells #[.int .i64 d, .int .i64 2] 23)) = W2 at *
  replace HB := hide (bt (unhide HB) hx)
  clear hx ei hi ED
  obtain ⟨cs0, cs1⟩ := box_two (unhide BS)
  go_upto_region 5 with fail
  rw [unhide HRI]
  have hR0 : ¬ (R : Int) = 0 := by omega
  obtain ⟨q1, eq1⟩ : ∃ q : Nat, q = s.size / R := ⟨_, rfl⟩
  have hq1 : (s.size : Int) / (R : Int) = (q1 : Int) := by rw [eq1]; rfl
  have hq1k : q1 * R ≤ s.size := by rw [eq1]; exact Nat.div_mul_le_self _ _
  have hq1b : q1 ≤ 140737488351232 := by have := Nat.div_le_self s.size R; omega
  obtain ⟨q2, eq2⟩ : ∃ q : Nat, q = t.size / R := ⟨_, rfl⟩
  have hq2 : (t.size : Int) / (R : Int) = (q2 : Int) := by rw [eq2]; rfl
  have hq2k : q2 * R ≤ t.size := by rw [eq2]; exact Nat.div_mul_le_self _ _
  have hq2b : q2 ≤ 140737488351232 := by have := Nat.div_le_self t.size R; omega
  obtain ⟨m, hm1, hm2, hm3, hmin⟩ := run_min30 (P := Tryd.prog) #[3, 3, 3] 3 q1 q2
  have hms : m * R ≤ s.size := Nat.le_trans (Nat.mul_le_mul_right _ hm1) hq1k
  have hmt : m * R ≤ t.size := Nat.le_trans (Nat.mul_le_mul_right _ hm2) hq2k
  have HMS := hide hms
  have HMT := hide hmt
  clear eq1 eq2 hq1k hq2k hm1 hm2 hms hmt
  have hR0n : ¬ R = 0 := by omega
  have hw1 : IntKind.i64.wrap (q1 : Int) = (q1 : Int) := by rw [IntKind.wrap_i64]; omega
  have hw2 : IntKind.i64.wrap (q2 : Int) = (q2 : Int) := by rw [IntKind.wrap_i64]; omega
  refine wp_region_ord (S := fun _ => True) [(true, 0), (true, 1), (true, 2), (true, 3), (true, 4), (true, 5), (true, 6), (true, 7), (true, 8), (true, 9)] (by kernel_rfl) (by kernel_rfl) (by kernel_rfl) (by kernel_rfl) (trivial) ?_
  simp only [withOps, List.map_cons, List.map_nil, List.getElem?_cons_succ, List.getElem?_cons_zero]
  repeat (refine walkH_read (by rfl) (by (intro gx; go_simp; try (with_reducible rfl))) ?_; try simp only [Act.put, List.setIfInBounds_toArray, List.set_cons_zero, List.set_cons_succ])
  refine walkH_nil (NoPanic.normal ?_)
  clear hq1 hq2 hw1 hw2 hmin hq1b hq2b
  have B3 := hide (bt (unhide HB) ((Below.refl W2.heap.size W2).drew))
  have BS3 : Hid (W2.drew.heap[w2.heap.size]? = some (.cells #[.int .i64 d, .int .i64 2] 23 (0, 0))) := hide (unhide BS)
  generalize W2.drew = W3 at *
  clear BS HB cs0 cs1
  obtain ⟨cs0, cs1⟩ := box_two (unhide BS3)
  go_wp2
  have OB := hide (own_bools W3 W3.heap.size R 4 (Nat.le_refl _) (by unfold maxLen; omega))
  have B4 := hide (bt (unhide B3) (below_alloc W3 (.cells (madeCells #[.bool false] R) 4)))
  have BS4 := hide (((below_alloc W3 (.cells (madeCells #[.bool false] R) 4)).block _ (lt_of_block (unhide BS3))).trans (unhide BS3))
  have hbs := lt_of_block (unhide BS3)
  have hszW := (unhide B3).size
  generalize (W3.alloc (.cells (madeCells #[.bool false] R) 4)) = W4 at *
  generalize W3.heap.size = gh at *
  clear B3 BS3 cs0 cs1
  go_loopw [13, 14] (fun mv iv wr => ∃ k c : Nat, k ≤ R ∧ c ≤ k ∧ iv = .int .i64 k ∧ mv = .int .i64 c ∧ Hid (∃ bs, SomeI d R bs k c ∧ OwnL wr gh 4 (.slice (some ⟨gh, 0, none⟩) R R) (bs.map Value.bool)) ∧ wr.heap[w2.heap.size]? = some (.cells #[.int .i64 d, .int .i64 2] 23 (0, 0)) ∧ Hid (Below w.heap.size w wr)) (fun _ iv _ => R - (intOf iv).toNat)
  case atStart => exact ⟨0, 0, by omega, by omega, rfl, rfl, hide ⟨_, SomeI.start (by have := unhide ER; omega), unhide OB⟩, unhide BS4, B4⟩
  case round =>
    clear OB B4 BS4
    obtain ⟨k, c, hk, hck, rfl, rfl, HX, hS, HW⟩ := hrel
    obtain ⟨bs, hF, hOB⟩ := unhide HX
    obtain ⟨cs0, cs1⟩ := box_two hS
    clear HX
    by_cases hlt : k < R
    · have hlt' : (k : Int) < R := by omega
      have cb := own_bcell hOB k (by rw [hF.lb]; exact hlt)
      have fb := own_free hOB k
      have cT : ∀ b : Bool, (wr.setCell ⟨gh, k, none⟩ (.bool b)).cell? ⟨gh, k, none⟩ = some (.bool b) := fun b => by
        have h := own_put hOB k (.bool b)
        rw [← List.map_set] at h
        have h2 := own_bcell h k (by simp; rw [hF.lb]; exact hlt)
        have h3 : (bs.set k b).getD k false = b := has_set' (by rw [hF.lb]; exact hlt)
        rw [h3] at h2
        exact h2
      have cT1 := cT true
      have cT0 := cT false
      clear cT
      have OB1 := hide (own_put hOB k (.bool true))
      have OB0 := hide (own_put hOB k (.bool false))
      have HBt := hide (fun v : Value => (unhide HW).setCell (p := ⟨gh, k, none⟩) (by show w.heap.size ≤ gh; omega) v)
      have HSt := hide (fun v : Value => (Below.heap_setCell wr ⟨gh, k, none⟩ v w2.heap.size (by show w2.heap.size ≠ gh; omega)).trans hS)
      have HF := hide hF
      obtain ⟨u0, eu0⟩ : ∃ u0, u0 = bs.getD k false := ⟨_, rfl⟩
      rw [← eu0] at cb
      clear eu0 hF hOB
      by_cases tb : (bits .and .i64 (a3 / 2 ^ k) 1 == 1) = true
      · go_wp2
        go_roundw
        case rel => exact ⟨k + 1, c + 1, by omega, by omega, by go_num, by go_num, hide ⟨bs.set k true, (unhide HF).yes hlt, by rw [List.map_set]; exact unhide OB1⟩, unhide HSt _, hide (unhide HBt _)⟩
        case measure => simp [intOf]; omega
      · have tb : (bits .and .i64 (a3 / 2 ^ k) 1 == 1) = false := by simpa using tb
        by_cases tc : (R : Int) - (k : Int) ≤ (d : Int) - (c : Int)
        · go_wp2
          go_roundw
          case rel => exact ⟨k + 1, c + 1, by omega, by omega, by go_num, by go_num, hide ⟨bs.set k true, (unhide HF).yes hlt, by rw [List.map_set]; exact unhide OB1⟩, unhide HSt _, hide (unhide HBt _)⟩
          case measure => simp [intOf]; omega
        · have tc2 : decide ((R : Int) - (k : Int) ≤ (d : Int) - (c : Int)) = false := by simpa using tc
          have TC := hide tc
          clear tc
          go_wp2
          go_roundw
          case rel => exact ⟨k + 1, c, by omega, by omega, by go_num, rfl, hide ⟨bs.set k false, (unhide HF).no hlt (by have := unhide TC; omega), by rw [List.map_set]; exact unhide OB0⟩, unhide HSt _, hide (unhide HBt _)⟩
          case measure => simp [intOf]; omega
    · have hlt' : ¬ (k : Int) < R := by omega
      obtain rfl : k = R := by omega
      have HSM := hide hF.fin
      have HLB := hide hF.lb
      have HOB := hide hOB
      have HSH := hide hS
      clear hF hOB hS cs0 cs1
      go_wp2
      generalize hw5 : wr = w5 at *
      clear hw5
      have hBsz := (unhide HW).size
      go_loopw [15, 16, 17, 18] (fun xv yv zv iv w6 => ∃ j : Nat, j ≤ k ∧ iv = .int .i64 j ∧ Hid (Fam w6 w5.heap.size [(9, xv, (pcs s m j).map Value.string), (9, yv, (pcs t m j).map Value.string), (9, zv, (sms s t m j).map Value.string)]) ∧ Hid (Below w5.heap.size w5 w6)) (fun _ _ _ iv _ => k - (intOf iv).toNat)
      case atStart => exact ⟨0, by omega, rfl, hide (Fam.none w5 _ [9, 9, 9]), hide (Below.refl _ _)⟩
      case round =>
        obtain ⟨j, hj, rfl, HF, HW6⟩ := hrel
        by_cases hltj : j < k
        · have hltj' : (j : Int) < k := by omega
          obtain ⟨lo, elo⟩ : ∃ lo : Nat, lo = m * j := ⟨_, rfl⟩
          have hlo : (m : Int) * (j : Int) = (lo : Int) := by rw [elo]; simp
          have hml : lo + m ≤ m * k := by
            rw [elo]
            have a1 : m * j + m = m * (j + 1) := by rw [Nat.mul_add, Nat.mul_one]
            rw [a1]
            exact Nat.mul_le_mul_left _ hltj
          have hhs : lo + m ≤ s.size := by have := unhide HMS; omega
          have hht : lo + m ≤ t.size := by have := unhide HMT; omega
          have hlo2 : lo ≤ 140737488351232 := by omega
          have hwl : IntKind.i64.wrap (lo : Int) = (lo : Int) := by rw [IntKind.wrap_i64]; omega
          have hwm : IntKind.i64.wrap ((lo : Int) + (m : Int)) = (lo : Int) + (m : Int) := by rw [IntKind.wrap_i64]; omega
          have ELO := hide elo
          clear elo hml
          have hsl := fun w => run_slice_lh (P := Tryd.prog) w 9 s Tryd.underlying9 lo (lo + m) ((lo : Int) + (m : Int)) (by omega) (by omega) hhs
          have htl := fun w => run_slice_lh (P := Tryd.prog) w 9 t Tryd.underlying9 lo (lo + m) ((lo : Int) + (m : Int)) (by omega) (by omega) hht
          obtain ⟨x, ex⟩ : ∃ x, x = s.extract lo (lo + m) := ⟨_, rfl⟩
          obtain ⟨y, ey⟩ : ∃ y, y = t.extract lo (lo + m) := ⟨_, rfl⟩
          have hxz : x.size = m := by rw [ex, ByteArray.size_extract]; omega
          have hyz : y.size = m := by rw [ey, ByteArray.size_extract]; omega
          rw [← ex] at hsl
          rw [← ey] at htl
          have EX := hide ex
          have EY := hide ey
          have HXZ := hide hxz
          have HYZ := hide hyz
          clear ex ey hxz hyz
          go_upto_region 18 with fail
          refine wp_region_ord (S := fun _ => True) [(true, 0), (true, 1), (true, 2), (true, 3), (true, 4), (true, 5), (true, 6), (true, 7), (true, 8), (true, 9), (true, 10), (true, 11), (true, 12), (true, 13), (true, 14), (true, 15), (true, 16), (true, 17), (true, 18), (true, 19), (true, 20), (true, 21)] (by kernel_rfl) (by kernel_rfl) (by kernel_rfl) (by kernel_rfl) (trivial) ?_
          simp only [withOps, List.map_cons, List.map_nil, List.getElem?_cons_succ, List.getElem?_cons_zero]
          repeat (refine walkH_read (by rfl) (by (intro gx; go_simp; try (with_reducible rfl))) ?_; try simp only [Act.put, List.setIfInBounds_toArray, List.set_cons_zero, List.set_cons_succ])
          refine walkH_nil (NoPanic.normal ?_)
          clear hsl htl hwl hwm hlo
          go_wp2_with fail
          have hI := (ints_11 wr 3).below (below_alloc (wr.alloc (.cells #[.int .i64 1, .int .i64 1] 3)) (.cells #[.string x, .string y] 9))
          have hSt := txt_lit (wr.alloc (.cells #[.int .i64 1, .int .i64 1] 3)) [x, y] 9 (wr.heap.size + 1) #[.string x, .string y] 2 (by simp) rfl rfl
          have hx7 : Below wr.heap.size wr ((wr.alloc (.cells #[.int .i64 1, .int .i64 1] 3)).alloc (.cells #[.string x, .string y] 9)).drew := by go_grown
          refine (refSum_any _ _ _ _ x y _ (hI.below ((Below.refl _ _).drew)) (hSt.below ((Below.refl _ _).drew)) (by rw [unhide HYZ, unhide HXZ]) (by rw [unhide HXZ]; omega)).mono ?_
          rintro e w7 ⟨rfl, b7⟩
          have B7 := hide (bt hx7 b7)
          have F7 := hide ((unhide HF).below (unhide B7))
          have HB7 := hide (bt (unhide HW6) (unhide B7))
          clear hI hSt hx7 b7 B7 HF HW6
          obtain ⟨z, ez⟩ : ∃ z, z = sum2 x y := ⟨_, rfl⟩
          rw [← ez]
          have EZ := hide ez
          clear ez
          go_wp2_with (first | (at_builtin; refine wpList_push w7 (by rfl) (.tmp 120) (.tmp 122) 24 (by rfl) w5.heap.size 9 (.string ByteArray.empty) 16 Tryd.underlying24 Tryd.infoText rfl _ _ (by rfl) ((unhide F7).own 0 rfl) _ (by rfl) (by rfl) (by simp [pcs_len]; omega) (by omega) (unhide HB7).size ?_; intro v1 wa O1 P1; have HBa := hide (P1.below ((unhide F7).own 0 rfl) (unhide HB7) (Nat.le_refl _) (unhide HB7).size); have Fa := hide ((unhide F7).push 0 rfl O1 P1); clear O1 P1 F7 HB7) | (at_builtin; refine wpList_push wa (by rfl) (.tmp 124) (.tmp 126) 24 (by rfl) w5.heap.size 9 (.string ByteArray.empty) 16 Tryd.underlying24 Tryd.infoText rfl _ _ (by rfl) ((unhide Fa).own 1 rfl) _ (by rfl) (by rfl) (by simp [pcs_len]; omega) (by omega) (unhide HBa).size ?_; intro v2 wb O2 P2; have HBb := hide (P2.below ((unhide Fa).own 1 rfl) (unhide HBa) (Nat.le_refl _) (unhide HBa).size); have Fb := hide ((unhide Fa).push 1 rfl O2 P2); clear O2 P2 Fa HBa) | (at_builtin; refine wpList_push wb (by rfl) (.tmp 128) (.tmp 130) 24 (by rfl) w5.heap.size 9 (.string ByteArray.empty) 16 Tryd.underlying24 Tryd.infoText rfl _ _ (by rfl) ((unhide Fb).own 2 rfl) _ (by rfl) (by rfl) (by simp [sms_len]; omega) (by omega) (unhide HBb).size ?_; intro v3 wc O3 P3; have HBc := hide (P3.below ((unhide Fb).own 2 rfl) (unhide HBb) (Nat.le_refl _) (unhide HBb).size); have Fc := hide ((unhide Fb).push 2 rfl O3 P3); clear O3 P3 Fb HBb))
          go_roundw
          case rel =>
            refine ⟨j + 1, by omega, by go_num, ?_, HBc⟩
            have := unhide Fc
            simp only [List.set_cons_zero, List.set_cons_succ] at this
            rw [pcs_snoc, pcs_snoc, sms_snoc, List.map_append, List.map_append, List.map_append, ← unhide ELO, ← unhide EX, ← unhide EY, ← unhide EZ]
            exact hide this
          case measure => simp [intOf]; omega
        · have hltj' : ¬ (j : Int) < k := by omega
          obtain rfl : j = k := by omega
          obtain ⟨px, cx, rfl, SX⟩ := ((unhide HF).own 0 rfl).strs
          obtain ⟨py, cy, rfl, SY⟩ := ((unhide HF).own 1 rfl).strs
          obtain ⟨pz, cz, rfl, SZ⟩ := ((unhide HF).own 2 rfl).strs
          rw [pcs_len] at SX SY
          rw [sms_len] at SZ
          simp only [pcs_len, sms_len]
          have HBs : Hid (Bools wr (some ⟨gh, 0, none⟩) j j bs) := hide (by
            have hO := (unhide HOB).below (unhide HW6)
            exact ⟨unhide HLB, .inr (.inr ⟨by omega, Nat.le_refl _, gh, 0, rfl, fun i hi => by rw [Nat.zero_add]; exact own_bcell hO i (by rw [unhide HLB]; exact hi)⟩)⟩)
          have HSX := hide SX
          have HSY := hide SY
          have HSZ := hide SZ
          have hS := ((unhide HW6).block _ (lt_of_block (unhide HSH))).trans (unhide HSH)
          replace HSH := hide hS
          replace HW := hide (bt (unhide HW) (unhide HW6))
          clear SX SY SZ hS HF HOB HW6
          have hms : m * j ≤ s.size := unhide HMS
          have hmt : m * j ≤ t.size := unhide HMT
          have e2 := unhide ER
          have FX : ∀ i, i < d + 2 → ((pcs s m j).getD i ByteArray.empty).size = m := fun i hi => pcs_size' hms (by omega)
          have FY : ∀ i, i < d + 2 → ((pcs t m j).getD i ByteArray.empty).size = m := fun i hi => pcs_size' hmt (by omega)
          have FZ : ∀ i, i < d + 2 → (sms s t m j).getD i ByteArray.empty = sum2 ((pcs s m j).getD i ByteArray.empty) ((pcs t m j).getD i ByteArray.empty) := fun i hi => sms_at (by omega)
          have HX := hide FX
          have HY := hide FY
          have HZ := hide FZ
          have LX : Hid ((pcs s m j).length = d + 2) := hide (by rw [pcs_len]; exact e2)
          have LY : Hid ((pcs t m j).length = d + 2) := hide (by rw [pcs_len]; exact e2)
          have LZ : Hid ((sms s t m j).length = d + 2) := hide (by rw [sms_len]; exact e2)
          have LB2 : Hid (bs.length = d + 2) := hide (by rw [unhide HLB]; exact e2)
          generalize pcs s m j = xs at *
          generalize pcs t m j = ys at *
          generalize sms s t m j = zs at *
          clear FX FY FZ hms hmt e2 HMS HMT
          obtain ⟨cs0, cs1⟩ := box_two (unhide HSH)
          go_wp2_with fail
          refine (decDecode_any d 2 _ _ _ _ _ _ xs bs wr (unhide HSX) (unhide HBs) (by omega) (by omega) ((unhide MD).up (unhide HW))).mono ?_
          rintro e w9 ⟨v9, r9, hr9, rfl, O9, b9⟩
          obtain ⟨P, rfl, hPl, hPz⟩ := dec_ok h1 h2 (by decide) (unhide LB2) (unhide LX) (by omega) (unhide HX) (unhide HSM) hr9
          have DP := hide hr9
          obtain ⟨p9, c9, rfl, S9⟩ := O9.strs
          rw [hPl] at S9 ⊢
          have HPZ := hide hPz
          have HPL := hide hPl
          have TP := hide S9
          replace HSH := hide ((b9.block _ (lt_of_block (unhide HSH))).trans (unhide HSH))
          replace HSY := hide ((unhide HSY).below b9)
          replace HSZ := hide ((unhide HSZ).below b9)
          replace HBs := hide ((unhide HBs).below b9)
          replace HW := hide (bt (unhide HW) b9)
          clear O9 b9 S9 hr9 hPl hPz cs0 cs1
          obtain ⟨cs0, cs1⟩ := box_two (unhide HSH)
          go_wp2_with fail
          refine (decDecode_any d 2 _ _ _ _ _ _ ys bs w9 (unhide HSY) (unhide HBs) (by omega) (by omega) ((unhide MD).up (unhide HW))).mono ?_
          rintro e w10 ⟨v10, r10, hr10, rfl, O10, b10⟩
          obtain ⟨Q, rfl, hQl, hQz⟩ := dec_ok h1 h2 (by decide) (unhide LB2) (unhide LY) (by omega) (unhide HY) (unhide HSM) hr10
          have DQ := hide hr10
          obtain ⟨p10, c10, rfl, S10⟩ := O10.strs
          rw [hQl] at S10 ⊢
          have HQZ := hide hQz
          have HQL := hide hQl
          have TQ := hide S10
          replace HSH := hide ((b10.block _ (lt_of_block (unhide HSH))).trans (unhide HSH))
          replace HSZ := hide ((unhide HSZ).below b10)
          replace HBs := hide ((unhide HBs).below b10)
          replace TP := hide ((unhide TP).below b10)
          replace HW := hide (bt (unhide HW) b10)
          clear O10 b10 S10 hr10 hQl hQz cs0 cs1
          obtain ⟨cs0, cs1⟩ := box_two (unhide HSH)
          go_wp2_with fail
          refine (decDecode_any d 2 _ _ _ _ _ _ zs bs w10 (unhide HSZ) (unhide HBs) (by omega) (by omega) ((unhide MD).up (unhide HW))).mono ?_
          rintro e w11 ⟨v11, r11, hr11, rfl, O11, b11⟩
          obtain rfl := decR_one (dec_sum h1 h2 (by decide) (unhide HSM) (unhide LB2) (unhide LZ) (by omega) (unhide HX) (unhide HY) (unhide HZ) (unhide DP) (unhide DQ)) hr11
          obtain ⟨p11, c11, rfl, S11⟩ := O11.strs
          have hRl : ((List.range d).map (fun i => sum2 (P.getD i ByteArray.empty) (Q.getD i ByteArray.empty))).length = d := by simp
          rw [hRl] at S11 ⊢
          have TR := hide S11
          replace HSH := hide ((b11.block _ (lt_of_block (unhide HSH))).trans (unhide HSH))
          replace TP := hide ((unhide TP).below b11)
          replace TQ := hide ((unhide TQ).below b11)
          replace HW := hide (bt (unhide HW) b11)
          clear O11 b11 S11 hr11 cs0 cs1
          obtain ⟨cs0, cs1⟩ := box_two (unhide HSH)
          have tdd : ((d : Int) != (d : Int)) = false := by simp
          go_wp2_with (go_at_call 10; refine (num_any _ _).mono ?_; rintro e w' ⟨rfl, rfl⟩)
          generalize hw12 : w' = w12 at *
          clear hw12
          obtain ⟨b9, o9, rfl, C9⟩ : ∃ b off, p9 = some ⟨b, off, none⟩ ∧ ∀ i, i < d → w12.cell? ⟨b, off + i, none⟩ = some (.string (P.getD i ByteArray.empty)) := by
            rcases (unhide TP).2.two with h | h
            · omega
            · exact h
          obtain ⟨b10, o10, rfl, C10⟩ : ∃ b off, p10 = some ⟨b, off, none⟩ ∧ ∀ i, i < d → w12.cell? ⟨b, off + i, none⟩ = some (.string (Q.getD i ByteArray.empty)) := by
            rcases (unhide TQ).2.two with h | h
            · omega
            · exact h
          obtain ⟨b11, o11, rfl, C11⟩ : ∃ b off, p11 = some ⟨b, off, none⟩ ∧ ∀ i, i < d → w12.cell? ⟨b, off + i, none⟩ = some (.string (sum2 (P.getD i ByteArray.empty) (Q.getD i ByteArray.empty))) := by
            rcases (unhide TR).2.two with h | ⟨b, off, e, h⟩
            · omega
            · refine ⟨b, off, e, fun i hi => ?_⟩
              rw [h i hi]
              simp [List.getD, hi]
          have H9 := hide C9
          have H10 := hide C10
          have H11 := hide C11
          clear C9 C10 C11 TP TQ TR cs0 cs1 DP DQ HSX HSY HSZ HBs HX HY HZ LX LY LZ LB2 HSM HLB hRl
          go_loopw [29] (fun iv wr => ∃ i : Nat, i ≤ d ∧ iv = .int .i64 i ∧ Hid (Below w12.heap.size w12 wr)) (fun iv _ => d - (intOf iv).toNat)
          case atStart => exact ⟨0, by omega, rfl, hide (Below.refl _ _)⟩
          case round =>
            obtain ⟨i, hi, rfl, HWi⟩ := hrel
            have hSi := ((unhide HWi).block _ (lt_of_block (unhide HSH))).trans (unhide HSH)
            obtain ⟨cs0, cs1⟩ := box_two hSi
            clear hSi
            by_cases hlti : i < d
            · have hlti' : (i : Int) < d := by omega
              obtain ⟨A, eA⟩ : ∃ A, A = P.getD i ByteArray.empty := ⟨_, rfl⟩
              obtain ⟨B, eB⟩ : ∃ B, B = Q.getD i ByteArray.empty := ⟨_, rfl⟩
              have cA := ((unhide HWi).cell (cell_lt (unhide H9 i hlti))).trans (unhide H9 i hlti)
              have cB := ((unhide HWi).cell (cell_lt (unhide H10 i hlti))).trans (unhide H10 i hlti)
              have cC := ((unhide HWi).cell (cell_lt (unhide H11 i hlti))).trans (unhide H11 i hlti)
              rw [← eA] at cA cC
              rw [← eB] at cB cC
              have hAz : A.size = m := by rw [eA]; exact unhide HPZ i hlti
              have hBz : B.size = m := by rw [eB]; exact unhide HQZ i hlti
              have HAZ := hide hAz
              have HBZ := hide hBz
              clear eA eB hAz hBz
              have qA := kept_cell (B := wr.heap.size) cA (cell_lt cA)
              have qB := kept_cell (B := wr.heap.size) cB (cell_lt cB)
              have CC := hide cC
              obtain ⟨Z, eZ⟩ : ∃ Z, Z = sum2 A B := ⟨_, rfl⟩
              have EZ := hide eZ
              clear cA cB cC eZ
              go_upto_region 33 with fail
              refine wp_region_ord2 (S := Below wr.heap.size wr) [1, 2, 3, 4, 5, 6, 7, 8] 0 9 [(false, 9), (false, 10), (true, 11), (true, 12), (true, 13), (true, 14), (true, 15)] [(false, 0), (false, 10), (true, 11), (true, 12), (true, 13), (true, 14), (true, 15)] (by kernel_rfl) (by kernel_rfl) (by kernel_rfl) (by kernel_rfl) ((Below.refl _ _).drew) ?_
              simp only [withOps, List.map_cons, List.map_nil, List.getElem?_cons_succ, List.getElem?_cons_zero]
              repeat (refine walkH_read (by rfl) (by (intro gx; go_simp; try (with_reducible rfl))) ?_; try simp only [Act.put, List.setIfInBounds_toArray, List.set_cons_zero, List.set_cons_succ])
              refine walkH_both ?_ ?_
              · refine walkH_do rfl (fun K hK => ?_)
                go_simp
                refine hK _ _ (by go_grown) ?_
                clear hK K
                try simp only [Act.put, List.setIfInBounds_toArray, List.set_cons_zero, List.set_cons_succ]
                repeat (refine walkH_read (by rfl) (by (intro gx; go_simp; try (with_reducible rfl))) ?_; try simp only [Act.put, List.setIfInBounds_toArray, List.set_cons_zero, List.set_cons_succ])
                refine walkH_do rfl (fun K hK => ?_)
                go_simp
                refine hK _ _ (by go_grown) ?_
                clear hK K
                try simp only [Act.put, List.setIfInBounds_toArray, List.set_cons_zero, List.set_cons_succ]
                refine walkH_do rfl (fun K hK => ?_)
                go_simp
                refine (refSum_any _ _ _ _ A B _ (sum_args1 wr A B 3 9).1 (sum_args1 wr A B 3 9).2 (by rw [unhide HBZ, unhide HAZ]) (by rw [unhide HAZ]; omega)).mono ?_
                rintro e w13 ⟨rfl, b13⟩
                rw [← unhide EZ]
                have hb13 : Below wr.heap.size wr w13 := Below.trans (by go_grown) (b13.mono (by simp; omega))
                refine hK _ _ hb13 ?_
                clear hK K
                try simp only [Act.put, List.setIfInBounds_toArray, List.set_cons_zero, List.set_cons_succ]
                repeat (refine walkH_read (by rfl) (by (intro gx; go_simp; try (with_reducible rfl))) ?_; try simp only [Act.put, List.setIfInBounds_toArray, List.set_cons_zero, List.set_cons_succ])
                refine walkH_nil (NoPanic.normal ?_)
                have c13 := (hb13.cell (cell_lt (unhide CC))).trans (unhide CC)
                rw [← unhide EZ] at c13
                have H13 := hide (bt (unhide HWi) hb13)
                clear b13 hb13 qA qB CC
                go_wp2
                go_roundw
                case rel => exact ⟨i + 1, by omega, by go_num, H13⟩
                case measure => simp [intOf]; omega
              · refine walkH_do rfl (fun K hK => ?_)
                go_simp
                refine hK _ _ (by go_grown) ?_
                clear hK K
                try simp only [Act.put, List.setIfInBounds_toArray, List.set_cons_zero, List.set_cons_succ]
                repeat (refine walkH_read (by rfl) (by (intro gx; go_simp; try (with_reducible rfl))) ?_; try simp only [Act.put, List.setIfInBounds_toArray, List.set_cons_zero, List.set_cons_succ])
                refine walkH_do rfl (fun K hK => ?_)
                go_simp
                refine hK _ _ (by go_grown) ?_
                clear hK K
                try simp only [Act.put, List.setIfInBounds_toArray, List.set_cons_zero, List.set_cons_succ]
                refine walkH_do rfl (fun K hK => ?_)
                go_simp
                refine (refSum_any _ _ _ _ A B _ (sum_args2 wr A B 3 9).1 (sum_args2 wr A B 3 9).2 (by rw [unhide HBZ, unhide HAZ]) (by rw [unhide HAZ]; omega)).mono ?_
                rintro e w13 ⟨rfl, b13⟩
                rw [← unhide EZ]
                have hb13 : Below wr.heap.size wr w13 := Below.trans (by go_grown) (b13.mono (by simp; omega))
                refine hK _ _ hb13 ?_
                clear hK K
                try simp only [Act.put, List.setIfInBounds_toArray, List.set_cons_zero, List.set_cons_succ]
                repeat (refine walkH_read (by rfl) (by (intro gx; go_simp; try (with_reducible rfl))) ?_; try simp only [Act.put, List.setIfInBounds_toArray, List.set_cons_zero, List.set_cons_succ])
                refine walkH_nil (NoPanic.normal ?_)
                have c13 := (hb13.cell (cell_lt (unhide CC))).trans (unhide CC)
                rw [← unhide EZ] at c13
                have H13 := hide (bt (unhide HWi) hb13)
                clear b13 hb13 qA qB CC
                go_wp2
                go_roundw
                case rel => exact ⟨i + 1, by omega, by go_num, H13⟩
                case measure => simp [intOf]; omega
            · have hlti' : ¬ (i : Int) < d := by omega
              go_wp2
              go_ret
              exact ⟨rfl, bt (unhide HW) (unhide HWi)⟩
end Go.Proofs.YtncehpbghnokpaaDoor
