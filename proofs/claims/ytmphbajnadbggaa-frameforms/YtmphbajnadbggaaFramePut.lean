/- The program's frames: Put. -/
import Derived.Test.YtmphbajnadbggaaFrameRefu
import Derived.Test.YtmphbajnadbggaaLittleWalk
import Derived.Test.YtmphbajnadbggaaConcatI
import Derived.Test.YtmphbajnadbggaaSealWalk
import Derived.Test.YtmphbajnadbggaaZerosOnto
import Derived.Lib.AppendStr
namespace Go.Proofs.Ytmphbajnadbggaa
open Go.RowKit
set_option linter.unusedVariables false
set_option linter.unusedSimpArgs false
/-- the bytes of a frame's numbers, one behind the other -/
def frL (hd p : List Int) : Nat → List Int
  | 0 => hd
  | k + 1 => frL hd p k ++ bytesL (p.getD k 0) 4
theorem frL_len (hd p : List Int) : ∀ k, (frL hd p k).length = hd.length + 4 * k
  | 0 => rfl
  | k + 1 => by rw [frL, List.length_append, bytesL_len, frL_len hd p k]; omega
theorem str_app (a b : List Int) : strOfNums (a ++ b) = strOfNums a ++ strOfNums b := by
  apply ByteArray.ext
  apply Array.toList_inj.1
  rw [ByteArray.data_append, Array.toList_append, strOfNums_data, strOfNums_data, strOfNums_data, List.map_append]
theorem str_frL (hd p : List Int) : ∀ k, strOfNums (frL hd p k) = frPath (strOfNums hd) p k
  | 0 => rfl
  | k + 1 => by rw [frL, str_app, str_frL hd p k]; rfl
/-- a text's bytes -/
def byI (s : ByteArray) : List Int := s.data.toList.map fun b => (b.toNat : Int)
theorem byI_len (s : ByteArray) : (byI s).length = s.size := by simp [byI]
theorem str_byI (s : ByteArray) : strOfNums (byI s) = s := by
  unfold byI
  apply ByteArray.ext
  apply Array.toList_inj.1
  rw [strOfNums_data, List.map_map]
  apply List.ext_getElem
  · simp
  · intro i h1 h2
    simp
theorem byI_cells (s : ByteArray) : Lib.strCells s = (byI s).map (Value.int .u8) := by
  unfold Lib.strCells byI
  rw [List.map_map]
  rfl
theorem one_byte (x : Int) (h : 0 ≤ x ∧ x < 256) : bytesB x 1 = strOfNums [x] := by
  have e : bytesL x 1 = [x] := by
    simp only [bytesL, List.range_succ, List.range_zero, List.nil_append, List.map_cons, List.map_nil]
    rw [Nat.mul_zero, Int.pow_zero, Int.ediv_one, Int.emod_eq_of_lt h.1 h.2]
  rw [bytesB, e]
theorem str_head (slot shard : Int) (s : ByteArray) (p : List Int) (h : FrMay slot shard s p) : strOfNums ([79, slot, shard, (p.length : Int)] ++ byI s) = frHead slot shard s p := by
  obtain ⟨h1, h2, h3, h4, h5⟩ := h
  rw [frHead, one_byte slot (by omega), one_byte shard (by omega), one_byte (p.length : Int) (by omega), str_app, str_byI]
  congr 1
theorem own_lit4 (w : World) (e : TypeId) (x y z u : Value) (B : Nat) (h : B ≤ w.heap.size) : OwnL (w.alloc (.cells #[x, y, z, u] e)) B e (.slice (some ⟨w.heap.size, 0, none⟩) 4 4) [x, y, z, u] :=
  ⟨by simp, .inr ⟨w.heap.size, 4, #[x, y, z, u], rfl, h, heap_alloc_new w _, Nat.le_refl _, by decide, rfl, by simp⟩⟩
theorem pad_get (p : List Int) (k m : Nat) : (p ++ List.replicate m (0 : Int)).getD k 0 = p.getD k 0 := by
  simp only [List.getD, List.getElem?_append, List.getElem?_replicate]
  split
  · rfl
  · rename_i h
    rw [List.getElem?_eq_none (by omega)]
    split <;> rfl
theorem frL_pad (hd p : List Int) (m : Nat) : ∀ k, frL hd (p ++ List.replicate m 0) k = frL hd p k
  | 0 => rfl
  | k + 1 => by rw [frL, frL, frL_pad hd p m k, pad_get]
theorem own_mkI (w : World) (B n : Nat) (E : TypeId) (h : B ≤ w.heap.size) (hn : n ≤ maxLen) : OwnL (w.alloc (.cells (madeCells #[.int .i64 0] n) E)) B E (.slice (some ⟨w.heap.size, 0, none⟩) n n) ((List.replicate n (0 : Int)).map (Value.int .i64)) := by
  have := World.ownsRow_lit (e := E) (size := 1) w (madeCells #[.int .i64 0] n) n h hn (by rw [size_madeCells]; omega)
  rw [toList_madeCells_one] at this
  unfold OwnL
  simpa using this
theorem fr_end (slot shard : Int) (s : ByteArray) (p : List Int) (hd : List Int) (hh : strOfNums hd = frHead slot shard s p) :
    strOfNums ((frL hd p 3 ++ bytesL (Seal.of (byts (strOfNums (frL hd p 3))) : Nat) 4) ++ List.replicate 12 0) = frB slot shard s p := by
  rw [str_app, str_app, str_frL, hh]
  rfl
set_option maxRecDepth 100000 in
set_option maxHeartbeats 2000000 in
theorem framePut_yes (slot shard : Int) (s : ByteArray) (a : Option Addr) (n cap : Nat) (p : List Int) (w : World) (hp : Ints w a n cap p) (h : FrMay slot shard s p) :
    Calls Try.prog 10 #[.int .i64 slot, .int .i64 shard, .string s, .slice a n cap] w fun e w' => e = .returned (.tuple #[.string (frB slot shard s p), .int .i64 0]) ∧ Below w.heap.size w w' := by
  have HM := hide h
  obtain ⟨⟨h1, h2⟩, ⟨h3, h4⟩, h5, h6, h7⟩ := h
  obtain rfl : p.length = n := hp.1
  have HP := hide hp
  obtain ⟨i0, hi, hz0, hz1, hz2⟩ := info_parts (P := Try.prog) (e := 5) (z := .int .u8 0) (size := 1) (bytes := 1) Try.infoByte8
  obtain ⟨hd, ehd⟩ : ∃ hd, hd = [79, slot, shard, (p.length : Int)] ++ byI s := ⟨_, rfl⟩
  have HH : Hid (strOfNums hd = frHead slot shard s p) := hide (by rw [ehd]; exact str_head slot shard s p (unhide HM))
  have HHL : Hid (hd.length = 36) := hide (by rw [ehd]; simp [byI_len, h5])
  have HBY : Hid ([Value.int .u8 79, .int .u8 slot, .int .u8 shard, .int .u8 (p.length : Int)] ++ Lib.strCells s = hd.map (Value.int .u8)) := hide (by rw [ehd, byI_cells]; rfl)
  have HI := hide (And.intro hi (And.intro hz0 (And.intro hz1 hz2)))
  have H5 := hide h5
  obtain ⟨m, em⟩ : ∃ m, m = 3 - p.length := ⟨_, rfl⟩
  have e3 : (3 : Int) - (p.length : Int) = (m : Int) := by omega
  have hmk := fun w => run_make_row' (P := Try.prog) 22 3 (.int .i64 0) 8 Try.underlying22 Try.infoInt rfl .i64 .i64 m (by omega) (by omega) w
  have hm3 : p.length + m = 3 := by omega
  have HM3 := hide hm3
  have H7 := hide h7
  have w1' : IntKind.wrap .u8 slot = slot := by simp only [IntKind.wrap_u8]; omega
  have w2' : IntKind.wrap .u8 shard = shard := by simp only [IntKind.wrap_u8]; omega
  have w3' : IntKind.wrap .u8 (p.length : Int) = (p.length : Int) := by simp only [IntKind.wrap_u8]; omega
  clear hp h6 ehd hi hz0 hz1 hz2 em hm3
  go_enter Try.func10, Try.ntmps10
  go_wp2_with fail
  refine (frRefuse_any slot shard s a p.length cap p w (unhide HP)).mono ?_
  rintro e wa ⟨v, rfl, hv, b1⟩
  have HB := hide b1
  clear b1
  rcases hv with ⟨-, rfl⟩ | ⟨hn, -⟩
  rotate_left
  · exact absurd (unhide HM) hn
  go_wp2_with fail
  refine (errIs_nil 1400 _).mono ?_
  rintro e wb ⟨rfl, hwb⟩
  subst hwb
  go_upto_region 4 with fail
  have hsz0 := (unhide HB).size
  have HO := hide (own_lit4 wb 5 (.int .u8 79) (.int .u8 slot) (.int .u8 shard) (.int .u8 (p.length : Int)) w.heap.size hsz0)
  have hA := below_alloc wb (.cells #[.int .u8 79, .int .u8 slot, .int .u8 shard, .int .u8 (p.length : Int)] 5)
  replace HB := hide (bt (unhide HB) hA)
  clear hA w1' w2' w3'
  generalize (wb.alloc (.cells #[.int .u8 79, .int .u8 slot, .int .u8 shard, .int .u8 (p.length : Int)] 5)) = wc at *
  have hsz1 := (unhide HB).size
  have h5' : s.size ≤ 32 := by omega
  clear h5 hsz0
  go_upto_region 5 with (at_builtin; go_loud (refine Lib.wpList_append_own_string (P := Try.prog) wc (by rfl) (.tmp 28) (.tmp 29) 41 9 (by rfl) w.heap.size 5 i0 Try.underlying41 Try.underlying9 (unhide HI).1 (unhide HI).2.1 (unhide HI).2.2.1 (unhide HI).2.2.2 _ _ _ (by rfl) (unhide HO) s (by rfl) (by unfold maxLen; simp; omega) (by simp; omega) hsz1 ?_); intro v3 w3 O3 G3 X3; have HB3 := hide ((unhide HB).grown G3 hsz1 (fun k hk => ((unhide HO).lt hk).1)); have HO3 := hide O3; clear O3 G3 X3)
  have HO4 : Hid (OwnL w3 w.heap.size 5 v3 (hd.map (Value.int .u8))) := hide (by
    have h := unhide HO3
    rw [unhide HBY] at h
    unfold OwnL
    rw [List.length_map, unhide HHL]
    rw [unhide H5] at h
    exact h)
  have hszW := (unhide HB3).size
  have HP3 := hide ((unhide HP).below (unhide HB3))
  have hA := below_alloc w3 (.cells (madeCells #[.int .i64 0] m) 3)
  obtain ⟨pz, cz, ez, Iz⟩ := (own_mkI w3 w3.heap.size m 3 (Nat.le_refl _) (by unfold maxLen; omega)).ints
  rw [List.length_replicate] at ez Iz
  simp only [Value.slice.injEq] at ez
  obtain ⟨rfl, -, rfl⟩ := ez
  have HP4 := hide ((unhide HP3).below hA)
  have HZ := hide Iz
  have HA := hide hA
  clear HO3 HO HI h5' HB HP3 hA Iz
  go_wp2_with fail
  have hA2 := below_alloc (w3.alloc (.cells (madeCells #[.int .i64 0] m) 3)) (.cells #[.slice a p.length cap, .slice (some ⟨w3.heap.size, 0, none⟩) m m] 22)
  have hsA : (w3.alloc (.cells (madeCells #[.int .i64 0] m) 3)).heap.size = w3.heap.size + 1 := by simp
  have hrow := heap_alloc_new (w3.alloc (.cells (madeCells #[.int .i64 0] m) 3)) (.cells #[.slice a p.length cap, .slice (some ⟨w3.heap.size, 0, none⟩) m m] 22)
  rw [hsA] at hrow
  refine (concatI_any (w3.heap.size + 1) 0 2 2 (fun i => if i = 0 then a else some ⟨w3.heap.size, 0, none⟩) (fun i => if i = 0 then cap else m) [p, List.replicate m 0] _ rfl (by decide) ?_ ?_ ?_).mono ?_
  · intro i hi
    have : i = 0 ∨ i = 1 := by omega
    rcases this with rfl | rfl
    · rw [cell_of_row _ _ (0 + 0) _ _ _ hrow]; rfl
    · rw [cell_of_row _ _ (0 + 1) _ _ _ hrow, show ([p, List.replicate m 0].getD 1 []).length = m from List.length_replicate]; rfl
  · intro i hi
    have : i = 0 ∨ i = 1 := by omega
    rcases this with rfl | rfl
    · exact (unhide HP4).below hA2
    · rw [show ([p, List.replicate m 0].getD 1 []).length = m from List.length_replicate]; exact (unhide HZ).below hA2
  · simp only [List.flatten_cons, List.flatten_nil, List.append_nil, List.length_append, List.length_replicate]; omega
  rintro e w5 ⟨v5, rfl, O5, b5⟩
  have b35 : Below w3.heap.size w3 w5 := bt (unhide HA) (bt hA2 b5)
  have HO4b := HO4
  replace HO4 := hide ((unhide HO4).below b35)
  replace HB3 := hide (bt (unhide HB3) b35)
  obtain ⟨q, eq⟩ : ∃ q, q = p ++ List.replicate m 0 := ⟨_, rfl⟩
  have hql : q.length = 3 := by rw [eq, List.length_append, List.length_replicate]; exact unhide HM3
  have HQ : Hid (∀ k, frL hd q k = frL hd p k) := hide (fun k => by rw [eq]; exact frL_pad hd p m k)
  have O5' : OwnL w5 (w3.heap.size) 3 v5 (q.map (Value.int .i64)) := by
    rw [eq]
    have h := O5.mono (B' := w3.heap.size) (by simp; omega)
    simpa using h
  obtain ⟨a5, c5, e5, I5⟩ := O5'.ints
  rw [hql] at e5
  subst e5
  have HO5 := hide O5'
  have HQL := hide hql
  have hap : Apt v3 (.slice a5 3 c5) := fun g h1 h2 => by
    have g1 := ((unhide HO4b).lt h1).2
    have g2 := (O5'.lt h2).1
    omega
  have HAP := hide hap
  have hszW5 := (unhide HB3).size
  clear O5 O5' I5 b5 b35 hA2 hrow hsA eq HA HZ HP4 hszW hql hap HO4b
  go_wp2
  go_loopw [10, 39] (fun ov iv wr => ∃ k : Nat, k ≤ 3 ∧ iv = .int .i64 k ∧ Hid (OwnL wr w.heap.size 5 ov ((frL hd q k).map (Value.int .u8))) ∧ Hid (OwnL wr w3.heap.size 3 (.slice a5 3 c5) (q.map (Value.int .i64))) ∧ Hid (Apt ov (.slice a5 3 c5)) ∧ Hid (Below w.heap.size w wr)) (fun _ iv _ => 3 - (intOf iv).toNat)
  case atStart => exact ⟨0, by decide, rfl, HO4, HO5, HAP, HB3⟩
  case round =>
    clear HO4 HO5 HAP HB3
    obtain ⟨k, hk, rfl, HO, HO5, HAP, HB⟩ := hrel
    have hs3 := (unhide HB).size
    have hll := frL_len hd q k
    rw [unhide HHL] at hll
    by_cases hlt : k < 3
    · have hlt' : (k : Int) < 3 := by omega
      obtain ⟨b5, hb5⟩ : ∃ b5, a5 = some ⟨b5, 0, none⟩ ∧ wr.cell? ⟨b5, k, none⟩ = some (.int .i64 (q.getD k 0)) := by
        rcases (unhide HO5).2 with ⟨e, -⟩ | ⟨g, cg, cur, e, -⟩
        · simp at e
        · simp only [Value.slice.injEq] at e
          obtain ⟨rfl, -, rfl⟩ := e
          refine ⟨g, rfl, ?_⟩
          have hq3 := unhide HQL
          have hO : wr.ownsRow w3.heap.size 3 1 (.slice (some ⟨g, 0, none⟩) 3 c5) 3 (q.map (Value.int .i64)) := by
            have h := unhide HO5
            unfold OwnL at h
            rw [List.length_map, hq3] at h
            exact h
          have hrw := World.ownsRow.cellAt hO k (by omega)
          rw [hrw, List.getElem?_map, List.getElem?_eq_getElem (by omega)]
          simp [List.getD, List.getElem?_eq_getElem (show k < q.length by omega)]
      obtain ⟨rfl, ck⟩ := hb5
      obtain ⟨x, ex⟩ : ∃ x, x = q.getD k 0 := ⟨_, rfl⟩
      rw [← ex] at ck
      have EX := hide ex
      have HLL : Hid (((frL hd q k).map (Value.int .u8)).length = 36 + 4 * k) := hide (by rw [List.length_map]; exact hll)
      clear ex hll
      go_wp2_with fail
      refine (litAppend_any x 4 w.heap.size _ _ wr (unhide HO) (by decide) (by rw [unhide HLL]; omega) hs3).mono ?_
      rintro e w6 ⟨v6, rfl, O6, P6⟩
      have HB6 := hide (P6.below (unhide HO) (unhide HB) (Nat.le_refl _) hs3)
      have HO6 := hide O6
      have HO56 := hide (P6.other (unhide HO5) (unhide HAP))
      have HAP6 := hide (P6.apt (unhide HO5) (unhide HAP))
      clear O6 P6 HO HB HO5 HAP ck
      go_wp2
      go_roundw
      case rel =>
        refine ⟨k + 1, by omega, by go_num, hide ?_, HO56, HAP6, HB6⟩
        rw [frL, List.map_append, ← unhide EX]
        exact unhide HO6
      case measure => simp [intOf]; omega
    · obtain rfl : k = 3 := by omega
      have eLB : strOfNums ((frL hd q 3 ++ bytesL (Seal.of (byts (strOfNums (frL hd q 3))) : Nat) 4) ++ List.replicate 12 0) = frB slot shard s p := by rw [unhide HQ]; exact fr_end slot shard s p hd (unhide HH)
      obtain ⟨L, eL⟩ : ∃ L, L = frL hd q 3 := ⟨_, rfl⟩
      rw [← eL] at HO hll eLB
      obtain ⟨g, cg, ev, hcv⟩ := own_text (unhide HO) (by omega)
      rw [hll] at ev hcv
      subst ev
      obtain ⟨t, et⟩ : ∃ t, t = strOfNums L := ⟨_, rfl⟩
      rw [← et] at hcv eLB
      have hts : t.size = 48 := by rw [et, strOfNums_size, hll]
      have HLL := hide hll
      clear HO5 HAP hlt hk eL et hll
      obtain ⟨y, ey⟩ : ∃ y, y = Seal.of (byts t) := ⟨_, rfl⟩
      rw [← ey] at eLB
      have ELB := hide eLB
      clear eLB
      go_wp2_with fail
      refine (sealOf_any t _ (by omega)).mono ?_
      rintro e w7 ⟨rfl, hw7⟩
      subst hw7
      rw [← ey]
      clear ey hts
      go_wp2_with fail
      refine (litAppend_any (y : Int) 4 w.heap.size _ _ _ (unhide HO) (by decide) (by rw [List.length_map, unhide HLL]; decide) hs3).mono ?_
      rintro e w8 ⟨v8, rfl, O8, P8⟩
      have hb8 := P8.below (unhide HO) (unhide HB) (Nat.le_refl _) hs3
      have hs8 := hb8.size
      have hl8 : (L ++ bytesL (y : Int) 4).length = 52 := by rw [List.length_append, bytesL_len, unhide HLL]
      obtain ⟨L8, eL8⟩ : ∃ L8, L8 = L ++ bytesL (y : Int) 4 := ⟨_, rfl⟩
      rw [← List.map_append, ← eL8] at O8
      rw [← eL8] at hl8
      obtain ⟨p8, c8, ev8⟩ := O8.form
      rw [List.length_map, hl8] at ev8
      subst ev8
      obtain ⟨v9, w9, hr9, O9, P9⟩ := own_zeros (P := Try.prog) w8 41 3 41 5 .i64 .i64 Try.underlying41 (by first | exact Try.underlying3 | rfl) Try.infoByte8 w.heap.size _ _ O8 12 (by decide) (by rw [List.length_map, hl8]; decide) (by rw [List.length_map, hl8]; decide) hs8
      have hb9 := P9.below O8 hb8 (Nat.le_refl _) hs8
      have e9 : L8.map (Value.int .u8) ++ List.replicate 12 (.int .u8 0) = (L8 ++ List.replicate 12 0).map (Value.int .u8) := by rw [List.map_append, List.map_replicate]
      rw [e9] at O9
      obtain ⟨g9, c9, ev9, hcv9⟩ := own_text O9 (by simp)
      have hl9 : (L8 ++ List.replicate 12 (0 : Int)).length = 64 := by rw [List.length_append, List.length_replicate, hl8]
      rw [hl9] at ev9 hcv9
      subst ev9
      rw [eL8, unhide ELB] at hcv9
      have HR9 := hide hr9
      have HB9 := hide hb9
      clear hr9 hb9 e9 O9 P9 hl9 hl8 O8 P8 hb8 hs8 eL8 ELB HO HB hcv
      obtain ⟨F, eF⟩ : ∃ F, F = frB slot shard s p := ⟨_, rfl⟩
      rw [← eF] at hcv9
      have EF := hide eF
      clear eF
      go_wp2_with (at_builtin; go_loud (refine Lib.wpList_append_run _ rfl _ _ _ _ rfl _ _ rfl rfl _ _ (unhide HR9) ?_))
      go_ret2
      exact ⟨by rw [← unhide EF]; rfl, unhide HB9⟩
set_option maxRecDepth 100000 in
set_option maxHeartbeats 2000000 in
theorem framePut_no (slot shard : Int) (s : ByteArray) (a : Option Addr) (n cap : Nat) (p : List Int) (w : World) (hp : Ints w a n cap p) (h : ¬ FrMay slot shard s p) :
    Calls Try.prog 10 #[.int .i64 slot, .int .i64 shard, .string s, .slice a n cap] w fun e w' => e = .returned (.tuple #[.string ByteArray.empty, .int .i64 1400]) ∧ Below w.heap.size w w' := by
  obtain rfl : p.length = n := hp.1
  have HP := hide hp
  have HN := hide h
  clear hp h
  go_enter Try.func10, Try.ntmps10
  go_wp2_with fail
  refine (frRefuse_any slot shard s a p.length cap p w (unhide HP)).mono ?_
  rintro e wa ⟨v, rfl, hv, b1⟩
  have HB := hide b1
  clear b1
  rcases hv with ⟨hy, -⟩ | ⟨-, r, rfl⟩
  · exact absurd hy (unhide HN)
  go_wp2_with fail
  refine (errIs_one r 1400 _).mono ?_
  rintro e wb ⟨rfl, b2⟩
  replace HB := hide (bt (unhide HB) b2)
  clear b2
  go_wp2
  go_ret2
  exact ⟨rfl, unhide HB⟩
theorem framePut_any (slot shard : Int) (s : ByteArray) (a : Option Addr) (n cap : Nat) (p : List Int) (w : World) (hp : Ints w a n cap p) (hn : n ≤ 140737488351232) :
    Calls Try.prog 10 #[.int .i64 slot, .int .i64 shard, .string s, .slice a n cap] w fun e w' => e = .returned (.tuple #[.string (putF slot shard s p).1, .int .i64 (putF slot shard s p).2]) ∧ Below w.heap.size w w' := by
  by_cases h : FrMay slot shard s p
  · have e : putF slot shard s p = (frB slot shard s p, 0) := by rw [putF, if_pos h]
    rw [e]
    exact framePut_yes slot shard s a n cap p w hp h
  · have e : putF slot shard s p = (ByteArray.empty, 1400) := by rw [putF, if_neg h]
    rw [e]
    exact framePut_no slot shard s a n cap p w hp h
end Go.Proofs.Ytmphbajnadbggaa
