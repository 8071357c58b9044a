/- SealTurned: of texts that differ in one byte seals are unlike; of pairs that differ in one number too. -/
import Derived.Test.YthikknnkghaolaaSealPairsWalk
import Derived.Test.YthikknnkghaolaaKRegs
import Derived.Test.YthikknnkghaolaaLie
import Derived.Test.YthikknnkghaolaaFormsT
import Derived.Test.YthikknnkghaolaaKCore
import Derived.Deep.Cut
import Derived.Laws.BitsAllLaws
namespace Go.Proofs.Ythikknnkghaolaa
open Go.RowKit
set_option linter.unusedVariables false
set_option linter.unusedSimpArgs false
theorem pair_sL {x y : Nat} (hx : x + 1 < 2147483647) (hy : y < 2147483647) : Seal.pair ((x : Int) + 1) (y : Int) = Seal.pairN (x + 1) y := by
  have e : (x : Int) + 1 = ((x + 1 : Nat) : Int) := by omega
  rw [e, pair_nat hx hy]
theorem pair_sR {x y : Nat} (hx : x < 2147483647) (hy : y + 1 < 2147483647) : Seal.pair (x : Int) ((y : Int) + 1) = Seal.pairN x (y + 1) := by
  have e : (y : Int) + 1 = ((y + 1 : Nat) : Int) := by omega
  rw [e, pair_nat hx hy]
theorem neq_b {a b : Nat} (h : a ≠ b) : ((a : Int) == (b : Int)) = false := by simp; omega
theorem modn9 (a : Int) (k : Nat) (hk : 0 < k) (hm : k ≤ 1000000) : ∃ i : Nat, i < k ∧ wrap64 ((IntKind.u64.wrap a).tmod (k : Int)) = (i : Int) := by
  have h0 : IntKind.u64.wrap a = a % 18446744073709551616 := IntKind.wrap_u64 a
  have : 0 ≤ a % 18446744073709551616 := Int.emod_nonneg _ (by decide)
  rw [h0, Int.tmod_eq_emod_of_nonneg (by omega)]
  have h3 := Int.emod_nonneg (a % 18446744073709551616) (show (k : Int) ≠ 0 by omega)
  have h4 := Int.emod_lt_of_pos (a % 18446744073709551616) (show (0 : Int) < k by omega)
  exact ⟨(a % 18446744073709551616 % (k : Int)).toNat, by omega, by unfold wrap64; omega⟩
/-- the bytes of a text as ints -/
def bint (s : ByteArray) : List Int := s.data.toList.map fun b => (b.toNat : Int)
theorem bint_len (s : ByteArray) : (bint s).length = s.size := by simp [bint]
/-- one byte is put anew -/
theorem byts_put (s : ByteArray) (k z : Nat) (hz : z < 256) : byts (strOfNums ((bint s).set k (z : Int))) = (byts s).set k z := by
  unfold byts
  rw [strOfNums_data, List.map_map]
  apply List.ext_getElem?
  intro i
  simp only [List.getElem?_map, List.getElem?_set, bint, List.length_map]
  by_cases e : k = i
  · subst e
    simp [Nat.mod_eq_of_lt hz]
  · simp only [e, if_false]
    cases s.data.toList[i]? with
    | none => rfl
    | some b => simp
theorem turned_text {s : ByteArray} {k z : Nat} (hk : k < s.size) (hz : z < 256) (hne : ((byts s).getD k 0) ≠ z) : Seal.of (byts s) ≠ Seal.of (byts (strOfNums ((bint s).set k (z : Int)))) := by
  rw [byts_put s k z hz]
  have hl : k < (byts s).length := by rw [byts_len]; exact hk
  have e1 : byts s = (byts s).take k ++ (byts s)[k] :: (byts s).drop (k + 1) := by
    rw [← List.drop_eq_getElem_cons hl, List.take_append_drop]
  have e2 : (byts s).set k z = (byts s).take k ++ z :: (byts s).drop (k + 1) := List.set_eq_take_append_cons_drop.trans (by rw [if_pos hl])
  have hb : (byts s)[k] < 256 := by simp [byts]; exact UInt8.toNat_lt _
  have hne' : (byts s)[k] ≠ z := by
    have : (byts s).getD k 0 = (byts s)[k] := by simp [List.getD, hl]
    rw [this] at hne
    exact hne
  rw [e2]
  intro h
  exact Seal.of_turned hb hz hne' _ (by rw [← e1]; exact h)
/-- a byte, turned by a number from 1 to 128 -/
theorem turn_byte (x : Nat) (hx : x < 256) (a : Int) : ∃ z : Nat, z < 256 ∧ x ≠ z ∧ bits .xor .u8 (x : Int) (wrap64 (1 + bits .and .i64 a 127) % 256) = (z : Int) := by
  have h := and_mask_i64 a 7 127 (by decide) (by decide)
  have h' : bits .and .i64 a 127 = a % 128 := h
  obtain ⟨v, hv⟩ : ∃ v : Nat, v = (1 + a % 128).toNat := ⟨_, rfl⟩
  have e : wrap64 (1 + bits .and .i64 a 127) % 256 = (v : Int) := by rw [h']; unfold wrap64; omega
  refine ⟨x ^^^ v, Nat.xor_lt_two_pow (n := 8) hx (by omega), fun q => ?_, by rw [e]; exact u8_xor_nat x v hx (by omega)⟩
  have : x ^^^ (x ^^^ v) = x ^^^ x := by rw [← q]
  rw [← Nat.xor_assoc, Nat.xor_self, Nat.zero_xor] at this
  omega
set_option maxRecDepth 100000 in
set_option maxHeartbeats 4000000 in
theorem SealTurned_walk {w : World} (s : ByteArray) (hs : s.size ≤ 140737488351232) (at1 : Int) (h1 : (Lit.int .i64 at1).wf = true) (by1 : Int) (h2 : (Lit.int .i64 by1).wf = true) (a : Int) (ha : (Lit.int .i64 a).wf = true) (b : Int) (hb : (Lit.int .i64 b).wf = true) :
    Calls Try.prog 4 #[.string s, .int .i64 at1, .int .i64 by1, .int .i64 a, .int .i64 b] w fun e w' => e = .returned (.bool true) ∧ Below w.heap.size w w' := by
  obtain ⟨x, hx, ex⟩ := num30 a
  obtain ⟨y, hy, ey⟩ := num30 b
  obtain ⟨P, eP⟩ : ∃ P, P = Seal.pairN x y := ⟨_, rfl⟩
  obtain ⟨Q, eQ⟩ : ∃ Q, Q = Seal.pairN (x + 1) y := ⟨_, rfl⟩
  obtain ⟨R, eR⟩ : ∃ R, R = Seal.pairN x (y + 1) := ⟨_, rfl⟩
  obtain ⟨S, eS⟩ : ∃ S, S = Seal.pairN x x := ⟨_, rfl⟩
  obtain ⟨T, eT⟩ : ∃ T, T = Seal.pairN y x := ⟨_, rfl⟩
  have n1 : P ≠ Q := fun e => by
    rw [eP, eQ] at e
    have := Seal.pairN_left (by omega) (by omega) e
    omega
  have n2 : P ≠ R := fun e => by
    rw [eP, eR] at e
    have := Seal.pairN_right (by omega) (by omega) e
    omega
  have n3 : x ≠ y → S ≠ P := fun hxy e => by
    rw [eS, eP] at e
    exact hxy (Seal.pairN_right (by omega) (by omega) e)
  have n4 : x ≠ y → S ≠ T := fun hxy e => by
    rw [eS, eT] at e
    exact hxy (Seal.pairN_left (by omega) (by omega) e)
  have m1 := neq_b n1
  have m2 := neq_b n2
  have N3 := hide n3
  have N4 := hide n4
  have EP := hide eP
  have EQ := hide eQ
  have ER := hide eR
  have ES := hide eS
  have ET := hide eT
  clear eP eQ eR eS eT n1 n2 n3 n4
  have PS : Hid (∀ W : World, Calls Try.prog 10 #[.int .i64 x, .int .i64 y] W fun e w' => e = .returned (.int .i64 (P : Int)) ∧ w' = W) := hide (fun W => by
    have := sealPair_any x y W (wf_small (by omega) (by omega)) (wf_small (by omega) (by omega))
    rw [pair_nat (by omega) (by omega), ← unhide EP] at this
    exact this)
  have QS : Hid (∀ W : World, Calls Try.prog 10 #[.int .i64 ((x : Int) + 1), .int .i64 y] W fun e w' => e = .returned (.int .i64 (Q : Int)) ∧ w' = W) := hide (fun W => by
    have := sealPair_any ((x : Int) + 1) y W (wf_small (by omega) (by omega)) (wf_small (by omega) (by omega))
    rw [pair_sL (by omega) (by omega), ← unhide EQ] at this
    exact this)
  have RS : Hid (∀ W : World, Calls Try.prog 10 #[.int .i64 x, .int .i64 ((y : Int) + 1)] W fun e w' => e = .returned (.int .i64 (R : Int)) ∧ w' = W) := hide (fun W => by
    have := sealPair_any x ((y : Int) + 1) W (wf_small (by omega) (by omega)) (wf_small (by omega) (by omega))
    rw [pair_sR (by omega) (by omega), ← unhide ER] at this
    exact this)
  have SS : Hid (∀ W : World, Calls Try.prog 10 #[.int .i64 x, .int .i64 x] W fun e w' => e = .returned (.int .i64 (S : Int)) ∧ w' = W) := hide (fun W => by
    have := sealPair_any x x W (wf_small (by omega) (by omega)) (wf_small (by omega) (by omega))
    rw [pair_nat (by omega) (by omega), ← unhide ES] at this
    exact this)
  have TS : Hid (∀ W : World, Calls Try.prog 10 #[.int .i64 y, .int .i64 x] W fun e w' => e = .returned (.int .i64 (T : Int)) ∧ w' = W) := hide (fun W => by
    have := sealPair_any y x W (wf_small (by omega) (by omega)) (wf_small (by omega) (by omega))
    rw [pair_nat (by omega) (by omega), ← unhide ET] at this
    exact this)
  go_enter Try.func4, Try.ntmps4
  go_wp2_with fail
  refine (awake9_any _).mono ?_
  rintro e w5 ⟨rfl, rfl⟩
  go_wp2_with fail
  refine (unhide PS _).mono ?_
  rintro e w6 ⟨rfl, rfl⟩
  go_wp2_with fail
  refine (unhide QS _).mono ?_
  rintro e w7 ⟨rfl, rfl⟩
  go_wp2_with fail
  refine (unhide PS _).mono ?_
  rintro e w8 ⟨rfl, rfl⟩
  go_wp2_with fail
  refine (unhide RS _).mono ?_
  rintro e w9 ⟨rfl, rfl⟩
  by_cases hxy : x = y
  · have hxy' : ((x : Int) != (y : Int)) = false := by simp; omega
    go_upto_region 6 with fail
    by_cases hlong : s.size < 1 ∨ 5000 < s.size
    · have hcase : (s.size : Int) < 1 ∨ (¬ (s.size : Int) < 1 ∧ (5000 : Int) < s.size) := by omega
      clear hlong
      rcases hcase with hc | ⟨hc, hc'⟩
      all_goals
        go_wp2
        go_ret
        exact ⟨rfl, Below.refl _ _⟩
    · have hc1 : ¬ (s.size : Int) < 1 := by omega
      have hc2 : ¬ (5000 : Int) < s.size := by omega
      obtain ⟨k, hk, ek⟩ := modn9 at1 s.size (by omega) (by omega)
      have hk' : (k : Int) < s.size := by omega
      have hz0 : ¬ (s.size : Int) = 0 := by omega
      have hwz : IntKind.u64.wrap (s.size : Int) = (s.size : Int) := by rw [IntKind.wrap_u64]; omega
      obtain ⟨z, hz, hzne, ez⟩ := turn_byte ((byts s).getD k 0) (by
        have hl : k < (byts s).length := by rw [byts_len]; exact hk
        have : (byts s).getD k 0 = (byts s)[k] := by simp [List.getD, hl]
        rw [this]
        simp [byts]
        exact UInt8.toNat_lt _) by1
      have htt := turned_text hk hz hzne
      clear hlong hzne
      have hcv := run_bytes_of_string (P := Try.prog) w9 9 28 5 s Try.underlying9 Try.underlying28 Try.underlying5
      obtain ⟨cap, ec⟩ : ∃ cap, cap = grownCap w9 s.size 0 5 := ⟨_, rfl⟩
      rw [← ec] at hcv
      clear ec
      have R0 : Hid (ByteRow (w9.alloc (.cells (bytesRow s cap) 5 ((bytesRow s cap).size, (bytesRow s cap).size + 1))).drew w9.heap.size s.size 5 (bint s)) := hide (bytes_row w9 s cap 5)
      have B0 : Hid (Below w9.heap.size w9 (w9.alloc (.cells (bytesRow s cap) 5 ((bytesRow s cap).size, (bytesRow s cap).size + 1))).drew) := hide (by go_grown)
      have HTT := hide htt
      have HZ := hide hz
      clear htt
      go_upto_region 9 with fail
      clear hcv
      generalize hW8 : (w9.alloc (.cells (bytesRow s cap) 5 ((bytesRow s cap).size, (bytesRow s cap).size + 1))).drew = W8 at *
      clear hW8
      have c8 := (unhide R0).cell hk
      have f8 := (unhide R0).free hk
      have eb : (bint s).getD k 0 = (((byts s).getD k 0 : Nat) : Int) := by
        have hl : k < s.data.toList.length := by simpa using hk
        simp only [bint, byts, List.getD, List.getElem?_map]
        cases s.data.toList[k]? <;> rfl
      rw [eb] at c8
      obtain ⟨z0, ez0⟩ : ∃ z0, z0 = (byts s).getD k 0 := ⟨_, rfl⟩
      rw [← ez0] at c8 ez
      clear ez0 eb
      have hR9 := (unhide R0).set k z
      have hl9 := hR9.1
      have hcb := fun X : Subtype (Below (W8.setCell ⟨w9.heap.size, k, none⟩ (.int .u8 z)).heap.size (W8.setCell ⟨w9.heap.size, k, none⟩ (.int .u8 z))) => run_convert_bytes_arg (P := Try.prog) X.val 28 5 Try.underlying28 Try.underlying5 w9.heap.size 0 s.size cap _ hl9 (fun j hj => by rw [Nat.zero_add]; exact (X.property.cell (cell_lt (hR9.cell hj))).trans (hR9.cell hj)) 9 Try.underlying9
      obtain ⟨t, et⟩ : ∃ t, t = strOfNums ((bint s).set k (z : Int)) := ⟨_, rfl⟩
      have htz : t.size = s.size := by rw [et, strOfNums_size, List.length_set, bint_len]
      rw [← et] at hcb HTT
      clear et hl9 hR9
      go_upto_region 11 with fail
      have B9 := hide ((unhide B0).setCell (p := ⟨w9.heap.size, k, none⟩) (Nat.le_refl _) (.int .u8 z))
      generalize W8.setCell ⟨w9.heap.size, k, none⟩ (.int .u8 z) = W9 at *
      obtain ⟨p, ep⟩ : ∃ p, p = Seal.of (byts s) := ⟨_, rfl⟩
      obtain ⟨q, eq⟩ : ∃ q, q = Seal.of (byts t) := ⟨_, rfl⟩
      have hp : p < 2147483647 := by rw [ep]; exact Seal.of_lt _
      have hq : q < 2147483647 := by rw [eq]; exact Seal.of_lt _
      have hpq : ((p : Int) != (q : Int)) = true := by
        have := unhide HTT
        rw [← ep, ← eq] at this
        simp
        omega
      have hp' : (p : Int) < 2147483647 := by omega
      have hq' : (q : Int) < 2147483647 := by omega
      have EPP := hide ep
      have EQQ := hide eq
      clear ep eq c8 f8 R0 hp hq
      refine wp_region_ord (S := Below W9.heap.size W9) [(true, 0), (true, 2), (true, 3), (false, 1), (false, 4), (true, 5), (true, 6)] (by kernel_rfl) (by kernel_rfl) (by kernel_rfl) (by kernel_rfl) ((Below.refl _ _).drew) ?_
      simp only [withOps, List.map_cons, List.map_nil, List.getElem?_cons_succ, List.getElem?_cons_zero]
      repeat (refine walkH_read (by rfl) (by (intro gx; go_simp; try (with_reducible rfl))) ?_; try simp only [Act.put, List.setIfInBounds_toArray, List.set_cons_zero, List.set_cons_succ])
      refine walkH_do rfl (fun K hK => ?_)
      go_simp
      refine (sealOf_any s _ hs).mono ?_
      rintro e wq ⟨rfl, rfl⟩
      rw [← unhide EPP]
      refine hK _ _ ((Below.refl _ _).drew) ?_
      clear hK K
      try simp only [Act.put, List.setIfInBounds_toArray, List.set_cons_zero, List.set_cons_succ]
      repeat (refine walkH_read (by rfl) (by (intro gx; go_simp; try (with_reducible rfl))) ?_; try simp only [Act.put, List.setIfInBounds_toArray, List.set_cons_zero, List.set_cons_succ])
      refine walkH_do rfl (fun K hK => ?_)
      go_simp
      refine (sealOf_any t _ (by rw [htz]; exact hs)).mono ?_
      rintro e wq2 ⟨rfl, rfl⟩
      rw [← unhide EQQ]
      refine hK _ _ ((Below.refl _ _).drew) ?_
      clear hK K
      try simp only [Act.put, List.setIfInBounds_toArray, List.set_cons_zero, List.set_cons_succ]
      repeat (refine walkH_read (by rfl) (by (intro gx; go_simp; try (with_reducible rfl))) ?_; try simp only [Act.put, List.setIfInBounds_toArray, List.set_cons_zero, List.set_cons_succ])
      refine (show walkH _ _ _ _ [] _ _ from NoPanic.normal ?_)
      go_wp2
      go_ret
      exact ⟨rfl, (unhide B9).drew⟩
  · have hxy' : ((x : Int) != (y : Int)) = true := by simp; omega
    have m3 := neq_b (unhide N3 hxy)
    have m4 := neq_b (unhide N4 hxy)
    go_wp2_with fail
    refine (unhide SS _).mono ?_
    rintro e w10 ⟨rfl, rfl⟩
    go_wp2_with fail
    refine (unhide PS _).mono ?_
    rintro e w11 ⟨rfl, rfl⟩
    go_wp2_with fail
    refine (unhide SS _).mono ?_
    rintro e w12 ⟨rfl, rfl⟩
    go_wp2_with fail
    refine (unhide TS _).mono ?_
    rintro e w13 ⟨rfl, rfl⟩
    go_upto_region 6 with fail
    by_cases hlong : s.size < 1 ∨ 5000 < s.size
    · have hcase : (s.size : Int) < 1 ∨ (¬ (s.size : Int) < 1 ∧ (5000 : Int) < s.size) := by omega
      clear hlong
      rcases hcase with hc | ⟨hc, hc'⟩
      all_goals
        go_wp2
        go_ret
        exact ⟨rfl, Below.refl _ _⟩
    · have hc1 : ¬ (s.size : Int) < 1 := by omega
      have hc2 : ¬ (5000 : Int) < s.size := by omega
      obtain ⟨k, hk, ek⟩ := modn9 at1 s.size (by omega) (by omega)
      have hk' : (k : Int) < s.size := by omega
      have hz0 : ¬ (s.size : Int) = 0 := by omega
      have hwz : IntKind.u64.wrap (s.size : Int) = (s.size : Int) := by rw [IntKind.wrap_u64]; omega
      obtain ⟨z, hz, hzne, ez⟩ := turn_byte ((byts s).getD k 0) (by
        have hl : k < (byts s).length := by rw [byts_len]; exact hk
        have : (byts s).getD k 0 = (byts s)[k] := by simp [List.getD, hl]
        rw [this]
        simp [byts]
        exact UInt8.toNat_lt _) by1
      have htt := turned_text hk hz hzne
      clear hlong hzne
      have hcv := run_bytes_of_string (P := Try.prog) w13 9 28 5 s Try.underlying9 Try.underlying28 Try.underlying5
      obtain ⟨cap, ec⟩ : ∃ cap, cap = grownCap w13 s.size 0 5 := ⟨_, rfl⟩
      rw [← ec] at hcv
      clear ec
      have R0 : Hid (ByteRow (w13.alloc (.cells (bytesRow s cap) 5 ((bytesRow s cap).size, (bytesRow s cap).size + 1))).drew w13.heap.size s.size 5 (bint s)) := hide (bytes_row w13 s cap 5)
      have B0 : Hid (Below w13.heap.size w13 (w13.alloc (.cells (bytesRow s cap) 5 ((bytesRow s cap).size, (bytesRow s cap).size + 1))).drew) := hide (by go_grown)
      have HTT := hide htt
      have HZ := hide hz
      clear htt
      go_upto_region 9 with fail
      clear hcv
      generalize hW8 : (w13.alloc (.cells (bytesRow s cap) 5 ((bytesRow s cap).size, (bytesRow s cap).size + 1))).drew = W8 at *
      clear hW8
      have c8 := (unhide R0).cell hk
      have f8 := (unhide R0).free hk
      have eb : (bint s).getD k 0 = (((byts s).getD k 0 : Nat) : Int) := by
        have hl : k < s.data.toList.length := by simpa using hk
        simp only [bint, byts, List.getD, List.getElem?_map]
        cases s.data.toList[k]? <;> rfl
      rw [eb] at c8
      obtain ⟨z0, ez0⟩ : ∃ z0, z0 = (byts s).getD k 0 := ⟨_, rfl⟩
      rw [← ez0] at c8 ez
      clear ez0 eb
      have hR9 := (unhide R0).set k z
      have hl9 := hR9.1
      have hcb := fun X : Subtype (Below (W8.setCell ⟨w13.heap.size, k, none⟩ (.int .u8 z)).heap.size (W8.setCell ⟨w13.heap.size, k, none⟩ (.int .u8 z))) => run_convert_bytes_arg (P := Try.prog) X.val 28 5 Try.underlying28 Try.underlying5 w13.heap.size 0 s.size cap _ hl9 (fun j hj => by rw [Nat.zero_add]; exact (X.property.cell (cell_lt (hR9.cell hj))).trans (hR9.cell hj)) 9 Try.underlying9
      obtain ⟨t, et⟩ : ∃ t, t = strOfNums ((bint s).set k (z : Int)) := ⟨_, rfl⟩
      have htz : t.size = s.size := by rw [et, strOfNums_size, List.length_set, bint_len]
      rw [← et] at hcb HTT
      clear et hl9 hR9
      go_upto_region 11 with fail
      have B9 := hide ((unhide B0).setCell (p := ⟨w13.heap.size, k, none⟩) (Nat.le_refl _) (.int .u8 z))
      generalize W8.setCell ⟨w13.heap.size, k, none⟩ (.int .u8 z) = W9 at *
      obtain ⟨p, ep⟩ : ∃ p, p = Seal.of (byts s) := ⟨_, rfl⟩
      obtain ⟨q, eq⟩ : ∃ q, q = Seal.of (byts t) := ⟨_, rfl⟩
      have hp : p < 2147483647 := by rw [ep]; exact Seal.of_lt _
      have hq : q < 2147483647 := by rw [eq]; exact Seal.of_lt _
      have hpq : ((p : Int) != (q : Int)) = true := by
        have := unhide HTT
        rw [← ep, ← eq] at this
        simp
        omega
      have hp' : (p : Int) < 2147483647 := by omega
      have hq' : (q : Int) < 2147483647 := by omega
      have EPP := hide ep
      have EQQ := hide eq
      clear ep eq c8 f8 R0 hp hq
      refine wp_region_ord (S := Below W9.heap.size W9) [(true, 0), (true, 2), (true, 3), (false, 1), (false, 4), (true, 5), (true, 6)] (by kernel_rfl) (by kernel_rfl) (by kernel_rfl) (by kernel_rfl) ((Below.refl _ _).drew) ?_
      simp only [withOps, List.map_cons, List.map_nil, List.getElem?_cons_succ, List.getElem?_cons_zero]
      repeat (refine walkH_read (by rfl) (by (intro gx; go_simp; try (with_reducible rfl))) ?_; try simp only [Act.put, List.setIfInBounds_toArray, List.set_cons_zero, List.set_cons_succ])
      refine walkH_do rfl (fun K hK => ?_)
      go_simp
      refine (sealOf_any s _ hs).mono ?_
      rintro e wq ⟨rfl, rfl⟩
      rw [← unhide EPP]
      refine hK _ _ ((Below.refl _ _).drew) ?_
      clear hK K
      try simp only [Act.put, List.setIfInBounds_toArray, List.set_cons_zero, List.set_cons_succ]
      repeat (refine walkH_read (by rfl) (by (intro gx; go_simp; try (with_reducible rfl))) ?_; try simp only [Act.put, List.setIfInBounds_toArray, List.set_cons_zero, List.set_cons_succ])
      refine walkH_do rfl (fun K hK => ?_)
      go_simp
      refine (sealOf_any t _ (by rw [htz]; exact hs)).mono ?_
      rintro e wq2 ⟨rfl, rfl⟩
      rw [← unhide EQQ]
      refine hK _ _ ((Below.refl _ _).drew) ?_
      clear hK K
      try simp only [Act.put, List.setIfInBounds_toArray, List.set_cons_zero, List.set_cons_succ]
      repeat (refine walkH_read (by rfl) (by (intro gx; go_simp; try (with_reducible rfl))) ?_; try simp only [Act.put, List.setIfInBounds_toArray, List.set_cons_zero, List.set_cons_succ])
      refine (show walkH _ _ _ _ [] _ _ from NoPanic.normal ?_)
      go_wp2
      go_ret
      exact ⟨rfl, (unhide B9).drew⟩
end Go.Proofs.Ythikknnkghaolaa
