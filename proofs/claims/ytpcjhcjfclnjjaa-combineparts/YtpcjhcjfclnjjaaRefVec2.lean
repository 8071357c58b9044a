/- The document's own Combine (ossuaryref1), where the rows may be combined: it returns the sum. -/
import Derived.Test.YtpcjhcjfclnjjaaRefVec1
import Derived.Test.YtpcjhcjfclnjjaaRegionLast
namespace Go.Proofs.Ytpcjhcjfclnjjaa
open Go.RowKit
set_option linter.unusedVariables false
open Vec (alikeTo numsTo May cmb byteAt)
/-- what lies in the new row: rows before i, and row i up to j, are added up -/
def cellC (cs : List Int) (ss : List ByteArray) (i j t : Nat) : Value := .int .u8 ((if t < j then cmb cs ss (i + 1) t else cmb cs ss i t : Nat) : Int)
theorem cellC_start (cs : List Int) (ss : List ByteArray) (t : Nat) : Value.int .u8 0 = cellC cs ss 0 0 t := by simp [cellC, cmb]
theorem wrap_byte (u : UInt8) : IntKind.i64.wrap ((u.toNat : Nat) : Int) = ((u.toNat : Nat) : Int) := by
  have := UInt8.toNat_lt u
  rw [IntKind.wrap_i64]; omega
theorem w64_byte (u : UInt8) : wrap64 ((u.toNat : Nat) : Int) = ((u.toNat : Nat) : Int) := by
  have := UInt8.toNat_lt u
  unfold wrap64; omega
theorem refmul_int (a b : Nat) (A B : Int) (w : World) (hA : A = a) (hB : B = b) (h : a < 256) : Calls Try.prog 19 #[.int .i64 A, .int .i64 B] w fun e w' => e = .returned (.int .i64 (Gf.mul a b : Nat)) ∧ w' = w := by
  rw [hA, hB]; exact refmul_any a b w h
theorem cellC_next (cs : List Int) (ss : List ByteArray) (i m t : Nat) (ht : t < m) : cellC cs ss i m t = cellC cs ss (i + 1) 0 t := by simp [cellC, ht]
theorem cellC_step {cs : List Int} {ss : List ByteArray} {i j x o : Nat} {t : ByteArray} (ex : cs.getD i 0 = (x : Int)) (et : t = ss.getD i ByteArray.empty) (eo : o = cmb cs ss i j) (hj : j < t.size) (r : Nat) :
    (if r = j then Value.int .u8 (bits .xor .u8 (o : Int) (((Gf.mul x t[j].toNat : Nat) : Int) % 256)) else cellC cs ss i j r) = cellC cs ss i (j + 1) r := by
  have hm := Gf.mul_lt x t[j].toNat
  have ho : o < 256 := by rw [eo]; exact Vec.cmb_lt cs ss i j
  by_cases h : r = j
  · subst h
    rw [if_pos rfl, Int.emod_eq_of_lt (by omega) (by omega), u8_xor_nat o _ ho hm]
    have e1 : Gf.mul x t[r].toNat = Gf.mul (cs.getD i 0).toNat (byteAt (Vec.row ss i) r) := by
      rw [ex, Vec.byteAt_get t r hj, Int.toNat_natCast, et]; rfl
    unfold cellC
    rw [if_pos (by omega)]
    show _ = Value.int .u8 ((cmb cs ss i r ^^^ Gf.mul (cs.getD i 0).toNat (byteAt (Vec.row ss i) r) : Nat) : Int)
    rw [← e1, ← eo]
  · rw [if_neg h]
    unfold cellC
    by_cases h2 : r < j
    · rw [if_pos h2, if_pos (by omega)]
    · rw [if_neg h2, if_neg (by omega)]
theorem nums_len {cs : List Int} {ss : List ByteArray} {s0 : ByteArray} (h : s0 = ss.getD 0 ByteArray.empty) : (Vec.nums cs ss).length = s0.size := by
  rw [h]; simp [Vec.nums]
theorem cellC_end {cs : List Int} {ss : List ByteArray} {n : Nat} {s0 : ByteArray} (hl : cs.length = n) (h : s0 = ss.getD 0 ByteArray.empty) (t : Nat) (ht : t < s0.size) :
    some (cellC cs ss n 0 t) = some (.int .u8 ((Vec.nums cs ss).getD t 0)) := by
  rw [h] at ht
  have hk : t < (Vec.nums cs ss).length := by rw [nums_len rfl]; exact ht
  simp only [cellC, Vec.nums, hl]
  simp
  rw [List.getElem?_eq_getElem (by simpa using ht)]
  simp
theorem Try.infoByte : (Try.prog.info? 5).map (fun i => (i.zero, i.size, i.bytes)) = some (some (.int .u8 0), 1, 1) := by kernel_rfl
attribute [local go_sem ↓] Go.wp_at_zero Go.wp_at_succ
set_option maxRecDepth 100000 in
set_option maxHeartbeats 4000000 in
theorem refCombine_yes (b off ca b' off' cb n : Nat) (cs : List Int) (ss : List ByteArray) (w : World) (hl : cs.length = n) (hl' : ss.length = n) (hp : 1 ≤ n) (hn : n ≤ 12) (hcb : n ≤ cb)
    (hal : alikeTo ss n) (hnu : numsTo cs n)
    (hc : ∀ i, i < n → w.cell? ⟨b, off + i, none⟩ = some (.int .i64 (cs.getD i 0)))
    (hd : ∀ i, i < n → w.cell? ⟨b', off' + i, none⟩ = some (.string (ss.getD i ByteArray.empty))) :
    Calls Try.prog 9 #[.slice (some ⟨b, off, none⟩) n ca, .slice (some ⟨b', off', none⟩) n cb] w fun e w' => e = .returned (.tuple #[.string (Vec.out cs ss), .int .i64 0]) ∧ Below w.heap.size w w' := by
  have hS : Hid (Strs w (some ⟨b', off', none⟩) n cb ss) := hide ⟨hl', .inr (.inr ⟨hp, hcb, b', off', rfl, hd⟩)⟩
  have HA := hide hal
  have HN := hide hnu
  clear hal hnu
  have hp' : ¬ (n : Int) < 1 := by omega
  have hn' : ¬ (12 : Int) < n := by omega
  have h0 : w.cell? ⟨b', off', none⟩ = some (.string (ss.getD 0 ByteArray.empty)) := hd 0 hp
  obtain ⟨s0, e0⟩ : ∃ s0, s0 = ss.getD 0 ByteArray.empty := ⟨_, rfl⟩
  have E0 := hide e0
  rw [← e0] at h0
  clear e0
  have hp2 : (0 : Int) < n := by omega
  have hs0 : s0.size ≤ 4096 := by rw [unhide E0]; exact (unhide HA 0 hp).2
  have hmk := fun w => run_make_row' (P := Try.prog) 38 5 (.int .u8 0) 1 Try.underlying38 Try.infoByte rfl .i64 .i64 s0.size (by omega) (by omega) w
  go_enter Try.func9, Try.ntmps9
  go_wp2_with fail
  refine (alike_any _ _ _ ss _ (unhide hS) (by omega)).mono ?_
  rintro e w1 ⟨⟨m, rfl⟩, hr⟩
  rcases hr with ⟨_, rfl⟩ | ⟨hno, _⟩
  · go_wp2
    go_loop [6] (fun i => ∃ k : Nat, k ≤ n ∧ i = .int .i64 k) (fun i => n - (intOf i).toNat)
    case atStart => exact ⟨0, by omega, rfl⟩
    case round =>
      obtain ⟨k, hk, rfl⟩ := hrel
      by_cases hlt : k < n
      · have hlt' : (k : Int) < n := by omega
        have h1 := hc k hlt
        obtain ⟨h2, h3⟩ := unhide HN k hlt
        obtain ⟨x, ex⟩ : ∃ x, x = cs.getD k 0 := ⟨_, rfl⟩
        rw [← ex] at h1 h2 h3
        clear ex hc hd
        go_wp2_with (go_at_call 18; refine (byteNum_yes _ _ h2 (by omega)).mono ?_; rintro e w' ⟨rfl, rfl⟩)
        go_round
        case rel => exact ⟨k + 1, by omega, by go_num⟩
        case measure => simp [intOf]; omega
      · have hlt' : ¬ (k : Int) < n := by omega
        obtain rfl : n = k := by omega
        have HC := hide hc
        have HD := hide hd
        clear hc hd
        go_wp2
        go_loopw [8] (fun i wr => ∃ i' : Nat, i' ≤ n ∧ i = .int .i64 i' ∧ Hid (wr.rowIs w.heap.size 5 s0.size (cellC cs ss i' 0)) ∧ Hid (Below w.heap.size w wr)) (fun i _ => n - (intOf i).toNat)
        case atStart => exact ⟨0, by omega, rfl, (World.rowIs_made _ _ _ _).congr (fun t _ => cellC_start cs ss t), (below_drewN w _ m).alloc (Nat.le_refl _) _⟩
        case round =>
          obtain ⟨i, hi, rfl, HR, HB⟩ := hrel
          by_cases hlti : i < n
          · have hlti' : (i : Int) < n := by omega
            go_wp2
            go_loopw [9] (fun j wr => ∃ j' : Nat, j' ≤ s0.size ∧ j = .int .i64 j' ∧ Hid (wr.rowIs w.heap.size 5 s0.size (cellC cs ss i j')) ∧ Hid (Below w.heap.size w wr)) (fun j _ => s0.size - (intOf j).toNat)
            case atStart => exact ⟨0, by omega, rfl, HR, HB⟩
            case round =>
              obtain ⟨j, hj, rfl, HR, HB⟩ := hrel
              by_cases hltj : j < s0.size
              · have hltj' : (j : Int) < s0.size := by omega
                have c1 : wr.cell? ⟨w.heap.size, j, none⟩ = some (.int .u8 ((cmb cs ss i j : Nat) : Int)) := ((unhide HR).cell hltj).trans (by simp [cellC])
                have f1 := (unhide HR).frozen j
                have c2 := (unhide HB).cell (cell_lt (unhide HC i hlti)) |>.trans (unhide HC i hlti)
                have c3 := (unhide HB).cell (cell_lt (unhide HD i hlti)) |>.trans (unhide HD i hlti)
                obtain ⟨x, hx, ex⟩ : ∃ x : Nat, x < 256 ∧ cs.getD i 0 = x := ⟨(cs.getD i 0).toNat, by have := unhide HN i hlti; omega, by have := unhide HN i hlti; omega⟩
                have EX := hide ex
                rw [ex] at c2
                clear ex
                obtain ⟨t, et⟩ : ∃ t, t = ss.getD i ByteArray.empty := ⟨_, rfl⟩
                rw [← et] at c3
                have ET := hide et
                have hts : j < t.size := by rw [et, (unhide HA i hlti).1, ← unhide E0]; exact hltj
                have nb : b ≠ w.heap.size := Nat.ne_of_lt (cell_lt (unhide HC i hlti))
                have nb' : b' ≠ w.heap.size := Nat.ne_of_lt (cell_lt (unhide HD i hlti))
                have hts' : (j : Int) < t.size := by omega
                clear et
                obtain ⟨o, eo⟩ : ∃ o, o = cmb cs ss i j := ⟨_, rfl⟩
                rw [← eo] at c1
                have EO := hide eo
                clear eo
                go_wp2
                refine wp_region_quiet_then (List.cons_ne_nil _ _) ?_ ?_ ?_ ?_
                · kernel_rfl
                · kernel_rfl
                · kernel_rfl
                simp only [List.dropLast_cons_cons, List.dropLast_singleton, List.getLast_cons_cons, List.getLast_singleton]
                repeat (first | go_big_quiet_step ((go_at_call 19; exact Calls.quiet_of_same (refmul_int x (t[j].toNat) _ _ _ rfl (w64_byte _) hx))) | quiet_step ((go_at_call 19; exact Calls.quiet_of_same (refmul_int x (t[j].toNat) _ _ _ rfl (w64_byte _) hx))))
                refine wpQuiet_nil ?_
                intro _ hw'
                obtain ⟨nq, hw''⟩ := hw'
                subst hw''
                simp only [List.cons_append, List.nil_append]
                go_wp2
                go_roundw
                case rel =>
                  refine ⟨j + 1, by omega, by go_num, hide ?_, hide (((unhide HB).trans (below_drewN _ _ nq)).setCell (Nat.le_refl _) _)⟩
                  have hR2 : (wr.drewN nq).rowIs w.heap.size 5 s0.size (cellC cs ss i j) := (unhide HR).of_block rfl
                  exact (hR2.set j _).congr (fun r _ => cellC_step (unhide EX) (unhide ET) (unhide EO) hts r)
                case measure => simp [intOf]; omega
              · have hltj' : ¬ (j : Int) < s0.size := by omega
                obtain rfl : j = s0.size := by omega
                go_wp2
                go_roundw
                case rel => exact ⟨i + 1, by omega, by go_num, hide ((unhide HR).congr (fun t ht => cellC_next cs ss i _ t ht)), HB⟩
                case measure => simp [intOf]; omega
          · have hlti' : ¬ (i : Int) < n := by omega
            obtain rfl : i = n := by omega
            have c4 : ∀ t, t < s0.size → wr.cell? ⟨w.heap.size, 0 + t, none⟩ = some (.int .u8 ((Vec.nums cs ss).getD t 0)) := fun t ht => by
              rw [Nat.zero_add, (unhide HR).cell ht]; exact cellC_end hl (unhide E0) t ht
            have hcv := run_convert_bytes_arg (P := Try.prog) wr 38 5 Try.underlying38 Try.underlying5 w.heap.size 0 s0.size s0.size (Vec.nums cs ss) (nums_len (unhide E0)) c4 9 Try.underlying9
            clear c4
            go_wp2
            go_ret2
            exact ⟨rfl, unhide HB⟩
  · exact absurd (unhide HA) hno
end Go.Proofs.Ytpcjhcjfclnjjaa
