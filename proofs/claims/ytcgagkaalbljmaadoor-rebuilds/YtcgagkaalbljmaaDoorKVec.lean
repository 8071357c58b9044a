/- Texts one behind the other: Vec, RefVec1, RefVec2, RefVec3, VecWalk. -/
import Derived.Test.YtcgagkaalbljmaaDoorKCore
import Derived.Test.YtcgagkaalbljmaaDoorProg
import Derived.Test.YtcgagkaalbljmaaDoorKRegs
import Derived.Laws.BytesArg
import Derived.Deep.OwnRows
import Derived.Deep.RegionHeld3
import Derived.Deep.DrawnRows
import Derived.Laws.BitsAllLaws
/- Rows of bytes in plain numbers: what Combine tells. -/
namespace Go.Proofs.YtcgagkaalbljmaaDoor.Vec
def byteAt (s : ByteArray) (j : Nat) : Nat := (s.data.toList.getD j 0).toNat
def row (ss : List ByteArray) (k : Nat) : ByteArray := ss.getD k ByteArray.empty
/-- the sum of the first k rows' bytes at j, each times its number -/
def cmb (cs : List Int) (ss : List ByteArray) : Nat → Nat → Nat
  | 0, _ => 0
  | k + 1, j => cmb cs ss k j ^^^ Gf.mul (cs.getD k 0).toNat (byteAt (row ss k) j)
theorem cmb_lt (cs : List Int) (ss : List ByteArray) (k j : Nat) : cmb cs ss k j < 256 := by
  cases k with
  | zero => exact (by decide : (0 : Nat) < 256)
  | succ k => exact Gf.xor_lt (by
      cases k with
      | zero => exact (by decide : (0 : Nat) < 256)
      | succ k => exact cmb_lt cs ss (k + 1) j) (Gf.mul_lt _ _)
theorem byteAt_lt (s : ByteArray) (j : Nat) : byteAt s j < 256 := UInt8.toNat_lt _
theorem byteAt_get (s : ByteArray) (j : Nat) (h : j < s.size) : (s[j].toNat : Nat) = byteAt s j := by
  unfold byteAt
  have : s.data.toList.getD j 0 = s[j] := by
    have hj : j < s.data.size := h
    simp [List.getD, Array.getElem?_eq_getElem hj]
    rfl
  rw [this]
/-- each row is as long as the first, with at most MaxText bytes -/
def alikeTo (ss : List ByteArray) (k : Nat) : Prop := ∀ i, i < k → (ss.getD i ByteArray.empty).size = (ss.getD 0 ByteArray.empty).size ∧ (ss.getD i ByteArray.empty).size ≤ 4096
def numsTo (cs : List Int) (k : Nat) : Prop := ∀ i, i < k → 0 ≤ cs.getD i 0 ∧ cs.getD i 0 < 256
/-- may these be combined? -/
def May (cs : List Int) (ss : List ByteArray) : Prop := 1 ≤ cs.length ∧ cs.length ≤ 12 ∧ ss.length = cs.length ∧ alikeTo ss ss.length ∧ numsTo cs cs.length
def nums (cs : List Int) (ss : List ByteArray) : List Int := (List.range (ss.getD 0 ByteArray.empty).size).map fun j => ((cmb cs ss cs.length j : Nat) : Int)
def out (cs : List Int) (ss : List ByteArray) : ByteArray := strOfNums (nums cs ss)
end Go.Proofs.YtcgagkaalbljmaaDoor.Vec
/- The document's own Combine (ossuaryref1) returns what plain numbers say: contracts. -/
namespace Go.Proofs.YtcgagkaalbljmaaDoor
open Go.RowKit
set_option linter.unusedVariables false
open Vec (alikeTo numsTo May cmb byteAt)
set_option maxRecDepth 100000 in
theorem alike_none (a : Option Addr) (ca : Nat) (w : World) : Calls Tryd.prog 24 #[.slice a 0 ca] w fun e w' => e = .returned (.bool true) ∧ w' = w := by
  go_enter Tryd.func24, Tryd.ntmps24
  go_wp2
  go_rounds 1
  go_ret
  exact ⟨rfl, rfl⟩
set_option maxRecDepth 100000 in
set_option maxHeartbeats 1000000 in
theorem alike_some (b off ca n : Nat) (ss : List ByteArray) (w : World) (hl : ss.length = n) (hp : 0 < n) (hn : n ≤ 140737488355328)
   (hc : ∀ i, i < n → w.cell? ⟨b, off + i, none⟩ = some (.string (ss.getD i ByteArray.empty))) :
   Calls Tryd.prog 24 #[.slice (some ⟨b, off, none⟩) n ca] w fun e w' => (∃ m, w' = w.drewN m) ∧ ((alikeTo ss n ∧ e = .returned (.bool true)) ∨ (¬ alikeTo ss n ∧ e = .returned (.bool false))) := by
  have h0 : w.cell? ⟨b, off, none⟩ = some (.string (ss.getD 0 ByteArray.empty)) := hc 0 hp
  have hp' : (0 : Int) < n := by omega
  obtain ⟨s0, e0⟩ : ∃ s0, s0 = ss.getD 0 ByteArray.empty := ⟨_, rfl⟩
  have E0 := hide e0
  rw [← e0] at h0
  clear e0
  go_enter Tryd.func24, Tryd.ntmps24
  go_wp2
  go_loopw [3] (fun i wr => ∃ k : Nat, k ≤ n ∧ i = .int .i64 k ∧ Hid (alikeTo ss k) ∧ Hid (∃ m, wr = w.drewN m)) (fun i _ => n - (intOf i).toNat)
  case atStart => exact ⟨0, by omega, rfl, (fun i hi => by omega), ⟨0, rfl⟩⟩
  case round =>
    obtain ⟨k, hk, rfl, he, m, rfl⟩ := hrel
    by_cases hlt : k < n
    · have hlt' : (k : Int) < n := by omega
      have h1 := hc k hlt
      obtain ⟨s, es⟩ : ∃ s, s = ss.getD k ByteArray.empty := ⟨_, rfl⟩
      rw [← es] at h1
      have ES := hide es
      clear es hc
      by_cases t1 : s.size = s0.size
      · have g1 : ((s.size : Int) != (s0.size : Int)) = false := by simp [t1]
        by_cases t2 : s.size ≤ 4096
        · have g2 : ¬ (4096 : Int) < (s.size : Int) := by omega
          have T1 := hide t1
          clear t1
          go_wp2
          go_quiet (fail)
          go_wp2
          go_roundw
          case rel =>
            refine ⟨k + 1, by omega, by go_num, hide (fun i hi => ?_), ⟨m + nq, rfl⟩⟩
            by_cases q : i = k
            · rw [q, ← unhide ES, ← unhide E0]; exact ⟨unhide T1, t2⟩
            · exact unhide he i (by omega)
          case measure => simp [intOf]; omega
        · have g2 : (4096 : Int) < (s.size : Int) := by omega
          clear t1
          go_wp2
          go_quiet (fail)
          go_wp2
          go_ret
          refine ⟨⟨m + nq, by simp⟩, .inr ⟨fun h => t2 ?_, rfl⟩⟩
          have := (h k hlt).2
          rw [← unhide ES] at this; exact this
      · have g1 : ((s.size : Int) != (s0.size : Int)) = true := by simp; omega
        go_wp2
        go_quiet (fail)
        go_wp2
        go_ret
        refine ⟨⟨m + nq, by simp⟩, .inr ⟨fun h => t1 ?_, rfl⟩⟩
        have := (h k hlt).1
        rw [← unhide ES, ← unhide E0] at this; exact this
    · have hlt' : ¬ (k : Int) < n := by omega
      obtain rfl : k = n := by omega
      go_wp2
      go_ret
      exact ⟨⟨m, rfl⟩, .inl ⟨he, rfl⟩⟩
theorem alike_any (a : Option Addr) (n ca : Nat) (ss : List ByteArray) (w : World) (h : Strs w a n ca ss) (hn : n ≤ 140737488355328) :
   Calls Tryd.prog 24 #[.slice a n ca] w fun e w' => (∃ m, w' = w.drewN m) ∧ ((alikeTo ss n ∧ e = .returned (.bool true)) ∨ (¬ alikeTo ss n ∧ e = .returned (.bool false))) := by
  obtain ⟨hl, hr⟩ := h
  rcases hr.two with rfl | ⟨b, off, rfl, hc⟩
  · refine (alike_none a ca w).mono ?_
    rintro e w' ⟨rfl, rfl⟩
    exact ⟨⟨0, rfl⟩, .inl ⟨fun i hi => by omega, rfl⟩⟩
  · by_cases h0 : n = 0
    · subst h0
      refine (alike_none _ ca w).mono ?_
      rintro e w' ⟨rfl, rfl⟩
      exact ⟨⟨0, rfl⟩, .inl ⟨fun i hi => by omega, rfl⟩⟩
    · exact alike_some b off ca n ss w hl (by omega) hn hc

end Go.Proofs.YtcgagkaalbljmaaDoor
/- The document's own Combine (ossuaryref1), where the rows may be combined: it returns the sum. -/
namespace Go.Proofs.YtcgagkaalbljmaaDoor
open Go.RowKit
set_option linter.unusedVariables false
open Vec (alikeTo numsTo May cmb byteAt)
/-- what lies in the new row: rows before i, and row i up to j, are added up -/
def cellC (cs : List Int) (ss : List ByteArray) (i j t : Nat) : Value := .int .u8 ((if t < j then cmb cs ss (i + 1) t else cmb cs ss i t : Nat) : Int)
theorem cellC_start (cs : List Int) (ss : List ByteArray) (t : Nat) : Value.int .u8 0 = cellC cs ss 0 0 t := by simp [cellC, cmb]
theorem wrap_byte (u : UInt8) : IntKind.i64.wrap ((u.toNat : Nat) : Int) = ((u.toNat : Nat) : Int) := by
  have := UInt8.toNat_lt u
  rw [IntKind.wrap_i64]; omega
theorem w64_byte (u : UInt8) : wrap64 ((u.toNat : Nat) : Int) = ((u.toNat : Nat) : Int) := by
  have := UInt8.toNat_lt u
  unfold wrap64; omega
theorem refmul_int (a b : Nat) (A B : Int) (w : World) (hA : A = a) (hB : B = b) (h : a < 256) : Calls Tryd.prog 44 #[.int .i64 A, .int .i64 B] w fun e w' => e = .returned (.int .i64 (Gf.mul a b : Nat)) ∧ w' = w := by
  rw [hA, hB]; exact refmul_any a b w h
theorem cellC_next (cs : List Int) (ss : List ByteArray) (i m t : Nat) (ht : t < m) : cellC cs ss i m t = cellC cs ss (i + 1) 0 t := by simp [cellC, ht]
theorem cellC_step {cs : List Int} {ss : List ByteArray} {i j x o : Nat} {t : ByteArray} (ex : cs.getD i 0 = (x : Int)) (et : t = ss.getD i ByteArray.empty) (eo : o = cmb cs ss i j) (hj : j < t.size) (r : Nat) :
    (if r = j then Value.int .u8 (bits .xor .u8 (o : Int) (((Gf.mul x t[j].toNat : Nat) : Int) % 256)) else cellC cs ss i j r) = cellC cs ss i (j + 1) r := by
  have hm := Gf.mul_lt x t[j].toNat
  have ho : o < 256 := by rw [eo]; exact Vec.cmb_lt cs ss i j
  by_cases h : r = j
  · subst h
    rw [if_pos rfl, Int.emod_eq_of_lt (by omega) (by omega), u8_xor_nat o _ ho hm]
    have e1 : Gf.mul x t[r].toNat = Gf.mul (cs.getD i 0).toNat (byteAt (Vec.row ss i) r) := by
      rw [ex, Vec.byteAt_get t r hj, Int.toNat_natCast, et]; rfl
    unfold cellC
    rw [if_pos (by omega)]
    show _ = Value.int .u8 ((cmb cs ss i r ^^^ Gf.mul (cs.getD i 0).toNat (byteAt (Vec.row ss i) r) : Nat) : Int)
    rw [← e1, ← eo]
  · rw [if_neg h]
    unfold cellC
    by_cases h2 : r < j
    · rw [if_pos h2, if_pos (by omega)]
    · rw [if_neg h2, if_neg (by omega)]
theorem nums_len {cs : List Int} {ss : List ByteArray} {s0 : ByteArray} (h : s0 = ss.getD 0 ByteArray.empty) : (Vec.nums cs ss).length = s0.size := by
  rw [h]; simp [Vec.nums]
theorem cellC_end {cs : List Int} {ss : List ByteArray} {n : Nat} {s0 : ByteArray} (hl : cs.length = n) (h : s0 = ss.getD 0 ByteArray.empty) (t : Nat) (ht : t < s0.size) :
    some (cellC cs ss n 0 t) = some (.int .u8 ((Vec.nums cs ss).getD t 0)) := by
  rw [h] at ht
  have hk : t < (Vec.nums cs ss).length := by rw [nums_len rfl]; exact ht
  simp only [cellC, Vec.nums, hl]
  simp
  rw [List.getElem?_eq_getElem (by simpa using ht)]
  simp
theorem Tryd.infoByte : (Tryd.prog.info? 5).map (fun i => (i.zero, i.size, i.bytes)) = some (some (.int .u8 0), 1, 1) := by kernel_rfl
attribute [local go_sem ↓] Go.wp_at_zero Go.wp_at_succ
set_option maxRecDepth 100000 in
set_option maxHeartbeats 4000000 in
theorem refCombine_yes (b off ca b' off' cb n : Nat) (cs : List Int) (ss : List ByteArray) (w : World) (hl : cs.length = n) (hl' : ss.length = n) (hp : 1 ≤ n) (hn : n ≤ 12) (hcb : n ≤ cb)
    (hal : alikeTo ss n) (hnu : numsTo cs n)
    (hc : ∀ i, i < n → w.cell? ⟨b, off + i, none⟩ = some (.int .i64 (cs.getD i 0)))
    (hd : ∀ i, i < n → w.cell? ⟨b', off' + i, none⟩ = some (.string (ss.getD i ByteArray.empty))) :
    Calls Tryd.prog 26 #[.slice (some ⟨b, off, none⟩) n ca, .slice (some ⟨b', off', none⟩) n cb] w fun e w' => e = .returned (.tuple #[.string (Vec.out cs ss), .int .i64 0]) ∧ Below w.heap.size w w' := by
  have hS : Hid (Strs w (some ⟨b', off', none⟩) n cb ss) := hide ⟨hl', .inr (.inr ⟨hp, hcb, b', off', rfl, hd⟩)⟩
  have HA := hide hal
  have HN := hide hnu
  clear hal hnu
  have hp' : ¬ (n : Int) < 1 := by omega
  have hn' : ¬ (12 : Int) < n := by omega
  have h0 : w.cell? ⟨b', off', none⟩ = some (.string (ss.getD 0 ByteArray.empty)) := hd 0 hp
  obtain ⟨s0, e0⟩ : ∃ s0, s0 = ss.getD 0 ByteArray.empty := ⟨_, rfl⟩
  have E0 := hide e0
  rw [← e0] at h0
  clear e0
  have hp2 : (0 : Int) < n := by omega
  have hs0 : s0.size ≤ 4096 := by rw [unhide E0]; exact (unhide HA 0 hp).2
  have hmk := fun w => run_make_row' (P := Tryd.prog) 41 5 (.int .u8 0) 1 Tryd.underlying41 Tryd.infoByte rfl .i64 .i64 s0.size (by omega) (by omega) w
  go_enter Tryd.func26, Tryd.ntmps26
  go_wp2_with fail
  refine (alike_any _ _ _ ss _ (unhide hS) (by omega)).mono ?_
  rintro e w1 ⟨⟨m, rfl⟩, hr⟩
  rcases hr with ⟨_, rfl⟩ | ⟨hno, _⟩
  · go_wp2
    go_loop [6] (fun i => ∃ k : Nat, k ≤ n ∧ i = .int .i64 k) (fun i => n - (intOf i).toNat)
    case atStart => exact ⟨0, by omega, rfl⟩
    case round =>
      obtain ⟨k, hk, rfl⟩ := hrel
      by_cases hlt : k < n
      · have hlt' : (k : Int) < n := by omega
        have h1 := hc k hlt
        obtain ⟨h2, h3⟩ := unhide HN k hlt
        obtain ⟨x, ex⟩ : ∃ x, x = cs.getD k 0 := ⟨_, rfl⟩
        rw [← ex] at h1 h2 h3
        clear ex hc hd
        go_wp2_with (go_at_call 43; refine (byteNum_yes _ _ h2 (by omega)).mono ?_; rintro e w' ⟨rfl, rfl⟩)
        go_round
        case rel => exact ⟨k + 1, by omega, by go_num⟩
        case measure => simp [intOf]; omega
      · have hlt' : ¬ (k : Int) < n := by omega
        obtain rfl : n = k := by omega
        have HC := hide hc
        have HD := hide hd
        clear hc hd
        go_wp2
        go_loopw [8] (fun i wr => ∃ i' : Nat, i' ≤ n ∧ i = .int .i64 i' ∧ Hid (wr.rowIs w.heap.size 5 s0.size (cellC cs ss i' 0)) ∧ Hid (Below w.heap.size w wr)) (fun i _ => n - (intOf i).toNat)
        case atStart => exact ⟨0, by omega, rfl, (World.rowIs_made _ _ _ _).congr (fun t _ => cellC_start cs ss t), (below_drewN w _ m).alloc (Nat.le_refl _) _⟩
        case round =>
          obtain ⟨i, hi, rfl, HR, HB⟩ := hrel
          by_cases hlti : i < n
          · have hlti' : (i : Int) < n := by omega
            go_wp2
            go_loopw [9] (fun j wr => ∃ j' : Nat, j' ≤ s0.size ∧ j = .int .i64 j' ∧ Hid (wr.rowIs w.heap.size 5 s0.size (cellC cs ss i j')) ∧ Hid (Below w.heap.size w wr)) (fun j _ => s0.size - (intOf j).toNat)
            case atStart => exact ⟨0, by omega, rfl, HR, HB⟩
            case round =>
              obtain ⟨j, hj, rfl, HR, HB⟩ := hrel
              by_cases hltj : j < s0.size
              · have hltj' : (j : Int) < s0.size := by omega
                have c1 : wr.cell? ⟨w.heap.size, j, none⟩ = some (.int .u8 ((cmb cs ss i j : Nat) : Int)) := ((unhide HR).cell hltj).trans (by simp [cellC])
                have f1 := (unhide HR).frozen j
                have c2 := (unhide HB).cell (cell_lt (unhide HC i hlti)) |>.trans (unhide HC i hlti)
                have c3 := (unhide HB).cell (cell_lt (unhide HD i hlti)) |>.trans (unhide HD i hlti)
                obtain ⟨x, hx, ex⟩ : ∃ x : Nat, x < 256 ∧ cs.getD i 0 = x := ⟨(cs.getD i 0).toNat, by have := unhide HN i hlti; omega, by have := unhide HN i hlti; omega⟩
                have EX := hide ex
                rw [ex] at c2
                clear ex
                obtain ⟨t, et⟩ : ∃ t, t = ss.getD i ByteArray.empty := ⟨_, rfl⟩
                rw [← et] at c3
                have ET := hide et
                have hts : j < t.size := by rw [et, (unhide HA i hlti).1, ← unhide E0]; exact hltj
                have nb : b ≠ w.heap.size := Nat.ne_of_lt (cell_lt (unhide HC i hlti))
                have nb' : b' ≠ w.heap.size := Nat.ne_of_lt (cell_lt (unhide HD i hlti))
                have hts' : (j : Int) < t.size := by omega
                clear et
                obtain ⟨o, eo⟩ : ∃ o, o = cmb cs ss i j := ⟨_, rfl⟩
                rw [← eo] at c1
                have EO := hide eo
                clear eo
                go_wp2
                refine wp_region_quiet_then (List.cons_ne_nil _ _) ?_ ?_ ?_ ?_
                · kernel_rfl
                · kernel_rfl
                · kernel_rfl
                simp only [List.dropLast_cons_cons, List.dropLast_singleton, List.getLast_cons_cons, List.getLast_singleton]
                repeat (first | go_big_quiet_step ((go_at_call 44; exact Calls.quiet_of_same (refmul_int x (t[j].toNat) _ _ _ rfl (w64_byte _) hx))) | quiet_step ((go_at_call 44; exact Calls.quiet_of_same (refmul_int x (t[j].toNat) _ _ _ rfl (w64_byte _) hx))))
                refine wpQuiet_nil ?_
                intro _ hw'
                obtain ⟨nq, hw''⟩ := hw'
                subst hw''
                simp only [List.cons_append, List.nil_append]
                go_wp2
                go_roundw
                case rel =>
                  refine ⟨j + 1, by omega, by go_num, hide ?_, hide (((unhide HB).trans (below_drewN _ _ nq)).setCell (Nat.le_refl _) _)⟩
                  have hR2 : (wr.drewN nq).rowIs w.heap.size 5 s0.size (cellC cs ss i j) := (unhide HR).of_block rfl
                  exact (hR2.set j _).congr (fun r _ => cellC_step (unhide EX) (unhide ET) (unhide EO) hts r)
                case measure => simp [intOf]; omega
              · have hltj' : ¬ (j : Int) < s0.size := by omega
                obtain rfl : j = s0.size := by omega
                go_wp2
                go_roundw
                case rel => exact ⟨i + 1, by omega, by go_num, hide ((unhide HR).congr (fun t ht => cellC_next cs ss i _ t ht)), HB⟩
                case measure => simp [intOf]; omega
          · have hlti' : ¬ (i : Int) < n := by omega
            obtain rfl : i = n := by omega
            have c4 : ∀ t, t < s0.size → wr.cell? ⟨w.heap.size, 0 + t, none⟩ = some (.int .u8 ((Vec.nums cs ss).getD t 0)) := fun t ht => by
              rw [Nat.zero_add, (unhide HR).cell ht]; exact cellC_end hl (unhide E0) t ht
            have hcv := run_convert_bytes_arg (P := Tryd.prog) wr 41 5 Tryd.underlying41 Tryd.underlying5 w.heap.size 0 s0.size s0.size (Vec.nums cs ss) (nums_len (unhide E0)) c4 9 Tryd.underlying9
            clear c4
            go_wp2
            go_ret2
            exact ⟨rfl, unhide HB⟩
  · exact absurd (unhide HA) hno
end Go.Proofs.YtcgagkaalbljmaaDoor
/- The document's own Combine (ossuaryref1): what it returns, whatever the numbers and rows. -/
namespace Go.Proofs.YtcgagkaalbljmaaDoor
open Go.RowKit
set_option linter.unusedVariables false
open Vec (alikeTo numsTo May cmb byteAt)
theorem first_bad {cs : List Int} : ∀ n, ¬ numsTo cs n → ∃ k, k < n ∧ numsTo cs k ∧ ¬ (0 ≤ cs.getD k 0 ∧ cs.getD k 0 < 256)
  | 0, h => absurd (fun i hi => by omega) h
  | n + 1, h => by
    by_cases hn : numsTo cs n
    · refine ⟨n, by omega, hn, fun hk => h (fun i hi => ?_)⟩
      by_cases q : i = n
      · rw [q]; exact hk
      · exact hn i (by omega)
    · obtain ⟨k, hk, h1, h2⟩ := first_bad n hn
      exact ⟨k, by omega, h1, h2⟩
set_option maxRecDepth 100000 in
set_option maxHeartbeats 1000000 in
theorem refCombine_len (a a' : Option Addr) (n n' ca cb : Nat) (w : World) (h : n < 1 ∨ 12 < n ∨ n' ≠ n) (hb : n ≤ 140737488355328) :
    Calls Tryd.prog 26 #[.slice a n ca, .slice a' n' cb] w fun e w' => e = .returned (.tuple #[.string ByteArray.empty, .int .i64 200]) ∧ w' = w := by
  by_cases h1 : n < 1
  · have h1' : (n : Int) < 1 := by omega
    go_enter Tryd.func26, Tryd.ntmps26
    go_wp2
    go_ret2
    exact ⟨rfl, rfl⟩
  · have h1' : ¬ (n : Int) < 1 := by omega
    by_cases h2 : 12 < n
    · have h2' : (12 : Int) < n := by omega
      go_enter Tryd.func26, Tryd.ntmps26
      go_wp2
      go_ret2
      exact ⟨rfl, rfl⟩
    · have h2' : ¬ (12 : Int) < n := by omega
      have h3 : ((n' : Int) != (n : Int)) = true := by simp; omega
      clear h
      go_enter Tryd.func26, Tryd.ntmps26
      go_wp2
      go_ret2
      exact ⟨rfl, rfl⟩
set_option maxRecDepth 100000 in
set_option maxHeartbeats 1000000 in
theorem refCombine_form (b off ca b' off' cb n : Nat) (cs : List Int) (ss : List ByteArray) (w : World) (hl : cs.length = n) (hl' : ss.length = n) (hp : 1 ≤ n) (hn : n ≤ 12) (hcb : n ≤ cb)
    (hno : ¬ (alikeTo ss n ∧ numsTo cs n))
    (hc : ∀ i, i < n → w.cell? ⟨b, off + i, none⟩ = some (.int .i64 (cs.getD i 0)))
    (hd : ∀ i, i < n → w.cell? ⟨b', off' + i, none⟩ = some (.string (ss.getD i ByteArray.empty))) :
    Calls Tryd.prog 26 #[.slice (some ⟨b, off, none⟩) n ca, .slice (some ⟨b', off', none⟩) n cb] w fun e w' => e = .returned (.tuple #[.string ByteArray.empty, .int .i64 200]) ∧ Below w.heap.size w w' := by
  have hS : Hid (Strs w (some ⟨b', off', none⟩) n cb ss) := hide ⟨hl', .inr (.inr ⟨hp, hcb, b', off', rfl, hd⟩)⟩
  have HO := hide hno
  clear hno hd
  have hp' : ¬ (n : Int) < 1 := by omega
  have hn' : ¬ (12 : Int) < n := by omega
  have hp2 : (0 : Int) < n := by omega
  go_enter Tryd.func26, Tryd.ntmps26
  go_wp2_with fail
  refine (alike_any _ _ _ ss _ (unhide hS) (by omega)).mono ?_
  rintro e w1 ⟨⟨m, rfl⟩, hr⟩
  rcases hr with ⟨hal, rfl⟩ | ⟨hnal, rfl⟩
  · obtain ⟨q, hq, hq1, hq2⟩ := first_bad n (fun h => unhide HO ⟨hal, h⟩)
    have HQ1 := hide hq1
    have HQ2 := hide hq2
    clear hal hq1 hq2
    go_wp2
    go_loop [6] (fun i => ∃ k : Nat, k ≤ q ∧ i = .int .i64 k) (fun i => n - (intOf i).toNat)
    case atStart => exact ⟨0, by omega, rfl⟩
    case round =>
      obtain ⟨k, hk, rfl⟩ := hrel
      have hlt' : (k : Int) < n := by omega
      have h1 := hc k (by omega)
      clear hc
      by_cases hlt : k < q
      · obtain ⟨h2, h3⟩ := unhide HQ1 k hlt
        obtain ⟨x, ex⟩ : ∃ x, x = cs.getD k 0 := ⟨_, rfl⟩
        rw [← ex] at h1 h2 h3
        clear ex
        go_wp2_with (go_at_call 43; refine (byteNum_yes _ _ h2 (by omega)).mono ?_; rintro e w' ⟨rfl, rfl⟩)
        go_round
        case rel => exact ⟨k + 1, by omega, by go_num⟩
        case measure => simp [intOf]; omega
      · obtain rfl : k = q := by omega
        have h2 := unhide HQ2
        obtain ⟨x, ex⟩ : ∃ x, x = cs.getD k 0 := ⟨_, rfl⟩
        rw [← ex] at h1 h2
        clear ex
        have H2 := hide h2
        clear h2
        go_wp2_with (go_at_call 43; refine (byteNum_no _ _ (by have := unhide H2; omega)).mono ?_; rintro e w' ⟨rfl, rfl⟩)
        go_ret2
        exact ⟨rfl, below_drewN w _ m⟩
  · clear hnal
    go_wp2
    go_ret2
    exact ⟨rfl, below_drewN w _ m⟩
/-- what Combine answers: the text, the error's number -/
def combR (cs : List Int) (ss : List ByteArray) (r : ByteArray × Int) : Prop := (May cs ss ∧ r = (Vec.out cs ss, 0)) ∨ (¬ May cs ss ∧ r = (ByteArray.empty, 200))
theorem combR_one {cs : List Int} {ss : List ByteArray} {r r' : ByteArray × Int} (h : combR cs ss r) (h' : combR cs ss r') : r = r' := by
  rcases h with ⟨h1, h2⟩ | ⟨h1, h2⟩ <;> rcases h' with ⟨h3, h4⟩ | ⟨h3, h4⟩
  · rw [h2, h4]
  · exact absurd h1 h3
  · exact absurd h3 h1
  · rw [h2, h4]
theorem refCombine_any (a a' : Option Addr) (n n' ca cb : Nat) (cs : List Int) (ss : List ByteArray) (w : World) (hx : Ints w a n ca cs) (hy : Strs w a' n' cb ss) (hn : n ≤ 140737488355328) :
    Calls Tryd.prog 26 #[.slice a n ca, .slice a' n' cb] w fun e w' => ∃ r, combR cs ss r ∧ e = .returned (.tuple #[.string r.1, .int .i64 r.2]) ∧ Below w.heap.size w w' := by
  obtain ⟨lx, rx⟩ := hx
  obtain ⟨ly, ry⟩ := hy
  by_cases h : n < 1 ∨ 12 < n ∨ n' ≠ n
  · refine (refCombine_len a a' n n' ca cb w h hn).mono ?_
    rintro e w' ⟨rfl, rfl⟩
    exact ⟨_, .inr ⟨fun hm => by obtain ⟨h1, h2, h3, _⟩ := hm; omega, rfl⟩, rfl, Below.refl _ _⟩
  · obtain rfl : n' = n := by omega
    rcases rx with ⟨_, h0, _⟩ | ⟨h0, _⟩ | ⟨_, _, b, off, rfl, hc⟩
    · omega
    · omega
    · rcases ry with ⟨_, h0, _⟩ | ⟨h0, _⟩ | ⟨_, hcb, b', off', rfl, hd⟩
      · omega
      · omega
      · by_cases hm : alikeTo ss n' ∧ numsTo cs n'
        · refine (refCombine_yes b off ca b' off' cb n' cs ss w lx ly (by omega) (by omega) hcb hm.1 hm.2 hc hd).mono ?_
          rintro e w' ⟨rfl, hb⟩
          exact ⟨_, .inl ⟨⟨by omega, by omega, by omega, by rw [ly]; exact hm.1, by rw [lx]; exact hm.2⟩, rfl⟩, rfl, hb⟩
        · refine (refCombine_form b off ca b' off' cb n' cs ss w lx ly (by omega) (by omega) hcb hm hc hd).mono ?_
          rintro e w' ⟨rfl, hb⟩
          exact ⟨_, .inr ⟨fun h => hm ⟨by have := h.2.2.2.1; rw [ly] at this; exact this, by have := h.2.2.2.2; rw [lx] at this; exact this⟩, rfl⟩, rfl, hb⟩
end Go.Proofs.YtcgagkaalbljmaaDoor
/- Package vec's Combine: what it returns, whatever the numbers and rows. -/
namespace Go.Proofs.YtcgagkaalbljmaaDoor
open Go.RowKit
set_option linter.unusedVariables false
open Vec (alikeTo numsTo May cmb byteAt)
/-- row i may be: its number, its length -/
def okAt (cs : List Int) (ss : List ByteArray) (i : Nat) : Prop := (0 ≤ cs.getD i 0 ∧ cs.getD i 0 < 256) ∧ (ss.getD i ByteArray.empty).size = (ss.getD 0 ByteArray.empty).size
def okTo (cs : List Int) (ss : List ByteArray) (k : Nat) : Prop := ∀ i, i < k → okAt cs ss i
set_option maxRecDepth 100000 in
set_option maxHeartbeats 1000000 in
theorem haveForm_len (a a' : Option Addr) (n n' ca cb : Nat) (w : World) (h : n < 1 ∨ 12 < n ∨ n' ≠ n) (hb : n ≤ 140737488355328) :
    Calls Tryd.prog 38 #[.slice a n ca, .slice a' n' cb] w fun e w' => e = .returned (.bool false) ∧ w' = w := by
  by_cases h1 : n < 1
  · have h1' : (n : Int) < 1 := by omega
    go_enter Tryd.func38, Tryd.ntmps38
    go_wp2
    go_ret
    exact ⟨rfl, rfl⟩
  · have h1' : ¬ (n : Int) < 1 := by omega
    by_cases h2 : 12 < n
    · have h2' : (12 : Int) < n := by omega
      go_enter Tryd.func38, Tryd.ntmps38
      go_wp2
      go_ret
      exact ⟨rfl, rfl⟩
    · have h2' : ¬ (12 : Int) < n := by omega
      have h3 : ((n' : Int) != (n : Int)) = true := by simp; omega
      clear h
      go_enter Tryd.func38, Tryd.ntmps38
      go_wp2
      go_ret
      exact ⟨rfl, rfl⟩
/-- the first row is not too long, and each row may be -/
def formV (cs : List Int) (ss : List ByteArray) (k : Nat) : Prop := (ss.getD 0 ByteArray.empty).size ≤ 4096 ∧ okTo cs ss k
set_option maxRecDepth 100000 in
set_option maxHeartbeats 1000000 in
theorem haveForm_some (b off ca b' off' cb n : Nat) (cs : List Int) (ss : List ByteArray) (w : World) (hp : 1 ≤ n) (hn : n ≤ 12)
    (hc : ∀ i, i < n → w.cell? ⟨b, off + i, none⟩ = some (.int .i64 (cs.getD i 0)))
    (hd : ∀ i, i < n → w.cell? ⟨b', off' + i, none⟩ = some (.string (ss.getD i ByteArray.empty))) :
    Calls Tryd.prog 38 #[.slice (some ⟨b, off, none⟩) n ca, .slice (some ⟨b', off', none⟩) n cb] w fun e w' => w' = w ∧
      ((formV cs ss n ∧ e = .returned (.bool true)) ∨ (¬ formV cs ss n ∧ e = .returned (.bool false))) := by
  have hp' : ¬ (n : Int) < 1 := by omega
  have hn' : ¬ (12 : Int) < n := by omega
  have hp2 : (0 : Int) < n := by omega
  have h3 : ((n : Int) != (n : Int)) = false := by simp
  have h0 : w.cell? ⟨b', off', none⟩ = some (.string (ss.getD 0 ByteArray.empty)) := hd 0 hp
  obtain ⟨s0, e0⟩ : ∃ s0, s0 = ss.getD 0 ByteArray.empty := ⟨_, rfl⟩
  have E0 := hide e0
  rw [← e0] at h0
  clear e0
  have HC := hide hc
  have HD := hide hd
  clear hc hd
  by_cases t0 : s0.size ≤ 4096
  · have g0 : ¬ (4096 : Int) < (s0.size : Int) := by omega
    go_enter Tryd.func38, Tryd.ntmps38
    go_wp2
    go_loop [31] (fun i => ∃ k : Nat, k ≤ n ∧ i = .int .i64 k ∧ Hid (okTo cs ss k)) (fun i => n - (intOf i).toNat)
    case atStart => exact ⟨0, by omega, rfl, hide (fun i hi => by omega)⟩
    case round =>
      obtain ⟨k, hk, rfl, he⟩ := hrel
      by_cases hlt : k < n
      · have hlt' : (k : Int) < n := by omega
        have h1 := unhide HC k hlt
        have h2 := unhide HD k hlt
        obtain ⟨x, ex⟩ : ∃ x, x = cs.getD k 0 := ⟨_, rfl⟩
        obtain ⟨s, es⟩ : ∃ s, s = ss.getD k ByteArray.empty := ⟨_, rfl⟩
        rw [← ex] at h1
        rw [← es] at h2
        have EX := hide ex
        have ES := hide es
        clear ex es
        by_cases t1 : x < 0
        · go_wp2
          go_ret
          refine ⟨rfl, .inr ⟨fun h => ?_, rfl⟩⟩
          have := (h.2 k hlt).1.1
          rw [← unhide EX] at this; omega
        · by_cases t2 : (255 : Int) < x
          · go_wp2
            go_ret
            refine ⟨rfl, .inr ⟨fun h => ?_, rfl⟩⟩
            have := (h.2 k hlt).1.2
            rw [← unhide EX] at this; omega
          · by_cases t3 : s.size = s0.size
            · have g3 : ((s.size : Int) != (s0.size : Int)) = false := by simp [t3]
              have T3 := hide t3
              clear t3
              go_wp2
              go_round
              case rel =>
                refine ⟨k + 1, by omega, by go_num, hide (fun i hi => ?_)⟩
                by_cases q : i = k
                · rw [q]; refine ⟨?_, ?_⟩
                  · rw [← unhide EX]; omega
                  · rw [← unhide ES, ← unhide E0]; exact unhide T3
                · exact unhide he i (by omega)
              case measure => simp [intOf]; omega
            · have g3 : ((s.size : Int) != (s0.size : Int)) = true := by simp; omega
              go_wp2
              go_ret
              refine ⟨rfl, .inr ⟨fun h => t3 ?_, rfl⟩⟩
              have := (h.2 k hlt).2
              rw [← unhide ES, ← unhide E0] at this; exact this
      · have hlt' : ¬ (k : Int) < n := by omega
        obtain rfl : k = n := by omega
        go_wp2
        go_ret
        exact ⟨rfl, .inl ⟨⟨by rw [← unhide E0]; exact t0, unhide he⟩, rfl⟩⟩
  · have g0 : (4096 : Int) < (s0.size : Int) := by omega
    go_enter Tryd.func38, Tryd.ntmps38
    go_wp2
    go_ret
    exact ⟨rfl, .inr ⟨fun h => t0 (by rw [unhide E0]; exact h.1), rfl⟩⟩
theorem u8w (u : Nat) (h : u < 256) : IntKind.i64.wrap ((u : Nat) : Int) = ((u : Nat) : Int) := by
  rw [IntKind.wrap_i64]; omega
set_option maxRecDepth 100000 in
set_option maxHeartbeats 1000000 in
theorem addTimes_any (s c x : Nat) (w : World) (hs : s < 256) (hc : c < 256) (hx : x < 256) :
    Calls Tryd.prog 39 #[.int .u8 s, .int .i64 c, .int .u8 x] w fun e w' => e = .returned (.int .u8 ((s ^^^ Gf.mul c x : Nat) : Int)) ∧ w' = w := by
  have hm := Gf.mul_lt c x
  have hx2 := Gf.xor_lt hs hm
  go_enter Tryd.func39, Tryd.ntmps39
  go_wp2_with (first | (go_at_call 57; refine (gfMul_yes _ _ _ hc hx).mono ?_; rintro e w' ⟨rfl, rfl⟩) | (go_at_call 58; refine (gfAdd_yes _ _ _ hs hm).mono ?_; rintro e w' ⟨rfl, rfl⟩))
  go_ret
  exact ⟨rfl, rfl⟩
theorem cellC_put {cs : List Int} {ss : List ByteArray} {i j x o : Nat} {t : ByteArray} (ex : cs.getD i 0 = (x : Int)) (et : t = ss.getD i ByteArray.empty) (eo : o = cmb cs ss i j) (hj : j < t.size) (r : Nat) :
    (if r = j then Value.int .u8 ((o ^^^ Gf.mul x t[j].toNat : Nat) : Int) else cellC cs ss i j r) = cellC cs ss i (j + 1) r := by
  by_cases h : r = j
  · subst h
    rw [if_pos rfl]
    have e1 : Gf.mul x t[r].toNat = Gf.mul (cs.getD i 0).toNat (byteAt (Vec.row ss i) r) := by
      rw [ex, Vec.byteAt_get t r hj, Int.toNat_natCast, et]; rfl
    unfold cellC
    rw [if_pos (by omega)]
    show _ = Value.int .u8 ((cmb cs ss i r ^^^ Gf.mul (cs.getD i 0).toNat (byteAt (Vec.row ss i) r) : Nat) : Int)
    rw [← e1, ← eo]
  · rw [if_neg h]
    unfold cellC
    by_cases h2 : r < j
    · rw [if_pos h2, if_pos (by omega)]
    · rw [if_neg h2, if_neg (by omega)]
attribute [local go_sem ↓] Go.wp_at_zero Go.wp_at_succ
set_option maxRecDepth 100000 in
set_option maxHeartbeats 4000000 in
theorem vecCombine_yes (b off ca b' off' cb n : Nat) (cs : List Int) (ss : List ByteArray) (w : World) (hl : cs.length = n) (hl' : ss.length = n) (hp : 1 ≤ n) (hn : n ≤ 12) (hcb : n ≤ cb)
    (hf : formV cs ss n)
    (hc : ∀ i, i < n → w.cell? ⟨b, off + i, none⟩ = some (.int .i64 (cs.getD i 0)))
    (hd : ∀ i, i < n → w.cell? ⟨b', off' + i, none⟩ = some (.string (ss.getD i ByteArray.empty))) :
    Calls Tryd.prog 22 #[.slice (some ⟨b, off, none⟩) n ca, .slice (some ⟨b', off', none⟩) n cb] w fun e w' => e = .returned (.tuple #[.string (Vec.out cs ss), .int .i64 0]) ∧ Below w.heap.size w w' := by
  have HF := hide hf
  clear hf
  have h0 : w.cell? ⟨b', off', none⟩ = some (.string (ss.getD 0 ByteArray.empty)) := hd 0 hp
  obtain ⟨s0, e0⟩ : ∃ s0, s0 = ss.getD 0 ByteArray.empty := ⟨_, rfl⟩
  have E0 := hide e0
  rw [← e0] at h0
  clear e0
  have hp2 : (0 : Int) < n := by omega
  have hs0 : s0.size ≤ 4096 := by rw [unhide E0]; exact (unhide HF).1
  have hmk := fun w => run_make_row' (P := Tryd.prog) 41 5 (.int .u8 0) 1 Tryd.underlying41 Tryd.infoByte rfl .i64 .i64 s0.size (by omega) (by omega) w
  have HC := hide hc
  have HD := hide hd
  go_enter Tryd.func22, Tryd.ntmps22
  go_wp2_with fail
  refine (haveForm_some b off ca b' off' cb n cs ss w hp hn (unhide HC) (unhide HD)).mono ?_
  rintro e w1 ⟨rfl, hr⟩
  rcases hr with ⟨_, rfl⟩ | ⟨hno, _⟩
  · clear hc hd
    go_wp2
    go_loopw [21] (fun i wr => ∃ i' : Nat, i' ≤ n ∧ i = .int .i64 i' ∧ Hid (wr.rowIs w1.heap.size 5 s0.size (cellC cs ss i' 0)) ∧ Hid (Below w1.heap.size w1 wr)) (fun i _ => n - (intOf i).toNat)
    case atStart => exact ⟨0, by omega, rfl, (World.rowIs_made _ _ _ _).congr (fun t _ => cellC_start cs ss t), (below_alloc _ _)⟩
    case round =>
      obtain ⟨i, hi, rfl, HR, HB⟩ := hrel
      by_cases hlti : i < n
      · have hlti' : (i : Int) < n := by omega
        have c2 := (unhide HB).cell (cell_lt (unhide HC i hlti)) |>.trans (unhide HC i hlti)
        obtain ⟨x, hx, ex⟩ : ∃ x : Nat, x < 256 ∧ cs.getD i 0 = x := ⟨(cs.getD i 0).toNat, by have := ((unhide HF).2 i hlti).1; omega, by have := ((unhide HF).2 i hlti).1; omega⟩
        have EX := hide ex
        rw [ex] at c2
        clear ex
        go_wp2
        go_loopw [28] (fun j wr => ∃ j' : Nat, j' ≤ s0.size ∧ j = .int .i64 j' ∧ Hid (wr.rowIs w1.heap.size 5 s0.size (cellC cs ss i j')) ∧ Hid (Below w1.heap.size w1 wr)) (fun j _ => s0.size - (intOf j).toNat)
        case atStart => exact ⟨0, by omega, rfl, HR, HB⟩
        case round =>
          obtain ⟨j, hj, rfl, HR, HB⟩ := hrel
          by_cases hltj : j < s0.size
          · have hltj' : (j : Int) < s0.size := by omega
            have c1 : wr.cell? ⟨w1.heap.size, j, none⟩ = some (.int .u8 ((cmb cs ss i j : Nat) : Int)) := ((unhide HR).cell hltj).trans (by simp [cellC])
            have f1 := (unhide HR).frozen j
            have c3 := (unhide HB).cell (cell_lt (unhide HD i hlti)) |>.trans (unhide HD i hlti)
            obtain ⟨t, et⟩ : ∃ t, t = ss.getD i ByteArray.empty := ⟨_, rfl⟩
            rw [← et] at c3
            have ET := hide et
            have hts : j < t.size := by rw [et, ((unhide HF).2 i hlti).2, ← unhide E0]; exact hltj
            have nb' : b' ≠ w1.heap.size := Nat.ne_of_lt (cell_lt (unhide HD i hlti))
            have hts' : (j : Int) < t.size := by omega
            clear et
            obtain ⟨o, eo⟩ : ∃ o, o = cmb cs ss i j := ⟨_, rfl⟩
            have ho : o < 256 := by rw [eo]; exact Vec.cmb_lt cs ss i j
            rw [← eo] at c1
            have EO := hide eo
            clear eo
            go_wp2
            refine wp_region_quiet_then (List.cons_ne_nil _ _) ?_ ?_ ?_ ?_
            · kernel_rfl
            · kernel_rfl
            · kernel_rfl
            simp only [List.dropLast_cons_cons, List.dropLast_singleton, List.getLast_cons_cons, List.getLast_singleton]
            repeat (first | go_big_quiet_step ((go_at_call 39; exact Calls.quiet_of_same (addTimes_any o x (t[j].toNat) _ ho hx (UInt8.toNat_lt _)))) | quiet_step ((go_at_call 39; exact Calls.quiet_of_same (addTimes_any o x (t[j].toNat) _ ho hx (UInt8.toNat_lt _)))))
            refine wpQuiet_nil ?_
            intro _ hw'
            obtain ⟨nq, hw''⟩ := hw'
            subst hw''
            simp only [List.cons_append, List.nil_append]
            go_wp2
            go_roundw
            case rel =>
              refine ⟨j + 1, by omega, by go_num, hide ?_, hide (((unhide HB).trans (below_drewN _ _ nq)).setCell (Nat.le_refl _) _)⟩
              have hR2 : (wr.drewN nq).rowIs w1.heap.size 5 s0.size (cellC cs ss i j) := (unhide HR).of_block rfl
              exact (hR2.set j _).congr (fun r _ => cellC_put (unhide EX) (unhide ET) (unhide EO) hts r)
            case measure => simp [intOf]; omega
          · have hltj' : ¬ (j : Int) < s0.size := by omega
            obtain rfl : j = s0.size := by omega
            go_wp2
            go_roundw
            case rel => exact ⟨i + 1, by omega, by go_num, hide ((unhide HR).congr (fun t ht => cellC_next cs ss i _ t ht)), HB⟩
            case measure => simp [intOf]; omega
      · have hlti' : ¬ (i : Int) < n := by omega
        obtain rfl : i = n := by omega
        have c4 : ∀ t, t < s0.size → wr.cell? ⟨w1.heap.size, 0 + t, none⟩ = some (.int .u8 ((Vec.nums cs ss).getD t 0)) := fun t ht => by
          rw [Nat.zero_add, (unhide HR).cell ht]; exact cellC_end hl (unhide E0) t ht
        have hcv := run_convert_bytes_arg (P := Tryd.prog) wr 41 5 Tryd.underlying41 Tryd.underlying5 w1.heap.size 0 s0.size s0.size (Vec.nums cs ss) (nums_len (unhide E0)) c4 9 Tryd.underlying9
        clear c4
        go_wp2
        go_ret2
        exact ⟨rfl, unhide HB⟩
  · exact absurd (unhide HF) hno
set_option maxRecDepth 100000 in
set_option maxHeartbeats 1000000 in
theorem vecCombine_len (a a' : Option Addr) (n n' ca cb : Nat) (w : World) (h : n < 1 ∨ 12 < n ∨ n' ≠ n) (hb : n ≤ 140737488355328) :
    Calls Tryd.prog 22 #[.slice a n ca, .slice a' n' cb] w fun e w' => e = .returned (.tuple #[.string ByteArray.empty, .int .i64 200]) ∧ w' = w := by
  go_enter Tryd.func22, Tryd.ntmps22
  go_wp2_with (go_at_call 38; refine (haveForm_len _ _ _ _ _ _ _ h hb).mono ?_; rintro e w' ⟨rfl, rfl⟩)
  go_ret2
  exact ⟨rfl, rfl⟩
set_option maxRecDepth 100000 in
set_option maxHeartbeats 1000000 in
theorem vecCombine_form (b off ca b' off' cb n : Nat) (cs : List Int) (ss : List ByteArray) (w : World) (hp : 1 ≤ n) (hn : n ≤ 12) (hno : ¬ formV cs ss n)
    (hc : ∀ i, i < n → w.cell? ⟨b, off + i, none⟩ = some (.int .i64 (cs.getD i 0)))
    (hd : ∀ i, i < n → w.cell? ⟨b', off' + i, none⟩ = some (.string (ss.getD i ByteArray.empty))) :
    Calls Tryd.prog 22 #[.slice (some ⟨b, off, none⟩) n ca, .slice (some ⟨b', off', none⟩) n cb] w fun e w' => e = .returned (.tuple #[.string ByteArray.empty, .int .i64 200]) ∧ w' = w := by
  have HO := hide hno
  have HC := hide hc
  have HD := hide hd
  clear hno hc hd
  go_enter Tryd.func22, Tryd.ntmps22
  go_wp2_with fail
  refine (haveForm_some b off ca b' off' cb n cs ss w hp hn (unhide HC) (unhide HD)).mono ?_
  rintro e w1 ⟨rfl, hr⟩
  rcases hr with ⟨h, _⟩ | ⟨_, rfl⟩
  · exact absurd h (unhide HO)
  · go_wp2
    go_ret2
    exact ⟨rfl, rfl⟩
theorem formV_may {cs : List Int} {ss : List ByteArray} {n : Nat} (hp : 1 ≤ n) : formV cs ss n ↔ alikeTo ss n ∧ numsTo cs n := by
  constructor
  · rintro ⟨h0, h⟩
    exact ⟨fun i hi => ⟨(h i hi).2, by rw [(h i hi).2]; exact h0⟩, fun i hi => (h i hi).1⟩
  · rintro ⟨h1, h2⟩
    exact ⟨(h1 0 hp).2, fun i hi => ⟨h2 i hi, (h1 i hi).1⟩⟩
theorem vecCombine_any (a a' : Option Addr) (n n' ca cb : Nat) (cs : List Int) (ss : List ByteArray) (w : World) (hx : Ints w a n ca cs) (hy : Strs w a' n' cb ss) (hn : n ≤ 140737488355328) :
    Calls Tryd.prog 22 #[.slice a n ca, .slice a' n' cb] w fun e w' => ∃ r, combR cs ss r ∧ e = .returned (.tuple #[.string r.1, .int .i64 r.2]) ∧ Below w.heap.size w w' := by
  obtain ⟨lx, rx⟩ := hx
  obtain ⟨ly, ry⟩ := hy
  by_cases h : n < 1 ∨ 12 < n ∨ n' ≠ n
  · refine (vecCombine_len a a' n n' ca cb w h hn).mono ?_
    rintro e w' ⟨rfl, rfl⟩
    exact ⟨_, .inr ⟨fun hm => by obtain ⟨h1, h2, h3, _⟩ := hm; omega, rfl⟩, rfl, Below.refl _ _⟩
  · obtain rfl : n' = n := by omega
    rcases rx with ⟨_, h0, _⟩ | ⟨h0, _⟩ | ⟨_, _, b, off, rfl, hc⟩
    · omega
    · omega
    · rcases ry with ⟨_, h0, _⟩ | ⟨h0, _⟩ | ⟨_, hcb, b', off', rfl, hd⟩
      · omega
      · omega
      · by_cases hf : formV cs ss n'
        · have hm := (formV_may (by omega)).1 hf
          refine (vecCombine_yes b off ca b' off' cb n' cs ss w lx ly (by omega) (by omega) hcb hf hc hd).mono ?_
          rintro e w' ⟨rfl, hb⟩
          exact ⟨_, .inl ⟨⟨by omega, by omega, by omega, by rw [ly]; exact hm.1, by rw [lx]; exact hm.2⟩, rfl⟩, rfl, hb⟩
        · refine (vecCombine_form b off ca b' off' cb n' cs ss w (by omega) (by omega) hf hc hd).mono ?_
          rintro e w' ⟨rfl, rfl⟩
          exact ⟨_, .inr ⟨fun h => hf ((formV_may (by omega)).2 ⟨by have := h.2.2.2.1; rw [ly] at this; exact this, by have := h.2.2.2.2; rw [lx] at this; exact this⟩), rfl⟩, rfl, Below.refl _ _⟩
end Go.Proofs.YtcgagkaalbljmaaDoor
