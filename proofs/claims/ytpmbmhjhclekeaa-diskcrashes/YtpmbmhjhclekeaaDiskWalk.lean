/- Texts one behind the other: DwMay, DwIdx, DwMay2, DwCopy, DwCopy2, DwSettle, DwA, DwConcat, DwB, DwC, DwD. -/
import Derived.Test.YtpmbmhjhclekeaaDskRef2
import Derived.Test.YtpmbmhjhclekeaaDskRef3
import Derived.Test.YtpmbmhjhclekeaaAuditClone
import Derived.Test.YtpmbmhjhclekeaaDskRef5
import Derived.Test.YtpmbmhjhclekeaaDskRef7
import Derived.Test.YtpmbmhjhclekeaaDskRef8
import Derived.Deep.Cut
import Derived.Lib.SliceRun
import Derived.Laws.MakeOwn
import Derived.Laws.BitsAllLaws
import Derived.Lib.AppendZerosOnto
/- Package disk: hasSector, isNoSector, May, refuse, refuseAt. -/
namespace Go.Proofs.Ytpmbmhjhclekeaa
open Go.RowKit
set_option linter.unusedVariables false
set_option linter.unusedSimpArgs false
attribute [local go_sem ↓] Go.wp_at_zero Go.wp_at_succ
theorem dwNo_any (t : ByteArray) (w : World) : Calls Try.prog 38 #[.string t] w fun e w' => e = .returned (.bool (decide (t.size ≠ 64))) ∧ w' = w := by
  have h : ((t.size : Int) != 64) = decide (t.size ≠ 64) := by
    by_cases h : t.size = 64
    · rw [eq_64 h, decide_eq_false (by omega)]
    · rw [ne_64 h, decide_eq_true (by omega)]
  have H := hide h
  clear h
  go_enter Try.func38, Try.ntmps38
  go_wp2
  go_ret
  first | exact ⟨by rw [← unhide H], trivial⟩ | simp [← unhide H]
set_option maxRecDepth 100000 in
theorem dwHas_any (b : Bool) (sa : Option Addr) (n sc : Nat) (ca : Option Addr) (m cc : Nat) (at_ : Int) (w : World) : Calls Try.prog 49 #[.agg #[.bool b, .slice sa n sc, .slice ca m cc], .int .i64 at_] w fun e w' => e = .returned (.bool (decide (0 ≤ at_ ∧ at_ < n))) ∧ Below w.heap.size w w' := by
  have BX := hide (heap_alloc_new w (.cells #[.bool b, .slice sa n sc, .slice ca m cc] 25))
  have HB := hide (below_alloc w (.cells #[.bool b, .slice sa n sc, .slice ca m cc] 25))
  obtain ⟨R, eR⟩ : ∃ R, R = decide (0 ≤ at_ ∧ at_ < (n : Int)) := ⟨_, rfl⟩
  rw [← eR]
  have ER := hide eR
  clear eR
  go_enter Try.func49, Try.ntmps49
  go_upto_region 1 with fail
  generalize (w.alloc (.cells #[.bool b, .slice sa n sc, .slice ca m cc] 25)) = W at *
  obtain ⟨x0, x1, x2⟩ := box_dsk (unhide BX)
  by_cases h1 : 0 ≤ at_
  · have d1 : decide (0 ≤ at_) = true := decide_eq_true h1
    go_wp2
    go_ret
    exact ⟨by rw [unhide ER]; simp [h1]; try omega, unhide HB⟩
  · have d1 : decide (0 ≤ at_) = false := decide_eq_false h1
    go_wp2
    go_ret
    exact ⟨by rw [unhide ER]; simp [h1]; try omega, unhide HB⟩
set_option maxRecDepth 100000 in
theorem dwBad_any (b : Bool) (B : Nat) (sa : Option Addr) (n sc : Nat) (ca : Option Addr) (m cc : Nat) (at_ : Int) (t : ByteArray) (w : World) (hB : w.heap[B]? = some (.cells #[.bool b, .slice sa n sc, .slice ca m cc] 25 (0, 0))) :
    Calls Try.prog 48 #[.agg #[.int .i64 at_, .string t], .pointer (some ⟨B, 0, none⟩)] w fun e w' => e = .returned (.bool (decide (¬ (0 ≤ at_ ∧ at_ < n ∧ t.size = 64)))) ∧ Below w.heap.size w w' := by
  have HB := hide (below_alloc w (.cells #[.int .i64 at_, .string t] 62))
  have BX := hide (heap_alloc_new w (.cells #[.int .i64 at_, .string t] 62))
  have BD := hide (((below_alloc w (.cells #[.int .i64 at_, .string t] 62)).block _ (lt_of_block hB)).trans hB)
  clear hB
  obtain ⟨R, eR⟩ : ∃ R, R = decide (¬ (0 ≤ at_ ∧ at_ < (n : Int) ∧ t.size = 64)) := ⟨_, rfl⟩
  rw [← eR]
  have ER := hide eR
  clear eR
  go_enter Try.func48, Try.ntmps48
  go_upto_region 1 with fail
  generalize (w.alloc (.cells #[.int .i64 at_, .string t] 62)) = W at *
  obtain ⟨x0, x1, x2⟩ := box_dsk (unhide BD)
  obtain ⟨y0, y1⟩ := box_two (unhide BX)
  go_wp2_with fail
  refine (dwHas_any b sa n sc ca m cc at_ W).mono ?_
  rintro e w1 ⟨rfl, b1⟩
  replace BX := hide ((b1.block _ (lt_of_block (unhide BX))).trans (unhide BX))
  replace HB := hide (bt (unhide HB) b1)
  clear b1 x0 x1 x2 y0 y1
  obtain ⟨y0, y1⟩ := box_two (unhide BX)
  by_cases h1 : 0 ≤ at_ ∧ at_ < n
  · have e : decide (¬ (0 ≤ at_ ∧ at_ < n ∧ t.size = 64)) = decide (t.size ≠ 64) := by
      apply decide_eq_decide.2
      constructor
      · intro h e; exact h ⟨h1.1, h1.2, e⟩
      · intro h e; exact h e.2.2
    rw [decide_eq_true h1]
    have E := hide ((unhide ER).trans e)
    clear e h1
    go_wp2_with fail
    refine (dwNo_any t w1).mono ?_
    rintro e w2 ⟨rfl, rfl⟩
    rw [← unhide E]
    go_wp2
    go_ret
    exact ⟨rfl, unhide HB⟩
  · have e : decide (¬ (0 ≤ at_ ∧ at_ < n ∧ t.size = 64)) = true := decide_eq_true (fun h => h1 ⟨h.1, h.2.1⟩)
    rw [decide_eq_false h1]
    have E := hide ((unhide ER).trans e)
    clear e h1
    go_wp2
    go_ret
    exact ⟨by rw [unhide E]; rfl, unhide HB⟩
end Go.Proofs.Ytpmbmhjhclekeaa
/- Package disk: slices.ContainsFunc over sectors and over writes. -/
namespace Go.Proofs.Ytpmbmhjhclekeaa
open Go.RowKit
set_option linter.unusedVariables false
set_option linter.unusedSimpArgs false
attribute [local go_sem ↓] Go.wp_at_zero Go.wp_at_succ
def SecsOk (ss : List ByteArray) (n : Nat) : Prop := ∀ i, i < n → (ss.getD i ByteArray.empty).size = 64
def WritesOk (l : List (Int × ByteArray)) (n m : Nat) : Prop := ∀ i, i < m → 0 ≤ (l.getD i wr0).1 ∧ (l.getD i wr0).1 < n ∧ (l.getD i wr0).2.size = 64
def idxPost (R : Prop) (w : World) (e : Ending) (w' : World) : Prop := ∃ r : Int, e = .returned (.int .i64 r) ∧ (0 ≤ r ↔ ¬ R) ∧ Below w.heap.size w w'
set_option maxRecDepth 100000 in
theorem dwIdxS_any (sa : Option Addr) (n sc : Nat) (ss : List ByteArray) (w : World) (hS : Strs w sa n sc ss) (hn : n ≤ 140737488351232) :
    Calls Try.prog 57 #[.slice sa n sc, .func (.func 38) #[] #[]] w (idxPost (SecsOk ss n) w) := by
  have HS := hide hS
  clear hS
  go_enter Try.func57, Try.ntmps57
  go_wp2
  go_loopw [8] (fun iv wr => ∃ k : Nat, k ≤ n ∧ iv = .int .i64 k ∧ wr = w ∧ Hid (SecsOk ss k)) (fun iv _ => n - (intOf iv).toNat)
  case atStart => exact ⟨0, by omega, rfl, rfl, hide (fun i hi => by omega)⟩
  case round =>
    obtain ⟨k, hk, rfl, hw, HI⟩ := hrel
    obtain rfl : w = wr := hw.symm
    by_cases hlt : k < n
    · have hlt' : (k : Int) < n := by omega
      obtain ⟨bs, os, es, hcell⟩ : ∃ b off, sa = some ⟨b, off, none⟩ ∧ ∀ i, i < n → w.cell? ⟨b, off + i, none⟩ = some (.string (ss.getD i ByteArray.empty)) := by
        rcases (unhide HS).2.two with h | h
        · omega
        · exact h
      have hc63 : n ≤ sc := by
        rcases (unhide HS).2 with h | h | h
        · omega
        · omega
        · exact h.2.1
      subst es
      have ck := hcell k hlt
      obtain ⟨t, et⟩ : ∃ t, t = ss.getD k ByteArray.empty := ⟨_, rfl⟩
      rw [← et] at ck
      have ET := hide et
      clear et hcell
      go_wp2_with fail
      refine (dwNo_any t w).mono ?_
      rintro e w2 ⟨rfl, rfl⟩
      by_cases h : t.size = 64
      · rw [decide_eq_false (show ¬ t.size ≠ 64 by omega)]
        have H := hide h
        clear h
        go_wp2
        go_roundw
        case rel =>
          refine ⟨k + 1, by omega, by go_num, True.intro, hide (fun i hi => ?_)⟩
          by_cases e : i = k
          · subst e; rw [← unhide ET]; exact unhide H
          · exact unhide HI i (by omega)
        case measure => simp [intOf]; omega
      · rw [decide_eq_true h]
        have H := hide h
        clear h
        go_wp2
        go_ret
        exact ⟨(k : Int), rfl, ⟨fun _ h => unhide H (by rw [unhide ET]; exact h k hlt), fun _ => by omega⟩, Below.refl _ _⟩
    · have hlt' : ¬ (k : Int) < n := by omega
      obtain rfl : n = k := by omega
      go_wp2
      go_ret
      exact ⟨-1, rfl, ⟨fun h => absurd h (by decide), fun h => absurd (unhide HI) h⟩, Below.refl _ _⟩
set_option maxRecDepth 100000 in
theorem dwConS_any (sa : Option Addr) (n sc : Nat) (ss : List ByteArray) (w : World) (hS : Strs w sa n sc ss) (hn : n ≤ 140737488351232) :
    Calls Try.prog 50 #[.slice sa n sc, .func (.func 38) #[] #[]] w fun e w' => (∃ c : Bool, e = .returned (.bool c) ∧ (c = true ↔ ¬ SecsOk ss n)) ∧ Below w.heap.size w w' := by
  have HS := hide hS
  clear hS
  go_enter Try.func50, Try.ntmps50
  go_wp2_with fail
  refine (dwIdxS_any sa n sc ss w (unhide HS) hn).mono ?_
  rintro e w1 ⟨r, rfl, hr, hb⟩
  have HR := hide hr
  have HB := hide hb
  clear hr hb
  go_wp2
  go_ret
  exact ⟨⟨decide (r ≥ 0), by first | rfl | simp, by rw [decide_eq_true_iff]; exact unhide HR⟩, unhide HB⟩
set_option maxRecDepth 100000 in
theorem dwIdxW_any (b : Bool) (B : Nat) (sa : Option Addr) (n sc : Nat) (ca : Option Addr) (m cc : Nat) (l : List (Int × ByteArray)) (w : World) (hB : w.heap[B]? = some (.cells #[.bool b, .slice sa n sc, .slice ca m cc] 25 (0, 0))) (hC : WrV w ca m cc l) (hm : m ≤ 140737488351232) :
    Calls Try.prog 58 #[.slice ca m cc, .func (.func 48) #[] #[.pointer (some ⟨B, 0, none⟩)]] w (idxPost (WritesOk l n m) w) := by
  have HC := hide hC
  have BD := hide hB
  clear hC hB
  go_enter Try.func58, Try.ntmps58
  go_wp2
  go_loopw [8] (fun iv wr => ∃ k : Nat, k ≤ m ∧ iv = .int .i64 k ∧ Hid (Below w.heap.size w wr) ∧ Hid (WritesOk l n k)) (fun iv _ => m - (intOf iv).toNat)
  case atStart => exact ⟨0, by omega, rfl, hide (Below.refl _ _), hide (fun i hi => by omega)⟩
  case round =>
    obtain ⟨k, hk, rfl, HW, HI⟩ := hrel
    by_cases hlt : k < m
    · have hlt' : (k : Int) < m := by omega
      obtain ⟨bc, oc, ec, hcm, hcw⟩ := ((unhide HC).below (unhide HW)).at hlt
      subst ec
      obtain ⟨c0, c1⟩ := hcw k hlt
      clear hcw
      obtain ⟨at_, eat⟩ : ∃ at_, at_ = (l.getD k wr0).1 := ⟨_, rfl⟩
      obtain ⟨t, et⟩ : ∃ t, t = (l.getD k wr0).2 := ⟨_, rfl⟩
      rw [← eat] at c0
      rw [← et] at c1
      have EAT := hide eat
      have ET := hide et
      clear eat et
      have BD' := hide (((unhide HW).block _ (lt_of_block (unhide BD))).trans (unhide BD))
      go_wp2_with fail
      refine (dwBad_any b B sa n sc (some ⟨bc, oc, none⟩) m cc at_ t wr (unhide BD')).mono ?_
      rintro e w2 ⟨rfl, b2⟩
      have HW2 := hide (bt (unhide HW) b2)
      clear b2 c0 c1
      by_cases h : 0 ≤ at_ ∧ at_ < (n : Int) ∧ t.size = 64
      · rw [decide_eq_false (fun h' => h' h)]
        have H := hide h
        clear h
        go_wp2
        go_roundw
        case rel =>
          refine ⟨k + 1, by omega, by go_num, HW2, hide (fun i hi => ?_)⟩
          by_cases e : i = k
          · subst e; rw [← unhide ET, ← unhide EAT]; exact unhide H
          · exact unhide HI i (by omega)
        case measure => simp [intOf]; omega
      · rw [decide_eq_true h]
        have H := hide h
        clear h
        go_wp2
        go_ret
        exact ⟨(k : Int), rfl, ⟨fun _ h => unhide H (by rw [unhide ET, unhide EAT]; exact h k hlt), fun _ => by omega⟩, unhide HW2⟩
    · have hlt' : ¬ (k : Int) < m := by omega
      obtain rfl : m = k := by omega
      go_wp2
      go_ret
      exact ⟨-1, rfl, ⟨fun h => absurd h (by decide), fun h => absurd (unhide HI) h⟩, unhide HW⟩
set_option maxRecDepth 100000 in
theorem dwConW_any (b : Bool) (B : Nat) (sa : Option Addr) (n sc : Nat) (ca : Option Addr) (m cc : Nat) (l : List (Int × ByteArray)) (w : World) (hB : w.heap[B]? = some (.cells #[.bool b, .slice sa n sc, .slice ca m cc] 25 (0, 0))) (hC : WrV w ca m cc l) (hm : m ≤ 140737488351232) :
    Calls Try.prog 51 #[.slice ca m cc, .func (.func 48) #[] #[.pointer (some ⟨B, 0, none⟩)]] w fun e w' => (∃ c : Bool, e = .returned (.bool c) ∧ (c = true ↔ ¬ WritesOk l n m)) ∧ Below w.heap.size w w' := by
  have HC := hide hC
  have BD := hide hB
  clear hC hB
  go_enter Try.func51, Try.ntmps51
  go_wp2_with fail
  refine (dwIdxW_any b B sa n sc ca m cc l w (unhide BD) (unhide HC) hm).mono ?_
  rintro e w1 ⟨r, rfl, hr, hb⟩
  have HR := hide hr
  have HB := hide hb
  clear hr hb
  go_wp2
  go_ret
  exact ⟨⟨decide (r ≥ 0), by first | rfl | simp, by rw [decide_eq_true_iff]; exact unhide HR⟩, unhide HB⟩
end Go.Proofs.Ytpmbmhjhclekeaa
/- Package disk: May, refuse, refuseAt. -/
namespace Go.Proofs.Ytpmbmhjhclekeaa
open Go.RowKit
set_option linter.unusedVariables false
set_option linter.unusedSimpArgs false
attribute [local go_sem ↓] Go.wp_at_zero Go.wp_at_succ
set_option maxRecDepth 100000 in
set_option maxHeartbeats 1000000 in
theorem diskMay_any (d : Dsk) (sa : Option Addr) (n sc : Nat) (ca : Option Addr) (m cc : Nat) (w : World) (hS : Strs w sa n sc d.secs) (hC : WrV w ca m cc d.cache) (hn : n ≤ 140737488351232) (hm : m ≤ 140737488351232) :
    Calls Try.prog 26 #[.agg #[.bool d.lost, .slice sa n sc, .slice ca m cc]] w fun e w' => e = .returned (.bool (decide (MayD d))) ∧ Below w.heap.size w w' := by
  have hmf : ∀ (fn : Fn) (first cap : Array Value) (w : World), (Instr.makeFunc fn first cap).run Try.prog w = .ok (.func fn first cap) w := fun _ _ _ _ => rfl
  have hsl := hS.1
  have hcl := hC.1
  have HS := hide hS
  have HC := hide hC
  obtain ⟨b, eb⟩ : ∃ b, b = d.lost := ⟨_, rfl⟩
  rw [← eb]
  have EB := hide eb
  have BX := hide (heap_alloc_new w (.cells #[.bool b, .slice sa n sc, .slice ca m cc] 25))
  have HB := hide (below_alloc w (.cells #[.bool b, .slice sa n sc, .slice ca m cc] 25))
  clear hS hC eb
  go_enter Try.func26, Try.ntmps26
  go_upto_region 1 with fail
  generalize (w.alloc (.cells #[.bool b, .slice sa n sc, .slice ca m cc] 25)) = W at *
  obtain ⟨x0, x1, x2⟩ := box_dsk (unhide BX)
  cases b with
  | true =>
    have hL := mayD_lost (unhide EB).symm
    rw [hsl, hcl] at hL
    have HL := hide hL
    clear hL
    by_cases h1 : n = 0
    · subst h1
      by_cases h2 : m = 0
      · subst h2
        go_wp2
        go_ret
        exact ⟨mayD_true ((unhide HL).2 (by simp)) (by first | rfl | simp), unhide HB⟩
      · have h2' : ((m : Int) == 0) = false := by simp; omega
        go_wp2
        go_ret
        exact ⟨mayD_false (fun h => h2 ((unhide HL).1 h).2) (by simp [h2]), unhide HB⟩
    · have h1' : ((n : Int) == 0) = false := by simp; omega
      go_wp2
      go_ret
      exact ⟨mayD_false (fun h => h1 ((unhide HL).1 h).1) (by simp [h1]), unhide HB⟩
  | false =>
    have hL := mayD_live (unhide EB).symm
    rw [hsl, hcl] at hL
    have HL := hide hL
    clear hL
    by_cases h1 : n < 1
    · have h1' : (n : Int) < 1 := by omega
      go_wp2
      go_ret
      exact ⟨mayD_false (fun h => by have := ((unhide HL).1 h).1; omega) rfl, unhide HB⟩
    · have h1' : ¬ (n : Int) < 1 := by omega
      have h10 : ¬ (n : Int) = 0 := by omega
      by_cases h2 : 72 < n
      · have h2' : (72 : Int) < n := by omega
        go_wp2
        go_ret
        exact ⟨mayD_false (fun h => by have := ((unhide HL).1 h).2.1; omega) rfl, unhide HB⟩
      · have h2' : ¬ (72 : Int) < n := by omega
        by_cases h3 : 256 < m
        · have h3' : (256 : Int) < m := by omega
          go_wp2
          go_ret
          exact ⟨mayD_false (fun h => by have := ((unhide HL).1 h).2.2.1; omega) rfl, unhide HB⟩
        · have h3' : ¬ (256 : Int) < m := by omega
          go_wp2_with fail
          refine (dwConS_any sa n sc d.secs W ((unhide HS).below (unhide HB)) hn).mono ?_
          rintro e w1 ⟨⟨c, rfl, hc⟩, b1⟩
          replace BX := hide ((b1.block _ (lt_of_block (unhide BX))).trans (unhide BX))
          replace HB := hide (bt (unhide HB) b1)
          clear b1 x0 x1 x2
          have HK := hide hc
          clear hc
          obtain ⟨x0, x1, x2⟩ := box_dsk (unhide BX)
          cases c with
          | true =>
            go_wp2
            go_ret
            exact ⟨mayD_false (fun h => (unhide HK).1 (by simp) ((unhide HL).1 h).2.2.2.1) rfl, unhide HB⟩
          | false =>
            go_wp2_with fail
            refine (dwConW_any false w.heap.size sa n sc ca m cc d.cache w1 (unhide BX) ((unhide HC).below (unhide HB)) hm).mono ?_
            rintro e w2 ⟨⟨c, rfl, hc⟩, b1⟩
            replace HB := hide (bt (unhide HB) b1)
            clear b1 x0 x1 x2
            have HK2 := hide hc
            clear hc
            cases c with
            | true =>
              go_wp2
              go_ret
              exact ⟨mayD_false (fun h => (unhide HK2).1 (by simp) ((unhide HL).1 h).2.2.2.2) rfl, unhide HB⟩
            | false =>
              go_wp2
              go_ret
              have k1 : SecsOk d.secs n := Classical.byContradiction fun h => absurd ((unhide HK).2 h) (by decide)
              have k2 : WritesOk d.cache n m := Classical.byContradiction fun h => absurd ((unhide HK2).2 h) (by decide)
              exact ⟨mayD_true ((unhide HL).2 ⟨by omega, by omega, by omega, k1, k2⟩) rfl, unhide HB⟩
set_option maxRecDepth 100000 in
set_option maxHeartbeats 1000000 in
theorem dwRefuse_any (d : Dsk) (sa : Option Addr) (n sc : Nat) (ca : Option Addr) (m cc : Nat) (w : World) (hS : Strs w sa n sc d.secs) (hC : WrV w ca m cc d.cache) (hn : n ≤ 140737488351232) (hm : m ≤ 140737488351232) :
    Calls Try.prog 43 #[.agg #[.bool d.lost, .slice sa n sc, .slice ca m cc]] w fun e w' => e = .returned (.int .i64 (stateD d)) ∧ Below w.heap.size w w' := by
  have HS := hide hS
  have HC := hide hC
  obtain ⟨b, eb⟩ : ∃ b, b = d.lost := ⟨_, rfl⟩
  obtain ⟨st, est⟩ : ∃ st, st = stateD d := ⟨_, rfl⟩
  rw [← est]
  have EST := hide est
  have EB := hide eb
  rw [← eb]
  have BX := hide (heap_alloc_new w (.cells #[.bool b, .slice sa n sc, .slice ca m cc] 25))
  have HB := hide (below_alloc w (.cells #[.bool b, .slice sa n sc, .slice ca m cc] 25))
  clear hS hC eb est
  go_enter Try.func43, Try.ntmps43
  go_upto_region 1 with fail
  generalize (w.alloc (.cells #[.bool b, .slice sa n sc, .slice ca m cc] 25)) = W at *
  obtain ⟨x0, x1, x2⟩ := box_dsk (unhide BX)
  go_wp2_with fail
  rw [unhide EB]
  refine (diskMay_any d sa n sc ca m cc W ((unhide HS).below (unhide HB)) ((unhide HC).below (unhide HB)) hn hm).mono ?_
  rintro e w1 ⟨rfl, b1⟩
  rw [← unhide EB]
  replace BX := hide ((b1.block _ (lt_of_block (unhide BX))).trans (unhide BX))
  replace HB := hide (bt (unhide HB) b1)
  clear b1 x0 x1 x2
  obtain ⟨x0, x1, x2⟩ := box_dsk (unhide BX)
  by_cases hM : MayD d
  · rw [decide_eq_true hM]
    have HM := hide hM
    clear hM
    cases b with
    | true =>
      go_wp2
      go_ret
      exact ⟨by rw [unhide EST, stateD, if_pos (unhide HM), if_pos (unhide EB).symm]; rfl, unhide HB⟩
    | false =>
      go_wp2
      go_ret
      exact ⟨by rw [unhide EST, stateD, if_pos (unhide HM), if_neg (by rw [← unhide EB]; decide)]; rfl, unhide HB⟩
  · rw [decide_eq_false hM]
    have HM := hide hM
    clear hM
    go_wp2
    go_ret
    exact ⟨by rw [unhide EST, stateD, if_neg (unhide HM)]; rfl, unhide HB⟩
def stateAt (d : Dsk) (at_ : Int) : Int := if stateD d = 0 then (if 0 ≤ at_ ∧ at_ < d.secs.length then 0 else 1300) else stateD d
set_option maxRecDepth 100000 in
set_option maxHeartbeats 1000000 in
theorem dwRefuseAt_any (d : Dsk) (sa : Option Addr) (n sc : Nat) (ca : Option Addr) (m cc : Nat) (at_ : Int) (w : World) (hS : Strs w sa n sc d.secs) (hC : WrV w ca m cc d.cache) (hn : n ≤ 140737488351232) (hm : m ≤ 140737488351232) :
    Calls Try.prog 34 #[.agg #[.bool d.lost, .slice sa n sc, .slice ca m cc], .int .i64 at_] w fun e w' => e = .returned (.int .i64 (stateAt d at_)) ∧ Below w.heap.size w w' := by
  have hsl := hS.1
  have HS := hide hS
  have HC := hide hC
  obtain ⟨b, eb⟩ : ∃ b, b = d.lost := ⟨_, rfl⟩
  obtain ⟨st, est⟩ : ∃ st, st = stateAt d at_ := ⟨_, rfl⟩
  rw [← est]
  have EST := hide est
  have EB := hide eb
  rw [← eb]
  have BX := hide (heap_alloc_new w (.cells #[.bool b, .slice sa n sc, .slice ca m cc] 25))
  have HB := hide (below_alloc w (.cells #[.bool b, .slice sa n sc, .slice ca m cc] 25))
  clear hS hC eb est
  go_enter Try.func34, Try.ntmps34
  go_upto_region 1 with fail
  generalize (w.alloc (.cells #[.bool b, .slice sa n sc, .slice ca m cc] 25)) = W at *
  obtain ⟨x0, x1, x2⟩ := box_dsk (unhide BX)
  go_wp2_with fail
  rw [unhide EB]
  refine (dwRefuse_any d sa n sc ca m cc W ((unhide HS).below (unhide HB)) ((unhide HC).below (unhide HB)) hn hm).mono ?_
  rintro e w1 ⟨rfl, b1⟩
  rw [← unhide EB]
  replace BX := hide ((b1.block _ (lt_of_block (unhide BX))).trans (unhide BX))
  replace HB := hide (bt (unhide HB) b1)
  clear b1 x0 x1 x2
  obtain ⟨x0, x1, x2⟩ := box_dsk (unhide BX)
  by_cases h0 : stateD d = 0
  · rw [h0]
    have H0 := hide h0
    clear h0
    go_wp2_with fail
    refine (dwHas_any b sa n sc ca m cc at_ w1).mono ?_
    rintro e w2 ⟨rfl, b2⟩
    replace HB := hide (bt (unhide HB) b2)
    clear b2 x0 x1 x2
    by_cases h1 : 0 ≤ at_ ∧ at_ < (n : Int)
    · have E : Hid (st = 0) := hide (by rw [unhide EST, stateAt, if_pos (unhide H0), hsl, if_pos h1])
      rw [decide_eq_true h1]
      clear h1
      go_wp2
      go_ret
      exact ⟨by rw [unhide E]; rfl, unhide HB⟩
    · have E : Hid (st = 1300) := hide (by rw [unhide EST, stateAt, if_pos (unhide H0), hsl, if_neg h1])
      rw [decide_eq_false h1]
      clear h1
      go_wp2
      go_ret
      exact ⟨by rw [unhide E]; rfl, unhide HB⟩
  · have h0' := ne_zero h0
    have hw : stateAt d at_ = stateD d := by rw [stateAt, if_neg h0]
    obtain ⟨s2, es2⟩ : ∃ s2, s2 = stateD d := ⟨_, rfl⟩
    rw [← es2] at h0' hw ⊢
    have HWR := hide ((unhide EST).trans hw)
    clear h0 es2 hw
    go_wp2
    go_ret
    exact ⟨by rw [unhide HWR]; rfl, unhide HB⟩
end Go.Proofs.Ytpmbmhjhclekeaa
/- Package disk: cloneTexts, cloneWrites, slices.Clone of texts. -/
namespace Go.Proofs.Ytpmbmhjhclekeaa
open Go.RowKit
set_option linter.unusedVariables false
set_option linter.unusedSimpArgs false
attribute [local go_sem ↓] Go.wp_at_zero Go.wp_at_succ
theorem filled_set {α : Type} (l : List α) (z : α) {n k : Nat} (hk : k < n) (hn : l.length = n) : (l.take k ++ List.replicate (n - k) z).set k (l.getD k z) = l.take (k + 1) ++ List.replicate (n - (k + 1)) z := by
  have hl : (l.take k).length = k := by rw [List.length_take]; omega
  rw [List.set_append, if_neg (by omega), hl, Nat.sub_self, show n - k = (n - (k + 1)) + 1 by omega, List.replicate_succ, List.set_cons_zero, List.take_succ_eq_append_getElem (by omega), List.append_assoc]
  simp [List.getD, List.getElem?_eq_getElem (show k < l.length by omega)]
theorem own_mkT (w : World) (B n : Nat) (E : TypeId) (h : B ≤ w.heap.size) (hn : n ≤ maxLen) : OwnL (w.alloc (.cells (madeCells #[.string ByteArray.empty] n) E)) B E (.slice (some ⟨w.heap.size, 0, none⟩) n n) ((List.replicate n ByteArray.empty).map Value.string) := by
  have := World.ownsRow_lit (e := E) (size := 1) w (madeCells #[.string ByteArray.empty] n) n h hn (by rw [size_madeCells]; omega)
  rw [toList_madeCells_one] at this
  unfold OwnL
  simpa using this
set_option maxRecDepth 100000 in
set_option maxHeartbeats 1000000 in
theorem dwCloneTexts_any (sa : Option Addr) (n sc : Nat) (ss : List ByteArray) (w : World) (hS : Strs w sa n sc ss) (h64 : SecsOk ss n) (hn : n ≤ 72) :
    Calls Try.prog 40 #[.slice sa n sc] w fun e w' => ∃ v, e = .returned v ∧ OwnL w' w.heap.size 9 v (ss.map Value.string) ∧ Below w.heap.size w w' := by
  have hsl := hS.1
  have HSL := hide hsl
  have HS := hide hS
  have H64 := hide h64
  have hmk := fun w => run_make_row' (P := Try.prog) 22 9 (.string ByteArray.empty) 16 Try.underlying22 Try.infoText rfl .i64 .i64 n (by omega) (by omega) w
  have HO := hide (own_mkT w w.heap.size n 9 (Nat.le_refl _) (by unfold maxLen; omega))
  have HB := hide (below_alloc w (.cells (madeCells #[.string ByteArray.empty] n) 9))
  obtain ⟨A, eA⟩ : ∃ A, A = w.heap.size := ⟨_, rfl⟩
  clear hS h64 hsl
  go_enter Try.func40, Try.ntmps40
  go_upto_region 2 with fail
  clear hmk
  generalize (w.alloc (.cells (madeCells #[.string ByteArray.empty] n) 9)) = W at *
  rw [← eA] at HO HB ⊢
  have EA := hide eA
  clear eA
  go_wp2
  go_loopw [11] (fun iv wr => ∃ k : Nat, k ≤ n ∧ iv = .int .i64 k ∧ Hid (OwnL wr A 9 (.slice (some ⟨A, 0, none⟩) n n) ((ss.take k ++ List.replicate (n - k) ByteArray.empty).map Value.string)) ∧ Hid (Below A w wr)) (fun iv _ => n - (intOf iv).toNat)
  case atStart => exact ⟨0, by omega, rfl, hide (by simpa using unhide HO), HB⟩
  case round =>
    obtain ⟨k, hk, rfl, HOr, HBr⟩ := hrel
    by_cases hlt : k < n
    · have hlt' : (k : Int) < n := by omega
      have hSr := (unhide HS).below (by rw [← unhide EA]; exact unhide HBr)
      obtain ⟨bs, os, es, hcell⟩ : ∃ b off, sa = some ⟨b, off, none⟩ ∧ ∀ i, i < n → wr.cell? ⟨b, off + i, none⟩ = some (.string (ss.getD i ByteArray.empty)) := by
        rcases hSr.2.two with h | h
        · omega
        · exact h
      have hc63 : n ≤ sc := by
        rcases hSr.2 with h | h | h
        · omega
        · omega
        · exact h.2.1
      subst es
      have ck := hcell k hlt
      have h6 := unhide H64 k hlt
      obtain ⟨t, et⟩ : ∃ t, t = ss.getD k ByteArray.empty := ⟨_, rfl⟩
      rw [← et] at ck h6
      have ET := hide et
      have H6 := hide h6
      have hkl : k < (ss.take k ++ List.replicate (n - k) ByteArray.empty).length := by
        have := unhide HSL
        rw [List.length_append, List.length_take, List.length_replicate]; omega
      have HKL := hide hkl
      clear et hcell hSr h6 hkl
      go_wp2_with fail
      refine (clone_any t wr (by rw [unhide H6]; decide) (by rw [unhide H6]; decide)).mono ?_
      rintro e w2 ⟨rfl, b2⟩
      have HO2 := hide ((unhide HOr).below b2)
      have HB2 := hide ((unhide HBr).trans (b2.mono (by have := (unhide HBr).size; rw [unhide EA]; exact this)))
      clear b2 ck HOr HBr
      have cS := own_cellT (unhide HO2) k (unhide HKL)
      have fS := own_free (unhide HO2) k
      obtain ⟨s0, es0⟩ : ∃ s0, s0 = (ss.take k ++ List.replicate (n - k) ByteArray.empty).getD k ByteArray.empty := ⟨_, rfl⟩
      rw [← es0] at cS
      clear es0
      go_wp2
      go_roundw
      case rel =>
        refine ⟨k + 1, by omega, by go_num, hide ?_, hide ((unhide HB2).setCell (p := ⟨A, k, none⟩) (Nat.le_refl _) _)⟩
        have hP := own_put (unhide HO2) k (.string t)
        rw [← List.map_set, unhide ET, filled_set ss ByteArray.empty hlt (unhide HSL)] at hP
        rw [unhide ET]
        exact hP
      case measure => simp [intOf]; omega
    · have hlt' : ¬ (k : Int) < n := by omega
      obtain rfl : n = k := by omega
      go_wp2
      go_ret
      refine ⟨_, rfl, ?_, by rw [← unhide EA]; exact unhide HBr⟩
      have h := unhide HOr
      rw [Nat.sub_self, List.take_of_length_le (by rw [unhide HSL]; exact Nat.le_refl _), List.replicate_zero, List.append_nil] at h
      rw [← unhide EA]
      exact h
end Go.Proofs.Ytpmbmhjhclekeaa
/- Package disk: slices.Clone of texts, cloneWrites. -/
namespace Go.Proofs.Ytpmbmhjhclekeaa
open Go.RowKit
set_option linter.unusedVariables false
set_option linter.unusedSimpArgs false
attribute [local go_sem ↓] Go.wp_at_zero Go.wp_at_succ
set_option maxRecDepth 100000 in
set_option maxHeartbeats 1000000 in
theorem dwCloneS_any (sa : Option Addr) (n sc : Nat) (ss : List ByteArray) (w : World) (hS : Strs w sa n sc ss) (h1 : 1 ≤ n) (hn : n ≤ 72) :
    Calls Try.prog 56 #[.slice sa n sc] w fun e w' => ∃ v, e = .returned v ∧ OwnL w' w.heap.size 9 v (ss.map Value.string) ∧ Below w.heap.size w w' := by
  have qT : ∀ (w : World) (a : Option Addr) (n c n' c' : Nat), (binOp .eql 22 (.slice a n c) (.slice none n' c')).run Try.prog w = .ok (.bool a.isNone) w := fun w a n c n' c' => Lib.run_eql_slice_nil w _ _ a n c n' c' Try.underlying22
  have hsl := hS.1
  obtain ⟨bs, os, es, -⟩ : ∃ b off, sa = some ⟨b, off, none⟩ ∧ ∀ i, i < n → w.cell? ⟨b, off + i, none⟩ = some (.string (ss.getD i ByteArray.empty)) := by
    rcases hS.2.two with h | h
    · omega
    · exact h
  subst es
  have hs1 := hide (hS.below (below_alloc w (.cells #[] 9)))
  have HSL := hide hsl
  clear hS
  go_enter Try.func56, Try.ntmps56
  go_wp2_with (at_builtin; refine wpList_append_row (w.alloc (.cells #[] 9)) (by rfl) (.tmp 5) (.tmp 6) 22 (by rfl) w.heap.size 9 (.string ByteArray.empty) 16 Try.underlying22 Try.infoText rfl _ 0 [] (by rfl) (own_emptyZ w 9 1 w.heap.size (Nat.le_refl _)) _ n sc _ (ss.map Value.string) (by rfl) (unhide hs1).2 (by rw [List.length_map]; exact hsl) (str_at hsl) (strs_oneCell _) (by unfold maxLen; omega) (by omega) (by simp) ?_; intro v1 W1 O1 G1; have O2 := hide O1; have G2 := hide G1; clear O1 G1)
  go_ret
  have hB : Below w.heap.size w W1 := ((below_alloc w (.cells #[] 9)).trans (Below.refl _ _)).grown (unhide G2) (by simp) (fun k hk => by simp [Value.ownBlock] at hk; omega)
  refine ⟨_, rfl, ?_, hB⟩
  have h := unhide O2
  unfold OwnL
  rw [List.length_map, unhide HSL]
  simpa using h
theorem wrCells_rep (n : Nat) : wrCells (List.replicate n wr0) = (madeCells #[Value.int .i64 0, .string ByteArray.empty] (n * 2)).toList := by
  induction n with
  | zero => simp [wrCells, madeCells]
  | succ n ih =>
    rw [List.replicate_succ', wrCells_append, ih]
    apply List.ext_getElem?
    intro i
    have e : (madeCells #[Value.int .i64 0, .string ByteArray.empty] (n * 2)).toList.length = n * 2 := by rw [Array.length_toList, size_madeCells]
    simp only [madeCells, Array.getElem?_toList, Array.getElem?_map] at e ⊢
    by_cases h : i < n * 2
    · rw [List.getElem?_append_left (by rw [e]; exact h)]
      simp only [Array.getElem?_toList, Array.getElem?_map]
      rw [Array.getElem?_range, Array.getElem?_range, if_pos h, if_pos (by omega)]
    · rw [List.getElem?_append_right (by rw [e]; omega), e]
      by_cases h2 : i < (n + 1) * 2
      · rw [Array.getElem?_range, if_pos h2]
        rcases (show i = n * 2 ∨ i = n * 2 + 1 by omega) with rfl | rfl
        · have : n * 2 % 2 = 0 := by omega
          simp [this, wrCells, wr0]
        · have h3 : (n * 2 + 1) % 2 = 1 := by omega
          have h4 : n * 2 + 1 - n * 2 = 1 := by omega
          rw [h4]
          simp [h3, wrCells, wr0]
      · rw [Array.getElem?_range, if_neg h2, List.getElem?_eq_none (by rw [wrCells_len]; simp; omega)]
        rfl
theorem own_mkW (w : World) (B n : Nat) (E : TypeId) (h : B ≤ w.heap.size) (hn : n ≤ maxLen) : (w.alloc (.cells (madeCells #[.int .i64 0, .string ByteArray.empty] (n * 2)) E)).ownsRow B E 2 (.slice (some ⟨w.heap.size, 0, none⟩) n n) n (wrCells (List.replicate n wr0)) := by
  have := World.ownsRow_lit (e := E) (size := 2) w (madeCells #[.int .i64 0, .string ByteArray.empty] (n * 2)) n h hn (by rw [size_madeCells])
  rw [← wrCells_rep] at this
  exact this
theorem dwCells_set (l : List (Int × ByteArray)) (k : Nat) (x : Int × ByteArray) (hk : k < l.length) : ((wrCells l).set (k * 2) (.int .i64 x.1)).set (k * 2 + 1) (.string x.2) = wrCells (l.set k x) := by
  induction l generalizing k with
  | nil => simp at hk
  | cons y l ih =>
    cases k with
    | zero => rfl
    | succ k =>
      have e : (k + 1) * 2 = k * 2 + 1 + 1 := by omega
      rw [e, wrCells_cons]
      show .int .i64 y.1 :: .string y.2 :: (((wrCells l).set (k * 2) _).set (k * 2 + 1) _) = _
      rw [ih k (by simpa using hk)]
      rfl
set_option maxRecDepth 100000 in
set_option maxHeartbeats 1000000 in
theorem dwCloneWrites_any (ca : Option Addr) (m cc : Nat) (l : List (Int × ByteArray)) (w : World) (hC : WrV w ca m cc l) (h64 : ∀ i, i < m → (l.getD i wr0).2.size = 64) (hm : m ≤ 257) :
    Calls Try.prog 41 #[.slice ca m cc] w fun e w' => ∃ v, e = .returned v ∧ w'.ownsRow w.heap.size 62 2 v l.length (wrCells l) ∧ Below w.heap.size w w' := by
  have HCL := hide hC.1
  have HC := hide hC
  have H64 := hide h64
  have hmk : ∀ w : World, (Instr.makeSlice 23 (.int .i64 (m : Int)) (.int .i64 (m : Int))).run Try.prog w = .ok (.slice (some ⟨w.heap.size, 0, none⟩) m m) (w.alloc (.cells (madeCells #[.int .i64 0, .string ByteArray.empty] (m * 2)) 62)) := fun w => by
    obtain ⟨i0, hi, hz0, hz1, hz2⟩ := info_parts (P := Try.prog) (e := 62) (z := .agg #[.int .i64 0, .string ByteArray.empty]) (size := 2) (bytes := 24) Try.infoWr
    have h := run_make (P := Try.prog) w 23 62 i0 _ Try.underlying23 hi hz0 .i64 .i64 (m : Int) (m : Int) (by omega) (by omega) (by rw [hz2]; omega) (by omega)
    rw [hz1] at h
    simpa [Value.cells] using h
  have HO := hide (own_mkW w w.heap.size m 62 (Nat.le_refl _) (by unfold maxLen; omega))
  have HB := hide (below_alloc w (.cells (madeCells #[.int .i64 0, .string ByteArray.empty] (m * 2)) 62))
  have HLT := hide (show w.heap.size < (w.alloc (.cells (madeCells #[.int .i64 0, .string ByteArray.empty] (m * 2)) 62)).heap.size by simp)
  obtain ⟨A, eA⟩ : ∃ A, A = w.heap.size := ⟨_, rfl⟩
  clear hC h64
  go_enter Try.func41, Try.ntmps41
  go_upto_region 2 with fail
  clear hmk
  generalize (w.alloc (.cells (madeCells #[.int .i64 0, .string ByteArray.empty] (m * 2)) 62)) = W at *
  rw [← eA] at HO HB HLT ⊢
  have EA := hide eA
  clear eA
  go_wp2
  go_loopw [11] (fun iv wr => ∃ k : Nat, k ≤ m ∧ iv = .int .i64 k ∧ Hid (wr.ownsRow A 62 2 (.slice (some ⟨A, 0, none⟩) m m) m (wrCells (l.take k ++ List.replicate (m - k) wr0))) ∧ Hid (Below A w wr)) (fun iv _ => m - (intOf iv).toNat)
  case atStart => exact ⟨0, by omega, rfl, hide (by simpa using unhide HO), HB⟩
  case round =>
    obtain ⟨k, hk, rfl, HOr, HBr⟩ := hrel
    by_cases hlt : k < m
    · have hlt' : (k : Int) < m := by omega
      have hCr := (unhide HC).below (by rw [← unhide EA]; exact unhide HBr)
      obtain ⟨bc, oc, ec, hcm, hcw⟩ := hCr.at hlt
      subst ec
      obtain ⟨c0, c1⟩ := hcw k hlt
      have h6 := unhide H64 k hlt
      obtain ⟨at_, eat⟩ : ∃ at_, at_ = (l.getD k wr0).1 := ⟨_, rfl⟩
      obtain ⟨t, et⟩ : ∃ t, t = (l.getD k wr0).2 := ⟨_, rfl⟩
      rw [← eat] at c0
      rw [← et] at c1 h6
      have EAT := hide eat
      have ET := hide et
      have H6 := hide h6
      clear hcw hCr eat et h6
      have hszr : A ≤ wr.heap.size := by have := (unhide HBr).size; rw [unhide EA]; exact this
      go_upto_region 5 with fail
      have X0 := hide (heap_alloc_new wr (.cells #[.int .i64 at_, .string t] 62))
      have b5 := below_alloc wr (.cells #[.int .i64 at_, .string t] 62)
      have HO5 := hide (ownZ_below (unhide HOr) b5)
      have HB5 := hide ((unhide HBr).trans (b5.mono hszr))
      clear b5 HOr HBr c0 c1
      generalize (wr.alloc (.cells #[.int .i64 at_, .string t] 62)) = W5 at *
      obtain ⟨y0, y1⟩ := box_two (unhide X0)
      have hsz5 : A ≤ W5.heap.size := by have := (unhide HB5).size; rw [unhide EA]; exact this
      have k0 := kept_cell (B := W5.heap.size) y0 (cell_lt y0)
      have k1 := kept_cell (B := W5.heap.size) y1 (cell_lt y1)
      clear y0 y1
      have hlen : (l.take k ++ List.replicate (m - k) wr0).length = m := by
        have := unhide HCL
        rw [List.length_append, List.length_take, List.length_replicate]; omega
      have HLEN := hide hlen
      clear hlen
      refine wp_region_ord_then (S := Below W5.heap.size W5) [(true, 0), (true, 1), (true, 2), (true, 3), (true, 4), (true, 5), (false, 6), (true, 7), (true, 8)] (List.cons_ne_nil _ _) (by kernel_rfl) (by kernel_rfl) (by kernel_rfl) (by kernel_rfl) (by kernel_rfl) ((Below.refl _ _).drew) ?_
      simp only [List.dropLast_cons_cons, List.dropLast_singleton, List.getLast_cons_cons, List.getLast_singleton, withOps, List.map_cons, List.map_nil, List.getElem?_cons_succ, List.getElem?_cons_zero]
      repeat (refine walkH_read (by rfl) (by (intro gx; go_simp; try (with_reducible rfl))) ?_; try simp only [Act.put, List.setIfInBounds_toArray, List.set_cons_zero, List.set_cons_succ])
      refine walkH_do rfl (fun K hK => ?_)
      go_simp
      refine (clone_any t _ (by rw [unhide H6]; decide) (by rw [unhide H6]; decide)).mono ?_
      rintro e w6 ⟨rfl, b6⟩
      have b6' : Below W5.heap.size W5 w6 := (Below.refl _ _).drew.trans b6
      refine hK _ _ b6' ?_
      clear hK K k0 k1 b6
      try simp only [Act.put, List.setIfInBounds_toArray, List.set_cons_zero, List.set_cons_succ]
      have HO6 := hide (ownZ_below (unhide HO5) b6')
      have HB6 := hide ((unhide HB5).trans (b6'.mono hsz5))
      clear b6' HO5 HB5
      have hrd := own_wr (l := l.take k ++ List.replicate (m - k) wr0) (by rw [unhide HLEN]; exact unhide HO6)
      rw [unhide HLEN] at hrd
      obtain ⟨za, zc, ez, hV⟩ := hrd
      simp only [Value.slice.injEq, true_and] at ez
      obtain ⟨ez1, ez2⟩ := ez
      subst ez1 ez2
      obtain ⟨ab', ao', ea', _, hzz⟩ := hV.at hlt
      simp only [Option.some.injEq, Addr.mk.injEq, and_true] at ea'
      obtain ⟨e1, e2⟩ := ea'
      obtain ⟨z0, z1⟩ := hzz k hlt
      rw [← e1, ← e2, Nat.zero_add] at z0 z1
      have fz := fun i => World.ownsRow.frozenAt (unhide HO6) i
      have f0 := fz (k * 2)
      have f1 := fz (k * 2 + 1)
      clear fz hV hzz e1 e2
      obtain ⟨u0, eu0⟩ : ∃ u0, u0 = ((l.take k ++ List.replicate (m - k) wr0).getD k wr0).1 := ⟨_, rfl⟩
      obtain ⟨u1, eu1⟩ : ∃ u1, u1 = ((l.take k ++ List.replicate (m - k) wr0).getD k wr0).2 := ⟨_, rfl⟩
      rw [← eu0] at z0
      rw [← eu1] at z1
      clear eu0 eu1
      repeat (refine walkH_read (by rfl) (by (intro gx; go_simp; try (with_reducible rfl))) ?_; try simp only [Act.put, List.setIfInBounds_toArray, List.set_cons_zero, List.set_cons_succ])
      refine lastPost_of_list ?_
      simp only [List.cons_append, List.nil_append]
      go_wp2
      refine NoPanic.normal ?_
      go_wp2
      go_roundw
      case rel =>
        refine ⟨k + 1, by omega, by go_num, hide ?_, hide (((unhide HB6).setCell (p := ⟨A, k * 2, none⟩) (Nat.le_refl _) _).setCell (p := ⟨A, k * 2 + 1, none⟩) (Nat.le_refl _) _)⟩
        have hst := (World.ownsRow.stored (World.ownsRow.stored (unhide HO6) (k * 2) (.int .i64 at_)).1 (k * 2 + 1) (.string t)).1
        rw [dwCells_set _ k (at_, t) (by rw [unhide HLEN]; exact hlt), unhide EAT, unhide ET] at hst
        have e := filled_set l wr0 hlt (unhide HCL)
        rw [unhide EAT, unhide ET]
        have hst2 := hst
        rw [show ((l.getD k wr0).1, (l.getD k wr0).2) = l.getD k wr0 from rfl, e] at hst2
        exact hst2
      case measure => simp [intOf]; omega
    · have hlt' : ¬ (k : Int) < m := by omega
      obtain rfl : m = k := by omega
      go_wp2
      go_ret
      refine ⟨_, rfl, ?_, by rw [← unhide EA]; exact unhide HBr⟩
      have h := unhide HOr
      rw [Nat.sub_self, List.take_of_length_le (by rw [unhide HCL]; exact Nat.le_refl _), List.replicate_zero, List.append_nil] at h
      rw [← unhide EA, unhide HCL]
      exact h
end Go.Proofs.Ytpmbmhjhclekeaa
/- Package disk: the functions that Flush and Crash hand on; settle. (written by dwsettle.py) -/
namespace Go.Proofs.Ytpmbmhjhclekeaa
open Go.RowKit
set_option linter.unusedVariables false
set_option linter.unusedSimpArgs false
attribute [local go_sem ↓] Go.wp_at_zero Go.wp_at_succ
theorem minus_bit (k : Nat) : ((-1 : Int) / 2 ^ (k % 16)) % 2 = 1 := by
  have h : k % 16 < 16 := Nat.mod_lt _ (by decide)
  obtain ⟨x, ex⟩ : ∃ x, x = k % 16 := ⟨_, rfl⟩
  rw [← ex] at h ⊢
  have : ∀ x, x < 16 → ((-1 : Int) / 2 ^ x) % 2 = 1 := by decide
  exact this x h
theorem dwAll_any (k : Nat) (w : World) : Calls Try.prog 45 #[.int .i64 (k : Int)] w fun e w' => e = .returned (.bool (decide (((-1 : Int) / 2 ^ (k % 16)) % 2 = 1))) ∧ w' = w := by
  rw [decide_eq_true (minus_bit k)]
  go_enter Try.func45, Try.ntmps45
  go_wp2
  go_ret
  first | exact ⟨rfl, rfl⟩ | exact trivial
set_option maxRecDepth 100000 in
theorem dwKeep_any (B : Nat) (keep : Int) (k : Nat) (w : World) (hB : w.heap[B]? = some (.cells #[.int .i64 keep] 3 (0, 0))) :
    Calls Try.prog 47 #[.int .i64 (k : Int), .pointer (some ⟨B, 0, none⟩)] w fun e w' => e = .returned (.bool (decide ((keep / 2 ^ (k % 16)) % 2 = 1))) ∧ w' = w := by
  have c0 : w.cell? ⟨B, 0, none⟩ = some (.int .i64 keep) := cell_of_one hB
  obtain ⟨R, eR⟩ : ∃ R, R = decide ((keep / 2 ^ (k % 16)) % 2 = 1) := ⟨_, rfl⟩
  rw [← eR]
  have ER := hide eR
  clear hB eR
  go_enter Try.func47, Try.ntmps47
  go_wp2
  go_ret
  exact ⟨by rw [unhide ER, and_1]; rfl, rfl⟩
theorem keepTo_64 {d : Dsk} {n : Nat} (hs : SecsOk d.secs n) (hl : d.secs.length = n) {m : Nat} (hc : ∀ i, i < m → (d.cache.getD i wr0).2.size = 64) (keep : Int) : ∀ k, k ≤ m → SecsOk (keepTo d keep k) n
  | 0, _ => hs
  | k + 1, h => by
    have ih := keepTo_64 hs hl hc keep k (by omega)
    have hkl := keepTo_len d keep k
    intro i hi
    unfold keepTo
    split
    · rw [List.getD, List.getElem?_set]
      split
      · split
        · simpa using hc k (by omega)
        · rename_i h1 h2
          exact absurd (by omega) h2
      · have := ih i hi
        rwa [List.getD] at this
    · exact ih i hi
set_option maxRecDepth 100000 in
set_option maxHeartbeats 1000000 in
theorem dwSettleA_any (d : Dsk) (sa : Option Addr) (n sc : Nat) (ca : Option Addr) (m cc : Nat) (w : World) (hS : Strs w sa n sc d.secs) (hC : WrV w ca m cc d.cache) (h0 : stateD d = 0) :
    Calls Try.prog 44 #[.agg #[.bool d.lost, .slice sa n sc, .slice ca m cc], .func (.func 45) #[] #[]] w fun e w' => ∃ v, e = .returned v ∧ DskO w' w.heap.size 9 62 v (lastsD d (-1)) ∧ Below w.heap.size w w' := by
  have hsl := hS.1
  have hcl := hC.1
  obtain ⟨hlost, hn1, hn72, hm256, hs64, hat⟩ := may_live h0
  have HLOST := hide hlost
  rw [hsl] at hn72 hat hn1 hs64
  rw [hcl] at hm256 hat
  have HAT := hide hat
  have HS64 := hide hs64
  have HS := hide hS
  have HC := hide hC
  obtain ⟨b, eb⟩ : ∃ b, b = d.lost := ⟨_, rfl⟩
  have EB := hide eb
  rw [← eb]
  clear hS hC eb h0 hat hs64 hlost
  go_enter Try.func44, Try.ntmps44
  go_upto_region 1 with fail
  have HB := hide (below_two w (.cells #[.bool b, .slice sa n sc, .slice ca m cc] 25) (.cells #[.bool false, .slice none 0 0, .slice none 0 0] 25))
  have RX := hide (two_new w (.cells #[.bool b, .slice sa n sc, .slice ca m cc] 25) (.cells #[.bool false, .slice none 0 0, .slice none 0 0] 25))
  have BX := hide ((((below_alloc (w.alloc (.cells #[.bool b, .slice sa n sc, .slice ca m cc] 25)) (.cells #[.bool false, .slice none 0 0, .slice none 0 0] 25)).block w.heap.size (by simp)).trans (heap_alloc_new w (.cells #[.bool b, .slice sa n sc, .slice ca m cc] 25))))
  generalize ((w.alloc (.cells #[.bool b, .slice sa n sc, .slice ca m cc] 25)).alloc (.cells #[.bool false, .slice none 0 0, .slice none 0 0] 25)) = W at *
  obtain ⟨x0, x1, x2⟩ := box_dsk (unhide BX)
  go_wp2_with fail
  refine (dwCloneS_any sa n sc d.secs W ((unhide HS).below (unhide HB)) hn1 hn72).mono ?_
  rintro e w2 ⟨v2, rfl, OS, b2⟩
  obtain ⟨ga, ka, eg, hga, _, _, _⟩ := own_form (n := (d.secs.map Value.string).length) OS (by rw [List.length_map, hsl]; omega)
  rw [List.length_map, hsl] at eg
  subst eg
  have HGA : Hid (∀ g, (Value.slice (some ⟨ga, 0, none⟩) n ka).ownBlock = some g → W.heap.size ≤ g ∧ g < w2.heap.size) := hide (fun g e => ⟨(OS.lt e).1, (OS.lt e).2⟩)
  have HOS := hide OS
  have hbx : w.heap.size + 1 < W.heap.size := lt_of_block (unhide RX)
  replace BX := hide ((b2.block _ (lt_of_block (unhide BX))).trans (unhide BX))
  replace RX := hide ((b2.block _ (lt_of_block (unhide RX))).trans (unhide RX))
  replace HB := hide (bt (unhide HB) b2)
  have hs2 := b2.size
  clear b2 OS x0 x1 x2
  obtain ⟨x0, x1, x2⟩ := box_dsk (unhide BX)
  go_wp2
  clear x0 x1 x2
  go_loopw [14] (fun iv wr => ∃ k : Nat, k ≤ m ∧ iv = .int .i64 k ∧ Hid (wr.heap[w.heap.size]? = some (.cells #[.bool b, .slice sa n sc, .slice ca m cc] 25 (0, 0))) ∧ Hid (wr.heap[w.heap.size + 1]? = some (.cells #[.bool false, .slice none 0 0, .slice none 0 0] 25 (0, 0))) ∧ Hid (OwnL wr W.heap.size 9 (.slice (some ⟨ga, 0, none⟩) n ka) ((keepTo d (-1) k).map Value.string)) ∧ Hid (Below w.heap.size w wr)) (fun iv _ => m - (intOf iv).toNat)
  case atStart => exact ⟨0, by omega, rfl, BX, RX, HOS, HB⟩
  case round =>
    obtain ⟨k, hk, rfl, BXr, RXr, HSr, HBr⟩ := hrel
    by_cases hlt : k < m
    · have hlt' : (k : Int) < m := by omega
      obtain ⟨at1, at2, at3⟩ := unhide HAT k hlt
      obtain ⟨bc, oc, ec, hcm, hcw⟩ := ((unhide HC).below (unhide HBr)).at hlt
      subst ec
      obtain ⟨c0, c1⟩ := hcw k hlt
      clear hcw
      obtain ⟨p, ep⟩ : ∃ p : Nat, (d.cache.getD k wr0).1 = (p : Int) := ⟨(d.cache.getD k wr0).1.toNat, by omega⟩
      obtain ⟨t2, et2⟩ : ∃ t2, t2 = (d.cache.getD k wr0).2 := ⟨_, rfl⟩
      rw [ep] at c0 at2
      rw [← et2] at c1
      have EP := hide ep
      have ET2 := hide et2
      have hp : p < n := by omega
      have hp' : (p : Int) < n := at2
      have hp0 : (0 : Int) ≤ (p : Int) := by omega
      clear ep et2 at1 at2 at3
      go_upto_region 5 with fail
      have X0 := hide (heap_alloc_new wr (.cells #[.int .i64 (p : Int), .string t2] 62))
      have b5 := below_alloc wr (.cells #[.int .i64 (p : Int), .string t2] 62)
      have HS5 := hide ((unhide HSr).below b5)
      have HB5 := hide (bt (unhide HBr) b5)
      have BX5 := hide ((b5.block _ (lt_of_block (unhide BXr))).trans (unhide BXr))
      have RX5 := hide ((b5.block _ (lt_of_block (unhide RXr))).trans (unhide RXr))
      clear b5 c0 c1 HSr HBr BXr RXr
      generalize (wr.alloc (.cells #[.int .i64 (p : Int), .string t2] 62)) = W5 at *
      obtain ⟨y0, y1⟩ := box_two (unhide X0)
      go_wp2_with fail
      refine (dwAll_any k W5).mono ?_
      rintro e w6 ⟨rfl, rfl⟩
      by_cases hb : ((-1 : Int) / 2 ^ (k % 16)) % 2 = 1
      · rw [decide_eq_true hb]
        have HBX := hide hb
        clear hb
        have hkl := keepTo_len d (-1) k
        rw [hsl] at hkl
        have cS := own_cellT (unhide HS5) p (by rw [hkl]; exact hp)
        have fS := own_free (unhide HS5) p
        obtain ⟨s0, es0⟩ : ∃ s0, s0 = (keepTo d (-1) k).getD p ByteArray.empty := ⟨_, rfl⟩
        rw [← es0] at cS
        clear es0 hkl
        go_wp2
        go_roundw
        case rel =>
          obtain ⟨hg1, hg2⟩ := unhide HGA ga rfl
          have e : keepTo d (-1) (k + 1) = (keepTo d (-1) k).set p t2 := by
            show (if ((-1 : Int) / 2 ^ (k % 16)) % 2 = 1 then (keepTo d (-1) k).set (d.cache.getD k wr0).1.toNat (d.cache.getD k wr0).2 else _) = _
            rw [if_pos (unhide HBX), unhide EP, Int.toNat_natCast, ← unhide ET2]
          have hP := own_put (unhide HS5) p (.string t2)
          rw [← List.map_set, ← e] at hP
          refine ⟨k + 1, by omega, by go_num, hide ?_, hide ?_, hide hP, hide ((unhide HB5).setCell (p := ⟨ga, p, none⟩) (by show w.heap.size ≤ ga; omega) _)⟩
          · exact (Below.heap_setCell _ ⟨ga, p, none⟩ (.string t2) w.heap.size (by show w.heap.size ≠ ga; omega)).trans (unhide BX5)
          · exact (Below.heap_setCell _ ⟨ga, p, none⟩ (.string t2) (w.heap.size + 1) (by show w.heap.size + 1 ≠ ga; omega)).trans (unhide RX5)
        case measure => simp [intOf]; omega
      · rw [decide_eq_false hb]
        have HBX := hide hb
        clear hb
        go_wp2
        go_roundw
        case rel =>
          refine ⟨k + 1, by omega, by go_num, BX5, RX5, hide ?_, HB5⟩
          have e : keepTo d (-1) (k + 1) = keepTo d (-1) k := by
            show (if ((-1 : Int) / 2 ^ (k % 16)) % 2 = 1 then _ else _) = _
            rw [if_neg (unhide HBX)]
          rw [e]
          exact unhide HS5
        case measure => simp [intOf]; omega
    · have hlt' : ¬ (k : Int) < m := by omega
      obtain rfl : m = k := by omega
      have hkl := keepTo_len d (-1) m
      rw [hsl] at hkl
      obtain ⟨sa2, sc2, e2, hS2⟩ := (unhide HSr).strs
      rw [hkl] at e2 hS2
      simp only [Value.slice.injEq, true_and] at e2
      obtain ⟨e2, e3⟩ := e2
      subst e2 e3
      have HS2 := hide hS2
      clear hS2
      have hk64 : SecsOk (keepTo d (-1) m) n := keepTo_64 (unhide HS64) hsl (fun i hi => (unhide HAT i hi).2.2) (-1) m (Nat.le_refl _)
      have HK64 := hide hk64
      clear hk64 hkl
      go_wp2_with fail
      refine (dwCloneTexts_any _ n _ (keepTo d (-1) m) wr (unhide HS2) (unhide HK64) hn72).mono ?_
      rintro e w3 ⟨v3, rfl, O3, b3⟩
      have hwr := (unhide HBr).size
      have hrr := lt_of_block (unhide RXr)
      have hkl := keepTo_len d (-1) m
      rw [hsl] at hkl
      obtain ⟨p3, c3, e3⟩ := O3.form
      rw [List.length_map, hkl] at e3
      subst e3
      have HO3 := hide O3
      have RX3 := hide ((b3.block _ (lt_of_block (unhide RXr))).trans (unhide RXr))
      have HB3 := hide (bt (unhide HBr) b3)
      clear O3 b3 hkl
      obtain ⟨r0, r1, r2⟩ := box_dsk (unhide RX3)
      have f0 := dsk_free (unhide RX3) 0
      have f1 := dsk_free (unhide RX3) 1
      have f2 := dsk_free (unhide RX3) 2
      obtain ⟨q0, q1, q2⟩ := box_dsk (dsk_put (x' := .bool false) (y' := .slice p3 n c3) (z' := .slice none 0 0) (unhide RX3))
      go_wp2
      refine bodyPost_ret (v := .agg #[.bool false, .slice p3 n c3, .slice none 0 0]) (by simp [results, Try.results44, go_sem, q0, q1, q2]) rfl ?_
      have hO : DskO w3 wr.heap.size 9 62 (.agg #[.bool false, .slice p3 n c3, .slice none 0 0]) (lastsD d (-1)) := by
        refine ⟨_, _, by rw [show (lastsD d (-1)).lost = d.lost from rfl, unhide HLOST], ?_, World.ownsRow_nil _ _ _ _⟩
        show OwnL w3 _ _ _ ((keepTo d (-1) d.cache.length).map Value.string)
        rw [hcl]; exact unhide HO3
      exact ⟨_, rfl, (hO.put (by omega) _ _ _).mono hwr, below_put (unhide HB3) (by omega) _ _ _⟩
set_option maxRecDepth 100000 in
set_option maxHeartbeats 1000000 in
theorem dwSettleK_any (d : Dsk) (sa : Option Addr) (n sc : Nat) (ca : Option Addr) (m cc : Nat) (keep : Int) (BK : Nat) (w : World) (hS : Strs w sa n sc d.secs) (hC : WrV w ca m cc d.cache) (h0 : stateD d = 0) (hK : w.heap[BK]? = some (.cells #[.int .i64 keep] 3 (0, 0))) :
    Calls Try.prog 44 #[.agg #[.bool d.lost, .slice sa n sc, .slice ca m cc], .func (.func 47) #[] #[.pointer (some ⟨BK, 0, none⟩)]] w fun e w' => ∃ v, e = .returned v ∧ DskO w' w.heap.size 9 62 v (lastsD d keep) ∧ Below w.heap.size w w' := by
  have hsl := hS.1
  have hcl := hC.1
  obtain ⟨hlost, hn1, hn72, hm256, hs64, hat⟩ := may_live h0
  have HLOST := hide hlost
  rw [hsl] at hn72 hat hn1 hs64
  rw [hcl] at hm256 hat
  have HAT := hide hat
  have HS64 := hide hs64
  have HS := hide hS
  have HC := hide hC
  obtain ⟨b, eb⟩ : ∃ b, b = d.lost := ⟨_, rfl⟩
  have EB := hide eb
  rw [← eb]
  have HK := hide hK
  clear hS hC eb h0 hat hs64 hlost hK
  go_enter Try.func44, Try.ntmps44
  go_upto_region 1 with fail
  have HB := hide (below_two w (.cells #[.bool b, .slice sa n sc, .slice ca m cc] 25) (.cells #[.bool false, .slice none 0 0, .slice none 0 0] 25))
  have RX := hide (two_new w (.cells #[.bool b, .slice sa n sc, .slice ca m cc] 25) (.cells #[.bool false, .slice none 0 0, .slice none 0 0] 25))
  have BX := hide ((((below_alloc (w.alloc (.cells #[.bool b, .slice sa n sc, .slice ca m cc] 25)) (.cells #[.bool false, .slice none 0 0, .slice none 0 0] 25)).block w.heap.size (by simp)).trans (heap_alloc_new w (.cells #[.bool b, .slice sa n sc, .slice ca m cc] 25))))
  generalize ((w.alloc (.cells #[.bool b, .slice sa n sc, .slice ca m cc] 25)).alloc (.cells #[.bool false, .slice none 0 0, .slice none 0 0] 25)) = W at *
  obtain ⟨x0, x1, x2⟩ := box_dsk (unhide BX)
  go_wp2_with fail
  refine (dwCloneS_any sa n sc d.secs W ((unhide HS).below (unhide HB)) hn1 hn72).mono ?_
  rintro e w2 ⟨v2, rfl, OS, b2⟩
  obtain ⟨ga, ka, eg, hga, _, _, _⟩ := own_form (n := (d.secs.map Value.string).length) OS (by rw [List.length_map, hsl]; omega)
  rw [List.length_map, hsl] at eg
  subst eg
  have HGA : Hid (∀ g, (Value.slice (some ⟨ga, 0, none⟩) n ka).ownBlock = some g → W.heap.size ≤ g ∧ g < w2.heap.size) := hide (fun g e => ⟨(OS.lt e).1, (OS.lt e).2⟩)
  have HOS := hide OS
  have hbx : w.heap.size + 1 < W.heap.size := lt_of_block (unhide RX)
  replace BX := hide ((b2.block _ (lt_of_block (unhide BX))).trans (unhide BX))
  replace RX := hide ((b2.block _ (lt_of_block (unhide RX))).trans (unhide RX))
  replace HB := hide (bt (unhide HB) b2)
  have hs2 := b2.size
  clear b2 OS x0 x1 x2
  obtain ⟨x0, x1, x2⟩ := box_dsk (unhide BX)
  go_wp2
  clear x0 x1 x2
  go_loopw [14] (fun iv wr => ∃ k : Nat, k ≤ m ∧ iv = .int .i64 k ∧ Hid (wr.heap[w.heap.size]? = some (.cells #[.bool b, .slice sa n sc, .slice ca m cc] 25 (0, 0))) ∧ Hid (wr.heap[w.heap.size + 1]? = some (.cells #[.bool false, .slice none 0 0, .slice none 0 0] 25 (0, 0))) ∧ Hid (OwnL wr W.heap.size 9 (.slice (some ⟨ga, 0, none⟩) n ka) ((keepTo d keep k).map Value.string)) ∧ Hid (Below w.heap.size w wr)) (fun iv _ => m - (intOf iv).toNat)
  case atStart => exact ⟨0, by omega, rfl, BX, RX, HOS, HB⟩
  case round =>
    obtain ⟨k, hk, rfl, BXr, RXr, HSr, HBr⟩ := hrel
    by_cases hlt : k < m
    · have hlt' : (k : Int) < m := by omega
      obtain ⟨at1, at2, at3⟩ := unhide HAT k hlt
      obtain ⟨bc, oc, ec, hcm, hcw⟩ := ((unhide HC).below (unhide HBr)).at hlt
      subst ec
      obtain ⟨c0, c1⟩ := hcw k hlt
      clear hcw
      obtain ⟨p, ep⟩ : ∃ p : Nat, (d.cache.getD k wr0).1 = (p : Int) := ⟨(d.cache.getD k wr0).1.toNat, by omega⟩
      obtain ⟨t2, et2⟩ : ∃ t2, t2 = (d.cache.getD k wr0).2 := ⟨_, rfl⟩
      rw [ep] at c0 at2
      rw [← et2] at c1
      have EP := hide ep
      have ET2 := hide et2
      have hp : p < n := by omega
      have hp' : (p : Int) < n := at2
      have hp0 : (0 : Int) ≤ (p : Int) := by omega
      clear ep et2 at1 at2 at3
      go_upto_region 5 with fail
      have X0 := hide (heap_alloc_new wr (.cells #[.int .i64 (p : Int), .string t2] 62))
      have b5 := below_alloc wr (.cells #[.int .i64 (p : Int), .string t2] 62)
      have HS5 := hide ((unhide HSr).below b5)
      have HB5 := hide (bt (unhide HBr) b5)
      have BX5 := hide ((b5.block _ (lt_of_block (unhide BXr))).trans (unhide BXr))
      have RX5 := hide ((b5.block _ (lt_of_block (unhide RXr))).trans (unhide RXr))
      clear b5 c0 c1 HSr HBr BXr RXr
      generalize (wr.alloc (.cells #[.int .i64 (p : Int), .string t2] 62)) = W5 at *
      obtain ⟨y0, y1⟩ := box_two (unhide X0)
      go_wp2_with fail
      refine (dwKeep_any BK keep k W5 (((unhide HB5).block _ (lt_of_block (unhide HK))).trans (unhide HK))).mono ?_
      rintro e w6 ⟨rfl, rfl⟩
      by_cases hb : (keep / 2 ^ (k % 16)) % 2 = 1
      · rw [decide_eq_true hb]
        have HBX := hide hb
        clear hb
        have hkl := keepTo_len d keep k
        rw [hsl] at hkl
        have cS := own_cellT (unhide HS5) p (by rw [hkl]; exact hp)
        have fS := own_free (unhide HS5) p
        obtain ⟨s0, es0⟩ : ∃ s0, s0 = (keepTo d keep k).getD p ByteArray.empty := ⟨_, rfl⟩
        rw [← es0] at cS
        clear es0 hkl
        go_wp2
        go_roundw
        case rel =>
          obtain ⟨hg1, hg2⟩ := unhide HGA ga rfl
          have e : keepTo d keep (k + 1) = (keepTo d keep k).set p t2 := by
            show (if (keep / 2 ^ (k % 16)) % 2 = 1 then (keepTo d keep k).set (d.cache.getD k wr0).1.toNat (d.cache.getD k wr0).2 else _) = _
            rw [if_pos (unhide HBX), unhide EP, Int.toNat_natCast, ← unhide ET2]
          have hP := own_put (unhide HS5) p (.string t2)
          rw [← List.map_set, ← e] at hP
          refine ⟨k + 1, by omega, by go_num, hide ?_, hide ?_, hide hP, hide ((unhide HB5).setCell (p := ⟨ga, p, none⟩) (by show w.heap.size ≤ ga; omega) _)⟩
          · exact (Below.heap_setCell _ ⟨ga, p, none⟩ (.string t2) w.heap.size (by show w.heap.size ≠ ga; omega)).trans (unhide BX5)
          · exact (Below.heap_setCell _ ⟨ga, p, none⟩ (.string t2) (w.heap.size + 1) (by show w.heap.size + 1 ≠ ga; omega)).trans (unhide RX5)
        case measure => simp [intOf]; omega
      · rw [decide_eq_false hb]
        have HBX := hide hb
        clear hb
        go_wp2
        go_roundw
        case rel =>
          refine ⟨k + 1, by omega, by go_num, BX5, RX5, hide ?_, HB5⟩
          have e : keepTo d keep (k + 1) = keepTo d keep k := by
            show (if (keep / 2 ^ (k % 16)) % 2 = 1 then _ else _) = _
            rw [if_neg (unhide HBX)]
          rw [e]
          exact unhide HS5
        case measure => simp [intOf]; omega
    · have hlt' : ¬ (k : Int) < m := by omega
      obtain rfl : m = k := by omega
      have hkl := keepTo_len d keep m
      rw [hsl] at hkl
      obtain ⟨sa2, sc2, e2, hS2⟩ := (unhide HSr).strs
      rw [hkl] at e2 hS2
      simp only [Value.slice.injEq, true_and] at e2
      obtain ⟨e2, e3⟩ := e2
      subst e2 e3
      have HS2 := hide hS2
      clear hS2
      have hk64 : SecsOk (keepTo d keep m) n := keepTo_64 (unhide HS64) hsl (fun i hi => (unhide HAT i hi).2.2) keep m (Nat.le_refl _)
      have HK64 := hide hk64
      clear hk64 hkl
      go_wp2_with fail
      refine (dwCloneTexts_any _ n _ (keepTo d keep m) wr (unhide HS2) (unhide HK64) hn72).mono ?_
      rintro e w3 ⟨v3, rfl, O3, b3⟩
      have hwr := (unhide HBr).size
      have hrr := lt_of_block (unhide RXr)
      have hkl := keepTo_len d keep m
      rw [hsl] at hkl
      obtain ⟨p3, c3, e3⟩ := O3.form
      rw [List.length_map, hkl] at e3
      subst e3
      have HO3 := hide O3
      have RX3 := hide ((b3.block _ (lt_of_block (unhide RXr))).trans (unhide RXr))
      have HB3 := hide (bt (unhide HBr) b3)
      clear O3 b3 hkl
      obtain ⟨r0, r1, r2⟩ := box_dsk (unhide RX3)
      have f0 := dsk_free (unhide RX3) 0
      have f1 := dsk_free (unhide RX3) 1
      have f2 := dsk_free (unhide RX3) 2
      obtain ⟨q0, q1, q2⟩ := box_dsk (dsk_put (x' := .bool false) (y' := .slice p3 n c3) (z' := .slice none 0 0) (unhide RX3))
      go_wp2
      refine bodyPost_ret (v := .agg #[.bool false, .slice p3 n c3, .slice none 0 0]) (by simp [results, Try.results44, go_sem, q0, q1, q2]) rfl ?_
      have hO : DskO w3 wr.heap.size 9 62 (.agg #[.bool false, .slice p3 n c3, .slice none 0 0]) (lastsD d keep) := by
        refine ⟨_, _, by rw [show (lastsD d keep).lost = d.lost from rfl, unhide HLOST], ?_, World.ownsRow_nil _ _ _ _⟩
        show OwnL w3 _ _ _ ((keepTo d keep d.cache.length).map Value.string)
        rw [hcl]; exact unhide HO3
      exact ⟨_, rfl, (hO.put (by omega) _ _ _).mono hwr, below_put (unhide HB3) (by omega) _ _ _⟩
end Go.Proofs.Ytpmbmhjhclekeaa
/- Package disk: Lose, Flush, Crash, Read. -/
namespace Go.Proofs.Ytpmbmhjhclekeaa
open Go.RowKit
set_option linter.unusedVariables false
set_option linter.unusedSimpArgs false
attribute [local go_sem ↓] Go.wp_at_zero Go.wp_at_succ
theorem stateAt_yes {d : Dsk} {at_ : Int} (h : stateAt d at_ = 0) : stateD d = 0 ∧ 0 ≤ at_ ∧ at_ < d.secs.length := by
  unfold stateAt at h
  by_cases h0 : stateD d = 0
  · rw [if_pos h0] at h
    by_cases h1 : 0 ≤ at_ ∧ at_ < d.secs.length
    · exact ⟨h0, h1⟩
    · rw [if_neg h1] at h; omega
  · rw [if_neg h0] at h; exact absurd h h0
theorem stateAt_no {d : Dsk} {at_ : Int} (h : stateAt d at_ ≠ 0) : readD d at_ = (ByteArray.empty, stateAt d at_) ∧ (∀ s, writeD d at_ s = (dsk0, stateAt d at_)) ∧ ∀ pl by_, rotD d at_ pl by_ = (dsk0, stateAt d at_) := by
  unfold stateAt at h ⊢
  by_cases h0 : stateD d = 0
  · rw [if_pos h0] at h ⊢
    by_cases h1 : 0 ≤ at_ ∧ at_ < d.secs.length
    · rw [if_pos h1] at h; exact absurd rfl h
    · rw [if_neg h1]
      refine ⟨by rw [readD, if_pos h0, if_neg h1], fun s => by rw [writeD, if_pos h0, if_neg (fun h => h1 ⟨h.1, h.2.1⟩)], fun pl by_ => by rw [rotD, if_pos h0, if_neg (fun h => h1 ⟨h.1, h.2.1⟩)]⟩
  · rw [if_neg h0]
    exact ⟨by rw [readD, if_neg h0], fun s => by rw [writeD, if_neg h0], fun pl by_ => by rw [rotD, if_neg h0]⟩
set_option maxRecDepth 100000 in
set_option maxHeartbeats 1000000 in
theorem diskLose_any (d : Dsk) (sa : Option Addr) (n sc : Nat) (ca : Option Addr) (m cc : Nat) (w : World) (hS : Strs w sa n sc d.secs) (hC : WrV w ca m cc d.cache) (hn : n * 16 ≤ 140737488351232) (hm : m * 24 ≤ 140737488351232) :
    Calls Try.prog 24 #[.agg #[.bool d.lost, .slice sa n sc, .slice ca m cc]] w (dskPost (loseD d) w) := by
  have hsl := hS.1
  have hcl := hC.1
  have HS := hide hS
  have HC := hide hC
  obtain ⟨b, eb⟩ : ∃ b, b = d.lost := ⟨_, rfl⟩
  have EB := hide eb
  rw [← eb]
  clear hS hC eb
  go_enter Try.func24, Try.ntmps24
  go_upto_region 1 with fail
  have HB := hide (below_two w (.cells #[.bool b, .slice sa n sc, .slice ca m cc] 25) (.cells #[.bool false, .slice none 0 0, .slice none 0 0] 25))
  have RX := hide (two_new w (.cells #[.bool b, .slice sa n sc, .slice ca m cc] 25) (.cells #[.bool false, .slice none 0 0, .slice none 0 0] 25))
  have BX := hide ((((below_alloc (w.alloc (.cells #[.bool b, .slice sa n sc, .slice ca m cc] 25)) (.cells #[.bool false, .slice none 0 0, .slice none 0 0] 25)).block w.heap.size (by simp)).trans (heap_alloc_new w (.cells #[.bool b, .slice sa n sc, .slice ca m cc] 25))))
  generalize ((w.alloc (.cells #[.bool b, .slice sa n sc, .slice ca m cc] 25)).alloc (.cells #[.bool false, .slice none 0 0, .slice none 0 0] 25)) = W at *
  obtain ⟨x0, x1, x2⟩ := box_dsk (unhide BX)
  go_wp2_with fail
  rw [unhide EB]
  refine (diskMay_any d sa n sc ca m cc W ((unhide HS).below (unhide HB)) ((unhide HC).below (unhide HB)) (by omega) (by omega)).mono ?_
  rintro e w1 ⟨rfl, b1⟩
  rw [← unhide EB]
  replace BX := hide ((b1.block _ (lt_of_block (unhide BX))).trans (unhide BX))
  replace RX := hide ((b1.block _ (lt_of_block (unhide RX))).trans (unhide RX))
  replace HB := hide (bt (unhide HB) b1)
  clear b1 x0 x1 x2
  obtain ⟨x0, x1, x2⟩ := box_dsk (unhide BX)
  obtain ⟨r0, r1, r2⟩ := box_dsk (unhide RX)
  have f0 := dsk_free (unhide RX) 0
  have f1 := dsk_free (unhide RX) 1
  have f2 := dsk_free (unhide RX) 2
  by_cases hM : MayD d
  · rw [decide_eq_true hM]
    have hw : Hid (loseD d = (⟨true, [], []⟩, 0)) := hide (by rw [loseD, if_pos hM])
    clear hM
    obtain ⟨q0, q1, q2⟩ := box_dsk (dsk_put (x' := .bool true) (y' := .slice none 0 0) (z' := .slice none 0 0) (unhide RX))
    have hBz := hide (below_put (unhide HB) (r := w.heap.size + 1) (by omega) (.bool true) (.slice none 0 0) (.slice none 0 0))
    go_wp2
    refine bodyPost_ret (v := .tuple #[.agg #[.bool true, .slice none 0 0, .slice none 0 0], .int .i64 0]) (by simp [results, Try.results24, go_sem, q0, q1, q2]) rfl ?_
    rw [unhide hw]
    exact ⟨_, rfl, ⟨_, _, rfl, OwnL.nil _ _ _, World.ownsRow_nil _ _ _ _⟩, unhide hBz⟩
  · rw [decide_eq_false hM]
    have hw : Hid (loseD d = (dsk0, 1300)) := hide (by rw [loseD, if_neg hM])
    clear hM
    obtain ⟨z0, z1, z2⟩ := box_dsk (dsk_put (x' := .bool false) (y' := .slice none 0 0) (z' := .slice none 0 0) (unhide RX))
    have hBz := hide (below_put (unhide HB) (r := w.heap.size + 1) (by omega) (.bool false) (.slice none 0 0) (.slice none 0 0))
    go_wp2
    refine bodyPost_ret (v := .tuple #[.agg #[.bool false, .slice none 0 0, .slice none 0 0], .int .i64 1300]) (by simp [results, Try.results24, go_sem, z0, z1, z2]) rfl ?_
    rw [unhide hw]
    exact ⟨_, rfl, DskO.zero _ _ _ _, unhide hBz⟩
set_option maxRecDepth 100000 in
set_option maxHeartbeats 1000000 in
theorem diskFlush_any (d : Dsk) (sa : Option Addr) (n sc : Nat) (ca : Option Addr) (m cc : Nat) (w : World) (hS : Strs w sa n sc d.secs) (hC : WrV w ca m cc d.cache) (hn : n * 16 ≤ 140737488351232) (hm : m * 24 ≤ 140737488351232) :
    Calls Try.prog 18 #[.agg #[.bool d.lost, .slice sa n sc, .slice ca m cc]] w (dskPost (flushD d) w) := by
  have hsl := hS.1
  have hcl := hC.1
  have HS := hide hS
  have HC := hide hC
  obtain ⟨b, eb⟩ : ∃ b, b = d.lost := ⟨_, rfl⟩
  have EB := hide eb
  rw [← eb]
  clear hS hC eb
  go_enter Try.func18, Try.ntmps18
  go_upto_region 1 with fail
  have HB := hide (below_two w (.cells #[.bool b, .slice sa n sc, .slice ca m cc] 25) (.cells #[.bool false, .slice none 0 0, .slice none 0 0] 25))
  have RX := hide (two_new w (.cells #[.bool b, .slice sa n sc, .slice ca m cc] 25) (.cells #[.bool false, .slice none 0 0, .slice none 0 0] 25))
  have BX := hide ((((below_alloc (w.alloc (.cells #[.bool b, .slice sa n sc, .slice ca m cc] 25)) (.cells #[.bool false, .slice none 0 0, .slice none 0 0] 25)).block w.heap.size (by simp)).trans (heap_alloc_new w (.cells #[.bool b, .slice sa n sc, .slice ca m cc] 25))))
  generalize ((w.alloc (.cells #[.bool b, .slice sa n sc, .slice ca m cc] 25)).alloc (.cells #[.bool false, .slice none 0 0, .slice none 0 0] 25)) = W at *
  obtain ⟨x0, x1, x2⟩ := box_dsk (unhide BX)
  go_wp2_with fail
  rw [unhide EB]
  refine (dwRefuse_any d sa n sc ca m cc W ((unhide HS).below (unhide HB)) ((unhide HC).below (unhide HB)) (by omega) (by omega)).mono ?_
  rintro e w1 ⟨rfl, b1⟩
  rw [← unhide EB]
  replace BX := hide ((b1.block _ (lt_of_block (unhide BX))).trans (unhide BX))
  replace RX := hide ((b1.block _ (lt_of_block (unhide RX))).trans (unhide RX))
  replace HB := hide (bt (unhide HB) b1)
  clear b1 x0 x1 x2
  obtain ⟨x0, x1, x2⟩ := box_dsk (unhide BX)
  obtain ⟨r0, r1, r2⟩ := box_dsk (unhide RX)
  have f0 := dsk_free (unhide RX) 0
  have f1 := dsk_free (unhide RX) 1
  have f2 := dsk_free (unhide RX) 2
  by_cases h0 : stateD d = 0
  · rw [h0]
    have H0 := hide h0
    have hw : Hid (flushD d = (lastsD d (-1), 0)) := hide (by rw [flushD, crashD, if_pos h0])
    clear h0
    have hr1 := lt_of_block (unhide RX)
    go_wp2_with fail
    rw [unhide EB]
    refine (dwSettleA_any d sa n sc ca m cc w1 ((unhide HS).below (unhide HB)) ((unhide HC).below (unhide HB)) (unhide H0)).mono ?_
    rintro e w2 ⟨v2, rfl, O2, b2⟩
    have hO := O2
    obtain ⟨pa, ka, pc, kc, ev, _, _⟩ := O2.read
    subst ev
    obtain ⟨l1, e1⟩ : ∃ l1, l1 = (lastsD d (-1)).secs.length := ⟨_, rfl⟩
    obtain ⟨l2, e2⟩ : ∃ l2, l2 = (lastsD d (-1)).cache.length := ⟨_, rfl⟩
    obtain ⟨lb, e3⟩ : ∃ lb, lb = (lastsD d (-1)).lost := ⟨_, rfl⟩
    rw [← e1, ← e2, ← e3] at hO ⊢
    rw [← unhide EB]
    have HO := hide hO
    replace RX := hide ((b2.block _ hr1).trans (unhide RX))
    replace HB := hide (bt (unhide HB) b2)
    clear b2 x0 x1 x2 r0 r1 r2 f0 f1 f2 O2 hO e1 e2 e3 BX
    obtain ⟨r0, r1, r2⟩ := box_dsk (unhide RX)
    have f0 := dsk_free (unhide RX) 0
    have f1 := dsk_free (unhide RX) 1
    have f2 := dsk_free (unhide RX) 2
    obtain ⟨q0, q1, q2⟩ := box_dsk (dsk_put (x' := .bool lb) (y' := .slice pa l1 ka) (z' := .slice pc l2 kc) (unhide RX))
    go_wp2
    refine bodyPost_ret (v := .tuple #[.agg #[.bool lb, .slice pa l1 ka, .slice pc l2 kc], .int .i64 0]) (by simp [results, Try.results18, go_sem, q0, q1, q2]) rfl ?_
    rw [unhide hw]
    exact ⟨_, rfl, ((unhide HO).put hr1 _ _ _).mono (by omega), below_put (unhide HB) (by omega) _ _ _⟩
  · have h0' := ne_zero h0
    have hw : flushD d = (dsk0, stateD d) := by rw [flushD, crashD, if_neg h0]
    obtain ⟨st, est⟩ : ∃ st, st = stateD d := ⟨_, rfl⟩
    rw [← est] at h0' hw ⊢
    have HWR := hide hw
    clear h0 est hw
    obtain ⟨z0, z1, z2⟩ := box_dsk (dsk_put (x' := .bool false) (y' := .slice none 0 0) (z' := .slice none 0 0) (unhide RX))
    have hBz := hide (below_put (unhide HB) (r := w.heap.size + 1) (by omega) (.bool false) (.slice none 0 0) (.slice none 0 0))
    go_wp2
    refine bodyPost_ret (v := .tuple #[.agg #[.bool false, .slice none 0 0, .slice none 0 0], .int .i64 st]) (by simp [results, Try.results18, go_sem, z0, z1, z2]) rfl ?_
    rw [unhide HWR]
    exact ⟨_, rfl, DskO.zero _ _ _ _, unhide hBz⟩
theorem dwThree_at (w : World) (x y z : Obj) : (((w.alloc x).alloc y).alloc z).heap[w.heap.size]? = some x ∧ (((w.alloc x).alloc y).alloc z).heap[w.heap.size + 1]? = some y ∧ (((w.alloc x).alloc y).alloc z).heap[w.heap.size + 1 + 1]? = some z := by
  refine ⟨?_, ?_, three_new w x y z⟩
  · rw [heap_alloc_old _ _ (by simp; omega), heap_alloc_old _ _ (by simp), heap_alloc_new w x]
  · rw [heap_alloc_old _ _ (by simp), two_new w x y]
set_option maxRecDepth 100000 in
set_option maxHeartbeats 1000000 in
theorem diskCrash_any (d : Dsk) (sa : Option Addr) (n sc : Nat) (ca : Option Addr) (m cc : Nat) (keep : Int) (w : World) (hS : Strs w sa n sc d.secs) (hC : WrV w ca m cc d.cache) (hn : n * 16 ≤ 140737488351232) (hm : m * 24 ≤ 140737488351232) :
    Calls Try.prog 20 #[.agg #[.bool d.lost, .slice sa n sc, .slice ca m cc], .int .i64 keep] w (dskPost (crashD d keep) w) := by
  have hmf : ∀ (fn : Fn) (first cap : Array Value) (w : World), (Instr.makeFunc fn first cap).run Try.prog w = .ok (.func fn first cap) w := fun _ _ _ _ => rfl
  have hsl := hS.1
  have hcl := hC.1
  have HS := hide hS
  have HC := hide hC
  obtain ⟨b, eb⟩ : ∃ b, b = d.lost := ⟨_, rfl⟩
  have EB := hide eb
  rw [← eb]
  clear hS hC eb
  go_enter Try.func20, Try.ntmps20
  go_upto_region 1 with fail
  obtain ⟨BX, KX, RX⟩ := dwThree_at w (.cells #[.bool b, .slice sa n sc, .slice ca m cc] 25) (.cells #[.int .i64 keep] 3) (.cells #[.bool false, .slice none 0 0, .slice none 0 0] 25)
  have HB := hide (bt (below_two w (.cells #[.bool b, .slice sa n sc, .slice ca m cc] 25) (.cells #[.int .i64 keep] 3)) (below_alloc _ (.cells #[.bool false, .slice none 0 0, .slice none 0 0] 25)))
  replace BX := hide BX
  replace KX := hide KX
  replace RX := hide RX
  generalize (((w.alloc (.cells #[.bool b, .slice sa n sc, .slice ca m cc] 25)).alloc (.cells #[.int .i64 keep] 3)).alloc (.cells #[.bool false, .slice none 0 0, .slice none 0 0] 25)) = W at *
  obtain ⟨x0, x1, x2⟩ := box_dsk (unhide BX)
  go_wp2_with fail
  rw [unhide EB]
  refine (dwRefuse_any d sa n sc ca m cc W ((unhide HS).below (unhide HB)) ((unhide HC).below (unhide HB)) (by omega) (by omega)).mono ?_
  rintro e w1 ⟨rfl, b1⟩
  rw [← unhide EB]
  replace BX := hide ((b1.block _ (lt_of_block (unhide BX))).trans (unhide BX))
  replace RX := hide ((b1.block _ (lt_of_block (unhide RX))).trans (unhide RX))
  replace KX := hide ((b1.block _ (lt_of_block (unhide KX))).trans (unhide KX))
  replace HB := hide (bt (unhide HB) b1)
  clear b1 x0 x1 x2
  obtain ⟨x0, x1, x2⟩ := box_dsk (unhide BX)
  obtain ⟨r0, r1, r2⟩ := box_dsk (unhide RX)
  have f0 := dsk_free (unhide RX) 0
  have f1 := dsk_free (unhide RX) 1
  have f2 := dsk_free (unhide RX) 2
  by_cases h0 : stateD d = 0
  · rw [h0]
    have H0 := hide h0
    have hw : Hid (crashD d keep = (lastsD d keep, 0)) := hide (by rw [crashD, if_pos h0])
    clear h0
    have hr1 := lt_of_block (unhide RX)
    go_wp2_with fail
    rw [unhide EB]
    refine (dwSettleK_any d sa n sc ca m cc keep (w.heap.size + 1) w1 ((unhide HS).below (unhide HB)) ((unhide HC).below (unhide HB)) (unhide H0) (unhide KX)).mono ?_
    rintro e w2 ⟨v2, rfl, O2, b2⟩
    have hO := O2
    obtain ⟨pa, ka, pc, kc, ev, _, _⟩ := O2.read
    subst ev
    obtain ⟨l1, e1⟩ : ∃ l1, l1 = (lastsD d keep).secs.length := ⟨_, rfl⟩
    obtain ⟨l2, e2⟩ : ∃ l2, l2 = (lastsD d keep).cache.length := ⟨_, rfl⟩
    obtain ⟨lb, e3⟩ : ∃ lb, lb = (lastsD d keep).lost := ⟨_, rfl⟩
    rw [← e1, ← e2, ← e3] at hO ⊢
    rw [← unhide EB]
    have HO := hide hO
    replace RX := hide ((b2.block _ hr1).trans (unhide RX))
    replace HB := hide (bt (unhide HB) b2)
    clear b2 x0 x1 x2 r0 r1 r2 f0 f1 f2 O2 hO e1 e2 e3 BX
    obtain ⟨r0, r1, r2⟩ := box_dsk (unhide RX)
    have f0 := dsk_free (unhide RX) 0
    have f1 := dsk_free (unhide RX) 1
    have f2 := dsk_free (unhide RX) 2
    obtain ⟨q0, q1, q2⟩ := box_dsk (dsk_put (x' := .bool lb) (y' := .slice pa l1 ka) (z' := .slice pc l2 kc) (unhide RX))
    go_wp2
    refine bodyPost_ret (v := .tuple #[.agg #[.bool lb, .slice pa l1 ka, .slice pc l2 kc], .int .i64 0]) (by simp [results, Try.results20, go_sem, q0, q1, q2]) rfl ?_
    rw [unhide hw]
    exact ⟨_, rfl, ((unhide HO).put hr1 _ _ _).mono (by omega), below_put (unhide HB) (by omega) _ _ _⟩
  · have h0' := ne_zero h0
    have hw : crashD d keep = (dsk0, stateD d) := by rw [crashD, if_neg h0]
    obtain ⟨st, est⟩ : ∃ st, st = stateD d := ⟨_, rfl⟩
    rw [← est] at h0' hw ⊢
    have HWR := hide hw
    clear h0 est hw
    obtain ⟨z0, z1, z2⟩ := box_dsk (dsk_put (x' := .bool false) (y' := .slice none 0 0) (z' := .slice none 0 0) (unhide RX))
    have hBz := hide (below_put (unhide HB) (r := w.heap.size + 1 + 1) (by omega) (.bool false) (.slice none 0 0) (.slice none 0 0))
    go_wp2
    refine bodyPost_ret (v := .tuple #[.agg #[.bool false, .slice none 0 0, .slice none 0 0], .int .i64 st]) (by simp [results, Try.results20, go_sem, z0, z1, z2]) rfl ?_
    rw [unhide HWR]
    exact ⟨_, rfl, DskO.zero _ _ _ _, unhide hBz⟩
end Go.Proofs.Ytpmbmhjhclekeaa
/- slices.Grow of no row, and slices.Concat of rows of writes: a row of the call's own, one behind the other. -/
namespace Go.Proofs.Ytpmbmhjhclekeaa
open Go.RowKit
set_option linter.unusedVariables false
set_option linter.unusedSimpArgs false
theorem takeW_flat_succ {α : Type} (sss : List (List α)) (k : Nat) (hk : k < sss.length) : (sss.take (k + 1)).flatten = (sss.take k).flatten ++ sss.getD k [] := by
  rw [List.take_succ_eq_append_getElem hk, List.flatten_append, List.getD, List.getElem?_eq_getElem hk]
  simp
theorem takeW_flat_le {α : Type} (sss : List (List α)) (k : Nat) : (sss.take k).flatten.length ≤ sss.flatten.length := by
  conv => rhs; rw [← List.take_append_drop k sss, List.flatten_append, List.length_append]
  omega
set_option maxRecDepth 100000 in
set_option maxHeartbeats 1000000 in
theorem growNilW_any (n : Nat) (w : World) (hn : n * 24 ≤ 140737488355328) :
    Calls Try.prog 55 #[.slice none 0 0, .int .i64 n] w fun e w' => ∃ v, e = .returned v ∧ w'.ownsRow w.heap.size 62 2 v 0 [] ∧ Below w.heap.size w w' := by
  have h1 : ¬ ((n : Int) < 0) := by omega
  have h3 : wrap64 ((n : Int)) = (n : Int) := by unfold wrap64; omega
  by_cases h0 : n = 0
  · subst h0
    go_enter Try.func55, Try.ntmps55
    go_wp2
    go_ret
    exact ⟨_, rfl, World.ownsRow_nil _ _ _ _, Below.refl _ _⟩
  · have h4 : (n : Int) > 0 := by omega
    obtain ⟨i0, hi, hz0, hz1, hz2⟩ := info_parts (P := Try.prog) (e := 62) (z := .agg #[.int .i64 0, .string ByteArray.empty]) (size := 2) (bytes := 24) Try.infoWr
    have hrz : ∀ ty, (Builtin.append_ #[23, 3] ty #[.slice none 0 0, .int .i64 (n : Int)]).run Try.prog w =
        .ok (.slice (some ⟨w.heap.size, 0, none⟩) n (grownCap w n 0 62)) (w.drew.alloc (.cells (Builtin.zeroCells (Value.agg #[.int .i64 0, .string ByteArray.empty]).cells n ++ Builtin.zeroCells (Value.agg #[.int .i64 0, .string ByteArray.empty]).cells (grownCap w n 0 62 - n)) 62)) := fun ty =>
      Lib.run_append_nil_zeros w 23 3 ty 62 i0 _ .i64 .i64 Try.underlying23 (by first | exact Try.underlyingInt | rfl) hi hz0 n (by omega) (by omega) (by omega) (by rw [hz2]; omega)
    have hG := grownCap_ge w n 0 62
    have hGm := grownCap_le_maxLen w n 0 62 (by unfold maxLen; omega)
    obtain ⟨G, eG⟩ : ∃ G, G = grownCap w n 0 62 := ⟨_, rfl⟩
    rw [← eG] at hrz hG hGm
    obtain ⟨cs, ecs⟩ : ∃ cs, cs = Builtin.zeroCells (Value.agg #[.int .i64 0, .string ByteArray.empty]).cells n ++ Builtin.zeroCells (Value.agg #[.int .i64 0, .string ByteArray.empty]).cells (G - n) := ⟨_, rfl⟩
    rw [← ecs] at hrz
    have hcs : cs.size = G * 2 := by
      rw [ecs, Array.size_append, size_zeroCells, size_zeroCells]
      simp [Value.cells]
      omega
    have HO := hide (World.ownsRow_made w.drew (base := w.heap.size) (e := 62) (size := 2) cs G (Nat.le_refl _) hGm hcs)
    have HB := hide ((below_drewN w w.heap.size 1).alloc (Nat.le_refl _) (.cells cs 62))
    have hG63 : G ≤ 9223372036854775807 := by unfold maxLen at hGm; omega
    have HR := hide hrz
    clear hcs ecs eG hGm hrz
    go_enter Try.func55, Try.ntmps55
    go_wp2_with (at_builtin; refine Lib.wpList_append_run _ rfl _ _ _ _ rfl _ _ rfl rfl _ _ (unhide HR _) ?_)
    go_ret
    exact ⟨_, rfl, unhide HO, unhide HB⟩
set_option maxRecDepth 100000 in
set_option maxHeartbeats 2000000 in
theorem concatW_any (g off n cap : Nat) (p : Nat → Option Addr) (c : Nat → Nat) (sss : List (List (Int × ByteArray))) (w : World) (hl : sss.length = n) (hn : n ≤ 140737488355328)
    (hc : ∀ i, i < n → w.cell? ⟨g, off + i, none⟩ = some (.slice (p i) (sss.getD i []).length (c i))) (hs : ∀ i, i < n → WrV w (p i) (sss.getD i []).length (c i) (sss.getD i []))
    (hb : sss.flatten.length * 24 ≤ 140737488355328) :
    Calls Try.prog 39 #[.slice (some ⟨g, off, none⟩) n cap] w fun e w' => ∃ v, e = .returned v ∧ w'.ownsRow w.heap.size 62 2 v sss.flatten.length (wrCells sss.flatten) ∧ Below w.heap.size w w' := by
  obtain ⟨F, eF⟩ : ∃ F, F = sss.flatten := ⟨_, rfl⟩
  rw [← eF]
  have EF := hide eF
  have HC := hide hc
  have HS := hide hs
  have HL := hide hl
  have HBD : Hid (sss.flatten.length * 24 ≤ 140737488355328) := hide hb
  have hn63 : (n : Int) ≤ 140737488355328 := by omega
  clear hc hs hl hb eF
  go_enter Try.func39, Try.ntmps39
  go_wp2
  go_loopw [3, 11] (fun sv iv wr => ∃ k : Nat, k ≤ n ∧ iv = .int .i64 k ∧ sv = .int .i64 ((sss.take k).flatten.length : Nat) ∧ wr = w) (fun _ iv _ => n - (intOf iv).toNat)
  case atStart => exact ⟨0, by omega, rfl, rfl, rfl⟩
  case round =>
    obtain ⟨k, hk, rfl, rfl, hw⟩ := hrel
    obtain rfl : w = wr := hw.symm
    have hT := takeW_flat_le sss k
    by_cases hlt : k < n
    · have hlt' : (k : Int) < n := by omega
      have c1 := unhide HC k hlt
      have eT : (sss.take (k + 1)).flatten.length = (sss.take k).flatten.length + (sss.getD k []).length := by rw [takeW_flat_succ sss k (by have := unhide HL; omega), List.length_append]
      have hT1 := takeW_flat_le sss (k + 1)
      rw [eT] at hT1
      have ET := hide eT
      have hbd := unhide HBD
      obtain ⟨T, eT'⟩ : ∃ T, T = (sss.take k).flatten.length := ⟨_, rfl⟩
      obtain ⟨m, em⟩ : ∃ m, m = (sss.getD k []).length := ⟨_, rfl⟩
      rw [← eT'] at hT hT1 ET ⊢
      rw [← em] at hT1 ET c1
      have hT2 : T + m ≤ 5864062014806 := by omega
      have hw1 : wrap64 ((T : Int) + (m : Int)) = ((T + m : Nat) : Int) := by unfold wrap64; omega
      have hneg : ¬ (((T + m : Nat) : Int) < 0) := by omega
      clear eT eT' em hT hT1 hbd
      go_wp2
      go_roundw
      case rel => exact ⟨k + 1, by omega, by go_num, by rw [unhide ET, Int.natCast_add], True.intro⟩
      case measure => simp [intOf]; omega
    · have hlt' : ¬ (k : Int) < n := by omega
      obtain rfl : k = n := by omega
      have hbd := unhide HBD
      have hfull : (sss.take k).flatten.length = sss.flatten.length := by rw [List.take_of_length_le (by have := unhide HL; omega)]
      rw [hfull]
      clear hfull hT
      obtain ⟨T, eT'⟩ : ∃ T, T = sss.flatten.length := ⟨_, rfl⟩
      rw [← eT'] at hbd ⊢
      clear eT'
      go_wp2_with fail
      refine (growNilW_any T w hbd).mono ?_
      rintro e w1 ⟨v1, rfl, O1, B1⟩
      have OO := hide O1
      have BB := hide B1
      clear O1 B1
      go_wp2
      go_loopw [6, 27] (fun rv iv w2 => ∃ j : Nat, j ≤ k ∧ iv = .int .i64 j ∧ Hid (w2.ownsRow w.heap.size 62 2 rv (sss.take j).flatten.length (wrCells (sss.take j).flatten)) ∧ Hid (Below w.heap.size w w2)) (fun _ iv _ => k - (intOf iv).toNat)
      case atStart => exact ⟨0, by omega, rfl, hide (by simpa [wrCells] using unhide OO), BB⟩
      case round =>
        obtain ⟨j, hj, rfl, O2, HW⟩ := hrel
        obtain ⟨p1, q1, e1, -⟩ := own_wr (unhide O2)
        obtain ⟨z, ez⟩ : ∃ z, z = (sss.take j).flatten.length := ⟨_, rfl⟩
        rw [← ez] at e1
        subst e1
        clear ez
        by_cases hlt2 : j < k
        · have hlt2' : (j : Int) < k := by omega
          have c1 := ((unhide HW).cell (cell_lt (unhide HC j hlt2))).trans (unhide HC j hlt2)
          have s1 := hide ((unhide HS j hlt2).below (unhide HW))
          have hT1 := takeW_flat_le sss (j + 1)
          have eT := takeW_flat_succ sss j (by have := unhide HL; omega)
          rw [eT, List.length_append] at hT1
          have ET := hide eT
          have hbd := unhide HBD
          have hsz := (unhide HW).size
          obtain ⟨T, eT'⟩ : ∃ T, T = (sss.take j).flatten := ⟨_, rfl⟩
          obtain ⟨m, em⟩ : ∃ m, m = sss.getD j [] := ⟨_, rfl⟩
          rw [← eT'] at hT1 ET O2
          rw [← em] at hT1 ET c1 s1
          have hlo := fun g e => (World.ownsRow.lt (unhide O2) g e).1
          have HLO := hide hlo
          clear eT eT' em hlo
          go_wp2_with (at_builtin; go_loud (refine wpList_append_rec wr (by rfl) (.tmp 31) (.tmp 32) 23 (by rfl) w.heap.size 62 (.agg #[.int .i64 0, .string ByteArray.empty]) 2 24 Try.underlying23 Try.infoWr rfl (by decide) _ T.length (wrCells T) (by rfl) (unhide O2) (p j) m.length (c j) _ (wrCells m) (by rfl) (unhide s1).2 (by rw [wrCells_len]) (fun i hi => by simp [List.getD, List.getElem?_eq_getElem (show i < (wrCells m).length by rw [wrCells_len]; exact hi)]) (wrCells_one _) (by unfold maxLen; omega) (by omega) hsz ?_); intro v3 w3 O3 G3; have B3 := hide ((unhide HW).grown G3 hsz (fun k' hk' => unhide HLO k' hk')); have OO3 := hide O3; clear O3 G3)
          go_roundw
          case rel =>
            refine ⟨j + 1, by omega, by go_num, hide ?_, B3⟩
            rw [unhide ET, wrCells_append, List.length_append]
            exact unhide OO3
          case measure => simp [intOf]; omega
        · have hlt2' : ¬ (j : Int) < k := by omega
          obtain rfl : j = k := by omega
          have O4 := unhide O2
          rw [List.take_of_length_le (by have := unhide HL; omega)] at O4
          have O5 := hide O4
          clear O2 O4
          go_wp2
          go_ret
          exact ⟨_, rfl, by rw [unhide EF]; exact unhide O5, unhide HW⟩
end Go.Proofs.Ytpmbmhjhclekeaa
/- Package disk: Read, New. -/
namespace Go.Proofs.Ytpmbmhjhclekeaa
open Go.RowKit
set_option linter.unusedVariables false
set_option linter.unusedSimpArgs false
attribute [local go_sem ↓] Go.wp_at_zero Go.wp_at_succ
theorem peekTo_64 {d : Dsk} {n : Nat} (hs : SecsOk d.secs n) {p : Nat} (hp : p < n) {m : Nat} (hc : ∀ i, i < m → (d.cache.getD i wr0).2.size = 64) : ∀ k, k ≤ m → (peekTo d (p : Int) k).size = 64
  | 0, _ => by
    have h := hs p hp
    show (d.secs.getD ((p : Int)).toNat _).size = 64
    rw [Int.toNat_natCast]; exact h
  | k + 1, h => by
    unfold peekTo
    split
    · exact hc k (by omega)
    · exact peekTo_64 hs hp hc k (by omega)
set_option maxRecDepth 100000 in
set_option maxHeartbeats 1000000 in
theorem diskRead_any (d : Dsk) (sa : Option Addr) (n sc : Nat) (ca : Option Addr) (m cc : Nat) (at_ : Int) (w : World) (hS : Strs w sa n sc d.secs) (hC : WrV w ca m cc d.cache) (hn : n ≤ 140737488351232) (hm : m ≤ 140737488351232) :
    Calls Try.prog 14 #[.agg #[.bool d.lost, .slice sa n sc, .slice ca m cc], .int .i64 at_] w fun e w' => e = .returned (.tuple #[.string (readD d at_).1, .int .i64 (readD d at_).2]) ∧ Below w.heap.size w w' := by
  have hsl := hS.1
  have hcl := hC.1
  have HS := hide hS
  have HC := hide hC
  obtain ⟨b, eb⟩ : ∃ b, b = d.lost := ⟨_, rfl⟩
  obtain ⟨R, eR⟩ : ∃ R, R = readD d at_ := ⟨_, rfl⟩
  rw [← eR]
  have ER := hide eR
  have EB := hide eb
  rw [← eb]
  have BX := hide (heap_alloc_new w (.cells #[.bool b, .slice sa n sc, .slice ca m cc] 25))
  have HB := hide (below_alloc w (.cells #[.bool b, .slice sa n sc, .slice ca m cc] 25))
  clear hS hC eb eR
  go_enter Try.func14, Try.ntmps14
  go_upto_region 1 with fail
  generalize (w.alloc (.cells #[.bool b, .slice sa n sc, .slice ca m cc] 25)) = W at *
  obtain ⟨x0, x1, x2⟩ := box_dsk (unhide BX)
  go_wp2_with fail
  rw [unhide EB]
  refine (dwRefuseAt_any d sa n sc ca m cc at_ W ((unhide HS).below (unhide HB)) ((unhide HC).below (unhide HB)) hn hm).mono ?_
  rintro e w1 ⟨rfl, b1⟩
  rw [← unhide EB]
  replace BX := hide ((b1.block _ (lt_of_block (unhide BX))).trans (unhide BX))
  replace HB := hide (bt (unhide HB) b1)
  clear b1 x0 x1 x2
  obtain ⟨x0, x1, x2⟩ := box_dsk (unhide BX)
  by_cases h0 : stateAt d at_ = 0
  · rw [h0]
    obtain ⟨hs0, ha0, han⟩ := stateAt_yes h0
    have H0 := hide hs0
    obtain ⟨hlost, hn1, hn72, hm256, hs64, hat⟩ := may_live hs0
    rw [hsl] at hn72 hs64 han
    rw [hcl] at hm256 hat
    have HS64 := hide hs64
    have HC64 := hide (fun i hi => (hat i hi).2.2)
    obtain ⟨p, rfl⟩ : ∃ p : Nat, at_ = (p : Int) := ⟨at_.toNat, by omega⟩
    have hp : p < n := by omega
    have hr : Hid (readD d p = (peekD d p, 0)) := hide (by rw [readD, if_pos hs0, if_pos ⟨ha0, by rw [hsl]; exact han⟩])
    obtain ⟨bs, os, es, hcell⟩ : ∃ b off, sa = some ⟨b, off, none⟩ ∧ ∀ i, i < n → w1.cell? ⟨b, off + i, none⟩ = some (.string (d.secs.getD i ByteArray.empty)) := by
      rcases ((unhide HS).below (unhide HB)).2.two with h | h
      · omega
      · exact h
    subst es
    have cS := hcell p hp
    obtain ⟨s0, es0⟩ : ∃ s0, s0 = d.secs.getD p ByteArray.empty := ⟨_, rfl⟩
    rw [← es0] at cS
    have ES0 : Hid (peekTo d p 0 = s0) := hide (by rw [es0]; show d.secs.getD ((p : Int)).toNat _ = _; rw [Int.toNat_natCast])
    have hc63 : n ≤ sc := by
      rcases (unhide HS).2 with h | h | h
      · omega
      · omega
      · exact h.2.1
    have hw1s := (unhide HB).size
    clear h0 hs0 hlost hs64 hat hcell es0
    go_wp2
    clear cS x0 x1 x2
    go_loopw [7, 24] (fun tv iv wr => ∃ k : Nat, k ≤ m ∧ iv = .int .i64 k ∧ tv = .string (peekTo d p k) ∧ Hid (Below w.heap.size w wr)) (fun _ iv _ => m - (intOf iv).toNat)
    case atStart => exact ⟨0, by omega, rfl, by rw [unhide ES0], HB⟩
    case round =>
      obtain ⟨k, hk, rfl, rfl, HBr⟩ := hrel
      obtain ⟨T, eT⟩ : ∃ T, T = peekTo d p k := ⟨_, rfl⟩
      have ET := hide eT
      rw [← eT]
      clear eT
      by_cases hlt : k < m
      · have hlt' : (k : Int) < m := by omega
        obtain ⟨bc, oc, ec, hcm, hcw⟩ := ((unhide HC).below (unhide HBr)).at hlt
        subst ec
        obtain ⟨c0, c1⟩ := hcw k hlt
        obtain ⟨a2, ea2⟩ : ∃ a2, a2 = (d.cache.getD k wr0).1 := ⟨_, rfl⟩
        obtain ⟨t2, et2⟩ : ∃ t2, t2 = (d.cache.getD k wr0).2 := ⟨_, rfl⟩
        rw [← ea2] at c0
        rw [← et2] at c1
        have EA2 := hide ea2
        have ET2 := hide et2
        clear hcw ea2 et2
        go_upto_region 8 with fail
        have X0 := hide (heap_alloc_new wr (.cells #[.int .i64 a2, .string t2] 62))
        have HB5 := hide (bt (unhide HBr) (below_alloc wr (.cells #[.int .i64 a2, .string t2] 62)))
        clear HBr c0 c1
        generalize (wr.alloc (.cells #[.int .i64 a2, .string t2] 62)) = W5 at *
        obtain ⟨y0, y1⟩ := box_two (unhide X0)
        by_cases hat : a2 = (p : Int)
        · have hat' : (a2 == (p : Int)) = true := by simpa using hat
          have HAT := hide hat
          clear hat
          go_wp2
          go_roundw
          case rel =>
            refine ⟨k + 1, by omega, by go_num, ?_, HB5⟩
            show _ = Value.string (if (d.cache.getD k wr0).1 = (p : Int) then (d.cache.getD k wr0).2 else peekTo d p k)
            rw [if_pos (by rw [← unhide EA2]; exact unhide HAT), ← unhide ET2]
          case measure => simp [intOf]; omega
        · have hat' : (a2 == (p : Int)) = false := by simpa using hat
          have HAT := hide hat
          clear hat
          go_wp2
          go_roundw
          case rel =>
            refine ⟨k + 1, by omega, by go_num, ?_, HB5⟩
            show _ = Value.string (if (d.cache.getD k wr0).1 = (p : Int) then (d.cache.getD k wr0).2 else peekTo d p k)
            rw [if_neg (by rw [← unhide EA2]; exact unhide HAT), ← unhide ET]
          case measure => simp [intOf]; omega
      · have hlt' : ¬ (k : Int) < m := by omega
        obtain rfl : m = k := by omega
        have h64 := peekTo_64 (unhide HS64) hp (unhide HC64) m (Nat.le_refl _)
        rw [← unhide ET] at h64
        have H64 := hide h64
        clear h64
        go_wp2_with fail
        refine (clone_any T wr (by rw [unhide H64]; decide) (by rw [unhide H64]; decide)).mono ?_
        rintro e w6 ⟨rfl, b6⟩
        have HB6 := hide (bt (unhide HBr) b6)
        clear b6
        go_wp2
        go_ret2
        exact ⟨by rw [unhide ER, unhide hr, peekD, hcl, ← unhide ET]; rfl, unhide HB6⟩
  · have h0' := ne_zero h0
    have HR : Hid (readD d at_ = (ByteArray.empty, stateAt d at_)) := hide (stateAt_no h0).1
    obtain ⟨st, est⟩ : ∃ st, st = stateAt d at_ := ⟨_, rfl⟩
    rw [← est] at h0' HR ⊢
    clear h0 est
    go_wp2
    go_ret2
    exact ⟨by rw [unhide ER, unhide HR]; rfl, unhide HB⟩
theorem dwZeros_conv (w : World) : (convert 54 9 (.slice (some ⟨w.heap.size, 0, none⟩) 64 64)).run Try.prog (w.alloc (.cells (madeCells #[.int .u8 0] 64) 5)) = .ok (.string (zerosB 64)) (w.alloc (.cells (madeCells #[.int .u8 0] 64) 5)) := by
  have HO := own_mk8 w w.heap.size 64 5 (Nat.le_refl _) (by unfold maxLen; omega)
  have hcell : ∀ j, j < 64 → (w.alloc (.cells (madeCells #[.int .u8 0] 64) 5)).cell? ⟨w.heap.size, 0 + j, none⟩ = some (.int .u8 ((List.replicate 64 (0 : Int)).getD j 0)) := fun j hj => by
    rw [Nat.zero_add, World.ownsRow.cellAt (own_row' HO) j (by simpa using hj), List.getElem?_map, List.getElem?_eq_getElem (by simpa using hj)]
    simp [List.getD, hj]
  exact run_convert_bytes_arg (P := Try.prog) (w.alloc (.cells (madeCells #[.int .u8 0] 64) 5)) 54 5 Try.underlying54 Try.underlying5 w.heap.size 0 64 64 (List.replicate 64 0) (by simp) hcell 9 Try.underlying9
set_option maxRecDepth 100000 in
set_option maxHeartbeats 1000000 in
theorem diskNew_any (x : Int) (w : World) : Calls Try.prog 9 #[.int .i64 x] w (dskPost (newD x) w) := by
  go_enter Try.func9, Try.ntmps9
  go_upto_region 1 with fail
  have HB := hide (below_alloc w (.cells #[.bool false, .slice none 0 0, .slice none 0 0] 25))
  have RX := hide (heap_alloc_new w (.cells #[.bool false, .slice none 0 0, .slice none 0 0] 25))
  have hsz : (w.alloc (.cells #[.bool false, .slice none 0 0, .slice none 0 0] 25)).heap.size = w.heap.size + 1 := by simp
  have HSZ := hide hsz
  clear hsz
  generalize (w.alloc (.cells #[.bool false, .slice none 0 0, .slice none 0 0] 25)) = W at *
  by_cases hok : 1 ≤ x ∧ x ≤ 72
  · have hw : Hid (newD x = (⟨false, List.replicate x.toNat (zerosB 64), []⟩, 0)) := hide (by rw [newD, if_pos hok])
    obtain ⟨h1, h2⟩ := hok
    have d1 : decide (x < 1) = false := decide_eq_false (by omega)
    have d2 : decide ((72 : Int) < x) = false := decide_eq_false (by omega)
    obtain ⟨n, rfl⟩ : ∃ n : Nat, x = (n : Int) := ⟨x.toNat, by omega⟩
    have hn72 : n ≤ 72 := by omega
    have hmk := fun w => run_make_row' (P := Try.prog) 22 9 (.string ByteArray.empty) 16 Try.underlying22 Try.infoText rfl .i64 .i64 n (by omega) (by omega) w
    go_upto_region 4 with fail
    clear hmk d1 d2
    obtain ⟨A, eA⟩ : ∃ A, A = W.heap.size := ⟨_, rfl⟩
    have HO := hide (own_mkT W W.heap.size n 9 (Nat.le_refl _) (by unfold maxLen; omega))
    have b3 := below_alloc W (.cells (madeCells #[.string ByteArray.empty] n) 9)
    replace RX := hide ((b3.block _ (lt_of_block (unhide RX))).trans (unhide RX))
    replace HB := hide (bt (unhide HB) b3)
    have hs3 : (W.alloc (.cells (madeCells #[.string ByteArray.empty] n) 9)).heap.size = A + 1 := by rw [eA]; simp
    have HS3 := hide hs3
    clear b3 hs3
    generalize (W.alloc (.cells (madeCells #[.string ByteArray.empty] n) 9)) = W3 at *
    rw [← eA] at HO HSZ ⊢
    clear eA
    obtain ⟨Z, eZ⟩ : ∃ Z, Z = zerosB 64 := ⟨_, rfl⟩
    have EZ := hide eZ
    clear eZ
    have hmk8 : ∀ w, (Instr.makeSlice 54 (.int .i64 64) (.int .i64 64)).run Try.prog w = .ok (.slice (some ⟨w.heap.size, 0, none⟩) 64 64) (w.alloc (.cells (madeCells #[.int .u8 0] 64) 5)) := fun w => run_make_row' (P := Try.prog) 54 5 (.int .u8 0) 1 Try.underlying54 Try.infoByte8 rfl .i64 .i64 64 (by omega) (by omega) w
    have HMK := hide hmk8
    clear hmk8
    go_wp2
    go_loopw [17] (fun iv wr => ∃ k : Nat, k ≤ n ∧ iv = .int .i64 k ∧ A < wr.heap.size ∧ Hid (wr.heap[w.heap.size]? = some (.cells #[.bool false, .slice none 0 0, .slice none 0 0] 25 (0, 0))) ∧ Hid (OwnL wr A 9 (.slice (some ⟨A, 0, none⟩) n n) (((List.replicate n Z).take k ++ List.replicate (n - k) ByteArray.empty).map Value.string)) ∧ Hid (Below w.heap.size w wr)) (fun iv _ => n - (intOf iv).toNat)
    case atStart => exact ⟨0, by omega, rfl, by rw [unhide HS3]; omega, RX, hide (by simpa using unhide HO), HB⟩
    case round =>
      obtain ⟨k, hk, rfl, hAr, RXr, HO, HBr⟩ := hrel
      by_cases hlt : k < n
      · have hlt' : (k : Int) < n := by omega
        have hmk8 := unhide HMK
        have b8 := below_alloc wr (.cells (madeCells #[.int .u8 0] 64) 5)
        have hcb := dwZeros_conv wr
        rw [← unhide EZ] at hcb
        have HO8 := hide ((unhide HO).below b8)
        have HB8 := hide (bt (unhide HBr) b8)
        have RX8 := hide ((b8.block _ (lt_of_block (unhide RXr))).trans (unhide RXr))
        have hA8 : A < (wr.alloc (.cells (madeCells #[.int .u8 0] 64) 5)).heap.size := by simp; omega
        have HA8 := hide hA8
        clear hA8 b8
        have hkl : k < ((List.replicate n Z).take k ++ List.replicate (n - k) ByteArray.empty).length := by
          rw [List.length_append, List.length_take, List.length_replicate, List.length_replicate]; omega
        have HKL := hide hkl
        clear hkl
        have cS := own_cellT (unhide HO8) k (unhide HKL)
        have fS := own_free (unhide HO8) k
        obtain ⟨s0, es0⟩ : ∃ s0, s0 = ((List.replicate n Z).take k ++ List.replicate (n - k) ByteArray.empty).getD k ByteArray.empty := ⟨_, rfl⟩
        rw [← es0] at cS
        clear es0
        go_wp2
        go_roundw
        case rel =>
          have hww : w.heap.size < A := by have := unhide HSZ; omega
          have bz := below_alloc (wr.setCell ⟨A, k, none⟩ (.string Z)) (.cells (madeCells #[.int .u8 0] 64) 5)
          have r1 := (Below.heap_setCell wr ⟨A, k, none⟩ (.string Z) w.heap.size (by show w.heap.size ≠ A; omega)).trans (unhide RXr)
          refine ⟨k + 1, by omega, by go_num, (by have := bz.size; rw [World.size_setCell] at this; omega), hide ?_, hide ?_, hide (bt ((unhide HBr).setCell (p := ⟨A, k, none⟩) (by show w.heap.size ≤ A; omega) _) bz)⟩
          · exact (bz.block _ (lt_of_block r1)).trans r1
          · have hP := own_put (unhide HO) k (.string Z)
            have e := filled_set (List.replicate n Z) ByteArray.empty hlt (by simp)
            rw [show (List.replicate n Z).getD k ByteArray.empty = Z by simp [List.getD, hlt]] at e
            rw [← List.map_set, e] at hP
            exact hP.below bz
        case measure => simp [intOf]; omega
      · have hlt' : ¬ (k : Int) < n := by omega
        obtain rfl : n = k := by omega
        obtain ⟨r0, r1, r2⟩ := box_dsk (unhide RXr)
        have f0 := dsk_free (unhide RXr) 0
        have f1 := dsk_free (unhide RXr) 1
        have f2 := dsk_free (unhide RXr) 2
        obtain ⟨q0, q1, q2⟩ := box_dsk (dsk_put (x' := .bool false) (y' := .slice (some ⟨A, 0, none⟩) n n) (z' := .slice none 0 0) (unhide RXr))
        go_wp2
        refine bodyPost_ret (v := .tuple #[.agg #[.bool false, .slice (some ⟨A, 0, none⟩) n n, .slice none 0 0], .int .i64 0]) (by simp [results, Try.results9, go_sem, q0, q1, q2]) rfl ?_
        rw [unhide hw, Int.toNat_natCast, ← unhide EZ]
        have hf := unhide HO
        rw [Nat.sub_self, List.take_of_length_le (by simp), List.replicate_zero, List.append_nil] at hf
        have hO : DskO wr A 9 62 (.agg #[.bool false, .slice (some ⟨A, 0, none⟩) n n, .slice none 0 0]) ⟨false, List.replicate n Z, []⟩ := ⟨_, _, rfl, hf, World.ownsRow_nil _ _ _ _⟩
        exact ⟨_, rfl, (hO.put (by have := unhide HSZ; omega) _ _ _).mono (by have := unhide HSZ; omega), below_put (unhide HBr) (Nat.le_refl _) _ _ _⟩
  · have hw : Hid (newD x = (dsk0, 1300)) := hide (by rw [newD, if_neg hok])
    obtain ⟨r0, r1, r2⟩ := box_dsk (unhide RX)
    have f0 := dsk_free (unhide RX) 0
    have f1 := dsk_free (unhide RX) 1
    have f2 := dsk_free (unhide RX) 2
    obtain ⟨z0, z1, z2⟩ := box_dsk (dsk_put (x' := .bool false) (y' := .slice none 0 0) (z' := .slice none 0 0) (unhide RX))
    have hBz := hide (below_put (unhide HB) (r := w.heap.size) (by omega) (.bool false) (.slice none 0 0) (.slice none 0 0))
    by_cases h1 : x < 1
    · have d1 : decide (x < 1) = true := decide_eq_true h1
      go_wp2
      refine bodyPost_ret (v := .tuple #[.agg #[.bool false, .slice none 0 0, .slice none 0 0], .int .i64 1300]) (by simp [results, Try.results9, go_sem, z0, z1, z2]) rfl ?_
      rw [unhide hw]
      exact ⟨_, rfl, DskO.zero _ _ _ _, unhide hBz⟩
    · have d1 : decide (x < 1) = false := decide_eq_false h1
      have h2 : (72 : Int) < x := by omega
      have d2 : decide ((72 : Int) < x) = true := decide_eq_true h2
      go_wp2
      refine bodyPost_ret (v := .tuple #[.agg #[.bool false, .slice none 0 0, .slice none 0 0], .int .i64 1300]) (by simp [results, Try.results9, go_sem, z0, z1, z2]) rfl ?_
      rw [unhide hw]
      exact ⟨_, rfl, DskO.zero _ _ _ _, unhide hBz⟩
end Go.Proofs.Ytpmbmhjhclekeaa
/- Package disk: Write. -/
namespace Go.Proofs.Ytpmbmhjhclekeaa
open Go.RowKit
set_option linter.unusedVariables false
set_option linter.unusedSimpArgs false
attribute [local go_sem ↓] Go.wp_at_zero Go.wp_at_succ
theorem writes_64 {l : List (Int × ByteArray)} {m : Nat} (hl : l.length = m) (h : ∀ i, i < m → (l.getD i wr0).2.size = 64) {at_ : Int} {s : ByteArray} (hs : s.size = 64) : ∀ i, i < m + 1 → ((l ++ [(at_, s)]).getD i wr0).2.size = 64 := by
  intro i hi
  by_cases h1 : i < m
  · have := h i h1
    rwa [List.getD, List.getElem?_append_left (by omega), ← List.getD]
  · obtain rfl : i = m := by omega
    rw [List.getD, List.getElem?_append_right (by omega), hl, Nat.sub_self]
    exact hs
set_option maxRecDepth 100000 in
set_option maxHeartbeats 1000000 in
theorem diskWrite_any (d : Dsk) (sa : Option Addr) (n sc : Nat) (ca : Option Addr) (m cc : Nat) (at_ : Int) (s : ByteArray) (w : World) (hS : Strs w sa n sc d.secs) (hC : WrV w ca m cc d.cache) (hn : n * 16 ≤ 140737488351232) (hm : m * 24 ≤ 140737488351232) :
    Calls Try.prog 16 #[.agg #[.bool d.lost, .slice sa n sc, .slice ca m cc], .int .i64 at_, .string s] w (dskPost (writeD d at_ s) w) := by
  have hsl := hS.1
  have hcl := hC.1
  have HS := hide hS
  have HC := hide hC
  obtain ⟨b, eb⟩ : ∃ b, b = d.lost := ⟨_, rfl⟩
  have EB := hide eb
  rw [← eb]
  clear hS hC eb
  go_enter Try.func16, Try.ntmps16
  go_upto_region 1 with fail
  have HB := hide (below_two w (.cells #[.bool b, .slice sa n sc, .slice ca m cc] 25) (.cells #[.bool false, .slice none 0 0, .slice none 0 0] 25))
  have RX := hide (two_new w (.cells #[.bool b, .slice sa n sc, .slice ca m cc] 25) (.cells #[.bool false, .slice none 0 0, .slice none 0 0] 25))
  have BX := hide ((((below_alloc (w.alloc (.cells #[.bool b, .slice sa n sc, .slice ca m cc] 25)) (.cells #[.bool false, .slice none 0 0, .slice none 0 0] 25)).block w.heap.size (by simp)).trans (heap_alloc_new w (.cells #[.bool b, .slice sa n sc, .slice ca m cc] 25))))
  generalize ((w.alloc (.cells #[.bool b, .slice sa n sc, .slice ca m cc] 25)).alloc (.cells #[.bool false, .slice none 0 0, .slice none 0 0] 25)) = W at *
  obtain ⟨x0, x1, x2⟩ := box_dsk (unhide BX)
  go_wp2_with fail
  rw [unhide EB]
  refine (dwRefuseAt_any d sa n sc ca m cc at_ W ((unhide HS).below (unhide HB)) ((unhide HC).below (unhide HB)) (by omega) (by omega)).mono ?_
  rintro e w1 ⟨rfl, b1⟩
  rw [← unhide EB]
  replace BX := hide ((b1.block _ (lt_of_block (unhide BX))).trans (unhide BX))
  replace RX := hide ((b1.block _ (lt_of_block (unhide RX))).trans (unhide RX))
  replace HB := hide (bt (unhide HB) b1)
  clear b1 x0 x1 x2
  obtain ⟨x0, x1, x2⟩ := box_dsk (unhide BX)
  obtain ⟨r0, r1, r2⟩ := box_dsk (unhide RX)
  have f0 := dsk_free (unhide RX) 0
  have f1 := dsk_free (unhide RX) 1
  have f2 := dsk_free (unhide RX) 2
  obtain ⟨z0, z1, z2⟩ := box_dsk (dsk_put (x' := .bool false) (y' := .slice none 0 0) (z' := .slice none 0 0) (unhide RX))
  have hBz := hide (below_put (unhide HB) (r := w.heap.size + 1) (by omega) (.bool false) (.slice none 0 0) (.slice none 0 0))
  have hno : ∀ (c : Int), writeD d at_ s = (dsk0, c) → ∀ W', (((w1.setCell ⟨w.heap.size + 1, 0, none⟩ (.bool false)).setCell ⟨w.heap.size + 1, 1, none⟩ (.slice none 0 0)).setCell ⟨w.heap.size + 1, 2, none⟩ (.slice none 0 0)) = W' →
      dskPost (writeD d at_ s) w (.returned (.tuple #[.agg #[.bool false, .slice none 0 0, .slice none 0 0], .int .i64 c])) W' := fun c hc W' hW => by
    subst hW
    rw [hc]
    exact ⟨_, rfl, DskO.zero _ _ _ _, unhide hBz⟩
  have HNO := hide hno
  clear hno
  by_cases h0 : stateAt d at_ = 0
  · rw [h0]
    obtain ⟨hs0, ha0, han⟩ := stateAt_yes h0
    have H0 := hide hs0
    obtain ⟨hlost, hn1, hn72, hm256, hs64, hat⟩ := may_live hs0
    rw [hsl] at hn72 hs64 han hn1
    rw [hcl] at hm256 hat
    have HLOST := hide hlost
    have HS64 := hide hs64
    have HC64 := hide (fun i hi => (hat i hi).2.2)
    clear h0 hs0 hlost hs64 hat
    by_cases h3 : s.size = 64
    · by_cases h4 : m < 256
      · have hw : Hid (writeD d at_ s = (⟨d.lost, d.secs, d.cache ++ [(at_, s)]⟩, 0)) := hide (by rw [writeD, if_pos (unhide H0), if_pos ⟨ha0, by rw [hsl]; exact han, h3, by rw [hcl]; exact h4⟩])
        have d4 : ((m : Int) == 256) = false := by simp; omega
        have H3 := hide h3
        have h3' : ¬ (s.size ≠ 64) := by omega
        clear z0 z1 z2 hBz HNO h3 ha0 han
        go_wp2_with fail
        refine (dwNo_any s w1).mono ?_
        rintro e w2 ⟨rfl, rfl⟩
        rw [decide_eq_false h3']
        clear h3'
        go_wp2_with fail
        have b3 := below_two w2 (.cells #[.int .i64 at_, .string s] 62) (.cells #[.slice ca m cc, .slice (some ⟨w2.heap.size, 0, none⟩) 1 1] 23)
        have hg := two_new w2 (.cells #[.int .i64 at_, .string s] 62) (.cells #[.slice ca m cc, .slice (some ⟨w2.heap.size, 0, none⟩) 1 1] 23)
        have h1 := World.ownsRow_lit (e := 62) (size := 2) w2 #[.int .i64 at_, .string s] 1 (Nat.le_refl _) (by decide) (by rfl)
        obtain ⟨a1, c1, e1, hV1⟩ := own_wr (l := [(at_, s)]) (E := 62) (B := w2.heap.size) (v := .slice (some ⟨w2.heap.size, 0, none⟩) 1 1) h1
        simp only [Value.slice.injEq, List.length_cons, List.length_nil, true_and] at e1
        obtain ⟨e1, e2⟩ := e1
        subst e1 e2
        have HV1 := hide (hV1.below (below_alloc _ (.cells #[.slice ca m cc, .slice (some ⟨w2.heap.size, 0, none⟩) 1 1] 23)))
        have HSZ2 := hide b3.size
        obtain ⟨g0, g1⟩ := box_two hg
        replace BX := hide ((b3.block _ (lt_of_block (unhide BX))).trans (unhide BX))
        replace RX := hide ((b3.block _ (lt_of_block (unhide RX))).trans (unhide RX))
        replace HB := hide (bt (unhide HB) b3)
        clear b3 hg h1 hV1 x0 x1 x2 r0 r1 r2 f0 f1 f2
        generalize ((w2.alloc (.cells #[.int .i64 at_, .string s] 62)).alloc (.cells #[.slice ca m cc, .slice (some ⟨w2.heap.size, 0, none⟩) 1 1] 23)) = W3 at *
        have hfl : [d.cache, [(at_, s)]].flatten = d.cache ++ [(at_, s)] := by simp
        refine (concatW_any (w2.heap.size + 1) 0 2 2 (fun i => if i = 0 then ca else some ⟨w2.heap.size, 0, none⟩) (fun i => if i = 0 then cc else 1) [d.cache, [(at_, s)]] W3 rfl (by decide)
          (fun i hi => by
            rcases (show i = 0 ∨ i = 1 by omega) with rfl | rfl
            · simpa [hcl] using g0
            · simpa using g1)
          (fun i hi => by
            rcases (show i = 0 ∨ i = 1 by omega) with rfl | rfl
            · simpa [hcl] using (unhide HC).below (unhide HB)
            · simpa using unhide HV1) (by rw [hfl, List.length_append, hcl]; simp; omega)).mono ?_
        rintro e w4 ⟨v4, rfl, O4, b4⟩
        rw [hfl] at O4
        obtain ⟨p4, c4, e4, hV4⟩ := own_wr O4
        subst e4
        have hl4 : (d.cache ++ [(at_, s)]).length = m + 1 := by rw [List.length_append, hcl]; rfl
        rw [hl4] at hV4 ⊢
        have HV4 := hide hV4
        replace BX := hide ((b4.block _ (lt_of_block (unhide BX))).trans (unhide BX))
        replace RX := hide ((b4.block _ (lt_of_block (unhide RX))).trans (unhide RX))
        replace HB := hide (bt (unhide HB) b4)
        clear b4 O4 hV4 g0 g1 HV1
        obtain ⟨x0, x1, x2⟩ := box_dsk (unhide BX)
        go_wp2_with fail
        refine (dwCloneTexts_any sa n sc d.secs w4 ((unhide HS).below (unhide HB)) (unhide HS64) hn72).mono ?_
        rintro e w5 ⟨v5, rfl, O5, b5⟩
        obtain ⟨p5, c5, e5⟩ := O5.form
        rw [List.length_map, hsl] at e5
        subst e5
        have HO5 := hide O5
        have hs4 := (unhide HB).size
        have hr4 := lt_of_block (unhide RX)
        have hs45 := b5.size
        replace BX := hide ((b5.block _ (lt_of_block (unhide BX))).trans (unhide BX))
        replace RX := hide ((b5.block _ (lt_of_block (unhide RX))).trans (unhide RX))
        replace HV4 := hide ((unhide HV4).below b5)
        replace HB := hide (bt (unhide HB) b5)
        clear b5 O5 x0 x1 x2
        go_wp2_with fail
        refine (dwCloneWrites_any p4 (m + 1) c4 (d.cache ++ [(at_, s)]) w5 (unhide HV4) (writes_64 hcl (unhide HC64) (unhide H3)) (by omega)).mono ?_
        rintro e w6 ⟨v6, rfl, O6, b6⟩
        obtain ⟨p6, c6, e6, -⟩ := own_wr O6
        subst e6
        have hl6 := hl4
        rw [hl6] at O6 ⊢
        have HO6 := hide O6
        have hs5 := (unhide HB).size
        replace HO5 := hide ((unhide HO5).below b6)
        replace RX := hide ((b6.block _ (lt_of_block (unhide RX))).trans (unhide RX))
        replace HB := hide (bt (unhide HB) b6)
        clear b6 O6
        obtain ⟨r0, r1, r2⟩ := box_dsk (unhide RX)
        have f0 := dsk_free (unhide RX) 0
        have f1 := dsk_free (unhide RX) 1
        have f2 := dsk_free (unhide RX) 2
        obtain ⟨q0, q1, q2⟩ := box_dsk (dsk_put (x' := .bool false) (y' := .slice p5 n c5) (z' := .slice p6 (m + 1) c6) (unhide RX))
        go_wp2
        refine bodyPost_ret (v := .tuple #[.agg #[.bool false, .slice p5 n c5, .slice p6 (m + 1) c6], .int .i64 0]) (by simp [results, Try.results16, go_sem, q0, q1, q2]) rfl ?_
        rw [unhide hw]
        have hO : DskO w6 w4.heap.size 9 62 (.agg #[.bool false, .slice p5 n c5, .slice p6 (m + 1) c6]) ⟨d.lost, d.secs, d.cache ++ [(at_, s)]⟩ := by
          refine ⟨_, _, by rw [show (Dsk.mk d.lost d.secs (d.cache ++ [(at_, s)])).lost = d.lost from rfl, unhide HLOST], unhide HO5, ?_⟩
          show w6.ownsRow _ _ 2 _ (d.cache ++ [(at_, s)]).length (wrCells (d.cache ++ [(at_, s)]))
          rw [hl4]
          exact ownZ_mono' (unhide HO6) hs45
        exact ⟨_, rfl, (hO.put hr4 _ _ _).mono hs4, below_put (unhide HB) (by omega) _ _ _⟩
      · have hw : Hid (writeD d at_ s = (dsk0, 1300)) := hide (by rw [writeD, if_pos (unhide H0), if_neg (by rw [hsl, hcl]; omega)])
        have h4 : m = 256 := by omega
        subst h4
        have h3' : ¬ (s.size ≠ 64) := by omega
        clear h3 ha0 han
        go_wp2_with fail
        refine (dwNo_any s w1).mono ?_
        rintro e w2 ⟨rfl, rfl⟩
        rw [decide_eq_false h3']
        clear h3'
        go_wp2
        refine bodyPost_ret (v := .tuple #[.agg #[.bool false, .slice none 0 0, .slice none 0 0], .int .i64 1300]) (by simp [results, Try.results16, go_sem, z0, z1, z2]) rfl (unhide HNO 1300 (unhide hw) _ rfl)
    · have hw : Hid (writeD d at_ s = (dsk0, 1300)) := hide (by rw [writeD, if_pos (unhide H0), if_neg (by rw [hsl, hcl]; omega)])
      clear ha0 han
      go_wp2_with fail
      refine (dwNo_any s w1).mono ?_
      rintro e w2 ⟨rfl, rfl⟩
      rw [decide_eq_true h3]
      clear h3
      go_wp2
      refine bodyPost_ret (v := .tuple #[.agg #[.bool false, .slice none 0 0, .slice none 0 0], .int .i64 1300]) (by simp [results, Try.results16, go_sem, z0, z1, z2]) rfl (unhide HNO 1300 (unhide hw) _ rfl)
  · have h0' := ne_zero h0
    have hw : writeD d at_ s = (dsk0, stateAt d at_) := (stateAt_no h0).2.1 s
    obtain ⟨st, est⟩ : ∃ st, st = stateAt d at_ := ⟨_, rfl⟩
    rw [← est] at h0' hw ⊢
    have HWR := hide hw
    clear h0 est hw
    go_wp2
    refine bodyPost_ret (v := .tuple #[.agg #[.bool false, .slice none 0 0, .slice none 0 0], .int .i64 st]) (by simp [results, Try.results16, go_sem, z0, z1, z2]) rfl (unhide HNO st (unhide HWR) _ rfl)
end Go.Proofs.Ytpmbmhjhclekeaa
/- Package disk: Rot. -/
namespace Go.Proofs.Ytpmbmhjhclekeaa
open Go.RowKit
set_option linter.unusedVariables false
set_option linter.unusedSimpArgs false
attribute [local go_sem ↓] Go.wp_at_zero Go.wp_at_succ
set_option maxRecDepth 100000 in
set_option maxHeartbeats 1000000 in
theorem diskRot_any (d : Dsk) (sa : Option Addr) (n sc : Nat) (ca : Option Addr) (m cc : Nat) (at_ pl by_ : Int) (w : World) (hS : Strs w sa n sc d.secs) (hC : WrV w ca m cc d.cache) (hn : n * 16 ≤ 140737488351232) (hm : m * 24 ≤ 140737488351232) :
    Calls Try.prog 22 #[.agg #[.bool d.lost, .slice sa n sc, .slice ca m cc], .int .i64 at_, .int .i64 pl, .int .i64 by_] w (dskPost (rotD d at_ pl by_) w) := by
  have hsl := hS.1
  have hcl := hC.1
  have HS := hide hS
  have HC := hide hC
  obtain ⟨b, eb⟩ : ∃ b, b = d.lost := ⟨_, rfl⟩
  have EB := hide eb
  rw [← eb]
  clear hS hC eb
  go_enter Try.func22, Try.ntmps22
  go_upto_region 1 with fail
  have HB := hide (below_two w (.cells #[.bool b, .slice sa n sc, .slice ca m cc] 25) (.cells #[.bool false, .slice none 0 0, .slice none 0 0] 25))
  have RX := hide (two_new w (.cells #[.bool b, .slice sa n sc, .slice ca m cc] 25) (.cells #[.bool false, .slice none 0 0, .slice none 0 0] 25))
  have BX := hide ((((below_alloc (w.alloc (.cells #[.bool b, .slice sa n sc, .slice ca m cc] 25)) (.cells #[.bool false, .slice none 0 0, .slice none 0 0] 25)).block w.heap.size (by simp)).trans (heap_alloc_new w (.cells #[.bool b, .slice sa n sc, .slice ca m cc] 25))))
  generalize ((w.alloc (.cells #[.bool b, .slice sa n sc, .slice ca m cc] 25)).alloc (.cells #[.bool false, .slice none 0 0, .slice none 0 0] 25)) = W at *
  obtain ⟨x0, x1, x2⟩ := box_dsk (unhide BX)
  go_wp2_with fail
  rw [unhide EB]
  refine (dwRefuseAt_any d sa n sc ca m cc at_ W ((unhide HS).below (unhide HB)) ((unhide HC).below (unhide HB)) (by omega) (by omega)).mono ?_
  rintro e w1 ⟨rfl, b1⟩
  rw [← unhide EB]
  replace BX := hide ((b1.block _ (lt_of_block (unhide BX))).trans (unhide BX))
  replace RX := hide ((b1.block _ (lt_of_block (unhide RX))).trans (unhide RX))
  replace HB := hide (bt (unhide HB) b1)
  clear b1 x0 x1 x2
  obtain ⟨x0, x1, x2⟩ := box_dsk (unhide BX)
  obtain ⟨r0, r1, r2⟩ := box_dsk (unhide RX)
  have f0 := dsk_free (unhide RX) 0
  have f1 := dsk_free (unhide RX) 1
  have f2 := dsk_free (unhide RX) 2
  obtain ⟨z0, z1, z2⟩ := box_dsk (dsk_put (x' := .bool false) (y' := .slice none 0 0) (z' := .slice none 0 0) (unhide RX))
  have hBz := hide (below_put (unhide HB) (r := w.heap.size + 1) (by omega) (.bool false) (.slice none 0 0) (.slice none 0 0))
  have hno : ∀ (c : Int), rotD d at_ pl by_ = (dsk0, c) → ∀ W', (((w1.setCell ⟨w.heap.size + 1, 0, none⟩ (.bool false)).setCell ⟨w.heap.size + 1, 1, none⟩ (.slice none 0 0)).setCell ⟨w.heap.size + 1, 2, none⟩ (.slice none 0 0)) = W' →
      dskPost (rotD d at_ pl by_) w (.returned (.tuple #[.agg #[.bool false, .slice none 0 0, .slice none 0 0], .int .i64 c])) W' := fun c hc W' hW => by
    subst hW
    rw [hc]
    exact ⟨_, rfl, DskO.zero _ _ _ _, unhide hBz⟩
  have HNO := hide hno
  clear hno
  by_cases h0 : stateAt d at_ = 0
  · rw [h0]
    obtain ⟨hs0, ha0, han⟩ := stateAt_yes h0
    have H0 := hide hs0
    obtain ⟨hlost, hn1, hn72, hm256, hs64, hat⟩ := may_live hs0
    rw [hsl] at hn72 hs64 han hn1
    rw [hcl] at hm256 hat
    have HLOST := hide hlost
    have HS64 := hide hs64
    have HC64 := hide (fun i hi => (hat i hi).2.2)
    clear h0 hs0 hlost hs64 hat
    by_cases hok : 0 ≤ pl ∧ pl < 64 ∧ 1 ≤ by_ ∧ by_ ≤ 255
    · obtain ⟨h3, h4, h5, h6⟩ := hok
      have hw : Hid (rotD d at_ pl by_ = (⟨d.lost, d.secs.set at_.toNat (rotS (d.secs.getD at_.toNat ByteArray.empty) pl.toNat by_), d.cache⟩, 0)) := hide (by rw [rotD, if_pos (unhide H0), if_pos ⟨ha0, by rw [hsl]; exact han, h3, h4, h5, h6⟩])
      have d3 : decide (pl < 0) = false := decide_eq_false (by omega)
      have d4 : decide ((64 : Int) ≤ pl) = false := decide_eq_false (by omega)
      have d5 : decide (by_ < 1) = false := decide_eq_false (by omega)
      have d6 : decide ((255 : Int) < by_) = false := decide_eq_false (by omega)
      obtain ⟨p, rfl⟩ : ∃ p : Nat, at_ = (p : Int) := ⟨at_.toNat, by omega⟩
      obtain ⟨k, rfl⟩ : ∃ k : Nat, pl = (k : Int) := ⟨pl.toNat, by omega⟩
      have hp : p < n := by omega
      have hk : k < 64 := by omega
      have hpn : (p : Int) < n := by omega
      have hk64 : (k : Int) < 64 := by omega
      obtain ⟨bk, ebk⟩ : ∃ bk, bk = d.secs.getD p ByteArray.empty := ⟨_, rfl⟩
      have hb8 : bk.size = 64 := by rw [ebk]; exact unhide HS64 p hp
      have EBK := hide ebk
      clear ebk
      clear z0 z1 z2 hBz HNO
      go_wp2_with fail
      refine (dwCloneTexts_any sa n sc d.secs w1 ((unhide HS).below (unhide HB)) (unhide HS64) hn72).mono ?_
      rintro e w2 ⟨v2, rfl, OS, b2⟩
      obtain ⟨ga, ka, eg, -, -, -, -⟩ := own_form (n := (d.secs.map Value.string).length) OS (by rw [List.length_map, hsl]; omega)
      rw [List.length_map, hsl] at eg
      subst eg
      have hsd : d.secs.length = n := hsl
      have hga2 : ga < w2.heap.size := (OS.lt (g := ga) rfl).2
      have hga1 : w1.heap.size ≤ ga := (OS.lt (g := ga) rfl).1
      have HOS := hide OS
      have hs1 := (unhide HB).size
      have hr1 := lt_of_block (unhide RX)
      replace BX := hide ((b2.block _ (lt_of_block (unhide BX))).trans (unhide BX))
      replace RX := hide ((b2.block _ (lt_of_block (unhide RX))).trans (unhide RX))
      replace HB := hide (bt (unhide HB) b2)
      clear b2 OS x0 x1 x2 r0 r1 r2 f0 f1 f2 d3 d4 d5 d6
      have cS := own_cellT (unhide HOS) p (by rw [hsd]; exact hp)
      rw [← unhide EBK] at cS
      have hcv := run_bytes_of_string (P := Try.prog) w2 9 54 5 bk Try.underlying9 Try.underlying54 Try.underlying5
      obtain ⟨cap, ec⟩ : ∃ cap, cap = grownCap w2 bk.size 0 5 := ⟨_, rfl⟩
      rw [← ec] at hcv
      clear ec
      have R0 : Hid (ByteRow (w2.alloc (.cells (bytesRow bk cap) 5 ((bytesRow bk cap).size, (bytesRow bk cap).size + 1))).drew w2.heap.size bk.size 5 (bI bk)) := hide (bytes_row w2 bk cap 5)
      have B0 : Hid (Below w2.heap.size w2 (w2.alloc (.cells (bytesRow bk cap) 5 ((bytesRow bk cap).size, (bytesRow bk cap).size + 1))).drew) := hide (by go_grown)
      go_upto_region 8 with fail
      clear hcv cS
      generalize hW4 : (w2.alloc (.cells (bytesRow bk cap) 5 ((bytesRow bk cap).size, (bytesRow bk cap).size + 1))).drew = W4 at *
      clear hW4
      have c8 := (unhide R0).cell (j := k) (by rw [hb8]; exact hk)
      have f8 := (unhide R0).free (j := k) (by rw [hb8]; exact hk)
      obtain ⟨x9, ex9⟩ : ∃ x9, x9 = (bI bk).getD k 0 := ⟨_, rfl⟩
      rw [← ex9] at c8
      have EX9 := hide ex9
      clear ex9
      go_upto_region 9 with fail
      obtain ⟨Z, eZ⟩ : ∃ Z, Z = bits .xor .u8 x9 by_ := ⟨_, rfl⟩
      rw [← eZ]
      have EZ := hide eZ
      clear eZ
      have hR9 := (unhide R0).set k Z
      have hl9 := hR9.1
      rw [hb8] at hR9 hl9
      have hcb := run_convert_bytes_arg (P := Try.prog) (W4.setCell ⟨w2.heap.size, k, none⟩ (.int .u8 Z)) 54 5 Try.underlying54 Try.underlying5 w2.heap.size 0 64 cap _ hl9 (fun j hj => by rw [Nat.zero_add]; exact hR9.cell hj) 9 Try.underlying9
      obtain ⟨t, et⟩ : ∃ t, t = strOfNums ((bI bk).set k Z) := ⟨_, rfl⟩
      rw [← et] at hcb
      have ETT : Hid (t = rotS bk k by_) := hide (by rw [et, rotS, unhide EZ, unhide EX9])
      have hB5 := (unhide B0).setCell (p := ⟨w2.heap.size, k, none⟩) (Nat.le_refl _) (.int .u8 Z)
      replace HOS := hide ((unhide HOS).below hB5)
      replace RX := hide ((hB5.block _ (lt_of_block (unhide RX))).trans (unhide RX))
      replace BX := hide ((hB5.block _ (lt_of_block (unhide BX))).trans (unhide BX))
      replace HB := hide (bt (unhide HB) hB5)
      clear hR9 hl9 et R0 c8 f8 B0 hB5
      generalize (W4.setCell ⟨w2.heap.size, k, none⟩ (.int .u8 Z)) = W5 at *
      have cS := own_cellT (unhide HOS) p (by rw [hsd]; exact hp)
      rw [← unhide EBK] at cS
      have fS := own_free (unhide HOS) p
      go_upto_region 10 with fail
      have hP := own_put (unhide HOS) p (.string t)
      rw [← List.map_set] at hP
      have HS6 := hide hP
      have RX6 := hide ((Below.heap_setCell W5 ⟨ga, p, none⟩ (.string t) (w.heap.size + 1) (by show w.heap.size + 1 ≠ ga; omega)).trans (unhide RX))
      have BX6 := hide ((Below.heap_setCell W5 ⟨ga, p, none⟩ (.string t) w.heap.size (by show w.heap.size ≠ ga; omega)).trans (unhide BX))
      have HB6 := hide ((unhide HB).setCell (p := ⟨ga, p, none⟩) (by show w.heap.size ≤ ga; omega) (.string t))
      clear hP HOS RX BX HB cS fS hcb
      generalize (W5.setCell ⟨ga, p, none⟩ (.string t)) = W6 at *
      obtain ⟨x0, x1, x2⟩ := box_dsk (unhide BX6)
      go_wp2_with fail
      refine (dwCloneWrites_any ca m cc d.cache W6 ((unhide HC).below (unhide HB6)) (unhide HC64) (by omega)).mono ?_
      rintro e w7 ⟨v7, rfl, O7, b7⟩
      obtain ⟨p7, c7, e7, -⟩ := own_wr O7
      subst e7
      rw [hcl] at O7 ⊢
      have HO7 := hide O7
      have hs6 := (unhide HB6).size
      have HS7 := hide ((unhide HS6).below b7)
      have RX7 := hide ((b7.block _ (lt_of_block (unhide RX6))).trans (unhide RX6))
      have HB7 := hide (bt (unhide HB6) b7)
      have hr6 := lt_of_block (unhide RX6)
      have hg6 : w1.heap.size ≤ W6.heap.size := by
        have h := ((unhide HS6).lt (g := ga) rfl).2
        omega
      clear b7 O7 x0 x1 x2
      obtain ⟨r0, r1, r2⟩ := box_dsk (unhide RX7)
      have f0 := dsk_free (unhide RX7) 0
      have f1 := dsk_free (unhide RX7) 1
      have f2 := dsk_free (unhide RX7) 2
      obtain ⟨q0, q1, q2⟩ := box_dsk (dsk_put (x' := .bool false) (y' := .slice (some ⟨ga, 0, none⟩) n ka) (z' := .slice p7 m c7) (unhide RX7))
      go_wp2
      refine bodyPost_ret (v := .tuple #[.agg #[.bool false, .slice (some ⟨ga, 0, none⟩) n ka, .slice p7 m c7], .int .i64 0]) (by simp [results, Try.results22, go_sem, q0, q1, q2]) rfl ?_
      rw [unhide hw, Int.toNat_natCast, Int.toNat_natCast, ← unhide EBK, ← unhide ETT]
      have hO : DskO w7 w1.heap.size 9 62 (.agg #[.bool false, .slice (some ⟨ga, 0, none⟩) n ka, .slice p7 m c7]) ⟨d.lost, d.secs.set p t, d.cache⟩ := by
        refine ⟨_, _, by rw [show (Dsk.mk d.lost (d.secs.set p t) d.cache).lost = d.lost from rfl, unhide HLOST], unhide HS7, ?_⟩
        show w7.ownsRow _ _ 2 _ d.cache.length _
        rw [hcl]
        exact ownZ_mono' (unhide HO7) hg6
      exact ⟨_, rfl, (hO.put (by omega) _ _ _).mono (by omega), below_put (unhide HB7) (by omega) _ _ _⟩
    · have hw : Hid (rotD d at_ pl by_ = (dsk0, 1300)) := hide (by rw [rotD, if_pos (unhide H0), if_neg (fun h => hok h.2.2)])
      by_cases h3 : pl < 0
      · have d3 : decide (pl < 0) = true := decide_eq_true h3
        go_wp2
        refine bodyPost_ret (v := .tuple #[.agg #[.bool false, .slice none 0 0, .slice none 0 0], .int .i64 1300]) (by simp [results, Try.results22, go_sem, z0, z1, z2]) rfl (unhide HNO 1300 (unhide hw) _ rfl)
      · have d3 : decide (pl < 0) = false := decide_eq_false h3
        by_cases h4 : (64 : Int) ≤ pl
        · have d4 : decide ((64 : Int) ≤ pl) = true := decide_eq_true h4
          go_wp2
          refine bodyPost_ret (v := .tuple #[.agg #[.bool false, .slice none 0 0, .slice none 0 0], .int .i64 1300]) (by simp [results, Try.results22, go_sem, z0, z1, z2]) rfl (unhide HNO 1300 (unhide hw) _ rfl)
        · have d4 : decide ((64 : Int) ≤ pl) = false := decide_eq_false h4
          by_cases h5 : by_ < 1
          · have d5 : decide (by_ < 1) = true := decide_eq_true h5
            go_wp2
            refine bodyPost_ret (v := .tuple #[.agg #[.bool false, .slice none 0 0, .slice none 0 0], .int .i64 1300]) (by simp [results, Try.results22, go_sem, z0, z1, z2]) rfl (unhide HNO 1300 (unhide hw) _ rfl)
          · have d5 : decide (by_ < 1) = false := decide_eq_false h5
            have h6 : (255 : Int) < by_ := by omega
            have d6 : decide ((255 : Int) < by_) = true := decide_eq_true h6
            go_wp2
            refine bodyPost_ret (v := .tuple #[.agg #[.bool false, .slice none 0 0, .slice none 0 0], .int .i64 1300]) (by simp [results, Try.results22, go_sem, z0, z1, z2]) rfl (unhide HNO 1300 (unhide hw) _ rfl)
  · have h0' := ne_zero h0
    have hw : rotD d at_ pl by_ = (dsk0, stateAt d at_) := (stateAt_no h0).2.2 pl by_
    obtain ⟨st, est⟩ : ∃ st, st = stateAt d at_ := ⟨_, rfl⟩
    rw [← est] at h0' hw ⊢
    have HWR := hide hw
    clear h0 est hw
    go_wp2
    refine bodyPost_ret (v := .tuple #[.agg #[.bool false, .slice none 0 0, .slice none 0 0], .int .i64 st]) (by simp [results, Try.results22, go_sem, z0, z1, z2]) rfl (unhide HNO st (unhide HWR) _ rfl)
end Go.Proofs.Ytpmbmhjhclekeaa
