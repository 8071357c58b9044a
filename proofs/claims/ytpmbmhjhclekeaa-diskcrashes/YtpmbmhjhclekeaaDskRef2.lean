/- The document's own disks (ossuaryref13): state, peek, Read. -/
import Derived.Test.YtpmbmhjhclekeaaDskRef
namespace Go.Proofs.Ytpmbmhjhclekeaa
open Go.RowKit
set_option linter.unusedVariables false
set_option linter.unusedSimpArgs false
attribute [local go_sem ↓] Go.wp_at_zero Go.wp_at_succ
set_option maxRecDepth 100000 in
set_option maxHeartbeats 1000000 in
theorem refState_any (d : Dsk) (sa : Option Addr) (n sc : Nat) (ca : Option Addr) (m cc : Nat) (w : World) (hS : Strs w sa n sc d.secs) (hC : WrV w ca m cc d.cache) (hn : n ≤ 140737488351232) (hm : m ≤ 140737488351232) :
    Calls Try.prog 36 #[.agg #[.bool d.lost, .slice sa n sc, .slice ca m cc]] w fun e w' => e = .returned (.int .i64 (stateD d)) ∧ Below w.heap.size w w' := by
  have HS := hide hS
  have HC := hide hC
  obtain ⟨b, eb⟩ : ∃ b, b = d.lost := ⟨_, rfl⟩
  obtain ⟨st, est⟩ : ∃ st, st = stateD d := ⟨_, rfl⟩
  rw [← est]
  have EST := hide est
  have EB := hide eb
  rw [← eb]
  have BX := hide (heap_alloc_new w (.cells #[.bool b, .slice sa n sc, .slice ca m cc] 25))
  have HB := hide (below_alloc w (.cells #[.bool b, .slice sa n sc, .slice ca m cc] 25))
  clear hS hC eb est
  go_enter Try.func36, Try.ntmps36
  go_upto_region 1 with fail
  generalize (w.alloc (.cells #[.bool b, .slice sa n sc, .slice ca m cc] 25)) = W at *
  obtain ⟨x0, x1, x2⟩ := box_dsk (unhide BX)
  go_wp2_with fail
  rw [unhide EB]
  refine (refDiskMay_any d sa n sc ca m cc W ((unhide HS).below (unhide HB)) ((unhide HC).below (unhide HB)) hn hm).mono ?_
  rintro e w1 ⟨rfl, b1⟩
  rw [← unhide EB]
  replace BX := hide ((b1.block _ (lt_of_block (unhide BX))).trans (unhide BX))
  replace HB := hide (bt (unhide HB) b1)
  clear b1 x0 x1 x2
  obtain ⟨x0, x1, x2⟩ := box_dsk (unhide BX)
  by_cases hM : MayD d
  · rw [decide_eq_true hM]
    have HM := hide hM
    clear hM
    cases b with
    | true =>
      go_wp2
      go_ret
      exact ⟨by rw [unhide EST, stateD, if_pos (unhide HM), if_pos (unhide EB).symm]; rfl, unhide HB⟩
    | false =>
      go_wp2
      go_ret
      exact ⟨by rw [unhide EST, stateD, if_pos (unhide HM), if_neg (by rw [← unhide EB]; decide)]; rfl, unhide HB⟩
  · rw [decide_eq_false hM]
    have HM := hide hM
    clear hM
    go_wp2
    go_ret
    exact ⟨by rw [unhide EST, stateD, if_neg (unhide HM)]; rfl, unhide HB⟩
set_option maxRecDepth 100000 in
set_option maxHeartbeats 1000000 in
theorem refPeek_any (d : Dsk) (sa : Option Addr) (n sc : Nat) (ca : Option Addr) (m cc : Nat) (p : Nat) (w : World) (hS : Strs w sa n sc d.secs) (hC : WrV w ca m cc d.cache) (hn : n ≤ 72) (hm : m ≤ 256) (hp : p < n) :
    Calls Try.prog 37 #[.agg #[.bool d.lost, .slice sa n sc, .slice ca m cc], .int .i64 (p : Int)] w fun e w' => e = .returned (.string (peekD d p)) ∧ Below w.heap.size w w' := by
  have hcl := hC.1
  have hp' : (p : Int) < n := by omega
  obtain ⟨bs, os, es, hcell⟩ : ∃ b off, sa = some ⟨b, off, none⟩ ∧ ∀ i, i < n → w.cell? ⟨b, off + i, none⟩ = some (.string (d.secs.getD i ByteArray.empty)) := by
    rcases hS.2.two with h | h
    · omega
    · exact h
  subst es
  have cS := hcell p hp
  have HC := hide hC
  obtain ⟨b, eb⟩ : ∃ b, b = d.lost := ⟨_, rfl⟩
  rw [← eb]
  obtain ⟨R, eR⟩ : ∃ R, R = peekD d p := ⟨_, rfl⟩
  rw [← eR]
  obtain ⟨s0, es0⟩ : ∃ s0, s0 = d.secs.getD p ByteArray.empty := ⟨_, rfl⟩
  rw [← es0] at cS
  have ER : Hid (R = peekTo d p m) := hide (by rw [eR, peekD, hcl])
  have ES0 : Hid (peekTo d p 0 = s0) := hide (by rw [es0]; show d.secs.getD ((p : Int)).toNat _ = _; rw [Int.toNat_natCast])
  have BX := hide (heap_alloc_new w (.cells #[.bool b, .slice (some ⟨bs, os, none⟩) n sc, .slice ca m cc] 25))
  have HB := hide (below_alloc w (.cells #[.bool b, .slice (some ⟨bs, os, none⟩) n sc, .slice ca m cc] 25))
  have cS' := ((unhide HB).cell (cell_lt cS)).trans cS
  have CS := hide cS'
  clear hS hC eb eR es0 hcell cS cS'
  go_enter Try.func37, Try.ntmps37
  go_upto_region 1 with fail
  generalize (w.alloc (.cells #[.bool b, .slice (some ⟨bs, os, none⟩) n sc, .slice ca m cc] 25)) = W at *
  obtain ⟨x0, x1, x2⟩ := box_dsk (unhide BX)
  have hw1 : wrap64 ((m : Int) - 1) = (m : Int) - 1 := by unfold wrap64; omega
  go_wp2
  go_loopw [5] (fun iv wr => ∃ k : Nat, k ≤ m ∧ iv = .int .i64 ((k : Int) - 1) ∧ wr = W ∧ Hid (R = peekTo d p k)) (fun iv _ => (intOf iv + 1).toNat)
  case atStart => exact ⟨m, by omega, rfl, rfl, ER⟩
  case round =>
    obtain ⟨k, hk, rfl, hw, HR⟩ := hrel
    obtain rfl : W = wr := hw.symm
    by_cases h0 : k = 0
    · subst h0
      have c0 := unhide CS
      go_wp2
      go_ret
      exact ⟨by rw [unhide HR, unhide ES0]; rfl, unhide HB⟩
    · obtain ⟨j, rfl⟩ : ∃ j, k = j + 1 := ⟨k - 1, by omega⟩
      have ej : ((j + 1 : Nat) : Int) - 1 = (j : Int) := by omega
      rw [ej]
      have hlt : j < m := by omega
      have hlt' : (j : Int) < m := by omega
      have hj0 : (0 : Int) ≤ (j : Int) := by omega
      obtain ⟨bc, oc, ec, hcm, hcw⟩ := ((unhide HC).below (unhide HB)).at hlt
      subst ec
      obtain ⟨c0, c1⟩ := hcw j hlt
      obtain ⟨at_, eat⟩ : ∃ at_, at_ = (d.cache.getD j wr0).1 := ⟨_, rfl⟩
      obtain ⟨t2, et2⟩ : ∃ t2, t2 = (d.cache.getD j wr0).2 := ⟨_, rfl⟩
      rw [← eat] at c0
      rw [← et2] at c1
      have EAT := hide eat
      have ET2 := hide et2
      clear eat et2 hcw
      by_cases hat : at_ = (p : Int)
      · have hat' : (at_ == (p : Int)) = true := by simpa using hat
        have HAT := hide hat
        clear hat
        go_wp2
        go_ret
        refine ⟨?_, unhide HB⟩
        rw [unhide HR]
        show _ = Ending.returned (.string (if (d.cache.getD j wr0).1 = (p : Int) then (d.cache.getD j wr0).2 else peekTo d p j))
        rw [if_pos (by rw [← unhide EAT]; exact unhide HAT), ← unhide ET2]
        rfl
      · have hat' : (at_ == (p : Int)) = false := by simpa using hat
        have HAT := hide hat
        clear hat
        go_wp2
        go_roundw
        case rel =>
          refine ⟨j, by omega, by go_num, True.intro, hide ?_⟩
          rw [unhide HR]
          show (if (d.cache.getD j wr0).1 = (p : Int) then (d.cache.getD j wr0).2 else peekTo d p j) = _
          rw [if_neg (by rw [← unhide EAT]; exact unhide HAT)]
        case measure => simp [intOf] <;> omega
theorem may_live {d : Dsk} (h : stateD d = 0) : d.lost = false ∧ 1 ≤ d.secs.length ∧ d.secs.length ≤ 72 ∧ d.cache.length ≤ 256 ∧ (∀ i, i < d.secs.length → (d.secs.getD i ByteArray.empty).size = 64) ∧
    ∀ i, i < d.cache.length → 0 ≤ (d.cache.getD i wr0).1 ∧ (d.cache.getD i wr0).1 < d.secs.length ∧ (d.cache.getD i wr0).2.size = 64 := by
  unfold stateD at h
  by_cases hM : MayD d
  · rw [if_pos hM] at h
    cases hl : d.lost with
    | true => rw [if_pos hl] at h; omega
    | false => exact ⟨rfl, (mayD_live hl).1 hM⟩
  · rw [if_neg hM] at h; omega
theorem stateD_cases (d : Dsk) : stateD d = 0 ∨ stateD d = 1301 ∨ stateD d = 1300 := by
  unfold stateD
  split
  · split
    · exact .inr (.inl rfl)
    · exact .inl rfl
  · exact .inr (.inr rfl)
theorem ne_zero {x : Int} (h : x ≠ 0) : (x != 0) = true := by simpa using h
set_option maxRecDepth 100000 in
set_option maxHeartbeats 1000000 in
theorem refRead_any (d : Dsk) (sa : Option Addr) (n sc : Nat) (ca : Option Addr) (m cc : Nat) (at_ : Int) (w : World) (hS : Strs w sa n sc d.secs) (hC : WrV w ca m cc d.cache) (hn : n ≤ 140737488351232) (hm : m ≤ 140737488351232) :
    Calls Try.prog 15 #[.agg #[.bool d.lost, .slice sa n sc, .slice ca m cc], .int .i64 at_] w fun e w' => e = .returned (.tuple #[.string (readD d at_).1, .int .i64 (readD d at_).2]) ∧ Below w.heap.size w w' := by
  have hsl := hS.1
  have hcl := hC.1
  have HS := hide hS
  have HC := hide hC
  obtain ⟨b, eb⟩ : ∃ b, b = d.lost := ⟨_, rfl⟩
  obtain ⟨R, eR⟩ : ∃ R, R = readD d at_ := ⟨_, rfl⟩
  rw [← eR]
  have ER := hide eR
  have EB := hide eb
  rw [← eb]
  have BX := hide (heap_alloc_new w (.cells #[.bool b, .slice sa n sc, .slice ca m cc] 25))
  have HB := hide (below_alloc w (.cells #[.bool b, .slice sa n sc, .slice ca m cc] 25))
  clear hS hC eb eR
  go_enter Try.func15, Try.ntmps15
  go_upto_region 1 with fail
  generalize (w.alloc (.cells #[.bool b, .slice sa n sc, .slice ca m cc] 25)) = W at *
  obtain ⟨x0, x1, x2⟩ := box_dsk (unhide BX)
  go_wp2_with fail
  rw [unhide EB]
  refine (refState_any d sa n sc ca m cc W ((unhide HS).below (unhide HB)) ((unhide HC).below (unhide HB)) hn hm).mono ?_
  rintro e w1 ⟨rfl, b1⟩
  rw [← unhide EB]
  replace BX := hide ((b1.block _ (lt_of_block (unhide BX))).trans (unhide BX))
  replace HB := hide (bt (unhide HB) b1)
  clear b1 x0 x1 x2
  obtain ⟨x0, x1, x2⟩ := box_dsk (unhide BX)
  by_cases h0 : stateD d = 0
  · rw [h0]
    have H0 := hide h0
    have hML := may_live h0
    obtain ⟨_, _, hn72, hm256, _, _⟩ := hML
    rw [hsl] at hn72
    rw [hcl] at hm256
    clear h0
    by_cases h1 : at_ < 0
    · go_wp2
      go_ret2
      exact ⟨by rw [unhide ER, readD, if_pos (unhide H0), if_neg (by omega)]; rfl, unhide HB⟩
    · have d1 : decide (at_ < 0) = false := decide_eq_false h1
      by_cases h2 : (n : Int) ≤ at_
      · go_wp2
        go_ret2
        exact ⟨by rw [unhide ER, readD, if_pos (unhide H0), if_neg (by omega)]; rfl, unhide HB⟩
      · obtain ⟨p, rfl⟩ : ∃ p : Nat, at_ = (p : Int) := ⟨at_.toNat, by omega⟩
        have hp : p < n := by omega
        go_wp2_with fail
        rw [unhide EB]
        refine (refPeek_any d sa n sc ca m cc p w1 ((unhide HS).below (unhide HB)) ((unhide HC).below (unhide HB)) hn72 hm256 hp).mono ?_
        rintro e w2 ⟨rfl, b2⟩
        rw [← unhide EB]
        replace HB := hide (bt (unhide HB) b2)
        have hr : Hid (readD d p = (peekD d p, 0)) := hide (by rw [readD, if_pos (unhide H0), if_pos (by omega)])
        clear b2 x0 x1 x2
        go_wp2
        go_ret2
        exact ⟨by rw [unhide ER, unhide hr]; rfl, unhide HB⟩
  · have h0' := ne_zero h0
    have HR : Hid (readD d at_ = (ByteArray.empty, stateD d)) := hide (by rw [readD, if_neg h0])
    obtain ⟨st, est⟩ : ∃ st, st = stateD d := ⟨_, rfl⟩
    rw [← est] at h0' HR ⊢
    clear h0 est
    go_wp2
    go_ret2
    exact ⟨by rw [unhide ER, unhide HR]; rfl, unhide HB⟩
end Go.Proofs.Ytpmbmhjhclekeaa
