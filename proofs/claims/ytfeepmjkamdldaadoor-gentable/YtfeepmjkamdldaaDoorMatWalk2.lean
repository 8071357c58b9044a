/- Package matrix: what stands at a place (the function literals of Identity, Pick, Mul): contracts. -/
import Derived.Test.YtfeepmjkamdldaaDoorMatWalk1
import Derived.Test.YtfeepmjkamdldaaDoorRefMat5
import Derived.Test.YtfeepmjkamdldaaDoorRefMat7
namespace Go.Proofs.YtfeepmjkamdldaaDoor
open Go.RowKit
set_option linter.unusedVariables false
set_option linter.unusedSimpArgs false
def idAt (r c : Nat) : Nat := if r = c then 1 else 0
set_option maxRecDepth 100000 in
theorem idAt_any (r c : Nat) (w : World) (hr : r < 12) (hc : c < 12) : Calls Tryd.prog 41 #[.int .i64 r, .int .i64 c] w fun e w' => e = .returned (.int .i64 ((idAt r c : Nat) : Int)) ∧ Below w.heap.size w w' := by
  by_cases h : r = c
  · have h' : ((r : Int) == (c : Int)) = true := by simp [h]
    have e : idAt r c = 1 := by simp [idAt, h]
    rw [e]
    clear h e
    go_enter Tryd.func41, Tryd.ntmps41
    go_wp2
    go_ret
    exact ⟨rfl, Below.refl _ _⟩
  · have h' : ((r : Int) == (c : Int)) = false := by simp; omega
    have e : idAt r c = 0 := by simp [idAt, h]
    rw [e]
    clear h e
    go_enter Tryd.func41, Tryd.ntmps41
    go_wp2
    go_ret
    exact ⟨rfl, Below.refl _ _⟩
set_option maxRecDepth 100000 in
theorem matAddTimes_any (s c x : Nat) (w : World) (hs : s < 256) (hc : c < 256) (hx : x < 256) :
    Calls Tryd.prog 65 #[.int .i64 s, .int .i64 c, .int .i64 x] w fun e w' => e = .returned (.int .i64 ((s ^^^ Gf.mul c x : Nat) : Int)) ∧ w' = w := by
  have hm := Gf.mul_lt c x
  have hx2 := Gf.xor_lt hs hm
  go_enter Tryd.func65, Tryd.ntmps65
  go_wp2_with (first | (go_at_call 69; refine (gfMul_yes _ _ _ hc hx).mono ?_; rintro e w' ⟨rfl, rfl⟩) | (go_at_call 70; refine (gfAdd_yes _ _ _ hs hm).mono ?_; rintro e w' ⟨rfl, rfl⟩))
  go_ret
  exact ⟨rfl, rfl⟩
/-- a number of a row that is named -/
def pickAt (M : List (List Int)) (rs : List Int) (r c : Nat) : Nat := entry M (rs.getD r 0).toNat c
set_option maxRecDepth 100000 in
set_option maxHeartbeats 1000000 in
theorem pickAt_any (r c bm br : Nat) (p a : Option Addr) (n cm m ca : Nat) (M : List (List Int)) (rs : List Int) (w : World) (cM : w.cell? ⟨bm, 0, none⟩ = some (.slice p n cm)) (cR : w.cell? ⟨br, 0, none⟩ = some (.slice a m ca))
    (hM : MatV w (.agg #[.slice p n cm]) M) (hm : MMay M) (hx : Ints w a m ca rs) (hn : namesTo rs n m) (hr : r < m) (hc : c < (M.getD 0 []).length) (hml : m ≤ 12) :
    Calls Tryd.prog 36 #[.int .i64 r, .int .i64 c, .pointer (some ⟨bm, 0, none⟩), .pointer (some ⟨br, 0, none⟩)] w fun e w' => e = .returned (.int .i64 ((pickAt M rs r c : Nat) : Int)) ∧ Below w.heap.size w w' := by
  obtain ⟨hl, n1, n2, k, b, o, ek, k1, k2, rfl, hrows⟩ := mat_at hM hm
  obtain ⟨g, og, rfl, hcell⟩ : ∃ b off, a = some ⟨b, off, none⟩ ∧ ∀ c, c < m → w.cell? ⟨b, off + c, none⟩ = some (.int .i64 (rs.getD c 0)) := by
    rcases hx.2.two with h | h
    · omega
    · exact h
  have c1 := hcell r hr
  have hnr := hn r hr
  obtain ⟨x, ex⟩ : ∃ x : Nat, rs.getD r 0 = x := ⟨(rs.getD r 0).toNat, by omega⟩
  rw [ex] at c1 hnr
  have ep : pickAt M rs r c = entry M x c := by unfold pickAt; rw [ex, Int.toNat_natCast]
  rw [ep]
  have hxn : x < n := by omega
  obtain ⟨gx, ox, capx, c2, hcx⟩ := hrows x hxn
  have c3 := (hcx c (by omega)).1
  obtain ⟨y, ey⟩ : ∃ y, y = entry M x c := ⟨_, rfl⟩
  rw [← ey] at c3 ⊢
  have hxn' : (x : Int) < n := by omega
  have hr' : (r : Int) < m := by omega
  have hc' : (c : Int) < k := by omega
  clear ex ep ey hnr hcell hrows hcx hM hm hx hn hc hl ek
  go_enter Tryd.func36, Tryd.ntmps36
  go_wp2
  go_quiet (fail)
  go_wp2
  go_ret
  exact ⟨rfl, below_drewN _ _ _⟩
set_option maxRecDepth 100000 in
set_option maxHeartbeats 1000000 in
theorem mulAt_any (r c ba bb : Nat) (pa pb : Option Addr) (na ca nb cb : Nat) (A B : List (List Int)) (w : World) (cA : w.cell? ⟨ba, 0, none⟩ = some (.slice pa na ca)) (cB : w.cell? ⟨bb, 0, none⟩ = some (.slice pb nb cb))
    (hA : MatV w (.agg #[.slice pa na ca]) A) (hB : MatV w (.agg #[.slice pb nb cb]) B) (hmA : MMay A) (hmB : MMay B) (hlen : (A.getD 0 []).length = B.length) (hr : r < A.length) (hc : c < (B.getD 0 []).length) :
    Calls Tryd.prog 64 #[.int .i64 r, .int .i64 c, .pointer (some ⟨bb, 0, none⟩), .pointer (some ⟨ba, 0, none⟩)] w fun e w' => e = .returned (.int .i64 ((dot A B r c B.length : Nat) : Int)) ∧ Below w.heap.size w w' := by
  obtain ⟨hlA, nA1, nA2, kA, b1, o1, ekA, kA1, kA2, rfl, hrA⟩ := mat_at hA hmA
  obtain ⟨hlB, nB1, nB2, kB, b2, o2, ekB, kB1, kB2, rfl, hrB⟩ := mat_at hB hmB
  have hr' : (r : Int) < na := by omega
  have hc' : (c : Int) < kB := by omega
  obtain ⟨g1, og1, cap1, d1, he1⟩ := hrA r (by omega)
  have hkA : kA = nb := by omega
  subst hkA
  rw [hlB]
  have HB := hide hrB
  have H1 := hide he1
  have HCA := hide cA
  have HCB := hide cB
  have HD1 := hide d1
  clear hA hB hmA hmB hlen hr hc hrA hrB he1 hlA hlB ekA ekB d1 cA
  go_enter Tryd.func64, Tryd.ntmps64
  go_wp2
  go_loopw [7, 12] (fun sv iv wr => ∃ i : Nat, i ≤ kA ∧ iv = .int .i64 i ∧ sv = .int .i64 ((dot A B r c i : Nat) : Int) ∧ Hid (Below w.heap.size w wr)) (fun _ iv _ => kA - (intOf iv).toNat)
  case atStart => exact ⟨0, by omega, rfl, rfl, hide (Below.refl _ _)⟩
  case round =>
    obtain ⟨i, hi, rfl, rfl, HW⟩ := hrel
    clear cB
    by_cases hlt : i < kA
    · have hlt' : (i : Int) < kA := by omega
      have hbw := unhide HW
      have cA := (hbw.cell (cell_lt (unhide HCA))).trans (unhide HCA)
      have cB := (hbw.cell (cell_lt (unhide HCB))).trans (unhide HCB)
      have d1 := (hbw.cell (cell_lt (unhide HD1))).trans (unhide HD1)
      obtain ⟨g2, og2, cap2, d2, he2⟩ := unhide HB i hlt
      have d2 := (hbw.cell (cell_lt d2)).trans d2
      obtain ⟨e1, l1⟩ := unhide H1 i hlt
      have e1 := (hbw.cell (cell_lt e1)).trans e1
      obtain ⟨e2, l2⟩ := he2 c (by omega)
      have e2 := (hbw.cell (cell_lt e2)).trans e2
      have hs := dot_lt A B r c i
      have hd : dot A B r c (i + 1) = dot A B r c i ^^^ Gf.mul (entry A r i) (entry B i c) := rfl
      have HDD := hide hd
      obtain ⟨s, es⟩ : ∃ s, s = dot A B r c i := ⟨_, rfl⟩
      obtain ⟨x, ex⟩ : ∃ x, x = entry A r i := ⟨_, rfl⟩
      obtain ⟨y, ey⟩ : ∃ y, y = entry B i c := ⟨_, rfl⟩
      rw [← es] at hs ⊢
      rw [← ex] at e1 l1
      rw [← ey] at e2 l2
      have ES := hide es
      have EX := hide ex
      have EY := hide ey
      clear es ex ey hd he2 hbw
      go_wp2
      go_quiet ((go_at_call 65; exact Calls.quiet_of_same (matAddTimes_any s x y _ hs l1 l2)))
      go_wp2
      go_roundw
      case rel =>
        refine ⟨i + 1, by omega, by go_num, int_eq ?_, hide (bt (unhide HW) (below_drewN _ _ _))⟩
        rw [unhide HDD, ← unhide ES, ← unhide EX, ← unhide EY]
      case measure => simp [intOf]; omega
    · have hlt' : ¬ (i : Int) < kA := by omega
      obtain rfl : i = kA := by omega
      go_wp2
      go_ret
      exact ⟨rfl, unhide HW⟩
end Go.Proofs.YtfeepmjkamdldaaDoor
