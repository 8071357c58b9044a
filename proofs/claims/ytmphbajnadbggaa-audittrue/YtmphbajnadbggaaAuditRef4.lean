/- The document's own audit (ossuaryref1.CheckAudit), whatever it is asked: a contract. -/
import Derived.Test.YtmphbajnadbggaaAuditRef3
namespace Go.Proofs.Ytmphbajnadbggaa
open Go.RowKit
set_option linter.unusedVariables false
set_option linter.unusedSimpArgs false
set_option maxRecDepth 100000 in
set_option maxHeartbeats 4000000 in
theorem refCheckAudit_any (r sh st q : Int) (ba : Option Addr) (bn bc : Nat) (bs : List Int) (za : Option Addr) (zn zc : Nat) (zs : List Ans) (w : World) (hB : Ints w ba bn bc bs) (hZ : AnsV w za zn zc zs)
    (hbn : bn ≤ 140737488351232) (hpz : ∀ j, j < zn → (zs.getD j ans0).path.length ≤ 140737488351232) :
    Calls Try.prog 25 #[.int .i64 r, .int .i64 sh, .int .i64 st, .agg #[.int .i64 q, .slice ba bn bc], .slice za zn zc] w fun e w' => e = .returned (.bool (decide (Aud r sh st q bs zs))) ∧ Below w.heap.size w w' := by
  by_cases hh : AskM q bs ∧ zs.length = bs.length ∧ 1 ≤ sh ∧ sh ≤ 6 ∧ 0 ≤ st ∧ st < sh
  · exact refCheckAudit_loop r sh st q ba bn bc bs za zn zc zs w hB hZ hh hpz
  have hno : ¬ Aud r sh st q bs zs := fun h => hh h.1
  have HN := hide hno
  have hbl := hB.1
  have hzl := hZ.1
  have hB0 := below_alloc w (.cells #[.int .i64 q, .slice ba bn bc] 47)
  have hbx := hide (heap_alloc_new w (.cells #[.int .i64 q, .slice ba bn bc] 47))
  have HBI0 := hide (hB.below hB0)
  have HB := hide hB0
  obtain ⟨x0, x1⟩ := ask_box w q ba bn bc 47
  clear hno hB hZ hB0 hpz
  by_cases h1 : AskM q bs
  case neg =>
    have d1 := decide_eq_false h1
    clear h1 hh
    go_enter Try.func25, Try.ntmps25
    go_upto_region 1 with fail
    generalize (w.alloc (.cells #[.int .i64 q, .slice ba bn bc] 47)) = W at *
    go_wp2_with fail
    refine (refAskMay_any q _ _ _ bs _ (unhide HBI0) hbn).mono ?_
    rintro e w1 ⟨rfl, b1⟩
    rw [d1]
    have y1 := (b1.cell (cell_lt x1)).trans x1
    replace HB := hide (bt (unhide HB) b1)
    clear b1 x0 x1
    go_wp2
    go_ret
    exact ⟨aud_false (unhide HN) rfl, unhide HB⟩
  have d1 := decide_eq_true h1
  by_cases h2 : zn = bn
  case neg =>
    have t2 : ((zn : Int) != (bn : Int)) = true := by simp; omega
    clear h1 hh h2
    go_enter Try.func25, Try.ntmps25
    go_upto_region 1 with fail
    generalize (w.alloc (.cells #[.int .i64 q, .slice ba bn bc] 47)) = W at *
    go_wp2_with fail
    refine (refAskMay_any q _ _ _ bs _ (unhide HBI0) hbn).mono ?_
    rintro e w1 ⟨rfl, b1⟩
    rw [d1]
    have y1 := (b1.cell (cell_lt x1)).trans x1
    replace HB := hide (bt (unhide HB) b1)
    clear b1 x0 x1
    go_wp2
    go_ret
    exact ⟨aud_false (unhide HN) rfl, unhide HB⟩
  have t2 : ((zn : Int) != (bn : Int)) = false := by rw [h2]; simp
  by_cases h3 : sh < 1
  · have t3 : decide (sh < 1) = true := decide_eq_true h3
    clear h1 hh
    go_enter Try.func25, Try.ntmps25
    go_upto_region 1 with fail
    generalize (w.alloc (.cells #[.int .i64 q, .slice ba bn bc] 47)) = W at *
    go_wp2_with fail
    refine (refAskMay_any q _ _ _ bs _ (unhide HBI0) hbn).mono ?_
    rintro e w1 ⟨rfl, b1⟩
    rw [d1]
    have y1 := (b1.cell (cell_lt x1)).trans x1
    replace HB := hide (bt (unhide HB) b1)
    clear b1 x0 x1
    go_wp2
    go_ret
    exact ⟨aud_false (unhide HN) rfl, unhide HB⟩
  have t3 : decide (sh < 1) = false := decide_eq_false h3
  by_cases h4 : 6 < sh
  · have t4 : decide (6 < sh) = true := decide_eq_true h4
    clear h1 hh
    go_enter Try.func25, Try.ntmps25
    go_upto_region 1 with fail
    generalize (w.alloc (.cells #[.int .i64 q, .slice ba bn bc] 47)) = W at *
    go_wp2_with fail
    refine (refAskMay_any q _ _ _ bs _ (unhide HBI0) hbn).mono ?_
    rintro e w1 ⟨rfl, b1⟩
    rw [d1]
    have y1 := (b1.cell (cell_lt x1)).trans x1
    replace HB := hide (bt (unhide HB) b1)
    clear b1 x0 x1
    go_wp2
    go_ret
    exact ⟨aud_false (unhide HN) rfl, unhide HB⟩
  have t4 : decide (6 < sh) = false := decide_eq_false h4
  by_cases h5 : st < 0
  · have t5 : decide (st < 0) = true := decide_eq_true h5
    clear h1 hh
    go_enter Try.func25, Try.ntmps25
    go_upto_region 1 with fail
    generalize (w.alloc (.cells #[.int .i64 q, .slice ba bn bc] 47)) = W at *
    go_wp2_with fail
    refine (refAskMay_any q _ _ _ bs _ (unhide HBI0) hbn).mono ?_
    rintro e w1 ⟨rfl, b1⟩
    rw [d1]
    have y1 := (b1.cell (cell_lt x1)).trans x1
    replace HB := hide (bt (unhide HB) b1)
    clear b1 x0 x1
    go_wp2
    go_ret
    exact ⟨aud_false (unhide HN) rfl, unhide HB⟩
  have t5 : decide (st < 0) = false := decide_eq_false h5
  by_cases h6 : sh ≤ st
  · have t6 : decide (sh ≤ st) = true := decide_eq_true h6
    clear h1 hh
    go_enter Try.func25, Try.ntmps25
    go_upto_region 1 with fail
    generalize (w.alloc (.cells #[.int .i64 q, .slice ba bn bc] 47)) = W at *
    go_wp2_with fail
    refine (refAskMay_any q _ _ _ bs _ (unhide HBI0) hbn).mono ?_
    rintro e w1 ⟨rfl, b1⟩
    rw [d1]
    have y1 := (b1.cell (cell_lt x1)).trans x1
    replace HB := hide (bt (unhide HB) b1)
    clear b1 x0 x1
    go_wp2
    go_ret
    exact ⟨aud_false (unhide HN) rfl, unhide HB⟩
  exact absurd ⟨h1, by omega, by omega, by omega, by omega, by omega⟩ hh
end Go.Proofs.Ytmphbajnadbggaa
