/- Data back by the document (ossuaryref1.Decode): a contract. -/
import Derived.Test.YtcgagkaalbljmaaDoorDecMath
import Derived.Test.YtcgagkaalbljmaaDoorKEnc
import Derived.Test.YtcgagkaalbljmaaDoorKRegs
import Derived.Test.YtcgagkaalbljmaaDoorBools
namespace Go.Proofs.YtcgagkaalbljmaaDoor
open Go.RowKit
set_option linter.unusedVariables false
set_option linter.unusedSimpArgs false
open Vec (alikeTo numsTo May)
/-- the first items of a list -/
theorem Ints.take {w : World} {a : Option Addr} {n cap : Nat} {xs : List Int} (h : Ints w a n cap xs) {k : Nat} (hk : k ≤ n) (h0 : 0 < k) : Ints w a k cap (xs.take k) := by
  obtain ⟨hl, hr⟩ := h
  refine ⟨by rw [List.length_take]; omega, ?_⟩
  rcases hr with ⟨_, h1, _⟩ | ⟨h1, _⟩ | ⟨h1, h2, b, off, e, hc⟩
  · omega
  · omega
  · refine .inr (.inr ⟨h0, by omega, b, off, e, fun i hi => ?_⟩)
    rw [hc i (by omega)]
    simp [List.getD, List.getElem?_take, hi]
theorem Strs.take {w : World} {a : Option Addr} {n cap : Nat} {xs : List ByteArray} (h : Strs w a n cap xs) {k : Nat} (hk : k ≤ n) (h0 : 0 < k) : Strs w a k cap (xs.take k) := by
  obtain ⟨hl, hr⟩ := h
  refine ⟨by rw [List.length_take]; omega, ?_⟩
  rcases hr with ⟨_, h1, _⟩ | ⟨h1, _⟩ | ⟨h1, h2, b, off, e, hc⟩
  · omega
  · omega
  · refine .inr (.inr ⟨h0, by omega, b, off, e, fun i hi => ?_⟩)
    rw [hc i (by omega)]
    simp [List.getD, List.getElem?_take, hi]
set_option maxRecDepth 100000 in
set_option maxHeartbeats 2000000 in
theorem refDecode_no (d p : Int) (a b : Option Addr) (n ca m cb : Nat) (w : World) (hn : n ≤ 140737488351232) (hm : m ≤ 140737488351232) (h : ¬ ShpMay d p ∨ (n : Int) ≠ d + p ∨ m ≠ n) :
    Calls Tryd.prog 19 #[.agg #[.int .i64 d, .int .i64 p], .slice a n ca, .slice b m cb] w fun e w' => e = .returned (.tuple #[.slice none 0 0, .int .i64 700]) ∧ Below w.heap.size w w' := by
  by_cases h1 : ShpMay d p
  · have H1 := hide h1
    have hd1 : 1 ≤ d := h1.1
    have hd2 : d ≤ 4 := h1.2.1
    have hp1 : 0 ≤ p := h1.2.2.1
    have hp2 : p ≤ 2 := h1.2.2.2
    by_cases h2 : (n : Int) = d + p
    · have h3 : m ≠ n := by
        rcases h with h | h | h
        · exact absurd h1 h
        · exact absurd h2 h
        · exact h
      have t1 : ((n : Int) != d + p) = false := by simp [h2]
      have t2 : ((m : Int) != (n : Int)) = true := by simp; omega
      clear h h1 h2 h3
      go_enter Tryd.func19, Tryd.ntmps19
      go_wp2_with fail
      have BS := hide (heap_alloc_new w (.cells #[.int .i64 d, .int .i64 p] 23))
      have HB := hide (below_alloc w (.cells #[.int .i64 d, .int .i64 p] 23))
      generalize (w.alloc (.cells #[.int .i64 d, .int .i64 p] 23)) = W0 at *
      refine (refShapeMay_yes d p W0 (unhide H1)).mono ?_
      rintro e w1 ⟨rfl, b1⟩
      replace BS := hide ((b1.block _ (lt_of_block (unhide BS))).trans (unhide BS))
      replace HB := hide (bt (unhide HB) b1)
      clear b1
      obtain ⟨c0, c1⟩ := box_two (unhide BS)
      go_wp2
      go_ret2
      exact ⟨rfl, unhide HB⟩
    · have t1 : ((n : Int) != d + p) = true := by simp; omega
      clear h h1 h2
      go_enter Tryd.func19, Tryd.ntmps19
      go_wp2_with fail
      have BS := hide (heap_alloc_new w (.cells #[.int .i64 d, .int .i64 p] 23))
      have HB := hide (below_alloc w (.cells #[.int .i64 d, .int .i64 p] 23))
      generalize (w.alloc (.cells #[.int .i64 d, .int .i64 p] 23)) = W0 at *
      refine (refShapeMay_yes d p W0 (unhide H1)).mono ?_
      rintro e w1 ⟨rfl, b1⟩
      replace BS := hide ((b1.block _ (lt_of_block (unhide BS))).trans (unhide BS))
      replace HB := hide (bt (unhide HB) b1)
      clear b1
      obtain ⟨c0, c1⟩ := box_two (unhide BS)
      go_wp2
      go_ret2
      exact ⟨rfl, unhide HB⟩
  · have H1 := hide h1
    clear h h1
    go_enter Tryd.func19, Tryd.ntmps19
    go_wp2_with fail
    have HB := hide (below_alloc w (.cells #[.int .i64 d, .int .i64 p] 23))
    generalize (w.alloc (.cells #[.int .i64 d, .int .i64 p] 23)) = W0 at *
    refine (refShapeMay_no d p W0 (unhide H1)).mono ?_
    rintro e w1 ⟨rfl, b1⟩
    replace HB := hide (bt (unhide HB) b1)
    clear b1
    go_wp2
    go_ret2
    exact ⟨rfl, unhide HB⟩
end Go.Proofs.YtcgagkaalbljmaaDoor
