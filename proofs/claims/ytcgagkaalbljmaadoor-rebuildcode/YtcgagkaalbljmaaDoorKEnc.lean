/- Texts one behind the other: SpoilT, EncRef, EncRef2, EncW1, EncW2, EncWalk. -/
import Derived.Test.YtcgagkaalbljmaaDoorProg
import Derived.Test.YtcgagkaalbljmaaDoorKCore
import Derived.Test.YtcgagkaalbljmaaDoorKRegs
import Derived.Test.YtcgagkaalbljmaaDoorKMatRef
import Derived.Test.YtcgagkaalbljmaaDoorKGen
import Derived.Test.YtcgagkaalbljmaaDoorKVec
import Derived.Test.YtcgagkaalbljmaaDoorKMat
/- Lists of texts of the call's own; texts that are spoiled. -/
namespace Go.Proofs.YtcgagkaalbljmaaDoor
open Go.RowKit
set_option linter.unusedVariables false
set_option linter.unusedSimpArgs false
theorem Tryd.infoText : (Tryd.prog.info? 9).map (fun i => (i.zero, i.size, i.bytes)) = some (some (.string ByteArray.empty), 1, 16) := by kernel_rfl
theorem own_scell {w : World} {B E g n cap : Nat} {xs : List ByteArray} (h : OwnL w B E (.slice (some ⟨g, 0, none⟩) n cap) (xs.map Value.string)) (k : Nat) (hk : k < xs.length) : w.cell? ⟨g, k, none⟩ = some (.string (xs.getD k ByteArray.empty)) := by
  obtain ⟨g1, cap1, e, hb, _, _, hc⟩ := own_form (n := (xs.map Value.string).length) h (by simp; omega)
  simp only [Value.slice.injEq, Option.some.injEq, Addr.mk.injEq, and_true, true_and] at e
  obtain ⟨rfl, _⟩ := e
  exact hc k _ (str_at rfl k hk)
set_option maxRecDepth 100000 in
set_option maxHeartbeats 1000000 in
theorem spoilTexts_none (a : Option Addr) (cap : Nat) (w : World) : Calls Tryd.prog 12 #[.slice a 0 cap] w fun e w' => e = .returned (.tuple #[]) ∧ w' = w := by
  go_enter Tryd.func12, Tryd.ntmps12
  go_wp2
  go_rounds 1
  exact bodyPost_end (v := .tuple #[]) (by simp [results, Tryd.results12, go_sem]) rfl ⟨rfl, rfl⟩
set_option maxRecDepth 100000 in
set_option maxHeartbeats 1000000 in
theorem spoilTexts_own (B E g n cap : Nat) (xs : List ByteArray) (w : World) (h : OwnL w B E (.slice (some ⟨g, 0, none⟩) n cap) (xs.map Value.string)) (hn : n ≤ maxLen) (hg : B ≤ g) (hz : ∀ i, (xs.getD i ByteArray.empty).size ≤ 140737488355328) :
    Calls Tryd.prog 12 #[.slice (some ⟨g, 0, none⟩) n cap] w fun e w' => e = .returned (.tuple #[]) ∧ (∀ k, k ≠ g → k < w.heap.size → w'.heap[k]? = w.heap[k]?) ∧ Below B w w' := by
  have hl : xs.length = n := by
    have := own_len h
    simpa using this
  have HH := hide h
  have HZ := hide hz
  unfold maxLen at hn
  clear h hz
  go_enter Tryd.func12, Tryd.ntmps12
  go_wp2
  go_loopw [2] (fun iv wr => ∃ k : Nat, k ≤ n ∧ iv = .int .i64 k ∧ Hid (∃ ys : List ByteArray, ys.length = xs.length ∧ (∀ i, k ≤ i → ys.getD i ByteArray.empty = xs.getD i ByteArray.empty) ∧ OwnL wr B E (.slice (some ⟨g, 0, none⟩) n cap) (ys.map Value.string)) ∧ Hid (∀ k, k ≠ g → k < w.heap.size → wr.heap[k]? = w.heap[k]?) ∧ Hid (Below B w wr)) (fun iv _ => n - (intOf iv).toNat)
  case atStart => exact ⟨0, by omega, rfl, hide ⟨xs, rfl, fun _ _ => rfl, unhide HH⟩, hide (fun _ _ _ => rfl), hide (Below.refl _ _)⟩
  case round =>
    obtain ⟨k, hk, rfl, HO, HF, HB⟩ := hrel
    by_cases hlt : k < n
    · have hlt' : (k : Int) < n := by omega
      obtain ⟨ys, hys, hsame, ho⟩ := unhide HO
      have c1 := own_scell ho k (by omega)
      have f1 := own_free ho k
      obtain ⟨y, ey⟩ : ∃ y, y = ys.getD k ByteArray.empty := ⟨_, rfl⟩
      rw [← ey] at c1
      have hy : y.size ≤ 140737488355328 := by rw [ey, hsame k (Nat.le_refl _)]; exact unhide HZ k
      have HE := hide hsame
      clear ey hsame
      have HO' := hide ho
      clear ho
      go_wp2
      go_roundw
      case rel =>
        have hst := own_put (unhide HO') k (.string ({ data := #[126] } ++ y))
        refine ⟨k + 1, by omega, by go_num, hide ⟨ys.set k ({ data := #[126] } ++ y), by simpa using hys, fun i hi => ?_, ?_⟩, hide (fun j hj hjs => ?_), hide ((unhide HB).setCell hg _)⟩
        · have hki : ¬ k = i := by omega
          have := unhide HE i (by omega)
          simp only [List.getD, List.getElem?_set, hki, if_false] at this ⊢
          exact this
        · rw [List.map_set]
          exact hst
        · exact (Below.heap_setCell wr ⟨g, k, none⟩ _ j hj).trans (unhide HF j hj hjs)
      case measure => simp [intOf]; omega
    · have hlt' : ¬ (k : Int) < n := by omega
      obtain rfl : k = n := by omega
      go_wp2
      exact bodyPost_end (v := .tuple #[]) (by simp [results, Tryd.results12, go_sem]) rfl ⟨rfl, unhide HF, unhide HB⟩
theorem spoilTexts_any (B E : Nat) (v : Value) (xs : List ByteArray) (w : World) (h : OwnL w B E v (xs.map Value.string)) (hn : xs.length ≤ maxLen) (hz : ∀ i, (xs.getD i ByteArray.empty).size ≤ 140737488355328) :
    Calls Tryd.prog 12 #[v] w fun e w' => e = .returned (.tuple #[]) ∧ (∀ k, v.ownBlock ≠ some k → k < w.heap.size → w'.heap[k]? = w.heap[k]?) ∧ Below B w w' := by
  rcases h.2 with ⟨rfl, h0⟩ | ⟨g, cap, cur, rfl, hb, _⟩
  · refine (spoilTexts_none none 0 w).mono ?_
    rintro e w' ⟨rfl, rfl⟩
    exact ⟨rfl, fun _ _ _ => rfl, Below.refl _ _⟩
  · simp only [List.length_map] at h ⊢
    refine (spoilTexts_own B E g _ cap xs w h hn hb hz).mono ?_
    rintro e w' ⟨rfl, h2, h3⟩
    exact ⟨rfl, fun k hk hs => h2 k (fun e => hk (by rw [e]; rfl)) hs, h3⟩
end Go.Proofs.YtcgagkaalbljmaaDoor
/- Parity by the document (ossuaryref1.Encode): a contract; texts that are spoiled. -/
namespace Go.Proofs.YtcgagkaalbljmaaDoor
open Go.RowKit
set_option linter.unusedVariables false
set_option linter.unusedSimpArgs false
open Vec (alikeTo numsTo May)
def EncMay (d p : Int) (ss : List ByteArray) : Prop := ShpMay d p ∧ (ss.length : Int) = d ∧ alikeTo ss ss.length
instance alikeDec (ss : List ByteArray) (n : Nat) : Decidable (alikeTo ss n) := by unfold alikeTo; exact inferInstance
instance encDec (d p : Int) (ss : List ByteArray) : Decidable (EncMay d p ss) := by unfold EncMay; exact inferInstance
/-- the first k parities -/
def encTo (d p : Nat) (ss : List ByteArray) (k : Nat) : List ByteArray := (List.range k).map fun i => Vec.out ((genM d p).getD (d + i) []) ss
/-- the parities, the error's number -/
def encF (d p : Int) (ss : List ByteArray) : List ByteArray × Int := if EncMay d p ss then (encTo d.toNat p.toNat ss p.toNat, 0) else ([], 600)
theorem encTo_len (d p : Nat) (ss : List ByteArray) (k : Nat) : (encTo d p ss k).length = k := by simp [encTo]
theorem encTo_snoc (d p : Nat) (ss : List ByteArray) (k : Nat) : encTo d p ss (k + 1) = encTo d p ss k ++ [Vec.out ((genM d p).getD (d + k) []) ss] := by
  unfold encTo
  rw [List.range_succ, List.map_append]
  rfl
theorem encF_len (d p : Int) (ss : List ByteArray) : (encF d p ss).1.length ≤ 2 := by
  unfold encF
  split
  · next h => rw [encTo_len]; have := h.1; unfold ShpMay at this; omega
  · exact Nat.zero_le _
theorem gen_row {d p : Nat} (h1 : 1 ≤ d) (h2 : d ≤ 4) (h3 : p ≤ 2) {r : Nat} (hr : r < d + p) : ((genM d p).getD r []).length = d ∧ numsTo ((genM d p).getD r []) ((genM d p).getD r []).length := by
  obtain ⟨hm, hl, hh⟩ := genM_may d (by omega) p (by omega) h1
  obtain ⟨e1, e2⟩ := hm.2.2.2.2 r (by omega)
  rw [hh] at e1 e2
  refine ⟨e1, fun i hi => ?_⟩
  rw [e1] at hi
  have := e2 i hi
  unfold byteI at this
  exact this
theorem gen_comb {d p : Nat} (h1 : 1 ≤ d) (h2 : d ≤ 4) (h3 : p ≤ 2) {r : Nat} (hr : r < d + p) {ss : List ByteArray} (hl : ss.length = d) (ha : alikeTo ss ss.length) {x : ByteArray × Int} (h : combR ((genM d p).getD r []) ss x) : x = (Vec.out ((genM d p).getD r []) ss, 0) := by
  obtain ⟨e1, e2⟩ := gen_row h1 h2 h3 hr
  have hm : May ((genM d p).getD r []) ss := ⟨by omega, by omega, by omega, ha, e2⟩
  rcases h with ⟨_, h⟩ | ⟨h, _⟩
  · exact h
  · exact absurd hm h
theorem out_len (cs : List Int) (ss : List ByteArray) : (Vec.out cs ss).size = (ss.getD 0 ByteArray.empty).size := by
  unfold Vec.out; rw [strOfNums_size]; simp [Vec.nums]
theorem encF_size (d p : Int) (ss : List ByteArray) : ∀ i, ((encF d p ss).1.getD i ByteArray.empty).size ≤ 140737488355328 := by
  intro i
  unfold encF
  split
  · next h =>
    obtain ⟨h1, h2, h3⟩ := h
    unfold ShpMay at h1
    have h0 := (h3 0 (by omega)).2
    by_cases hi : i < p.toNat
    · have e : (encTo d.toNat p.toNat ss p.toNat).getD i ByteArray.empty = Vec.out ((genM d.toNat p.toNat).getD (d.toNat + i) []) ss := by
        simp [encTo, List.getD, hi]
      rw [e, out_len]
      omega
    · have e : (encTo d.toNat p.toNat ss p.toNat).getD i ByteArray.empty = ByteArray.empty := by
        simp [encTo, List.getD, hi]
      rw [e]
      decide
  · simp
end Go.Proofs.YtcgagkaalbljmaaDoor
/- Parity by the document (ossuaryref1.Encode): the walk. -/
namespace Go.Proofs.YtcgagkaalbljmaaDoor
open Go.RowKit
set_option linter.unusedVariables false
set_option linter.unusedSimpArgs false
open Vec (alikeTo numsTo May)
theorem below_drews {w w' : World} {B : Nat} (h : ∃ m, w' = w.drewN m) : Below B w w' := by obtain ⟨m, rfl⟩ := h; exact below_drewN _ _ _
set_option maxRecDepth 100000 in
set_option maxHeartbeats 2000000 in
theorem refEncode_no (d p : Int) (a : Option Addr) (n ca : Nat) (ss : List ByteArray) (w : World) (hs : Strs w a n ca ss) (hn : n * 16 ≤ 140737488351232) (h : ¬ EncMay d p ss) :
    Calls Tryd.prog 15 #[.agg #[.int .i64 d, .int .i64 p], .slice a n ca] w fun e w' => e = .returned (.tuple #[.slice none 0 0, .int .i64 600]) ∧ Below w.heap.size w w' := by
  have HS := hide hs
  have hl : ss.length = n := hs.1
  by_cases h1 : ShpMay d p
  · have H1 := hide h1
    by_cases h2 : (n : Int) = d
    · have h3 : ¬ alikeTo ss n := fun h3 => h ⟨h1, by rw [hl]; exact h2, by rw [hl]; exact h3⟩
      have H3 := hide h3
      have t2 : ((n : Int) != d) = false := by simp [h2]
      clear h h1 h2 h3 hs hl
      go_enter Tryd.func15, Tryd.ntmps15
      go_wp2_with fail
      have BS := hide (heap_alloc_new w (.cells #[.int .i64 d, .int .i64 p] 23))
      have HB := hide (below_alloc w (.cells #[.int .i64 d, .int .i64 p] 23))
      generalize (w.alloc (.cells #[.int .i64 d, .int .i64 p] 23)) = W0 at *
      refine (refShapeMay_yes d p W0 (unhide H1)).mono ?_
      rintro e w1 ⟨rfl, b1⟩
      replace BS := hide ((b1.block _ (lt_of_block (unhide BS))).trans (unhide BS))
      replace HB := hide (bt (unhide HB) b1)
      clear b1
      obtain ⟨c0, c1⟩ := box_two (unhide BS)
      go_wp2_with fail
      refine (alike_any a n ca ss w1 ((unhide HS).below (unhide HB)) (by omega)).mono ?_
      rintro e w2 ⟨hd, ⟨h, _⟩ | ⟨_, rfl⟩⟩
      · exact absurd h (unhide H3)
      · replace HB := hide (bt (unhide HB) (below_drews hd))
        clear hd
        go_wp2
        go_ret2
        exact ⟨rfl, unhide HB⟩
    · have t2 : ((n : Int) != d) = true := by simp; omega
      clear h h1 h2 hs hl
      go_enter Tryd.func15, Tryd.ntmps15
      go_wp2_with fail
      have BS := hide (heap_alloc_new w (.cells #[.int .i64 d, .int .i64 p] 23))
      have HB := hide (below_alloc w (.cells #[.int .i64 d, .int .i64 p] 23))
      generalize (w.alloc (.cells #[.int .i64 d, .int .i64 p] 23)) = W0 at *
      refine (refShapeMay_yes d p W0 (unhide H1)).mono ?_
      rintro e w1 ⟨rfl, b1⟩
      replace BS := hide ((b1.block _ (lt_of_block (unhide BS))).trans (unhide BS))
      replace HB := hide (bt (unhide HB) b1)
      clear b1
      obtain ⟨c0, c1⟩ := box_two (unhide BS)
      go_wp2
      go_ret2
      exact ⟨rfl, unhide HB⟩
  · have H1 := hide h1
    clear h h1 hs hl
    go_enter Tryd.func15, Tryd.ntmps15
    go_wp2_with fail
    have HB := hide (below_alloc w (.cells #[.int .i64 d, .int .i64 p] 23))
    generalize (w.alloc (.cells #[.int .i64 d, .int .i64 p] 23)) = W0 at *
    refine (refShapeMay_no d p W0 (unhide H1)).mono ?_
    rintro e w1 ⟨rfl, b1⟩
    replace HB := hide (bt (unhide HB) b1)
    clear b1
    go_wp2
    go_ret2
    exact ⟨rfl, unhide HB⟩
set_option maxRecDepth 100000 in
set_option maxHeartbeats 4000000 in
theorem refEncode_yes (d p : Nat) (a : Option Addr) (ca : Nat) (ss : List ByteArray) (w : World) (hs : Strs w a d ca ss) (h1 : 1 ≤ d) (h2 : d ≤ 4) (h3 : p ≤ 2) (ha : alikeTo ss ss.length) :
    Calls Tryd.prog 15 #[.agg #[.int .i64 d, .int .i64 p], .slice a d ca] w fun e w' => ∃ v, e = .returned (.tuple #[v, .int .i64 0]) ∧ OwnL w' w.heap.size 9 v ((encTo d p ss p).map Value.string) ∧ Below w.heap.size w w' := by
  have HS := hide hs
  have hl : ss.length = d := hs.1
  have HL := hide hl
  have HA := hide ha
  have H1 : Hid (ShpMay d p) := hide (by unfold ShpMay; omega)
  have t2 : ((d : Int) != (d : Int)) = false := by simp
  clear hs hl ha
  go_enter Tryd.func15, Tryd.ntmps15
  go_wp2_with fail
  have BS := hide (heap_alloc_new w (.cells #[.int .i64 d, .int .i64 p] 23))
  have HB := hide (below_alloc w (.cells #[.int .i64 d, .int .i64 p] 23))
  generalize (w.alloc (.cells #[.int .i64 d, .int .i64 p] 23)) = W0 at *
  refine (refShapeMay_yes d p W0 (unhide H1)).mono ?_
  rintro e w1 ⟨rfl, b1⟩
  replace BS := hide ((b1.block _ (lt_of_block (unhide BS))).trans (unhide BS))
  replace HB := hide (bt (unhide HB) b1)
  clear b1
  obtain ⟨c0, c1⟩ := box_two (unhide BS)
  go_wp2_with fail
  refine (alike_any a d ca ss w1 ((unhide HS).below (unhide HB)) (by omega)).mono ?_
  rintro e w2 ⟨hd, ⟨_, rfl⟩ | ⟨h, _⟩⟩
  rotate_left
  · exact absurd (by have := unhide HA; rwa [unhide HL] at this) h
  have b2 := below_drews (B := w1.heap.size) hd
  replace BS := hide ((b2.block _ (lt_of_block (unhide BS))).trans (unhide BS))
  replace HB := hide (bt (unhide HB) b2)
  clear hd b2 c0 c1
  obtain ⟨c0, c1⟩ := box_two (unhide BS)
  go_wp2_with fail
  refine (refGen_yes d p w2 h1 h2 h3).mono ?_
  rintro e w3 ⟨u3, rfl, O3, b3⟩
  obtain ⟨p3, n3, c3, rfl, e3⟩ := O3.form
  have hm3 := genM_may d (by omega) p (by omega) h1
  rw [hm3.2.1] at e3
  have hV := O3.matV (rows_le hm3.1)
  replace BS := hide ((b3.block _ (lt_of_block (unhide BS))).trans (unhide BS))
  replace HB := hide (bt (unhide HB) b3)
  have M3 := hide hV
  have E3 := hide e3
  clear O3 b3 e3 hV hm3 c0 c1
  obtain ⟨c0, c1⟩ := box_two (unhide BS)
  have d0 := fun o => ((below_alloc w3 o).cell (cell_lt c0)).trans c0
  have d1 := fun o => ((below_alloc w3 o).cell (cell_lt c1)).trans c1
  have BA := hide (heap_alloc_new w3 (.cells #[.slice p3 n3 c3] 52))
  have hx := below_alloc w3 (.cells #[.slice p3 n3 c3] 52)
  go_wp2_with fail
  generalize (w3.alloc (.cells #[.slice p3 n3 c3] 52)) = W3 at *
  replace BS := hide ((hx.block _ (lt_of_block (unhide BS))).trans (unhide BS))
  replace M3 := hide ((unhide M3).below hx)
  replace HB := hide (bt (unhide HB) hx)
  clear hx c0 c1 d0 d1
  obtain ⟨b3, o3, rfl, hrows⟩ : ∃ b o, p3 = some ⟨b, o, none⟩ ∧ ∀ i, i < n3 → ∃ u, W3.cell? ⟨b, o + i, none⟩ = some u ∧ RowV W3 u ((genM d p).getD i []) := by
    obtain ⟨a', n', c', e, R⟩ := unhide M3
    simp only [Value.agg.injEq, Array.mk.injEq, List.cons.injEq, Value.slice.injEq, and_true] at e
    obtain ⟨rfl, rfl, rfl⟩ := e
    rcases R.two with h0 | h
    · have := unhide E3; omega
    · exact h
  have HR := hide hrows
  have hn3 : n3 ≤ 6 := by have := unhide E3; omega
  clear hrows
  go_loopw [8, 9] (fun ov iv wr => ∃ k r : Nat, k ≤ p ∧ Hid (r = d + k) ∧ iv = .int .i64 r ∧ Hid (OwnL wr W3.heap.size 9 ov ((encTo d p ss k).map Value.string)) ∧ Hid (Below W3.heap.size W3 wr)) (fun _ iv _ => d + p - (intOf iv).toNat)
  case atStart => exact ⟨0, d, by omega, hide rfl, rfl, hide (OwnL.nil _ _ _), hide (Below.refl _ _)⟩
  case round =>
    obtain ⟨k, r, hk, Er, rfl, HO, HW⟩ := hrel
    have bS := ((unhide HW).block _ (lt_of_block (unhide BS))).trans (unhide BS)
    have bA := ((unhide HW).block _ (lt_of_block (unhide BA))).trans (unhide BA)
    obtain ⟨c0, c1⟩ := box_two bS
    have cA := cell_of_one bA
    clear bS bA
    by_cases hlt : k < p
    · have hlt' : (r : Int) < (d : Int) + (p : Int) := by have := unhide Er; omega
      have hr3 : r < n3 := by have := unhide Er; have := unhide E3; omega
      have hr3' : (r : Int) < n3 := by omega
      obtain ⟨u, hu, x, nx, cx, rfl, hnx, hx⟩ := unhide HR r hr3
      have cu := ((unhide HW).cell (cell_lt hu)).trans hu
      have HX := hide (hx.below (unhide HW))
      obtain ⟨pv, cv, ev⟩ := (unhide HO).form
      rw [List.length_map, encTo_len] at ev
      subst ev
      have hxl : nx = d := by rw [← hx.1]; exact (gen_row h1 h2 h3 (by have := unhide Er; omega)).1
      have HXL := hide hxl
      clear hu hx hxl
      unfold maxLen at hnx
      go_wp2_with fail
      refine (refCombine_any _ _ _ _ _ _ _ ss wr (unhide HX) ((unhide HS).below (bt (unhide HB) (unhide HW))) (by have := unhide HXL; omega)).mono ?_
      rintro e w5 ⟨r5, hr5, rfl, b5⟩
      obtain rfl := gen_comb h1 h2 h3 (by have := unhide Er; omega) (unhide HL) (unhide HA) hr5
      replace HO := hide ((unhide HO).below b5)
      replace HW := hide ((unhide HW).trans (b5.mono (unhide HW).size))
      have hszW := (unhide HW).size
      clear hr5 b5 cA cu c0 c1
      obtain ⟨t, et⟩ : ∃ t, t = Vec.out ((genM d p).getD r []) ss := ⟨_, rfl⟩
      rw [← et]
      have ET := hide et
      clear et
      go_wp2_with (at_builtin; refine wpList_push w5 (by rfl) (.tmp 53) (.tmp 55) 24 (by rfl) W3.heap.size 9 (.string ByteArray.empty) 16 Tryd.underlying24 Tryd.infoText rfl _ _ (by rfl) (unhide HO) _ (by rfl) (by rfl) (by simp [encTo_len]; omega) (by omega) hszW ?_; intro v1 wa O1 P1; have HBa := hide (P1.below (unhide HO) (unhide HW) (Nat.le_refl _) hszW); have HO1 := hide O1; clear O1 P1 HO HW)
      go_roundw
      case rel =>
        refine ⟨k + 1, r + 1, by omega, hide (by have := unhide Er; omega), by go_num, hide ?_, HBa⟩
        have := unhide HO1
        rw [encTo_snoc, List.map_append, ← unhide Er]
        simp only [List.map_cons, List.map_nil]
        rw [← unhide ET]
        exact this
      case measure => simp [intOf]; have := unhide Er; omega
    · have hlt' : ¬ (r : Int) < (d : Int) + (p : Int) := by have := unhide Er; omega
      obtain rfl : k = p := by omega
      obtain ⟨pv, cv, ev⟩ := (unhide HO).form
      rw [List.length_map, encTo_len] at ev
      subst ev
      have hB := hide (bt (unhide HB) (unhide HW))
      have hs3 := (unhide HB).size
      go_wp2
      go_ret2
      exact ⟨_, rfl, (unhide HO).mono hs3, unhide hB⟩
theorem refEncode_fun (d p : Int) (a : Option Addr) (n ca : Nat) (ss : List ByteArray) (w : World) (hs : Strs w a n ca ss) (hn : n * 16 ≤ 140737488351232) : Calls Tryd.prog 15 #[.agg #[.int .i64 d, .int .i64 p], .slice a n ca] w fun e w' =>
    ∃ v, e = .returned (.tuple #[v, .int .i64 (encF d p ss).2]) ∧ OwnL w' w.heap.size 9 v ((encF d p ss).1.map Value.string) ∧ Below w.heap.size w w' := by
  by_cases h : EncMay d p ss
  · obtain ⟨h1, h2, h3⟩ := h
    have h' := h1
    unfold ShpMay at h'
    have hl := hs.1
    obtain ⟨m, rfl⟩ : ∃ m : Nat, p = m := ⟨p.toNat, by omega⟩
    obtain rfl : d = (n : Int) := by rw [← h2, hl]
    refine (refEncode_yes n m a ca ss w hs (by omega) (by omega) (by omega) h3).mono ?_
    rintro e w' ⟨v, rfl, ho, hb⟩
    simp only [encF, if_pos (show EncMay (n : Int) (m : Int) ss from ⟨h1, h2, h3⟩), Int.toNat_natCast]
    exact ⟨v, rfl, ho, hb⟩
  · refine (refEncode_no d p a n ca ss w hs hn h).mono ?_
    rintro e w' ⟨rfl, hb⟩
    simp only [encF, if_neg h]
    exact ⟨_, rfl, OwnL.nil _ _ _, hb⟩
end Go.Proofs.YtcgagkaalbljmaaDoor
/- Package encode: the function handed to slices.ContainsFunc, and that call: the walks. -/
namespace Go.Proofs.YtcgagkaalbljmaaDoor
open Go.RowKit
set_option linter.unusedVariables false
set_option linter.unusedSimpArgs false
attribute [local go_sem ↓] Go.wp_at_zero Go.wp_at_succ
set_option maxRecDepth 100000 in
theorem encLit_any (t s : ByteArray) (g b off n ca : Nat) (w : World) (hg : w.cell? ⟨g, 0, none⟩ = some (.slice (some ⟨b, off, none⟩) n ca)) (hn : 1 ≤ n) (hc : w.cell? ⟨b, off, none⟩ = some (.string s)) :
    Calls Tryd.prog 35 #[.string t, .pointer (some ⟨g, 0, none⟩)] w fun e w' => e = .returned (.bool ((t.size : Int) != (s.size : Int))) ∧ w' = w := by
  have hn' : (0 : Int) < n := by omega
  go_enter Tryd.func35, Tryd.ntmps35
  go_wp2
  go_ret
  exact ⟨rfl, rfl⟩
set_option maxRecDepth 100000 in
set_option maxHeartbeats 1000000 in
theorem indexFunc_any (b off n ca k : Nat) (q : Array Value) (g : ByteArray → Bool) (ss : List ByteArray) (w : World) (hl : ss.length = n) (hn : n ≤ 12)
    (hc : ∀ i, i < n → w.cell? ⟨b, off + i, none⟩ = some (.string (ss.getD i ByteArray.empty)))
    (hE : ∀ (args : Array Value) (w : World), (callFunc k args).run Tryd.prog w = .ok (.enter k args) w)
    (hat : ∀ t : ByteArray, Calls Tryd.prog k (#[.string t] ++ q) w fun e w' => e = .returned (.bool (g t)) ∧ w' = w) :
    Calls Tryd.prog 54 #[.slice (some ⟨b, off, none⟩) n ca, .func (.func k) #[] q] w fun e w' => ∃ r : Int, e = .returned (.int .i64 r) ∧ decide (0 ≤ r) = ss.any g ∧ w' = w := by
  have HAT := hide hat
  have HE := hide hE
  have HL := hide hl
  have HC := hide hc
  clear hat hE hl hc
  go_enter Tryd.func54, Tryd.ntmps54
  go_wp2
  go_loopw [8] (fun iv wr => ∃ i : Nat, i ≤ n ∧ iv = .int .i64 i ∧ wr = w ∧ Hid (∀ j, j < i → g (ss.getD j ByteArray.empty) = false)) (fun iv _ => n - (intOf iv).toNat)
  case atStart => exact ⟨0, by omega, rfl, rfl, hide (fun j hj => by omega)⟩
  case round =>
    obtain ⟨i, hi, rfl, hw, HN⟩ := hrel
    subst hw
    by_cases hlt : i < n
    · have hlt' : (i : Int) < n := by omega
      have ci := unhide HC i hlt
      have hE := unhide HE
      obtain ⟨t, et⟩ : ∃ t, t = ss.getD i ByteArray.empty := ⟨_, rfl⟩
      rw [← et] at ci
      have ET := hide et
      clear et
      cases hg : g t with
      | true =>
        go_wp2_with fail
        refine (unhide HAT t).mono ?_
        rintro e w' ⟨rfl, rfl⟩
        rw [hg]
        go_wp2
        go_ret
        refine ⟨_, rfl, ?_, rfl⟩
        rw [decide_eq_true (by omega)]
        refine (List.any_eq_true.2 ⟨t, ?_, hg⟩).symm
        rw [unhide ET, List.getD, List.getElem?_eq_getElem (by rw [unhide HL]; exact hlt)]
        exact List.getElem_mem _
      | false =>
        go_wp2_with fail
        refine (unhide HAT t).mono ?_
        rintro e w' ⟨rfl, rfl⟩
        rw [hg]
        go_wp2
        go_roundw
        case rel =>
          refine ⟨i + 1, by omega, by go_num, trivial, hide (fun j hj => ?_)⟩
          by_cases h : j < i
          · exact unhide HN j h
          · obtain rfl : j = i := by omega
            rw [← unhide ET]; exact hg
        case measure => simp [intOf]; omega
    · have hlt' : ¬ (i : Int) < n := by omega
      obtain rfl : i = n := by omega
      go_wp2
      go_ret
      refine ⟨_, rfl, ?_, rfl⟩
      symm
      rw [show decide ((0 : Int) ≤ -1) = false from rfl, List.any_eq_false]
      intro x hx
      obtain ⟨j, hj, rfl⟩ := List.getElem_of_mem hx
      have := unhide HN j (by rw [← unhide HL]; exact hj)
      rw [List.getD, List.getElem?_eq_getElem hj] at this
      simpa using this
set_option maxRecDepth 100000 in
theorem containsFunc_any (b off n ca k : Nat) (q : Array Value) (g : ByteArray → Bool) (ss : List ByteArray) (w : World) (hl : ss.length = n) (hn : n ≤ 12)
    (hc : ∀ i, i < n → w.cell? ⟨b, off + i, none⟩ = some (.string (ss.getD i ByteArray.empty)))
    (hE : ∀ (args : Array Value) (w : World), (callFunc k args).run Tryd.prog w = .ok (.enter k args) w)
    (hat : ∀ t : ByteArray, Calls Tryd.prog k (#[.string t] ++ q) w fun e w' => e = .returned (.bool (g t)) ∧ w' = w) :
    Calls Tryd.prog 34 #[.slice (some ⟨b, off, none⟩) n ca, .func (.func k) #[] q] w fun e w' => e = .returned (.bool (ss.any g)) ∧ w' = w := by
  have H := hide (indexFunc_any b off n ca k q g ss w hl hn hc hE hat)
  clear hl hn hc hE hat
  go_enter Tryd.func34, Tryd.ntmps34
  go_wp2_with fail
  refine (unhide H).mono ?_
  rintro e w' ⟨r, rfl, hr, rfl⟩
  have HR := hide hr
  clear hr
  go_wp2
  go_ret
  refine ⟨?_, rfl⟩
  rw [← unhide HR]; rfl
end Go.Proofs.YtcgagkaalbljmaaDoor
/- Package encode: haveForm, Encode: the walks. -/
namespace Go.Proofs.YtcgagkaalbljmaaDoor
open Go.RowKit
set_option linter.unusedVariables false
set_option linter.unusedSimpArgs false
attribute [local go_sem ↓] Go.wp_at_zero Go.wp_at_succ
open Vec (alikeTo numsTo May)
theorem alike_of_any {ss : List ByteArray} {n : Nat} (hl : ss.length = n) (h0 : (ss.getD 0 ByteArray.empty).size ≤ 4096) : (!(ss.any fun t => ((t.size : Int) != ((ss.getD 0 ByteArray.empty).size : Int)))) = decide (alikeTo ss n) := by
  rw [Bool.eq_iff_iff]
  simp only [Bool.not_eq_true', List.any_eq_false, decide_eq_true_eq]
  constructor
  · intro h i hi
    have hx : ss.getD i ByteArray.empty ∈ ss := by rw [List.getD, List.getElem?_eq_getElem (by omega)]; exact List.getElem_mem _
    have := h _ hx
    simp at this
    exact ⟨by simp only [List.getD] at this ⊢; omega, by simp only [List.getD] at this h0 ⊢; omega⟩
  · intro h x hx
    obtain ⟨j, hj, rfl⟩ := List.getElem_of_mem hx
    have := (h j (by omega)).1
    rw [List.getD, List.getElem?_eq_getElem hj] at this
    simp only [Option.getD_some] at this
    simp [this]
set_option maxRecDepth 100000 in
set_option maxHeartbeats 2000000 in
theorem encForm_any (d p : Int) (a : Option Addr) (n ca : Nat) (ss : List ByteArray) (w : World) (hs : Strs w a n ca ss) (hn : n * 16 ≤ 140737488351232) (hm : Made w) :
    Calls Tryd.prog 20 #[.agg #[.int .i64 d, .int .i64 p], .slice a n ca] w fun e w' => e = .returned (.bool (decide (EncMay d p ss))) ∧ Below w.heap.size w w' := by
  have HS := hide hs
  have hl : ss.length = n := hs.1
  have HL := hide hl
  have MD := hide hm
  by_cases h1 : ShpMay d p
  · have H1 := hide h1
    by_cases h2 : (n : Int) = d
    · have h1' := h1
      unfold ShpMay at h1'
      have hn1 : 1 ≤ n := by omega
      have hn4 : n ≤ 4 := by omega
      have hn1' : (0 : Int) < n := by omega
      have t2 : ((n : Int) != d) = false := by simp [h2]
      obtain ⟨b, off, rfl, hc⟩ : ∃ b off, a = some ⟨b, off, none⟩ ∧ ∀ i, i < n → w.cell? ⟨b, off + i, none⟩ = some (.string (ss.getD i ByteArray.empty)) := by
        rcases hs.2.two with h | h
        · omega
        · exact h
      have HC := hide hc
      obtain ⟨s0, es0⟩ : ∃ s0, s0 = ss.getD 0 ByteArray.empty := ⟨_, rfl⟩
      have E0 := hide es0
      by_cases h3 : s0.size ≤ 4096
      · have h3' : ¬ ((4096 : Int) < (s0.size : Int)) := by omega
        have hdec : decide (EncMay d p ss) = decide (alikeTo ss n) := by
          rw [decide_eq_decide]
          unfold EncMay
          rw [hl]
          exact ⟨fun h => h.2.2, fun h => ⟨h1, h2, h⟩⟩
        have EV := hide (hdec.trans (alike_of_any hl (by rw [← es0]; exact h3)).symm)
        clear h1 h1' h2 hs hl hm hc es0 hdec
        go_enter Tryd.func20, Tryd.ntmps20
        go_wp2_with fail
        have B0 := hide (two_old w (.cells #[.int .i64 d, .int .i64 p] 23) (.cells #[.slice (some ⟨b, off, none⟩) n ca] 24))
        have B1 := hide (two_new w (.cells #[.int .i64 d, .int .i64 p] 23) (.cells #[.slice (some ⟨b, off, none⟩) n ca] 24))
        have HB := hide (below_two w (.cells #[.int .i64 d, .int .i64 p] 23) (.cells #[.slice (some ⟨b, off, none⟩) n ca] 24))
        generalize ((w.alloc (.cells #[.int .i64 d, .int .i64 p] 23)).alloc (.cells #[.slice (some ⟨b, off, none⟩) n ca] 24)) = W at *
        refine (genMay_yes d p W (unhide H1) ((unhide MD).up (unhide HB))).mono ?_
        rintro e w1 ⟨rfl, b1⟩
        replace B0 := hide ((b1.block _ (lt_of_block (unhide B0))).trans (unhide B0))
        replace B1 := hide ((b1.block _ (lt_of_block (unhide B1))).trans (unhide B1))
        replace HB := hide (bt (unhide HB) b1)
        clear b1
        obtain ⟨c0, c0'⟩ := box_two (unhide B0)
        have c1 := cell_of_one (unhide B1)
        have cc := ((unhide HB).cell (cell_lt (unhide HC 0 hn1))).trans (unhide HC 0 hn1)
        rw [← unhide E0, Nat.add_zero] at cc
        go_wp2_with fail
        refine (containsFunc_any b off n ca 35 #[.pointer (some ⟨w.heap.size + 1, 0, none⟩)] (fun t => ((t.size : Int) != (s0.size : Int))) ss w1 (unhide HL) (by omega) (fun i hi => ((unhide HB).cell (cell_lt (unhide HC i hi))).trans (unhide HC i hi)) (enters_it Tryd.func35 (by kernel_rfl) rfl) (fun t => by simpa using encLit_any t s0 (w.heap.size + 1) b off n ca w1 c1 hn1 cc)).mono ?_
        rintro e w2 ⟨rfl, rfl⟩
        obtain ⟨B, eB⟩ : ∃ B, B = ss.any fun t => ((t.size : Int) != (s0.size : Int)) := ⟨_, rfl⟩
        rw [← eB]
        have EB := hide eB
        clear eB
        go_wp2
        go_ret
        refine ⟨?_, unhide HB⟩
        rw [unhide EV, ← unhide E0, ← unhide EB]
        first | done | rfl
      · have h3' : (4096 : Int) < (s0.size : Int) := by omega
        have hdec : decide (EncMay d p ss) = false := decide_eq_false (fun h => h3 (by rw [es0]; exact (h.2.2 0 (by omega)).2))
        rw [hdec]
        clear h1 h1' h2 hs hl hm hc es0 hdec
        go_enter Tryd.func20, Tryd.ntmps20
        go_wp2_with fail
        have B0 := hide (two_old w (.cells #[.int .i64 d, .int .i64 p] 23) (.cells #[.slice (some ⟨b, off, none⟩) n ca] 24))
        have B1 := hide (two_new w (.cells #[.int .i64 d, .int .i64 p] 23) (.cells #[.slice (some ⟨b, off, none⟩) n ca] 24))
        have HB := hide (below_two w (.cells #[.int .i64 d, .int .i64 p] 23) (.cells #[.slice (some ⟨b, off, none⟩) n ca] 24))
        generalize ((w.alloc (.cells #[.int .i64 d, .int .i64 p] 23)).alloc (.cells #[.slice (some ⟨b, off, none⟩) n ca] 24)) = W at *
        refine (genMay_yes d p W (unhide H1) ((unhide MD).up (unhide HB))).mono ?_
        rintro e w1 ⟨rfl, b1⟩
        replace B0 := hide ((b1.block _ (lt_of_block (unhide B0))).trans (unhide B0))
        replace B1 := hide ((b1.block _ (lt_of_block (unhide B1))).trans (unhide B1))
        replace HB := hide (bt (unhide HB) b1)
        clear b1
        obtain ⟨c0, c0'⟩ := box_two (unhide B0)
        have c1 := cell_of_one (unhide B1)
        have cc := ((unhide HB).cell (cell_lt (unhide HC 0 hn1))).trans (unhide HC 0 hn1)
        rw [← unhide E0, Nat.add_zero] at cc
        go_wp2
        go_ret
        exact ⟨rfl, unhide HB⟩
    · have t2 : ((n : Int) != d) = true := by simp; omega
      rw [decide_eq_false (show ¬ EncMay d p ss from fun h => h2 (by rw [← h.2.1, hl]))]
      clear h1 h2 hs hl hm
      go_enter Tryd.func20, Tryd.ntmps20
      go_wp2_with fail
      have B0 := hide (two_old w (.cells #[.int .i64 d, .int .i64 p] 23) (.cells #[.slice a n ca] 24))
      have B1 := hide (two_new w (.cells #[.int .i64 d, .int .i64 p] 23) (.cells #[.slice a n ca] 24))
      have HB := hide (below_two w (.cells #[.int .i64 d, .int .i64 p] 23) (.cells #[.slice a n ca] 24))
      generalize ((w.alloc (.cells #[.int .i64 d, .int .i64 p] 23)).alloc (.cells #[.slice a n ca] 24)) = W at *
      refine (genMay_yes d p W (unhide H1) ((unhide MD).up (unhide HB))).mono ?_
      rintro e w1 ⟨rfl, b1⟩
      replace B0 := hide ((b1.block _ (lt_of_block (unhide B0))).trans (unhide B0))
      replace B1 := hide ((b1.block _ (lt_of_block (unhide B1))).trans (unhide B1))
      replace HB := hide (bt (unhide HB) b1)
      clear b1
      obtain ⟨c0, c0'⟩ := box_two (unhide B0)
      have c1 := cell_of_one (unhide B1)
      go_wp2
      go_ret
      exact ⟨rfl, unhide HB⟩
  · have H1 := hide h1
    rw [decide_eq_false (show ¬ EncMay d p ss from fun h => h1 h.1)]
    clear h1 hs hl hm
    go_enter Tryd.func20, Tryd.ntmps20
    go_wp2_with fail
    have HB := hide (below_two w (.cells #[.int .i64 d, .int .i64 p] 23) (.cells #[.slice a n ca] 24))
    generalize ((w.alloc (.cells #[.int .i64 d, .int .i64 p] 23)).alloc (.cells #[.slice a n ca] 24)) = W at *
    refine (genMay_no d p W (unhide H1)).mono ?_
    rintro e w1 ⟨rfl, b1⟩
    replace HB := hide (bt (unhide HB) b1)
    clear b1
    go_wp2
    go_ret
    exact ⟨rfl, unhide HB⟩
end Go.Proofs.YtcgagkaalbljmaaDoor
/- Package encode: Encode: the walk. -/
namespace Go.Proofs.YtcgagkaalbljmaaDoor
open Go.RowKit
set_option linter.unusedVariables false
set_option linter.unusedSimpArgs false
attribute [local go_sem ↓] Go.wp_at_zero Go.wp_at_succ
open Vec (alikeTo numsTo May)
/-- the texts of parity, the first k of them made -/
def encAt (d p : Nat) (ss : List ByteArray) (k : Nat) : List ByteArray := encTo d p ss k ++ List.replicate (p - k) ByteArray.empty
theorem encAt_len (d p : Nat) (ss : List ByteArray) (k : Nat) (h : k ≤ p) : (encAt d p ss k).length = p := by simp [encAt, encTo_len]; omega
theorem encAt_start (d p : Nat) (ss : List ByteArray) : encAt d p ss 0 = List.replicate p ByteArray.empty := by simp [encAt, encTo]
theorem encAt_end (d p : Nat) (ss : List ByteArray) : encAt d p ss p = encTo d p ss p := by simp [encAt]
theorem encAt_set (d p : Nat) (ss : List ByteArray) (k : Nat) (h : k < p) : (encAt d p ss k).set k (Vec.out ((genM d p).getD (d + k) []) ss) = encAt d p ss (k + 1) := by
  unfold encAt
  rw [encTo_snoc, List.set_append_right _ _ (by rw [encTo_len]; exact Nat.le_refl _), encTo_len, Nat.sub_self]
  obtain ⟨m, hm⟩ : ∃ m, p - k = m + 1 := ⟨p - k - 1, by omega⟩
  rw [hm, show p - (k + 1) = m by omega, List.replicate_succ, List.set_cons_zero]
  simp
theorem own_madeT (w : World) (B n : Nat) (E : TypeId) (h : B ≤ w.heap.size) (hn : n ≤ maxLen) : OwnL (w.alloc (.cells (madeCells #[.string ByteArray.empty] n) E)) B E (.slice (some ⟨w.heap.size, 0, none⟩) n n) ((List.replicate n ByteArray.empty).map Value.string) := by
  have := World.ownsRow_lit (e := E) (size := 1) w (madeCells #[.string ByteArray.empty] n) n h hn (by rw [size_madeCells]; omega)
  rw [toList_madeCells_one] at this
  unfold OwnL
  simpa using this
theorem own_madeT_at (w : World) (B n : Nat) (E : TypeId) (H : Nat) (hH : w.heap.size = H) (h : B ≤ w.heap.size) (hn : n ≤ maxLen) : OwnL (w.alloc (.cells (madeCells #[.string ByteArray.empty] n) E)) B E (.slice (some ⟨H, 0, none⟩) n n) ((List.replicate n ByteArray.empty).map Value.string) := by subst hH; exact own_madeT w B n E h hn
theorem own_cellT {w : World} {B E g n cap : Nat} {xs : List ByteArray} (h : OwnL w B E (.slice (some ⟨g, 0, none⟩) n cap) (xs.map Value.string)) (k : Nat) (hk : k < xs.length) : w.cell? ⟨g, k, none⟩ = some (.string (xs.getD k ByteArray.empty)) := by
  obtain ⟨g1, cap1, e, hb, _, _, hc⟩ := own_form (n := (xs.map Value.string).length) h (by simp; omega)
  simp only [Value.slice.injEq, Option.some.injEq, Addr.mk.injEq, and_true, true_and] at e
  obtain ⟨rfl, _⟩ := e
  exact hc k _ (by simp [List.getElem?_eq_getElem hk])
set_option maxRecDepth 100000 in
set_option maxHeartbeats 1000000 in
theorem encEncode_no (d p : Int) (a : Option Addr) (n ca : Nat) (ss : List ByteArray) (w : World) (hs : Strs w a n ca ss) (hn : n * 16 ≤ 140737488351232) (hm : Made w) (h : ¬ EncMay d p ss) :
    Calls Tryd.prog 14 #[.agg #[.int .i64 d, .int .i64 p], .slice a n ca] w fun e w' => e = .returned (.tuple #[.slice none 0 0, .int .i64 600]) ∧ Below w.heap.size w w' := by
  have HS := hide hs
  have MD := hide hm
  have HD := hide (decide_eq_false h)
  clear hs hm h
  go_enter Tryd.func14, Tryd.ntmps14
  go_wp2_with fail
  have HB := hide (below_alloc w (.cells #[.int .i64 d, .int .i64 p] 23))
  generalize (w.alloc (.cells #[.int .i64 d, .int .i64 p] 23)) = W at *
  refine (encForm_any d p a n ca ss W ((unhide HS).below (unhide HB)) hn ((unhide MD).up (unhide HB))).mono ?_
  rintro e w1 ⟨he, b1⟩
  rw [unhide HD] at he
  subst he
  replace HB := hide (bt (unhide HB) b1)
  clear b1
  go_wp2
  go_ret2
  exact ⟨rfl, unhide HB⟩
set_option maxRecDepth 100000 in
set_option maxHeartbeats 4000000 in
theorem encEncode_yes (d p : Nat) (a : Option Addr) (ca : Nat) (ss : List ByteArray) (w : World) (hs : Strs w a d ca ss) (h1 : 1 ≤ d) (h2 : d ≤ 4) (h3 : p ≤ 2) (ha : alikeTo ss ss.length) (hm : Made w) :
    Calls Tryd.prog 14 #[.agg #[.int .i64 d, .int .i64 p], .slice a d ca] w fun e w' => ∃ v, e = .returned (.tuple #[v, .int .i64 0]) ∧ OwnL w' w.heap.size 9 v ((encTo d p ss p).map Value.string) ∧ Below w.heap.size w w' := by
  have HS := hide hs
  have hl : ss.length = d := hs.1
  have HL := hide hl
  have HA := hide ha
  have MD := hide hm
  have HD := hide (decide_eq_true (show EncMay d p ss from ⟨by unfold ShpMay; omega, by rw [hl], ha⟩))
  have hmk := fun w => run_make_row' (P := Tryd.prog) 24 9 (.string ByteArray.empty) 16 Tryd.underlying24 Tryd.infoText rfl .i64 .i64 p (by omega) (by omega) w
  clear hs hl ha hm
  go_enter Tryd.func14, Tryd.ntmps14
  go_wp2_with fail
  have BS := hide (heap_alloc_new w (.cells #[.int .i64 d, .int .i64 p] 23))
  have HB := hide (below_alloc w (.cells #[.int .i64 d, .int .i64 p] 23))
  generalize (w.alloc (.cells #[.int .i64 d, .int .i64 p] 23)) = W at *
  refine (encForm_any d p a d ca ss W ((unhide HS).below (unhide HB)) (by omega) ((unhide MD).up (unhide HB))).mono ?_
  rintro e w1 ⟨he, b1⟩
  rw [unhide HD] at he
  subst he
  replace BS := hide ((b1.block _ (lt_of_block (unhide BS))).trans (unhide BS))
  replace HB := hide (bt (unhide HB) b1)
  clear b1 HD
  obtain ⟨c0, c1⟩ := box_two (unhide BS)
  go_wp2_with fail
  refine (genMatrix_yes d p w1 h1 h2 h3 ((unhide MD).up (unhide HB))).mono ?_
  rintro e w3 ⟨u3, rfl, O3, b3⟩
  obtain ⟨p3, n3, c3, rfl, e3⟩ := O3.form
  have hm3 := genM_may d (by omega) p (by omega) h1
  rw [hm3.2.1] at e3
  have hV := O3.matV (rows_le hm3.1)
  replace BS := hide ((b3.block _ (lt_of_block (unhide BS))).trans (unhide BS))
  replace HB := hide (bt (unhide HB) b3)
  have M3 := hide hV
  have E3 := hide e3
  clear O3 b3 e3 hV hm3 c0 c1
  obtain ⟨c0, c1⟩ := box_two (unhide BS)
  have d0 := fun o => ((below_alloc w3 o).cell (cell_lt c0)).trans c0
  have d1 := fun o => ((below_alloc w3 o).cell (cell_lt c1)).trans c1
  have BA := hide (heap_alloc_new w3 (.cells #[.slice p3 n3 c3] 52))
  have hx := below_alloc w3 (.cells #[.slice p3 n3 c3] 52)
  go_wp2_with fail
  have hsW : (w3.alloc (.cells #[.slice p3 n3 c3] 52)).heap.size = w3.heap.size + 1 := by simp
  have HSW := hide hsW
  clear hsW
  generalize (w3.alloc (.cells #[.slice p3 n3 c3] 52)) = W3 at *
  replace BS := hide ((hx.block _ (lt_of_block (unhide BS))).trans (unhide BS))
  replace M3 := hide ((unhide M3).below hx)
  replace HB := hide (bt (unhide HB) hx)
  clear hx c0 c1 d0 d1
  obtain ⟨b3, o3, rfl, hrows⟩ : ∃ b o, p3 = some ⟨b, o, none⟩ ∧ ∀ i, i < n3 → ∃ u, W3.cell? ⟨b, o + i, none⟩ = some u ∧ RowV W3 u ((genM d p).getD i []) := by
    obtain ⟨a', n', c', e, R⟩ := unhide M3
    simp only [Value.agg.injEq, Array.mk.injEq, List.cons.injEq, Value.slice.injEq, and_true] at e
    obtain ⟨rfl, rfl, rfl⟩ := e
    rcases R.two with h0 | h
    · have := unhide E3; omega
    · exact h
  have HR := hide hrows
  have hn3 : n3 ≤ 6 := by have := unhide E3; omega
  clear hrows
  have HO := hide (own_madeT_at W3 W3.heap.size p 9 (w3.heap.size + 1) (unhide HSW) (Nat.le_refl _) (by unfold maxLen; omega))
  have HW := hide (below_alloc W3 (.cells (madeCells #[.string ByteArray.empty] p) 9))
  have hgl : W3.heap.size < (W3.alloc (.cells (madeCells #[.string ByteArray.empty] p) 9)).heap.size := by simp
  generalize (W3.alloc (.cells (madeCells #[.string ByteArray.empty] p) 9)) = W4 at *
  rw [← encAt_start d p ss] at HO
  go_loopw [24] (fun iv wr => ∃ k : Nat, k ≤ p ∧ iv = .int .i64 k ∧ Hid (OwnL wr W3.heap.size 9 (.slice (some ⟨w3.heap.size + 1, 0, none⟩) p p) ((encAt d p ss k).map Value.string)) ∧ Hid (Below W3.heap.size W3 wr)) (fun iv _ => p - (intOf iv).toNat)
  case atStart => exact ⟨0, by omega, rfl, HO, HW⟩
  case round =>
    clear HO HW
    obtain ⟨k, hk, rfl, HO, HW⟩ := hrel
    have bS := ((unhide HW).block _ (lt_of_block (unhide BS))).trans (unhide BS)
    have bA := ((unhide HW).block _ (lt_of_block (unhide BA))).trans (unhide BA)
    obtain ⟨c0, c1⟩ := box_two bS
    have cA := cell_of_one bA
    clear bS bA
    by_cases hlt : k < p
    · have hlt' : (k : Int) < (p : Int) := by omega
      obtain ⟨r, er⟩ : ∃ r : Nat, r = d + k := ⟨_, rfl⟩
      have er' : (d : Int) + (k : Int) = (r : Int) := by omega
      have hr3 : r < n3 := by have := unhide E3; omega
      have hr3' : (r : Int) < n3 := by omega
      obtain ⟨u, hu, x, nx, cx, rfl, hnx, hx⟩ := unhide HR r hr3
      have cu := ((unhide HW).cell (cell_lt hu)).trans hu
      have HX := hide (hx.below (unhide HW))
      have hxl : nx = d := by rw [← hx.1]; exact (gen_row h1 h2 h3 (by omega)).1
      have HXL := hide hxl
      have Er := hide er
      clear hu hx hxl er
      unfold maxLen at hnx
      go_wp2_with fail
      refine (vecCombine_any _ _ _ _ _ _ _ ss wr (unhide HX) ((unhide HS).below (bt (unhide HB) (unhide HW))) (by have := unhide HXL; omega)).mono ?_
      rintro e w5 ⟨r5, hr5, rfl, b5⟩
      obtain rfl := gen_comb h1 h2 h3 (by have := unhide Er; omega) (unhide HL) (unhide HA) hr5
      have hO := (unhide HO).below b5
      have hW5 := (unhide HW).trans (b5.mono (unhide HW).size)
      obtain ⟨t, et⟩ : ∃ t, t = Vec.out ((genM d p).getD r []) ss := ⟨_, rfl⟩
      have hN := own_put hO k (.string t)
      have cP := own_cellT hO k (by rw [encAt_len _ _ _ _ hk]; exact hlt)
      obtain ⟨y, ey⟩ : ∃ y, y = (encAt d p ss k).getD k ByteArray.empty := ⟨_, rfl⟩
      rw [← ey] at cP
      have fP := own_free hO k
      rw [← et]
      have HN : Hid (OwnL (w5.setCell ⟨w3.heap.size + 1, k, none⟩ (.string t)) W3.heap.size 9 (.slice (some ⟨w3.heap.size + 1, 0, none⟩) p p) ((encAt d p ss (k + 1)).map Value.string)) := by
        rw [← encAt_set d p ss k hlt, List.map_set, ← unhide Er, ← et]
        exact hide hN
      have HW6 := hide (hW5.setCell (p := ⟨w3.heap.size + 1, k, none⟩) (by show W3.heap.size ≤ w3.heap.size + 1; exact Nat.le_of_eq (unhide HSW)) (.string t))
      clear hr5 b5 cA cu c0 c1 hO hN et ey hW5 HO HW
      go_wp2
      go_roundw
      case rel => exact ⟨k + 1, by omega, by go_num, HN, HW6⟩
      case measure => simp [intOf]; omega
    · have hlt' : ¬ (k : Int) < (p : Int) := by omega
      obtain rfl : k = p := by omega
      have hB := hide (bt (unhide HB) (unhide HW))
      have hs3 := (unhide HB).size
      go_wp2
      go_ret2
      have hO := unhide HO
      rw [encAt_end] at hO
      exact ⟨_, rfl, hO.mono hs3, unhide hB⟩
theorem encEncode_fun (d p : Int) (a : Option Addr) (n ca : Nat) (ss : List ByteArray) (w : World) (hs : Strs w a n ca ss) (hn : n * 16 ≤ 140737488351232) (hm : Made w) : Calls Tryd.prog 14 #[.agg #[.int .i64 d, .int .i64 p], .slice a n ca] w fun e w' =>
    ∃ v, e = .returned (.tuple #[v, .int .i64 (encF d p ss).2]) ∧ OwnL w' w.heap.size 9 v ((encF d p ss).1.map Value.string) ∧ Below w.heap.size w w' := by
  by_cases h : EncMay d p ss
  · obtain ⟨h1, h2, h3⟩ := h
    have h' := h1
    unfold ShpMay at h'
    have hl := hs.1
    obtain ⟨m, rfl⟩ : ∃ m : Nat, p = m := ⟨p.toNat, by omega⟩
    obtain rfl : d = (n : Int) := by rw [← h2, hl]
    refine (encEncode_yes n m a ca ss w hs (by omega) (by omega) (by omega) h3 hm).mono ?_
    rintro e w' ⟨v, rfl, ho, hb⟩
    simp only [encF, if_pos (show EncMay (n : Int) (m : Int) ss from ⟨h1, h2, h3⟩), Int.toNat_natCast]
    exact ⟨v, rfl, ho, hb⟩
  · refine (encEncode_no d p a n ca ss w hs hn hm h).mono ?_
    rintro e w' ⟨rfl, hb⟩
    simp only [encF, if_neg h]
    exact ⟨_, rfl, OwnL.nil _ _ _, hb⟩
end Go.Proofs.YtcgagkaalbljmaaDoor
