/- Texts one behind the other: SpoilT, EncRef, EncRef2, EncW1, EncW2, EncWalk. -/
import Derived.Test.YtpmbmhjhclekeaaProg
import Derived.Test.YtpmbmhjhclekeaaKCore
import Derived.Test.YtpmbmhjhclekeaaKRegs
import Derived.Test.YtpmbmhjhclekeaaKMatRef
import Derived.Test.YtpmbmhjhclekeaaKGen
import Derived.Test.YtpmbmhjhclekeaaKVec
import Derived.Test.YtpmbmhjhclekeaaKMat
/- Lists of texts of the call's own; texts that are spoiled. -/
namespace Go.Proofs.Ytpmbmhjhclekeaa
open Go.RowKit
set_option linter.unusedVariables false
set_option linter.unusedSimpArgs false
theorem Try.infoText : (Try.prog.info? 9).map (fun i => (i.zero, i.size, i.bytes)) = some (some (.string ByteArray.empty), 1, 16) := by kernel_rfl
theorem own_scell {w : World} {B E g n cap : Nat} {xs : List ByteArray} (h : OwnL w B E (.slice (some ⟨g, 0, none⟩) n cap) (xs.map Value.string)) (k : Nat) (hk : k < xs.length) : w.cell? ⟨g, k, none⟩ = some (.string (xs.getD k ByteArray.empty)) := by
  obtain ⟨g1, cap1, e, hb, _, _, hc⟩ := own_form (n := (xs.map Value.string).length) h (by simp; omega)
  simp only [Value.slice.injEq, Option.some.injEq, Addr.mk.injEq, and_true, true_and] at e
  obtain ⟨rfl, _⟩ := e
  exact hc k _ (str_at rfl k hk)
set_option maxRecDepth 100000 in
set_option maxHeartbeats 1000000 in
theorem spoilTexts_none (a : Option Addr) (cap : Nat) (w : World) : Calls Try.prog 52 #[.slice a 0 cap] w fun e w' => e = .returned (.tuple #[]) ∧ w' = w := by
  go_enter Try.func52, Try.ntmps52
  go_wp2
  go_rounds 1
  exact bodyPost_end (v := .tuple #[]) (by simp [results, Try.results52, go_sem]) rfl ⟨rfl, rfl⟩
set_option maxRecDepth 100000 in
set_option maxHeartbeats 1000000 in
theorem spoilTexts_own (B E g n cap : Nat) (xs : List ByteArray) (w : World) (h : OwnL w B E (.slice (some ⟨g, 0, none⟩) n cap) (xs.map Value.string)) (hn : n ≤ maxLen) (hg : B ≤ g) (hz : ∀ i, (xs.getD i ByteArray.empty).size ≤ 140737488355328) :
    Calls Try.prog 52 #[.slice (some ⟨g, 0, none⟩) n cap] w fun e w' => e = .returned (.tuple #[]) ∧ (∀ k, k ≠ g → k < w.heap.size → w'.heap[k]? = w.heap[k]?) ∧ Below B w w' := by
  have hl : xs.length = n := by
    have := own_len h
    simpa using this
  have HH := hide h
  have HZ := hide hz
  unfold maxLen at hn
  clear h hz
  go_enter Try.func52, Try.ntmps52
  go_wp2
  go_loopw [2] (fun iv wr => ∃ k : Nat, k ≤ n ∧ iv = .int .i64 k ∧ Hid (∃ ys : List ByteArray, ys.length = xs.length ∧ (∀ i, k ≤ i → ys.getD i ByteArray.empty = xs.getD i ByteArray.empty) ∧ OwnL wr B E (.slice (some ⟨g, 0, none⟩) n cap) (ys.map Value.string)) ∧ Hid (∀ k, k ≠ g → k < w.heap.size → wr.heap[k]? = w.heap[k]?) ∧ Hid (Below B w wr)) (fun iv _ => n - (intOf iv).toNat)
  case atStart => exact ⟨0, by omega, rfl, hide ⟨xs, rfl, fun _ _ => rfl, unhide HH⟩, hide (fun _ _ _ => rfl), hide (Below.refl _ _)⟩
  case round =>
    obtain ⟨k, hk, rfl, HO, HF, HB⟩ := hrel
    by_cases hlt : k < n
    · have hlt' : (k : Int) < n := by omega
      obtain ⟨ys, hys, hsame, ho⟩ := unhide HO
      have c1 := own_scell ho k (by omega)
      have f1 := own_free ho k
      obtain ⟨y, ey⟩ : ∃ y, y = ys.getD k ByteArray.empty := ⟨_, rfl⟩
      rw [← ey] at c1
      have hy : y.size ≤ 140737488355328 := by rw [ey, hsame k (Nat.le_refl _)]; exact unhide HZ k
      have HE := hide hsame
      clear ey hsame
      have HO' := hide ho
      clear ho
      go_wp2
      go_roundw
      case rel =>
        have hst := own_put (unhide HO') k (.string ({ data := #[126] } ++ y))
        refine ⟨k + 1, by omega, by go_num, hide ⟨ys.set k ({ data := #[126] } ++ y), by simpa using hys, fun i hi => ?_, ?_⟩, hide (fun j hj hjs => ?_), hide ((unhide HB).setCell hg _)⟩
        · have hki : ¬ k = i := by omega
          have := unhide HE i (by omega)
          simp only [List.getD, List.getElem?_set, hki, if_false] at this ⊢
          exact this
        · rw [List.map_set]
          exact hst
        · exact (Below.heap_setCell wr ⟨g, k, none⟩ _ j hj).trans (unhide HF j hj hjs)
      case measure => simp [intOf]; omega
    · have hlt' : ¬ (k : Int) < n := by omega
      obtain rfl : k = n := by omega
      go_wp2
      exact bodyPost_end (v := .tuple #[]) (by simp [results, Try.results52, go_sem]) rfl ⟨rfl, unhide HF, unhide HB⟩
theorem spoilTexts_any (B E : Nat) (v : Value) (xs : List ByteArray) (w : World) (h : OwnL w B E v (xs.map Value.string)) (hn : xs.length ≤ maxLen) (hz : ∀ i, (xs.getD i ByteArray.empty).size ≤ 140737488355328) :
    Calls Try.prog 52 #[v] w fun e w' => e = .returned (.tuple #[]) ∧ (∀ k, v.ownBlock ≠ some k → k < w.heap.size → w'.heap[k]? = w.heap[k]?) ∧ Below B w w' := by
  rcases h.2 with ⟨rfl, h0⟩ | ⟨g, cap, cur, rfl, hb, _⟩
  · refine (spoilTexts_none none 0 w).mono ?_
    rintro e w' ⟨rfl, rfl⟩
    exact ⟨rfl, fun _ _ _ => rfl, Below.refl _ _⟩
  · simp only [List.length_map] at h ⊢
    refine (spoilTexts_own B E g _ cap xs w h hn hb hz).mono ?_
    rintro e w' ⟨rfl, h2, h3⟩
    exact ⟨rfl, fun k hk hs => h2 k (fun e => hk (by rw [e]; rfl)) hs, h3⟩
end Go.Proofs.Ytpmbmhjhclekeaa
/- Parity by the document (ossuaryref1.Encode): a contract; texts that are spoiled. -/
namespace Go.Proofs.Ytpmbmhjhclekeaa
open Go.RowKit
set_option linter.unusedVariables false
set_option linter.unusedSimpArgs false
open Vec (alikeTo numsTo May)
def EncMay (d p : Int) (ss : List ByteArray) : Prop := ShpMay d p ∧ (ss.length : Int) = d ∧ alikeTo ss ss.length
instance alikeDec (ss : List ByteArray) (n : Nat) : Decidable (alikeTo ss n) := by unfold alikeTo; exact inferInstance
instance encDec (d p : Int) (ss : List ByteArray) : Decidable (EncMay d p ss) := by unfold EncMay; exact inferInstance
/-- the first k parities -/
def encTo (d p : Nat) (ss : List ByteArray) (k : Nat) : List ByteArray := (List.range k).map fun i => Vec.out ((genM d p).getD (d + i) []) ss
/-- the parities, the error's number -/
def encF (d p : Int) (ss : List ByteArray) : List ByteArray × Int := if EncMay d p ss then (encTo d.toNat p.toNat ss p.toNat, 0) else ([], 600)
theorem encTo_len (d p : Nat) (ss : List ByteArray) (k : Nat) : (encTo d p ss k).length = k := by simp [encTo]
theorem encTo_snoc (d p : Nat) (ss : List ByteArray) (k : Nat) : encTo d p ss (k + 1) = encTo d p ss k ++ [Vec.out ((genM d p).getD (d + k) []) ss] := by
  unfold encTo
  rw [List.range_succ, List.map_append]
  rfl
theorem encF_len (d p : Int) (ss : List ByteArray) : (encF d p ss).1.length ≤ 2 := by
  unfold encF
  split
  · next h => rw [encTo_len]; have := h.1; unfold ShpMay at this; omega
  · exact Nat.zero_le _
theorem gen_row {d p : Nat} (h1 : 1 ≤ d) (h2 : d ≤ 4) (h3 : p ≤ 2) {r : Nat} (hr : r < d + p) : ((genM d p).getD r []).length = d ∧ numsTo ((genM d p).getD r []) ((genM d p).getD r []).length := by
  obtain ⟨hm, hl, hh⟩ := genM_may d (by omega) p (by omega) h1
  obtain ⟨e1, e2⟩ := hm.2.2.2.2 r (by omega)
  rw [hh] at e1 e2
  refine ⟨e1, fun i hi => ?_⟩
  rw [e1] at hi
  have := e2 i hi
  unfold byteI at this
  exact this
theorem gen_comb {d p : Nat} (h1 : 1 ≤ d) (h2 : d ≤ 4) (h3 : p ≤ 2) {r : Nat} (hr : r < d + p) {ss : List ByteArray} (hl : ss.length = d) (ha : alikeTo ss ss.length) {x : ByteArray × Int} (h : combR ((genM d p).getD r []) ss x) : x = (Vec.out ((genM d p).getD r []) ss, 0) := by
  obtain ⟨e1, e2⟩ := gen_row h1 h2 h3 hr
  have hm : May ((genM d p).getD r []) ss := ⟨by omega, by omega, by omega, ha, e2⟩
  rcases h with ⟨_, h⟩ | ⟨h, _⟩
  · exact h
  · exact absurd hm h
theorem out_len (cs : List Int) (ss : List ByteArray) : (Vec.out cs ss).size = (ss.getD 0 ByteArray.empty).size := by
  unfold Vec.out; rw [strOfNums_size]; simp [Vec.nums]
theorem encF_size (d p : Int) (ss : List ByteArray) : ∀ i, ((encF d p ss).1.getD i ByteArray.empty).size ≤ 140737488355328 := by
  intro i
  unfold encF
  split
  · next h =>
    obtain ⟨h1, h2, h3⟩ := h
    unfold ShpMay at h1
    have h0 := (h3 0 (by omega)).2
    by_cases hi : i < p.toNat
    · have e : (encTo d.toNat p.toNat ss p.toNat).getD i ByteArray.empty = Vec.out ((genM d.toNat p.toNat).getD (d.toNat + i) []) ss := by
        simp [encTo, List.getD, hi]
      rw [e, out_len]
      omega
    · have e : (encTo d.toNat p.toNat ss p.toNat).getD i ByteArray.empty = ByteArray.empty := by
        simp [encTo, List.getD, hi]
      rw [e]
      decide
  · simp
end Go.Proofs.Ytpmbmhjhclekeaa
/- Parity by the document (ossuaryref1.Encode): the walk. -/
namespace Go.Proofs.Ytpmbmhjhclekeaa
open Go.RowKit
set_option linter.unusedVariables false
set_option linter.unusedSimpArgs false
open Vec (alikeTo numsTo May)
theorem below_drews {w w' : World} {B : Nat} (h : ∃ m, w' = w.drewN m) : Below B w w' := by obtain ⟨m, rfl⟩ := h; exact below_drewN _ _ _
end Go.Proofs.Ytpmbmhjhclekeaa
/- Package encode: the function handed to slices.ContainsFunc, and that call: the walks. -/
namespace Go.Proofs.Ytpmbmhjhclekeaa
open Go.RowKit
set_option linter.unusedVariables false
set_option linter.unusedSimpArgs false
attribute [local go_sem ↓] Go.wp_at_zero Go.wp_at_succ
set_option maxRecDepth 100000 in
set_option maxHeartbeats 1000000 in
theorem indexFunc_any (b off n ca k : Nat) (q : Array Value) (g : ByteArray → Bool) (ss : List ByteArray) (w : World) (hl : ss.length = n) (hn : n ≤ 12)
    (hc : ∀ i, i < n → w.cell? ⟨b, off + i, none⟩ = some (.string (ss.getD i ByteArray.empty)))
    (hE : ∀ (args : Array Value) (w : World), (callFunc k args).run Try.prog w = .ok (.enter k args) w)
    (hat : ∀ t : ByteArray, Calls Try.prog k (#[.string t] ++ q) w fun e w' => e = .returned (.bool (g t)) ∧ w' = w) :
    Calls Try.prog 57 #[.slice (some ⟨b, off, none⟩) n ca, .func (.func k) #[] q] w fun e w' => ∃ r : Int, e = .returned (.int .i64 r) ∧ decide (0 ≤ r) = ss.any g ∧ w' = w := by
  have HAT := hide hat
  have HE := hide hE
  have HL := hide hl
  have HC := hide hc
  clear hat hE hl hc
  go_enter Try.func57, Try.ntmps57
  go_wp2
  go_loopw [8] (fun iv wr => ∃ i : Nat, i ≤ n ∧ iv = .int .i64 i ∧ wr = w ∧ Hid (∀ j, j < i → g (ss.getD j ByteArray.empty) = false)) (fun iv _ => n - (intOf iv).toNat)
  case atStart => exact ⟨0, by omega, rfl, rfl, hide (fun j hj => by omega)⟩
  case round =>
    obtain ⟨i, hi, rfl, hw, HN⟩ := hrel
    subst hw
    by_cases hlt : i < n
    · have hlt' : (i : Int) < n := by omega
      have ci := unhide HC i hlt
      have hE := unhide HE
      obtain ⟨t, et⟩ : ∃ t, t = ss.getD i ByteArray.empty := ⟨_, rfl⟩
      rw [← et] at ci
      have ET := hide et
      clear et
      cases hg : g t with
      | true =>
        go_wp2_with fail
        refine (unhide HAT t).mono ?_
        rintro e w' ⟨rfl, rfl⟩
        rw [hg]
        go_wp2
        go_ret
        refine ⟨_, rfl, ?_, rfl⟩
        rw [decide_eq_true (by omega)]
        refine (List.any_eq_true.2 ⟨t, ?_, hg⟩).symm
        rw [unhide ET, List.getD, List.getElem?_eq_getElem (by rw [unhide HL]; exact hlt)]
        exact List.getElem_mem _
      | false =>
        go_wp2_with fail
        refine (unhide HAT t).mono ?_
        rintro e w' ⟨rfl, rfl⟩
        rw [hg]
        go_wp2
        go_roundw
        case rel =>
          refine ⟨i + 1, by omega, by go_num, trivial, hide (fun j hj => ?_)⟩
          by_cases h : j < i
          · exact unhide HN j h
          · obtain rfl : j = i := by omega
            rw [← unhide ET]; exact hg
        case measure => simp [intOf]; omega
    · have hlt' : ¬ (i : Int) < n := by omega
      obtain rfl : i = n := by omega
      go_wp2
      go_ret
      refine ⟨_, rfl, ?_, rfl⟩
      symm
      rw [show decide ((0 : Int) ≤ -1) = false from rfl, List.any_eq_false]
      intro x hx
      obtain ⟨j, hj, rfl⟩ := List.getElem_of_mem hx
      have := unhide HN j (by rw [← unhide HL]; exact hj)
      rw [List.getD, List.getElem?_eq_getElem hj] at this
      simpa using this
set_option maxRecDepth 100000 in
theorem containsFunc_any (b off n ca k : Nat) (q : Array Value) (g : ByteArray → Bool) (ss : List ByteArray) (w : World) (hl : ss.length = n) (hn : n ≤ 12)
    (hc : ∀ i, i < n → w.cell? ⟨b, off + i, none⟩ = some (.string (ss.getD i ByteArray.empty)))
    (hE : ∀ (args : Array Value) (w : World), (callFunc k args).run Try.prog w = .ok (.enter k args) w)
    (hat : ∀ t : ByteArray, Calls Try.prog k (#[.string t] ++ q) w fun e w' => e = .returned (.bool (g t)) ∧ w' = w) :
    Calls Try.prog 50 #[.slice (some ⟨b, off, none⟩) n ca, .func (.func k) #[] q] w fun e w' => e = .returned (.bool (ss.any g)) ∧ w' = w := by
  have H := hide (indexFunc_any b off n ca k q g ss w hl hn hc hE hat)
  clear hl hn hc hE hat
  go_enter Try.func50, Try.ntmps50
  go_wp2_with fail
  refine (unhide H).mono ?_
  rintro e w' ⟨r, rfl, hr, rfl⟩
  have HR := hide hr
  clear hr
  go_wp2
  go_ret
  refine ⟨?_, rfl⟩
  rw [← unhide HR]; rfl
end Go.Proofs.Ytpmbmhjhclekeaa
/- Package encode: haveForm, Encode: the walks. -/
namespace Go.Proofs.Ytpmbmhjhclekeaa
open Go.RowKit
set_option linter.unusedVariables false
set_option linter.unusedSimpArgs false
attribute [local go_sem ↓] Go.wp_at_zero Go.wp_at_succ
open Vec (alikeTo numsTo May)
theorem alike_of_any {ss : List ByteArray} {n : Nat} (hl : ss.length = n) (h0 : (ss.getD 0 ByteArray.empty).size ≤ 4096) : (!(ss.any fun t => ((t.size : Int) != ((ss.getD 0 ByteArray.empty).size : Int)))) = decide (alikeTo ss n) := by
  rw [Bool.eq_iff_iff]
  simp only [Bool.not_eq_true', List.any_eq_false, decide_eq_true_eq]
  constructor
  · intro h i hi
    have hx : ss.getD i ByteArray.empty ∈ ss := by rw [List.getD, List.getElem?_eq_getElem (by omega)]; exact List.getElem_mem _
    have := h _ hx
    simp at this
    exact ⟨by simp only [List.getD] at this ⊢; omega, by simp only [List.getD] at this h0 ⊢; omega⟩
  · intro h x hx
    obtain ⟨j, hj, rfl⟩ := List.getElem_of_mem hx
    have := (h j (by omega)).1
    rw [List.getD, List.getElem?_eq_getElem hj] at this
    simp only [Option.getD_some] at this
    simp [this]
end Go.Proofs.Ytpmbmhjhclekeaa
/- Package encode: Encode: the walk. -/
namespace Go.Proofs.Ytpmbmhjhclekeaa
open Go.RowKit
set_option linter.unusedVariables false
set_option linter.unusedSimpArgs false
attribute [local go_sem ↓] Go.wp_at_zero Go.wp_at_succ
open Vec (alikeTo numsTo May)
/-- the texts of parity, the first k of them made -/
def encAt (d p : Nat) (ss : List ByteArray) (k : Nat) : List ByteArray := encTo d p ss k ++ List.replicate (p - k) ByteArray.empty
theorem encAt_len (d p : Nat) (ss : List ByteArray) (k : Nat) (h : k ≤ p) : (encAt d p ss k).length = p := by simp [encAt, encTo_len]; omega
theorem encAt_start (d p : Nat) (ss : List ByteArray) : encAt d p ss 0 = List.replicate p ByteArray.empty := by simp [encAt, encTo]
theorem encAt_end (d p : Nat) (ss : List ByteArray) : encAt d p ss p = encTo d p ss p := by simp [encAt]
theorem encAt_set (d p : Nat) (ss : List ByteArray) (k : Nat) (h : k < p) : (encAt d p ss k).set k (Vec.out ((genM d p).getD (d + k) []) ss) = encAt d p ss (k + 1) := by
  unfold encAt
  rw [encTo_snoc, List.set_append_right _ _ (by rw [encTo_len]; exact Nat.le_refl _), encTo_len, Nat.sub_self]
  obtain ⟨m, hm⟩ : ∃ m, p - k = m + 1 := ⟨p - k - 1, by omega⟩
  rw [hm, show p - (k + 1) = m by omega, List.replicate_succ, List.set_cons_zero]
  simp
theorem own_madeT (w : World) (B n : Nat) (E : TypeId) (h : B ≤ w.heap.size) (hn : n ≤ maxLen) : OwnL (w.alloc (.cells (madeCells #[.string ByteArray.empty] n) E)) B E (.slice (some ⟨w.heap.size, 0, none⟩) n n) ((List.replicate n ByteArray.empty).map Value.string) := by
  have := World.ownsRow_lit (e := E) (size := 1) w (madeCells #[.string ByteArray.empty] n) n h hn (by rw [size_madeCells]; omega)
  rw [toList_madeCells_one] at this
  unfold OwnL
  simpa using this
theorem own_madeT_at (w : World) (B n : Nat) (E : TypeId) (H : Nat) (hH : w.heap.size = H) (h : B ≤ w.heap.size) (hn : n ≤ maxLen) : OwnL (w.alloc (.cells (madeCells #[.string ByteArray.empty] n) E)) B E (.slice (some ⟨H, 0, none⟩) n n) ((List.replicate n ByteArray.empty).map Value.string) := by subst hH; exact own_madeT w B n E h hn
theorem own_cellT {w : World} {B E g n cap : Nat} {xs : List ByteArray} (h : OwnL w B E (.slice (some ⟨g, 0, none⟩) n cap) (xs.map Value.string)) (k : Nat) (hk : k < xs.length) : w.cell? ⟨g, k, none⟩ = some (.string (xs.getD k ByteArray.empty)) := by
  obtain ⟨g1, cap1, e, hb, _, _, hc⟩ := own_form (n := (xs.map Value.string).length) h (by simp; omega)
  simp only [Value.slice.injEq, Option.some.injEq, Addr.mk.injEq, and_true, true_and] at e
  obtain ⟨rfl, _⟩ := e
  exact hc k _ (by simp [List.getElem?_eq_getElem hk])
end Go.Proofs.Ytpmbmhjhclekeaa
