/- Shards of a word of the code, some of them gone: the word comes back. -/
import Derived.Test.YtcgagkaalbljmaaDoorSomeMath
import Derived.Test.YtcgagkaalbljmaaDoorSumMath2
import Derived.Test.YtcgagkaalbljmaaDoorRebMath
namespace Go.Proofs.YtcgagkaalbljmaaDoor
open Go.RowKit
set_option linter.unusedVariables false
set_option linter.unusedSimpArgs false
open Vec (alikeTo numsTo May)
theorem has_set_ne {bs : List Bool} {i j : Nat} {b : Bool} (h : i ≠ j) : hasB (bs.set i b) j = hasB bs j := by simp [hasB, List.getD, List.getElem?_set, h]
theorem rowsL_drop (bs : List Bool) (k : Nat) : ∀ n, (rowsL bs n).length ≤ (rowsL (bs.set k false) n).length + (if k < n then 1 else 0)
  | 0 => by simp [rowsL]
  | n + 1 => by
    have ih := rowsL_drop bs k n
    by_cases e : k = n
    · subst e
      have e1 : rowsL (bs.set k false) k = rowsL bs k := rowsL_set'
      have h2 : (rowsL bs (k + 1)).length ≤ (rowsL bs k).length + 1 := by
        cases h : hasB bs k with
        | true => rw [rowsL_yes h, List.length_append]; simp
        | false => rw [rowsL_no h]; omega
      have h3 : (rowsL bs k).length ≤ (rowsL (bs.set k false) (k + 1)).length := by
        rw [← e1]
        cases h : hasB (bs.set k false) k with
        | true => rw [rowsL_yes h, List.length_append]; simp
        | false => rw [rowsL_no h]; omega
      rw [if_pos (by omega)]
      omega
    · have hh := has_set_ne (bs := bs) (b := false) e
      cases h : hasB bs n with
      | true =>
        rw [rowsL_yes h, rowsL_yes (by rw [hh]; exact h), List.length_append, List.length_append]
        have q : (if k < n + 1 then 1 else 0) = (if k < n then (1 : Nat) else 0) := by
          by_cases g : k < n
          · rw [if_pos g, if_pos (by omega)]
          · rw [if_neg g, if_neg (by omega)]
        rw [q]
        simp; omega
      | false =>
        rw [rowsL_no h, rowsL_no (by rw [hh]; exact h)]
        have q : (if k < n + 1 then 1 else 0) = (if k < n then (1 : Nat) else 0) := by
          by_cases g : k < n
          · rw [if_pos g, if_pos (by omega)]
          · rw [if_neg g, if_neg (by omega)]
        rw [q]
        omega
/-- as far as the loop is come: at most j are gone, the others are as they were -/
structure GoneI (d p R : Nat) (ds : List ByteArray) (bs : List Bool) (xs : List ByteArray) (j : Nat) : Prop where
  lb : bs.length = R
  lx : xs.length = R
  cnt : R ≤ (rowsL bs R).length + j
  ok : ∀ r, r < R → hasB bs r = true → xs.getD r ByteArray.empty = word d p ds r
theorem rowsL_all (R : Nat) : ∀ n, n ≤ R → (rowsL (List.replicate R true) n).length = n
  | 0, _ => by simp [rowsL]
  | n + 1, h => by
    rw [rowsL_yes (by simp [hasB, List.getD, show n < R by omega]), List.length_append, rowsL_all R n (by omega)]
    rfl
theorem GoneI.step {d p R : Nat} {ds : List ByteArray} {bs : List Bool} {xs : List ByteArray} {j : Nat} (h : GoneI d p R ds bs xs j) (k : Nat) (x : ByteArray) : GoneI d p R ds (bs.set k false) (xs.set k x) (j + 1) := by
  have hc := h.cnt
  have hd := rowsL_drop bs k R
  refine ⟨by simpa using h.lb, by simpa using h.lx, ?_, fun r hr hb => ?_⟩
  · split at hd <;> omega
  · by_cases e : k = r
    · subst e
      rw [has_set' (by rw [h.lb]; exact hr)] at hb
      exact absurd hb (by decide)
    · rw [has_set_ne e] at hb
      have e2 : (xs.set k x).getD r ByteArray.empty = xs.getD r ByteArray.empty := by simp [List.getD, List.getElem?_set, e]
      rw [e2]
      exact h.ok r hr hb
/-- the first k of R are there -/
def fillT (R k : Nat) : List Bool := List.replicate k true ++ List.replicate (R - k) false
theorem fillT_len {R k : Nat} (h : k ≤ R) : (fillT R k).length = R := by simp [fillT]; omega
theorem fillT_zero (R : Nat) : fillT R 0 = List.replicate R false := by simp [fillT]
theorem fillT_all (R : Nat) : fillT R R = List.replicate R true := by simp [fillT]
theorem fillT_step {R k : Nat} (h : k < R) : (fillT R k).set k true = fillT R (k + 1) := by
  apply List.ext_getElem?
  intro i
  unfold fillT
  rw [List.getElem?_set]
  by_cases e : k = i
  · subst e
    simp [List.getElem?_append, show k < k + (R - k) by omega]
  · by_cases g : i < k
    · simp [e, List.getElem?_append, g, show i < k + 1 by omega]
    · by_cases q : i < R
      · simp [e, List.getElem?_append, g, show ¬ i < k + 1 by omega, List.getElem?_replicate, show i - k < R - k by omega, show i - (k + 1) < R - (k + 1) by omega]
      · simp [e, List.getElem?_append, g, show ¬ i < k + 1 by omega, List.getElem?_replicate, show ¬ i - k < R - k by omega, show ¬ i - (k + 1) < R - (k + 1) by omega]
/-- the shards of a word -/
theorem word_all {d p z : Nat} {ds : List ByteArray} (h1 : 1 ≤ d) (h2 : d ≤ 4) (h3 : p ≤ 2) (hl : ds.length = d) (hz : ∀ i, i < d → (ds.getD i ByteArray.empty).size = z) {r : Nat} (hr : r < d + p) : (ds ++ encTo d p ds p).getD r ByteArray.empty = word d p ds r := by
  by_cases q : r < d
  · rw [word_data h1 h2 h3 (fun i hi => by rw [hz i hi, hz 0 h1]) q]
    simp [List.getD, List.getElem?_append_left (show r < ds.length by omega)]
  · have e : (ds ++ encTo d p ds p).getD r ByteArray.empty = (encTo d p ds p).getD (r - d) ByteArray.empty := by
      simp [List.getD, List.getElem?_append_right (show ds.length ≤ r by omega), hl]
    rw [e, word_par d p ds (show r - d < p by omega), show d + (r - d) = r by omega]
theorem gone_start {d p z : Nat} {ds : List ByteArray} (h1 : 1 ≤ d) (h2 : d ≤ 4) (h3 : p ≤ 2) (hl : ds.length = d) (hz : ∀ i, i < d → (ds.getD i ByteArray.empty).size = z) : GoneI d p (d + p) ds (List.replicate (d + p) true) (ds ++ encTo d p ds p) 0 :=
  ⟨by simp, by simp [encTo_len, hl], by rw [rowsL_all _ _ (Nat.le_refl _)]; omega, fun r hr _ => word_all h1 h2 h3 hl hz hr⟩
theorem encF_yes {d p z : Nat} {ds : List ByteArray} (h1 : 1 ≤ d) (h2 : d ≤ 4) (h3 : p ≤ 2) (hl : ds.length = d) (h4 : z ≤ 4096) (hz : ∀ i, i < d → (ds.getD i ByteArray.empty).size = z) : encF d p ds = (encTo d p ds p, 0) := by
  have hm : EncMay d p ds := by
    refine ⟨by unfold ShpMay; omega, by rw [hl], fun i hi => ?_⟩
    rw [hz i (by omega), hz 0 h1]
    exact ⟨rfl, h4⟩
  unfold encF
  rw [if_pos hm, Int.toNat_natCast, Int.toNat_natCast]
/-- the word comes back -/
theorem gone_end {d p z j : Nat} {ds : List ByteArray} {bs : List Bool} {xs : List ByteArray} (h : GoneI d p (d + p) ds bs xs j) (hj : j ≤ p) (h1 : 1 ≤ d) (h2 : d ≤ 4) (h3 : p ≤ 2) (hl : ds.length = d) (h4 : z ≤ 4096) (hz : ∀ i, i < d → (ds.getD i ByteArray.empty).size = z) : rebR d p xs bs (ds ++ encTo d p ds p, 0) := by
  have hc := h.cnt
  have hd : d ≤ (rowsL bs bs.length).length := by rw [h.lb]; omega
  have hs : ∀ i, i < (hadL bs xs bs.length).length → ((hadL bs xs bs.length).getD i ByteArray.empty).size = z := fun i hi => by
    rw [hadL_len] at hi
    have e : (hadL bs xs bs.length).getD i ByteArray.empty = xs.getD ((rowsL bs bs.length)[i]) ByteArray.empty := by simp [hadL, List.getD, List.getElem?_eq_getElem hi]
    have hm := List.mem_filter.1 (List.getElem_mem hi)
    have hr := List.mem_range.1 hm.1
    rw [e, h.ok _ (Nat.lt_of_lt_of_eq hr h.lb) hm.2, word_size, hz 0 h1]
  have hf : DecForm d p xs bs := ⟨by unfold ShpMay; omega, by rw [h.lx]; simp, by rw [h.lb, h.lx], fun i hi => by
    rw [hs i hi, hs 0 (by omega)]
    exact ⟨rfl, h4⟩⟩
  refine ⟨(ds, 0), dec_word h1 h2 h3 hl (fun i hi => by rw [hz i hi, hz 0 h1]) hf hd (fun r hr => ?_), .inr (.inr ⟨rfl, ?_⟩)⟩
  · have hm := List.mem_filter.1 (List.mem_of_mem_take hr)
    exact h.ok r (Nat.lt_of_lt_of_eq (List.mem_range.1 hm.1) h.lb) hm.2
  · rw [encF_yes h1 h2 h3 hl h4 hz]
/-- what is rebuilt of shards of one length is a word of the code -/
theorem reb_ok {d p z : Nat} {xs : List ByteArray} {bs : List Bool} {o : List ByteArray × Int} (h1 : 1 ≤ d) (h2 : d ≤ 4) (h3 : p ≤ 2) (hl : bs.length = d + p) (hlx : xs.length = d + p) (h4 : z ≤ 4096) (hx : ∀ i, i < d + p → (xs.getD i ByteArray.empty).size = z)
    (hd : d ≤ (rowsL bs bs.length).length) (ho : rebR d p xs bs o) : ∃ D, o = (D ++ encTo d p D p, 0) ∧ D.length = d ∧ ∀ i, i < d → (D.getD i ByteArray.empty).size = z := by
  obtain ⟨r, hr, ho⟩ := ho
  obtain ⟨D, rfl, hDl, hDz⟩ := dec_ok h1 h2 h3 hl hlx h4 hx hd hr
  refine ⟨D, ?_, hDl, hDz⟩
  rcases ho with ⟨e, _⟩ | ⟨_, e, _⟩ | ⟨_, rfl⟩
  · exact absurd (show (0 : Int) = 700 from e) (by decide)
  · exact absurd rfl e
  · rw [encF_yes h1 h2 h3 hDl h4 hDz]
/-- a word of the code, rebuilt from whichever of its shards -/
theorem reb_word {d p z : Nat} {ds : List ByteArray} {bs : List Bool} (h1 : 1 ≤ d) (h2 : d ≤ 4) (h3 : p ≤ 2) (hl : ds.length = d) (h4 : z ≤ 4096) (hz : ∀ i, i < d → (ds.getD i ByteArray.empty).size = z) (hb : bs.length = d + p) (hd : d ≤ (rowsL bs bs.length).length) : rebR d p (ds ++ encTo d p ds p) bs (ds ++ encTo d p ds p, 0) := by
  refine gone_end (j := p) ⟨hb, by simp [encTo_len, hl], ?_, fun r hr _ => word_all h1 h2 h3 hl hz hr⟩ (Nat.le_refl _) h1 h2 h3 hl h4 hz
  rw [hb] at hd
  omega
theorem rowsL_full (R : Nat) : ∀ n, n ≤ R → rowsL (List.replicate R true) n = List.range n
  | 0, _ => by simp [rowsL]
  | n + 1, h => by
    rw [rowsL_yes (by simp [hasB, List.getD, show n < R by omega]), rowsL_full R n (by omega), List.range_succ]
/-- a shard of parity that is not as it should be does not decide -/
theorem reb_mend {d p z k : Nat} {ds : List ByteArray} {x : ByteArray} (h1 : 1 ≤ d) (h2 : d ≤ 4) (h3 : p ≤ 2) (hl : ds.length = d) (h4 : z ≤ 4096) (hz : ∀ i, i < d → (ds.getD i ByteArray.empty).size = z) (hk : d ≤ k) (hx : x.size = z) : rebR d p ((ds ++ encTo d p ds p).set k x) (List.replicate (d + p) true) (ds ++ encTo d p ds p, 0) := by
  have hlen : ((ds ++ encTo d p ds p).set k x).length = d + p := by simp [encTo_len, hl]
  have hsz : ∀ i, i < d + p → (((ds ++ encTo d p ds p).set k x).getD i ByteArray.empty).size = z := fun i hi => by
    by_cases e : k = i
    · subst e
      have : k < (ds ++ encTo d p ds p).length := by simp [encTo_len, hl]; exact hi
      simp [List.getD, List.getElem?_set, this]
      simpa [encTo_len, hl, hi] using hx
    · have e2 : ((ds ++ encTo d p ds p).set k x).getD i ByteArray.empty = (ds ++ encTo d p ds p).getD i ByteArray.empty := by simp [List.getD, List.getElem?_set, e]
      rw [e2, word_all h1 h2 h3 hl hz hi, word_size, hz 0 h1]
  have hb : (List.replicate (d + p) true).length = d + p := by simp
  have hd : d ≤ (rowsL (List.replicate (d + p) true) (List.replicate (d + p) true).length).length := by rw [hb, rowsL_full _ _ (Nat.le_refl _), List.length_range]; omega
  refine ⟨(ds, 0), dec_word h1 h2 h3 hl (fun i hi => by rw [hz i hi, hz 0 h1]) (decForm_all h1 h2 h3 hb hlen h4 hsz) hd (fun r hr => ?_), .inr (.inr ⟨rfl, by rw [encF_yes h1 h2 h3 hl h4 hz]⟩)⟩
  rw [hb, rowsL_full _ _ (Nat.le_refl _), List.take_range, Nat.min_eq_left (by omega)] at hr
  have hr' := List.mem_range.1 hr
  have e2 : ((ds ++ encTo d p ds p).set k x).getD r ByteArray.empty = (ds ++ encTo d p ds p).getD r ByteArray.empty := by simp [List.getD, List.getElem?_set, show ¬ k = r by omega]
  rw [e2, word_all h1 h2 h3 hl hz (by omega)]
end Go.Proofs.YtcgagkaalbljmaaDoor
