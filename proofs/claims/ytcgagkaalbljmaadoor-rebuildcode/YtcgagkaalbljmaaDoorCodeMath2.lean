/- A word of the code: what Decode answers of it. -/
import Derived.Test.YtcgagkaalbljmaaDoorCodeMath
namespace Go.Proofs.YtcgagkaalbljmaaDoor
open Go.RowKit
set_option linter.unusedVariables false
set_option linter.unusedSimpArgs false
open Vec (alikeTo numsTo May)
/-- shard r of the word of ds -/
def word (d p : Nat) (ds : List ByteArray) (r : Nat) : ByteArray := Vec.out ((genM d p).getD r []) ds
theorem word_size (d p : Nat) (ds : List ByteArray) (r : Nat) : (word d p ds r).size = (ds.getD 0 ByteArray.empty).size := out_len _ _
theorem word_par (d p : Nat) (ds : List ByteArray) {i k : Nat} (h : i < k) : (encTo d p ds k).getD i ByteArray.empty = word d p ds (d + i) := by
  simp [encTo, word, List.getD, h]
theorem gen_unit {d p r : Nat} (h1 : 1 ≤ d) (h2 : d ≤ 4) (h3 : p ≤ 2) (hr : r < d) {c : Nat} (hc : c < d) : entry (genM d p) r c = idx r c := by
  have h := genM_top d (by omega) p (by omega) h1
  have e : (genM d p).getD r [] = (idM d).getD r [] := by
    rw [← h]
    simp [List.getD, List.getElem?_take, hr]
  have e2 : entry (idM d) r c = idx r c := by rw [idM_idx, entry_matF hr hc]
  unfold entry at e2 ⊢
  rw [e, e2]
theorem word_data {d p : Nat} {ds : List ByteArray} (h1 : 1 ≤ d) (h2 : d ≤ 4) (h3 : p ≤ 2) (hs : ∀ i, i < d → (ds.getD i ByteArray.empty).size = (ds.getD 0 ByteArray.empty).size) {r : Nat} (hr : r < d) : word d p ds r = ds.getD r ByteArray.empty := by
  have hl := (gen_row h1 h2 h3 (r := r) (by omega)).1
  refine Vec.ext_bytes (by rw [word_size, hs r hr]) (fun j hj => ?_)
  rw [word_size] at hj
  unfold word
  rw [Vec.out_byte _ _ _ hj, hl, cmb_xsum]
  have e : xsum (fun t => Gf.mul (((genM d p).getD r []).getD t 0).toNat (Vec.byteAt (Vec.row ds t) j)) d = xsum (fun t => Gf.mul (idx r t) (Vec.byteAt (ds.getD t ByteArray.empty) j)) d :=
    xsum_congr fun t ht => by rw [← gen_unit h1 h2 h3 hr ht]; rfl
  rw [e, xsum_one hr (fun t _ htr => by unfold idx; rw [if_neg (Ne.symm htr), Gf.zero_mul])]
  unfold idx
  rw [if_pos rfl]
  exact Gf.one_mul (Vec.byteAt_lt _ _)
/-- where the first shards that one has are those of a word, its data come back -/
theorem dec_word {d p : Nat} {ss ds : List ByteArray} {bs : List Bool} (h1 : 1 ≤ d) (h2 : d ≤ 4) (h3 : p ≤ 2) (hl : ds.length = d) (hsz : ∀ i, i < d → (ds.getD i ByteArray.empty).size = (ds.getD 0 ByteArray.empty).size)
    (hf : DecForm d p ss bs) (he : d ≤ (rowsL bs bs.length).length) (hw : ∀ r ∈ (rowsL bs bs.length).take d, ss.getD r ByteArray.empty = word d p ds r) : decR d p ss bs (ds, 0) := by
  have hb : bs.length = d + p := by
    have e1 := hf.2.1
    have e2 := hf.2.2.1
    omega
  obtain ⟨N, hN⟩ := firstM_inv h1 h2 h3 he hb
  have hsq := firstM_sq h1 h2 h3 he hb
  have hrl : ((rowsL bs bs.length).take d).length = d := by rw [List.length_take]; exact Nat.min_eq_left he
  refine .inr (.inr ⟨hf, by omega, N, by rw [Int.toNat_natCast, Int.toNat_natCast]; exact hN, ?_⟩)
  rw [Int.toNat_natCast]
  have e : (hadL bs ss bs.length).take d = ((rowsL bs bs.length).take d).map fun r => Vec.out ((genM d p).getD r []) ds := by
    unfold hadL
    rw [← List.map_take]
    exact List.map_congr_left fun r hr => hw r hr
  rw [e, back_code h1 hl hrl (fun t ht => ?_) hsz ⟨hsq, firstM_len he⟩ hN]
  have hlt : ((rowsL bs bs.length).take d).getD t 0 < d + p := by
    have ht' : t < ((rowsL bs bs.length).take d).length := by omega
    have em : ((rowsL bs bs.length).take d).getD t 0 ∈ rowsL bs bs.length := by
      have : ((rowsL bs bs.length).take d).getD t 0 = ((rowsL bs bs.length).take d)[t] := by simp [List.getD, List.getElem?_eq_getElem ht']
      rw [this]
      exact List.mem_of_mem_take (List.getElem_mem ht')
    have := List.mem_range.1 (List.mem_filter.1 em).1
    omega
  exact (gen_row h1 h2 h3 hlt).1
end Go.Proofs.YtcgagkaalbljmaaDoor
