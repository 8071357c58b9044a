/- The bytes of texts: numbers alone. -/
import Derived.Test.YtmphbajnadbggaaZeros
import Derived.Test.YtmphbajnadbggaaSealRef
namespace Go.Proofs.Ytmphbajnadbggaa
open Go.RowKit
set_option linter.unusedVariables false
set_option linter.unusedSimpArgs false
theorem byts_append (a b : ByteArray) : byts (a ++ b) = byts a ++ byts b := by
  unfold byts
  rw [ByteArray.data_append, Array.toList_append, List.map_append]
theorem byts_inj {a b : ByteArray} (h : byts a = byts b) : a = b := by
  unfold byts at h
  have h2 : a.data.toList = b.data.toList := by
    have hi : Function.Injective UInt8.toNat := fun x y e => UInt8.toNat_inj.1 e
    exact (List.map_inj_right (fun x y e => hi e)).1 h
  exact ByteArray.ext (Array.toList_inj.1 h2)
theorem byts_str (xs : List Int) (h : ∀ x ∈ xs, 0 ≤ x ∧ x < 256) : byts (strOfNums xs) = xs.map Int.toNat := by
  unfold byts
  rw [strOfNums_data, List.map_map]
  apply List.map_congr_left
  intro x hx
  have := h x hx
  simp only [Function.comp_apply, UInt8.toNat_ofNat']
  omega
theorem byts_zeros (k : Nat) : byts (zerosB k) = List.replicate k 0 := by
  rw [zerosB, byts_str _ (fun x hx => by rw [List.eq_of_mem_replicate hx]; decide), List.map_replicate]
  rfl
theorem byts_extract (t : ByteArray) (a b : Nat) : byts (t.extract a b) = ((byts t).take b).drop a := by
  unfold byts
  rw [ByteArray.data_extract, Array.toList_extract, List.extract_eq_drop_take']
  rw [List.map_drop, List.map_take]
end Go.Proofs.Ytmphbajnadbggaa
