/- SpoilDisk (ossuarylaw0): a contract. -/
import Derived.Test.YtpmbmhjhclekeaaDskLaw2
namespace Go.Proofs.Ytpmbmhjhclekeaa
open Go.RowKit
set_option linter.unusedVariables false
set_option linter.unusedSimpArgs false
attribute [local go_sem ↓] Go.wp_at_zero Go.wp_at_succ
theorem ownZ_keep3 {w w' : World} {B : Nat} {e : TypeId} {z n : Nat} {v : Value} {xs : List Value} (h : w.ownsRow B e z v n xs) (hk : ∀ g, v.ownBlock = some g → w'.heap[g]? = w.heap[g]?) : w'.ownsRow B e z v n xs := by
  refine ⟨h.1, ?_⟩
  rcases h.2 with h | ⟨g, cap, cur, rfl, hb, hh, r⟩
  · exact .inl h
  · exact .inr ⟨g, cap, cur, rfl, hb, (hk g rfl).trans hh, r⟩
set_option maxRecDepth 100000 in
set_option maxHeartbeats 1000000 in
theorem spoilDisk_any (B : Nat) (b : Bool) (sa : Option Addr) (n sc : Nat) (ca : Option Addr) (m cc : Nat) (ss : List ByteArray) (cl : List (Int × ByteArray)) (w : World) (h1 : OwnL w B 9 (.slice sa n sc) (ss.map Value.string)) (h2 : w.ownsRow B 62 2 (.slice ca m cc) m (wrCells cl)) (hn : ss.length ≤ maxLen) (hm : cl.length = m) (hm2 : m ≤ maxLen)
    (hz : ∀ i, (ss.getD i ByteArray.empty).size ≤ 140737488355328) (hB : B ≤ w.heap.size) :
    Calls Try.prog 28 #[.agg #[.bool b, .slice sa n sc, .slice ca m cc]] w fun e w' => e = .returned (.tuple #[]) ∧ (∀ k, k < w.heap.size → (Value.slice sa n sc).ownBlock ≠ some k → (Value.slice ca m cc).ownBlock ≠ some k → w'.heap[k]? = w.heap[k]?) ∧ Below B w w' := by
  have b0 := below_alloc w (.cells #[.bool b, .slice sa n sc, .slice ca m cc] 25)
  have BX := hide (heap_alloc_new w (.cells #[.bool b, .slice sa n sc, .slice ca m cc] 25))
  have HB := hide (b0.mono hB)
  have HK0 := hide (fun k (hk : k < w.heap.size) => b0.block k hk)
  have hsa : (Value.slice sa n sc).ownBlock ≠ some w.heap.size := fun e => by have := (h1.lt e).2; omega
  have H1 := hide (h1.below b0)
  have H2 := hide (ownZ_below h2 b0)
  have HSA := hide hsa
  have hs0 := b0.size
  clear h1 h2 b0 hsa
  go_enter Try.func28, Try.ntmps28
  go_upto_region 1 with fail
  generalize (w.alloc (.cells #[.bool b, .slice sa n sc, .slice ca m cc] 25)) = W at *
  obtain ⟨x0, x1, x2⟩ := box_dsk (unhide BX)
  have hlt := lt_of_block (unhide BX)
  go_wp2_with fail
  refine (spoilTexts_any B 9 _ ss W (unhide H1) hn hz).mono ?_
  rintro e w1 ⟨rfl, hkeep, b1⟩
  have BX1 := hide ((hkeep w.heap.size (unhide HSA) hlt).trans (unhide BX))
  have H21 := hide (ownZ_keep3 (w' := w1) (unhide H2) (fun g e => hkeep g (fun e2 => apt_typesZ (unhide H1) (unhide H2) (by decide) g e2 e) (World.ownsRow.lt (unhide H2) g e).2))
  have HB1 := hide ((unhide HB).trans b1)
  have hs1 := b1.size
  have HK1 := hide (fun k (hk : k < w.heap.size) (hne : (Value.slice sa n sc).ownBlock ≠ some k) => (hkeep k hne (by omega)).trans (unhide HK0 k hk))
  clear hkeep b1 x0 x1 x2
  obtain ⟨x0, x1, x2⟩ := box_dsk (unhide BX1)
  go_wp2_with fail
  refine (spoilWrites_any B _ cl w1 (by rw [hm]; exact unhide H21) (by rw [hm]; exact hm2) (by omega)).mono ?_
  rintro e w2 ⟨rfl, hk2, b2⟩
  have HK2 := hide (fun k (hk : k < w.heap.size) (hne : (Value.slice sa n sc).ownBlock ≠ some k) (hnc : (Value.slice ca m cc).ownBlock ≠ some k) => (hk2 k hnc (by omega)).trans (unhide HK1 k hk hne))
  have HB2 := hide ((unhide HB1).trans b2)
  clear b2 x0 x1 x2 hk2
  go_wp2
  exact bodyPost_end (v := .tuple #[]) (by simp [results, Try.results28, go_sem]) rfl ⟨rfl, unhide HK2, unhide HB2⟩
end Go.Proofs.Ytpmbmhjhclekeaa
