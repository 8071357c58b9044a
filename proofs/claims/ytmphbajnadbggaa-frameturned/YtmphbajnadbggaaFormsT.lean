/- Tables of lists of texts that were just written down. -/
import Derived.Test.YtmphbajnadbggaaKCore
import Derived.Test.YtmphbajnadbggaaKRegs
import Derived.Deep.OwnRows
namespace Go.Proofs.Ytmphbajnadbggaa
open Go.RowKit
set_option linter.unusedVariables false
set_option linter.unusedSimpArgs false
def StrsV (w : World) (v : Value) (ss : List ByteArray) : Prop := ∃ a n cap, v = .slice a n cap ∧ Strs w a n cap ss
theorem StrsV.below {w w' : World} {v : Value} {ss : List ByteArray} (h : StrsV w v ss) (hb : Below w.heap.size w w') : StrsV w' v ss := by
  obtain ⟨a, n, cap, e, h⟩ := h; exact ⟨a, n, cap, e, h.below hb⟩
def txtA : ByteArray := ⟨#[97]⟩
def txtB : ByteArray := ⟨#[98]⟩
/-- a slice of slices of strings -/
def TabS (w : World) (v : Value) (t : List (List ByteArray)) : Prop := ∃ g, v = .slice (some ⟨g, 0, none⟩) t.length t.length ∧ ∀ k, k < t.length → ∃ u, w.cell? ⟨g, k, none⟩ = some u ∧ StrsV w u (t.getD k [])
theorem TabS.below {w w' : World} {v : Value} {t : List (List ByteArray)} (h : TabS w v t) (hb : Below w.heap.size w w') : TabS w' v t := by
  obtain ⟨g, e, h⟩ := h
  refine ⟨g, e, fun k hk => ?_⟩
  obtain ⟨u, hu, hs⟩ := h k hk
  exact ⟨u, (hb.cell (cell_lt hu)).trans hu, hs.below hb⟩
theorem strs_made_at (w : World) (n : Nat) (T : TypeId) (H : Nat) (hH : w.heap.size = H) : Strs (w.alloc (.cells (madeCells #[.string ByteArray.empty] n) T)) (some ⟨H, 0, none⟩) n n (List.replicate n ByteArray.empty) := by
  subst hH
  have hr := World.rowIs_made w (.string ByteArray.empty) n T
  refine ⟨by simp, ?_⟩
  by_cases h : n = 0
  · exact .inr (.inl ⟨h, _, rfl⟩)
  · refine .inr (.inr ⟨by omega, Nat.le_refl _, _, _, rfl, fun i hi => ?_⟩)
    rw [Nat.zero_add, hr.cell hi]
    simp [List.getD, hi]
theorem wp_with {P : Program} {c : Code} {Q : Exit → Act → World → Prop} {a : Act} {w : World} (F : World → Prop) (hF : F w) (h : ∀ W, F W → c.wp P Q a W) : c.wp P Q a w := h w hF
/-- a table that was just written down: its cells -/
theorem tab_cells (w : World) (C : Array Value) (T : TypeId) (H k : Nat) (u : Value) (hH : w.heap.size = H) (hk : C[k]? = some u) : (w.alloc (.cells C T)).cell? ⟨H, k, none⟩ = some u := by
  subst hH; rw [cell_of_row _ _ k C T (0, 0) (heap_alloc_new w _)]; exact hk
theorem made_bytes (w : World) (n : Nat) (T : TypeId) : ∀ i, i < n → (w.alloc (.cells (madeCells #[.int .u8 0] n) T)).cell? ⟨w.heap.size, 0 + i, none⟩ = some (.int .u8 ((List.replicate n (0 : Int)).getD i 0)) := by
  intro i hi
  rw [Nat.zero_add, (World.rowIs_made w (.int .u8 0) n T).cell hi]
  simp [List.getD, hi]
theorem strs_lit_at' (w : World) (ss : List ByteArray) (T : TypeId) (n : Nat) (C : Array Value) (hn : ss.length = n) (hC : (ss.map Value.string).toArray = C) : Strs (w.alloc (.cells C T)) (some ⟨w.heap.size, 0, none⟩) n n ss := by
  subst hC hn
  refine ⟨rfl, ?_⟩
  by_cases h : ss.length = 0
  · exact .inr (.inl ⟨h, _, rfl⟩)
  · refine .inr (.inr ⟨by omega, Nat.le_refl _, _, _, rfl, fun i hi => ?_⟩)
    rw [Nat.zero_add, cell_of_row _ _ i _ T (0, 0) (heap_alloc_new w _)]
    simp [List.getElem?_eq_getElem hi]
theorem strsV_lit (w : World) (ss : List ByteArray) (T : TypeId) (n : Nat) (C : Array Value) (hn : ss.length = n) (hC : (ss.map Value.string).toArray = C) : StrsV (w.alloc (.cells C T)) (.slice (some ⟨w.heap.size, 0, none⟩) n n) ss := ⟨_, _, _, rfl, strs_lit_at' w ss T n C hn hC⟩
theorem modK (a n : Int) (h1 : 0 < n) (h2 : n ≤ 1000) : ∃ i : Nat, (i : Int) < n ∧ wrap64 ((IntKind.u64.wrap a).tmod n) = (i : Int) := by
  have h0 : IntKind.u64.wrap a = a % 18446744073709551616 := IntKind.wrap_u64 a
  have : 0 ≤ a % 18446744073709551616 := Int.emod_nonneg _ (by decide)
  rw [h0, Int.tmod_eq_emod_of_nonneg (by omega)]
  have h3 := Int.emod_nonneg (a % 18446744073709551616) (Int.ne_of_gt h1)
  have h4 := Int.emod_lt_of_pos (a % 18446744073709551616) h1
  exact ⟨(a % 18446744073709551616 % n).toNat, by omega, by unfold wrap64; omega⟩
end Go.Proofs.Ytmphbajnadbggaa
