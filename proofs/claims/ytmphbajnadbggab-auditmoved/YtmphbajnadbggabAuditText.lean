/- A shard of bytes (ossuarylaw12.text): a contract. -/
import Derived.Test.YtmphbajnadbggabKMatRef
import Derived.Laws.BytesArg
namespace Go.Proofs.Ytmphbajnadbggab
open Go.RowKit
set_option linter.unusedVariables false
set_option linter.unusedSimpArgs false
attribute [local go_sem ↓] Go.wp_at_zero Go.wp_at_succ
def textTo (b k : Nat) : List Int := (List.range 32).map fun i => if i < k then (((b + i) % 256 : Nat) : Int) else 0
def textN (b : Nat) : List Int := (List.range 32).map fun i => (((b + i) % 256 : Nat) : Int)
def textS (b : Nat) : ByteArray := strOfNums (textN b)
theorem textTo_len (b k : Nat) : (textTo b k).length = 32 := by simp [textTo]
theorem textTo_end (b : Nat) : textTo b 32 = textN b := by
  unfold textTo textN
  apply List.map_congr_left
  intro i hi
  rw [if_pos (List.mem_range.1 hi)]
theorem textTo_start (b : Nat) : textTo b 0 = List.replicate 32 0 := by
  unfold textTo
  apply List.ext_getElem
  · rw [List.length_map, List.length_range, List.length_replicate]
  · intro i h1 h2
    rw [List.getElem_replicate]
    simp
theorem textTo_step (b k : Nat) (h : k < 32) : (textTo b k).set k (((b + k) % 256 : Nat) : Int) = textTo b (k + 1) := by
  unfold textTo
  apply List.ext_getElem
  · simp
  · intro i h1 h2
    rw [List.getElem_set]
    simp only [List.getElem_map, List.getElem_range]
    by_cases e : k = i
    · subst e; simp
    · rw [if_neg e]
      by_cases q : i < k
      · rw [if_pos q, if_pos (by omega)]
      · rw [if_neg q, if_neg (by omega)]
theorem textN_len (b : Nat) : (textN b).length = 32 := by simp [textN]
theorem textS_size (b : Nat) : (textS b).size = 32 := by unfold textS; rw [strOfNums_size, textN_len]
theorem Try.infoByte' : (Try.prog.info? 5).map (fun i => (i.zero, i.size, i.bytes)) = some (some (.int .u8 0), 1, 1) := by kernel_rfl
theorem own_made8 (w : World) (B n : Nat) (E : TypeId) (h : B ≤ w.heap.size) (hn : n ≤ maxLen) : OwnL (w.alloc (.cells (madeCells #[.int .u8 0] n) E)) B E (.slice (some ⟨w.heap.size, 0, none⟩) n n) ((List.replicate n (0 : Int)).map (Value.int .u8)) := by
  have := World.ownsRow_lit (e := E) (size := 1) w (madeCells #[.int .u8 0] n) n h hn (by rw [size_madeCells]; omega)
  rw [toList_madeCells_one] at this
  unfold OwnL
  simpa using this
set_option maxRecDepth 100000 in
set_option maxHeartbeats 2000000 in
theorem text_any (b : Nat) (hb : b < 256) (w : World) : Calls Try.prog 6 #[.int .u8 b] w fun e w' => e = .returned (.string (textS b)) ∧ Below w.heap.size w w' := by
  have hmk : ∀ w, (Instr.makeSlice 46 (.int .i64 32) (.int .i64 32)).run Try.prog w = .ok (.slice (some ⟨w.heap.size, 0, none⟩) 32 32) (w.alloc (.cells (madeCells #[.int .u8 0] 32) 5)) := fun w => run_make_row' (P := Try.prog) 46 5 (.int .u8 0) 1 Try.underlying46 Try.infoByte' rfl .i64 .i64 32 (by omega) (by omega) w
  go_enter Try.func6, Try.ntmps6
  go_wp2
  have HO := hide (own_made8 w w.heap.size 32 5 (Nat.le_refl _) (by decide))
  have HB := hide (below_alloc w (.cells (madeCells #[.int .u8 0] 32) 5))
  go_loopw [4] (fun iv wr => ∃ k : Nat, k ≤ 32 ∧ iv = .int .i64 k ∧ Hid (OwnL wr w.heap.size 5 (.slice (some ⟨w.heap.size, 0, none⟩) 32 32) ((textTo b k).map (Value.int .u8))) ∧ Hid (Below w.heap.size w wr)) (fun iv _ => 32 - (intOf iv).toNat)
  case atStart => exact ⟨0, by omega, rfl, hide (by rw [textTo_start]; exact unhide HO), HB⟩
  case round =>
    obtain ⟨k, hk, rfl, HO, HW⟩ := hrel
    have hcell : ∀ j, j < 32 → wr.cell? ⟨w.heap.size, j, none⟩ = some (.int .u8 ((textTo b k).getD j 0)) := fun j hj => by
      have hl := textTo_len b k
      rw [World.ownsRow.cellAt (own_row' (unhide HO)) j (by omega), List.getElem?_map, List.getElem?_eq_getElem (by omega)]
      simp [List.getD, List.getElem?_eq_getElem (show j < (textTo b k).length by omega)]
    by_cases hlt : k < 32
    · have hlt' : (k : Int) < 32 := by omega
      have c1 := hcell k hlt
      have f1 := own_free (unhide HO) k
      obtain ⟨y, ey⟩ : ∃ y, y = (textTo b k).getD k 0 := ⟨_, rfl⟩
      rw [← ey] at c1
      have HP := own_put (unhide HO) k (.int .u8 (((b + k) % 256 : Nat) : Int))
      rw [← List.map_set, textTo_step b k hlt] at HP
      have HP' := hide HP
      clear hcell ey HP
      have ew : ((b : Int) + (k : Int)) % 256 = (((b + k) % 256 : Nat) : Int) := by omega
      rw [← ew] at HP'
      clear ew
      go_wp2
      refine ⟨⟨k + 1, by omega, by go_num, HP', hide ((unhide HW).setCell (Nat.le_refl _) _)⟩, by simp [intOf]; omega⟩
    · obtain rfl : k = 32 := by omega
      have hcb := run_convert_bytes_arg (P := Try.prog) wr 46 5 Try.underlying46 Try.underlying5 w.heap.size 0 32 32 (textTo b 32) (textTo_len b 32) (fun j hj => by rw [Nat.zero_add]; exact hcell j hj) 9 Try.underlying9
      rw [textTo_end] at hcb
      have hcb' : (convert 46 9 (.slice (some ⟨w.heap.size, 0, none⟩) 32 32)).run Try.prog wr = .ok (.string (textS b)) wr := hcb
      clear hcell hcb
      go_wp2
      go_ret
      exact ⟨rfl, unhide HW⟩
end Go.Proofs.Ytmphbajnadbggab
