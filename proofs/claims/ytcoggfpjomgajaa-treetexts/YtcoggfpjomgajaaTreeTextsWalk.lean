/- The Go text of the statement TreeTexts returns true, whatever the text. -/
import Derived.Test.YtcoggfpjomgajaaAwake10
import Derived.Test.YtcoggfpjomgajaaKMatRef
import Derived.Test.YtcoggfpjomgajaaKRegs
namespace Go.Proofs.Ytcoggfpjomgajaa
open Go.RowKit
set_option linter.unusedVariables false
set_option linter.unusedSimpArgs false
set_option maxRecDepth 100000 in
set_option maxHeartbeats 2000000 in
theorem TreeTexts_walk {w : World} (s : ByteArray) (hs : s.size ≤ 140737488351232) : Calls Try.prog 7 #[.string s] w fun e w' => e = .returned (.bool true) ∧ Below w.heap.size w w' := by
  obtain ⟨n, en⟩ : ∃ n : Nat, n = (s.size + 7) / 8 := ⟨_, rfl⟩
  have hll : (nint (leavesL s)).length = n := by rw [nint_len, leavesL, leavesTo_len, en]
  have hat : ∀ i, i < n → (nint (leavesL s)).getD i 0 = ((Seal.of (byts (blk s i)) : Nat) : Int) := by
    intro i hi
    rw [nint_at, leavesL, ← en, leavesTo]
    simp [List.getD, hi]
  have HAT := hide hat
  clear hat
  have hn8 : ∀ i, i < n → 8 * i < s.size := by omega
  have HN8 := hide hn8
  clear hn8
  have en' : ((s.size : Int) + 8 - 1) / 8 = (n : Int) := by omega
  have hnn : n ≤ 140737488351232 := by omega
  have EN := hide en
  clear en
  go_enter Try.func7, Try.ntmps7
  go_wp2_with fail
  refine (awake10_any _).mono ?_
  rintro e w1 ⟨rfl, b1⟩
  have HB := hide b1
  clear b1
  go_wp2_with fail
  refine (treeLeaves_any s _ hs).mono ?_
  rintro e w2 ⟨v2, rfl, O2, b2⟩
  obtain ⟨p2, c2, rfl, S2⟩ := O2.ints
  rw [hll] at S2 ⊢
  have HI := hide S2
  replace HB := hide (bt (unhide HB) b2)
  clear O2 b2 S2
  go_wp2
  clear hll en'
  go_loopw [4] (fun iv wr => ∃ i : Nat, i ≤ n ∧ iv = .int .i64 i ∧ Hid (Ints wr p2 n c2 (nint (leavesL s))) ∧ Hid (Below w.heap.size w wr)) (fun iv _ => n - (intOf iv).toNat)
  case atStart => exact ⟨0, by omega, rfl, HI, HB⟩
  case round =>
    obtain ⟨i, hi, rfl, HI, HB⟩ := hrel
    by_cases hlt : i < n
    · have hlt' : (i : Int) < n := by omega
      obtain ⟨b, o, ea, hcell⟩ : ∃ b off, p2 = some ⟨b, off, none⟩ ∧ ∀ i, i < n → wr.cell? ⟨b, off + i, none⟩ = some (.int .i64 ((nint (leavesL s)).getD i 0)) := by
        rcases (unhide HI).2.two with h | h
        · omega
        · exact h
      subst ea
      have ci := hcell i hlt
      rw [unhide HAT i hlt] at ci
      have h8 := unhide HN8 i hlt
      obtain ⟨lo, elo⟩ : ∃ lo : Nat, 8 * i = lo := ⟨_, rfl⟩
      have elo' : 8 * (i : Int) = (lo : Int) := by omega
      obtain ⟨hi', ehi⟩ : ∃ hi : Nat, hi = min (lo + 8) s.size := ⟨_, rfl⟩
      have h1 : lo ≤ hi' := by omega
      have h2 : hi' ≤ s.size := by omega
      have hw1 : IntKind.wrap .i64 (lo : Int) = (lo : Int) := by simp only [IntKind.wrap_i64]; omega
      have hw2 : IntKind.wrap .i64 ((lo : Int) + 8) = (lo : Int) + 8 := by simp only [IntKind.wrap_i64]; omega
      have hmn : (if (s.size : Int) < (lo : Int) + 8 then (s.size : Int) else (lo : Int) + 8) = (hi' : Int) := by split <;> omega
      have hsl := fun w => run_slice_lh (P := Try.prog) w 9 s Try.underlying9 lo hi' (hi' : Int) rfl h1 h2
      obtain ⟨x, ex⟩ : ∃ x, x = s.extract lo hi' := ⟨_, rfl⟩
      rw [← ex] at hsl
      have hxs : x.size ≤ 140737488351232 := by rw [ex, ByteArray.size_extract]; omega
      have eblk : x = blk s i := by rw [ex, ehi]; unfold blk; rw [elo]
      rw [← eblk] at ci
      obtain ⟨y, ey⟩ : ∃ y, y = Seal.of (byts x) := ⟨_, rfl⟩
      rw [← ey] at ci
      have EY := hide ey
      have hll : lo ≤ 140737488351232 := by omega
      have k := kept_cell (B := wr.heap.size) ci (cell_lt ci)
      clear ex ehi eblk ey hcell elo ci
      go_wp2
      refine wp_region_ord_thenT (S := Below wr.heap.size wr) [(true, 0), (true, 1), (true, 2), (true, 3), (true, 4), (true, 5), (true, 6), (true, 7), (true, 8), (true, 9), (true, 10), (true, 11), (true, 12), (true, 13), (false, 14)] (List.cons_ne_nil _ _) (by kernel_rfl) (by kernel_rfl) (by kernel_rfl) (by kernel_rfl) (by kernel_rfl) ((Below.refl _ _).drew) ?_
      simp only [List.dropLast_cons_cons, List.dropLast_singleton, List.getLast_cons_cons, List.getLast_singleton, withOps, List.map_cons, List.map_nil, List.getElem?_cons_succ, List.getElem?_cons_zero]
      repeat (refine walkH_read (by rfl) (by (intro gx; go_simp; try (with_reducible rfl))) ?_; try simp only [Act.put, List.setIfInBounds_toArray, List.set_cons_zero, List.set_cons_succ])
      refine walkH_do rfl (fun K hK => ?_)
      go_simp
      refine (sealOf_any x _ hxs).mono ?_
      rintro e w4 ⟨rfl, hw4⟩
      rw [← unhide EY]
      have hb4 : Below wr.heap.size wr w4 := by rw [hw4]; exact (Below.refl _ _).drew
      clear hw4
      refine hK _ _ hb4 ?_
      clear hK K
      try simp only [Act.put, List.setIfInBounds_toArray, List.set_cons_zero, List.set_cons_succ]
      have HI4 := hide ((unhide HI).below hb4)
      have HB4 := hide (bt (unhide HB) hb4)
      clear hb4 k hsl hmn hw1 hw2
      have ty : ((y : Int) != (y : Int)) = false := by simp
      repeat (refine walkH_read (by rfl) (by (intro gx; go_simp; try (with_reducible rfl))) ?_; try simp only [Act.put, List.setIfInBounds_toArray, List.set_cons_zero, List.set_cons_succ])
      refine lastPost_of_list ?_
      simp only [List.cons_append, List.nil_append]
      go_wp2
      refine NoPanic.normal ?_
      go_wp2
      go_roundw
      case rel => exact ⟨i + 1, by omega, by go_num, HI4, HB4⟩
      case measure => simp [intOf]; omega
    · have hlt' : ¬ (i : Int) < n := by omega
      go_wp2
      go_ret
      exact ⟨rfl, unhide HB⟩
end Go.Proofs.Ytcoggfpjomgajaa
