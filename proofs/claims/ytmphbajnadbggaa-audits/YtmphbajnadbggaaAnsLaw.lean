/- SameAnswers (ossuarylaw0): a contract. -/
import Derived.Test.YtmphbajnadbggaaAnsMem
import Derived.Test.YtmphbajnadbggaaKRegs
import Derived.Deep.Cut
namespace Go.Proofs.Ytmphbajnadbggaa
open Go.RowKit
set_option linter.unusedVariables false
set_option linter.unusedSimpArgs false
attribute [local go_sem ↓] Go.wp_at_zero Go.wp_at_succ
set_option maxRecDepth 100000 in
set_option maxHeartbeats 4000000 in
theorem sameAnswers_yes (a a' : Option Addr) (n c c' : Nat) (zs : List Ans) (w : World) (hA : AnsV w a n c zs) (hA' : AnsV w a' n c' zs) (hn : n ≤ maxLen) (hp : ∀ j, j < n → (zs.getD j ans0).path.length ≤ maxLen) :
    Calls Try.prog 23 #[.slice a n c, .slice a' n c'] w fun e w' => e = .returned (.bool true) ∧ Below w.heap.size w w' := by
  unfold maxLen at hn
  have HA := hide hA
  have HA' := hide hA'
  have HP := hide hp
  have tn : ((n : Int) != (n : Int)) = false := by simp
  clear hA hA' hp
  go_enter Try.func23, Try.ntmps23
  go_wp2
  go_loopw [5] (fun iv wr => ∃ k : Nat, k ≤ n ∧ iv = .int .i64 k ∧ Hid (Below w.heap.size w wr)) (fun iv _ => n - (intOf iv).toNat)
  case atStart => exact ⟨0, by omega, rfl, hide (Below.refl _ _)⟩
  case round =>
    obtain ⟨k, hk, rfl, HW⟩ := hrel
    by_cases hlt : k < n
    · have hlt' : (k : Int) < n := by omega
      obtain ⟨b, o, p, pc, rfl, hcap, y0, y1, y2, hPI⟩ := ((unhide HA).below (unhide HW)).at hlt
      obtain ⟨b', o', p', pc', rfl, hcap', y0', y1', y2', hPI'⟩ := ((unhide HA').below (unhide HW)).at hlt
      have hpl := unhide HP k hlt
      obtain ⟨z, ez⟩ : ∃ z, z = zs.getD k ans0 := ⟨_, rfl⟩
      rw [← ez] at y0 y1 y2 hPI y0' y1' y2' hPI' hpl
      clear ez
      have k0 := kept_cell (B := wr.heap.size) y0 (cell_lt y0)
      have k1 := kept_cell (B := wr.heap.size) y1 (cell_lt y1)
      have k2 := kept_cell (B := wr.heap.size) y2 (cell_lt y2)
      have k0' := kept_cell (B := wr.heap.size) y0' (cell_lt y0')
      have k1' := kept_cell (B := wr.heap.size) y1' (cell_lt y1')
      have k2' := kept_cell (B := wr.heap.size) y2' (cell_lt y2')
      have HI := hide hPI
      have HI' := hide hPI'
      have HPL := hide hpl
      obtain ⟨B, K0, L⟩ := z
      have t0 : (B.toList == B.toList) = true := by simp
      have t0' : (B.toList != B.toList) = false := by simp
      have t2 : (L != L) = false := by simp
      clear y0 y1 y2 y0' y1' y2' hPI hPI' hpl
      go_upto_region 6 with fail
      refine wp_region_ord_thenT (S := Below wr.heap.size wr) [(true, 0), (true, 1), (true, 2), (true, 3), (true, 4), (true, 5), (true, 6), (true, 7), (true, 8), (true, 9), (true, 10), (true, 11), (true, 12), (true, 13), (true, 14), (true, 15), (true, 16), (true, 17), (true, 18), (true, 19), (true, 20), (true, 21), (true, 22), (true, 23), (true, 24), (true, 25), (true, 26), (true, 27), (true, 28), (true, 29), (true, 30), (true, 31), (true, 32), (true, 33), (true, 34), (false, 35), (true, 36)] (List.cons_ne_nil _ _) (by kernel_rfl) (by kernel_rfl) (by kernel_rfl) (by kernel_rfl) (by kernel_rfl) ((Below.refl _ _).drew) ?_
      simp only [List.dropLast_cons_cons, List.dropLast_singleton, List.getLast_cons_cons, List.getLast_singleton, withOps, List.map_cons, List.map_nil, List.getElem?_cons_succ, List.getElem?_cons_zero]
      repeat (refine walkH_read (by rfl) (by (intro gx; go_simp; try (with_reducible rfl))) ?_; try simp only [Act.put, List.setIfInBounds_toArray, List.set_cons_zero, List.set_cons_succ])
      refine walkH_do rfl (fun K hK => ?_)
      go_simp
      refine (sameInts_any _ _ _ _ _ _ K0 K0 _ ((unhide HI).below ((Below.refl _ _).drew)) ((unhide HI').below ((Below.refl _ _).drew)) (unhide HPL)).mono ?_
      rintro e w4 ⟨he, m, hw4⟩
      rw [show (K0 == K0) = true from beq_self_eq_true _] at he
      subst he
      have hb4 : Below wr.heap.size wr w4 := by rw [hw4]; exact ((Below.refl _ _).drew).trans (below_drewN _ _ m)
      clear hw4
      refine hK _ _ hb4 ?_
      clear hK K k0 k1 k2 k0' k1' k2'
      try simp only [Act.put, List.setIfInBounds_toArray, List.set_cons_zero, List.set_cons_succ]
      repeat (refine walkH_read (by rfl) (by (intro gx; go_simp; try (with_reducible rfl))) ?_; try simp only [Act.put, List.setIfInBounds_toArray, List.set_cons_zero, List.set_cons_succ])
      refine lastPost_of_list ?_
      simp only [List.cons_append, List.nil_append]
      go_wp2
      refine NoPanic.normal ?_
      go_wp2
      go_roundw
      case rel => exact ⟨k + 1, by omega, by go_num, hide (bt (unhide HW) hb4)⟩
      case measure => simp [intOf]; omega
    · have hlt' : ¬ (k : Int) < n := by omega
      go_wp2
      go_ret
      exact ⟨rfl, unhide HW⟩
end Go.Proofs.Ytmphbajnadbggaa
