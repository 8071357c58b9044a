/- The Go text of the statement TreeShapes returns true, whatever the numbers. -/
import Derived.Test.YtcoggfpjomgajaaTreeTurnedWalk
namespace Go.Proofs.Ytcoggfpjomgajaa
open Go.RowKit
set_option linter.unusedVariables false
set_option linter.unusedSimpArgs false
theorem low30_num (a : Int) : ∃ x : Nat, x < 2147483647 ∧ a % 4294967296 / 4 = (x : Int) := ⟨low30 a, by have := low30_lt a; omega, by unfold low30; omega⟩
theorem pair_small {a b : Nat} (ha : a < 2147483647) (hb : b < 2147483647) : Seal.pair (a : Int) (b : Int) = Seal.pairN a b := by
  unfold Seal.pair
  rw [Seal.md_small ha, Seal.md_small hb]
theorem root_2 (a b : Nat) : Tree.root [a, b] = Seal.pairN a b := by
  have h : Tree.half 2 = 1 := by decide +kernel
  rw [Tree.root_two (by simp)]
  show Seal.pairN (Tree.root (List.take (Tree.half 2) [a, b])) (Tree.root (List.drop (Tree.half 2) [a, b])) = _
  rw [h]
  show Seal.pairN (Tree.root [a]) (Tree.root [b]) = _
  rw [Tree.root_one, Tree.root_one]
theorem root_3 (a b c : Nat) : Tree.root [a, b, c] = Seal.pairN (Seal.pairN a b) c := by
  have h : Tree.half 3 = 2 := by decide +kernel
  rw [Tree.root_two (by simp)]
  show Seal.pairN (Tree.root (List.take (Tree.half 3) [a, b, c])) (Tree.root (List.drop (Tree.half 3) [a, b, c])) = _
  rw [h]
  show Seal.pairN (Tree.root [a, b]) (Tree.root [c]) = _
  rw [Tree.root_one, root_2]
theorem root_4 (a b c d : Nat) : Tree.root [a, b, c, d] = Seal.pairN (Seal.pairN a b) (Seal.pairN c d) := by
  have h : Tree.half 4 = 2 := by decide +kernel
  rw [Tree.root_two (by simp)]
  show Seal.pairN (Tree.root (List.take (Tree.half 4) [a, b, c, d])) (Tree.root (List.drop (Tree.half 4) [a, b, c, d])) = _
  rw [h]
  show Seal.pairN (Tree.root [a, b]) (Tree.root [c, d]) = _
  rw [root_2, root_2]
theorem root_5l (a b c d e : Nat) : Tree.root [a, b, c, d, e] = Seal.pairN (Seal.pairN (Seal.pairN a b) (Seal.pairN c d)) e := by
  have h : Tree.half 5 = 4 := by decide +kernel
  rw [Tree.root_two (by simp)]
  show Seal.pairN (Tree.root (List.take (Tree.half 5) [a, b, c, d, e])) (Tree.root (List.drop (Tree.half 5) [a, b, c, d, e])) = _
  rw [h]
  show Seal.pairN (Tree.root [a, b, c, d]) (Tree.root [e]) = _
  rw [root_4, Tree.root_one]
/-- what is wanted of the first k of five leaves -/
def want5 (x0 x1 x2 x3 x4 : Nat) : List Nat := [x0, Seal.pairN x0 x1, Seal.pairN (Seal.pairN x0 x1) x2, Seal.pairN (Seal.pairN x0 x1) (Seal.pairN x2 x3), Seal.pairN (Seal.pairN (Seal.pairN x0 x1) (Seal.pairN x2 x3)) x4]
theorem want_root {x0 x1 x2 x3 x4 : Nat} (hm : Tree.May [x0, x1, x2, x3, x4]) (k : Nat) (h1 : 1 ≤ k) (h5 : k ≤ 5) : rootP (nint ([x0, x1, x2, x3, x4].take k)) = ((((want5 x0 x1 x2 x3 x4).getD (k - 1) 0 : Nat) : Int), 0) := by
  rw [rootP_nint (by simp; omega) (by simp; omega) (fun x hx => hm x (List.mem_of_mem_take hx))]
  have hk : k = 1 ∨ k = 2 ∨ k = 3 ∨ k = 4 ∨ k = 5 := by omega
  rcases hk with rfl | rfl | rfl | rfl | rfl
  · rfl
  · show (((Tree.root [x0, x1] : Nat) : Int), (0 : Int)) = _
    rw [root_2]
    rfl
  · show (((Tree.root [x0, x1, x2] : Nat) : Int), (0 : Int)) = _
    rw [root_3]
    rfl
  · show (((Tree.root [x0, x1, x2, x3] : Nat) : Int), (0 : Int)) = _
    rw [root_4]
    rfl
  · show (((Tree.root [x0, x1, x2, x3, x4] : Nat) : Int), (0 : Int)) = _
    rw [root_5l]
    rfl
set_option maxRecDepth 100000 in
set_option maxHeartbeats 2000000 in
theorem TreeShapes_walk {w : World} (a : Int) (wf0 : (Lit.int .i64 a).wf = true) (b : Int) (wf1 : (Lit.int .i64 b).wf = true) (c : Int) (wf2 : (Lit.int .i64 c).wf = true) (d : Int) (wf3 : (Lit.int .i64 d).wf = true) (e : Int) (wf4 : (Lit.int .i64 e).wf = true) :
    Calls Try.prog 5 #[.int .i64 a, .int .i64 b, .int .i64 c, .int .i64 d, .int .i64 e] w fun e w' => e = .returned (.bool true) ∧ Below w.heap.size w w' := by
  obtain ⟨x0, g0, e0⟩ := low30_num a
  obtain ⟨x1, g1, e1⟩ := low30_num b
  obtain ⟨x2, g2, e2⟩ := low30_num c
  obtain ⟨x3, g3, e3⟩ := low30_num d
  obtain ⟨x4, g4, e4⟩ := low30_num e
  have hm : Tree.May [x0, x1, x2, x3, x4] := by
    intro x hx
    simp only [List.mem_cons, List.not_mem_nil, or_false] at hx
    rcases hx with rfl | rfl | rfl | rfl | rfl <;> assumption
  have HRT := hide (want_root hm)
  have q01 := pair_small g0 g1
  have q23 := pair_small g2 g3
  have f01 : (Lit.int .i64 (x0 : Int)).wf = true := wf_nat g0
  have f1 : (Lit.int .i64 (x1 : Int)).wf = true := wf_nat g1
  have f2 : (Lit.int .i64 (x2 : Int)).wf = true := wf_nat g2
  have f3 : (Lit.int .i64 (x3 : Int)).wf = true := wf_nat g3
  have f4 : (Lit.int .i64 (x4 : Int)).wf = true := wf_nat g4
  obtain ⟨ab, eab⟩ : ∃ ab, ab = Seal.pairN x0 x1 := ⟨_, rfl⟩
  obtain ⟨cd, ecd⟩ : ∃ cd, cd = Seal.pairN x2 x3 := ⟨_, rfl⟩
  rw [← eab] at q01
  rw [← ecd] at q23
  have gab : ab < 2147483647 := by rw [eab]; exact Seal.pairN_lt _ _
  have gcd : cd < 2147483647 := by rw [ecd]; exact Seal.pairN_lt _ _
  have fab : (Lit.int .i64 (ab : Int)).wf = true := wf_nat gab
  have fcd : (Lit.int .i64 (cd : Int)).wf = true := wf_nat gcd
  have qab2 := pair_small gab g2
  have qabcd := pair_small gab gcd
  obtain ⟨abc, eabc⟩ : ∃ abc, abc = Seal.pairN ab x2 := ⟨_, rfl⟩
  obtain ⟨abcd, eabcd⟩ : ∃ abcd, abcd = Seal.pairN ab cd := ⟨_, rfl⟩
  rw [← eabc] at qab2
  rw [← eabcd] at qabcd
  have gabcd : abcd < 2147483647 := by rw [eabcd]; exact Seal.pairN_lt _ _
  have fabcd : (Lit.int .i64 (abcd : Int)).wf = true := wf_nat gabcd
  have qe := pair_small gabcd g4
  obtain ⟨abcde, eabcde⟩ : ∃ abcde, abcde = Seal.pairN abcd x4 := ⟨_, rfl⟩
  rw [← eabcde] at qe
  have ew : want5 x0 x1 x2 x3 x4 = [x0, ab, abc, abcd, abcde] := by unfold want5; rw [← eab, ← ecd, ← eabc, ← eabcd, ← eabcde]
  rw [ew] at HRT
  have QA := hide q01
  have QB := hide q23
  have QC := hide qab2
  have QD := hide qabcd
  have QE := hide qe
  have F0 := hide f01
  have F1 := hide f1
  have F2 := hide f2
  have F3 := hide f3
  have F4 := hide f4
  have FAB := hide fab
  have FCD := hide fcd
  have FABCD := hide fabcd
  clear ew eab ecd eabc eabcd eabcde q01 q23 qab2 qabcd qe f01 f1 f2 f3 f4 fab fcd fabcd g0 g1 g2 g3 g4 gab gcd gabcd hm
  go_enter Try.func5, Try.ntmps5
  go_wp2_with fail
  refine (awake10_any _).mono ?_
  rintro e w1 ⟨rfl, b1⟩
  have HW := hide b1
  clear b1
  go_wp2
  have HI := hide (int_lit w1 (nint [x0, x1, x2, x3, x4]) 3 w1.heap.size #[.int .i64 x0, .int .i64 x1, .int .i64 x2, .int .i64 x3, .int .i64 x4] 5 rfl rfl rfl)
  replace HW := hide (bt (unhide HW) (below_alloc w1 (.cells #[.int .i64 x0, .int .i64 x1, .int .i64 x2, .int .i64 x3, .int .i64 x4] 3)))
  have hc := heap_alloc_new w1 (.cells #[.int .i64 x0, .int .i64 x1, .int .i64 x2, .int .i64 x3, .int .i64 x4] 3)
  have hs : w1.heap.size < (w1.alloc (.cells #[.int .i64 x0, .int .i64 x1, .int .i64 x2, .int .i64 x3, .int .i64 x4] 3)).heap.size := by simp
  generalize (w1.alloc (.cells #[.int .i64 x0, .int .i64 x1, .int .i64 x2, .int .i64 x3, .int .i64 x4] 3)) = W at *
  have k0 : ∀ x : Subtype (Below W.heap.size W), x.val.cell? ⟨w1.heap.size, 0, none⟩ = some (.int .i64 x0) := kept_cell (B := W.heap.size) (by rw [cell_of_row _ _ 0 _ _ _ hc]; rfl) hs
  have k1 : ∀ x : Subtype (Below W.heap.size W), x.val.cell? ⟨w1.heap.size, 1, none⟩ = some (.int .i64 x1) := kept_cell (B := W.heap.size) (by rw [cell_of_row _ _ 1 _ _ _ hc]; rfl) hs
  have k2 : ∀ x : Subtype (Below W.heap.size W), x.val.cell? ⟨w1.heap.size, 2, none⟩ = some (.int .i64 x2) := kept_cell (B := W.heap.size) (by rw [cell_of_row _ _ 2 _ _ _ hc]; rfl) hs
  have k3 : ∀ x : Subtype (Below W.heap.size W), x.val.cell? ⟨w1.heap.size, 3, none⟩ = some (.int .i64 x3) := kept_cell (B := W.heap.size) (by rw [cell_of_row _ _ 3 _ _ _ hc]; rfl) hs
  have k4 : ∀ x : Subtype (Below W.heap.size W), x.val.cell? ⟨w1.heap.size, 4, none⟩ = some (.int .i64 x4) := kept_cell (B := W.heap.size) (by rw [cell_of_row _ _ 4 _ _ _ hc]; rfl) hs
  clear hc
  refine wp_region_ord_then (S := Below W.heap.size W) [(true, 0), (true, 1), (true, 2), (true, 3), (true, 4), (true, 5), (true, 7), (true, 8), (true, 9), (true, 10), (true, 11), (true, 12), (false, 6), (false, 13), (true, 14)] (List.cons_ne_nil _ _) (by kernel_rfl) (by kernel_rfl) (by kernel_rfl) (by kernel_rfl) (by kernel_rfl) ((Below.refl _ _).drew) ?_
  simp only [List.dropLast_cons_cons, List.dropLast_singleton, List.getLast_cons_cons, List.getLast_singleton, withOps, List.map_cons, List.map_nil, List.getElem?_cons_succ, List.getElem?_cons_zero]
  repeat (refine walkH_read (by rfl) (by (intro gx; go_simp; try (with_reducible rfl))) ?_; try simp only [Act.put, List.setIfInBounds_toArray, List.set_cons_zero, List.set_cons_succ])
  refine walkH_do rfl (fun K hK => ?_)
  go_simp
  refine (sealPair_any _ _ _ (unhide F0) (unhide F1)).mono ?_
  rintro e w2 ⟨rfl, rfl⟩
  rw [unhide QA]
  refine hK _ _ ((Below.refl _ _).drew) ?_
  clear hK K
  try simp only [Act.put, List.setIfInBounds_toArray, List.set_cons_zero, List.set_cons_succ]
  repeat (refine walkH_read (by rfl) (by (intro gx; go_simp; try (with_reducible rfl))) ?_; try simp only [Act.put, List.setIfInBounds_toArray, List.set_cons_zero, List.set_cons_succ])
  refine walkH_do rfl (fun K hK => ?_)
  go_simp
  refine (sealPair_any _ _ _ (unhide F2) (unhide F3)).mono ?_
  rintro e w2 ⟨rfl, rfl⟩
  rw [unhide QB]
  refine hK _ _ ((Below.refl _ _).drew) ?_
  clear hK K
  try simp only [Act.put, List.setIfInBounds_toArray, List.set_cons_zero, List.set_cons_succ]
  repeat (refine walkH_read (by rfl) (by (intro gx; go_simp; try (with_reducible rfl))) ?_; try simp only [Act.put, List.setIfInBounds_toArray, List.set_cons_zero, List.set_cons_succ])
  refine lastPost_of_list ?_
  simp only [List.cons_append, List.nil_append]
  go_wp2
  refine NoPanic.normal ?_
  go_wp2
  refine wp_region_ord_then (S := Below W.heap.size W) [(true, 0), (true, 1), (true, 2), (true, 3), (true, 4), (true, 5), (true, 6), (true, 7), (true, 9), (true, 10), (true, 12), (true, 13), (true, 15), (true, 16), (true, 17), (false, 8), (false, 11), (false, 14), (false, 18), (false, 19)] (List.cons_ne_nil _ _) (by kernel_rfl) (by kernel_rfl) (by kernel_rfl) (by kernel_rfl) (by kernel_rfl) (((Below.refl _ _).drew).drew) ?_
  simp only [List.dropLast_cons_cons, List.dropLast_singleton, List.getLast_cons_cons, List.getLast_singleton, withOps, List.map_cons, List.map_nil, List.getElem?_cons_succ, List.getElem?_cons_zero]
  repeat (refine walkH_read (by rfl) (by (intro gx; go_simp; try (with_reducible rfl))) ?_; try simp only [Act.put, List.setIfInBounds_toArray, List.set_cons_zero, List.set_cons_succ])
  refine walkH_do rfl (fun K hK => ?_)
  go_simp
  refine (sealPair_any _ _ _ (unhide FAB) (unhide F2)).mono ?_
  rintro e w2 ⟨rfl, rfl⟩
  rw [unhide QC]
  refine hK _ _ (((Below.refl _ _).drew).drew) ?_
  clear hK K
  try simp only [Act.put, List.setIfInBounds_toArray, List.set_cons_zero, List.set_cons_succ]
  repeat (refine walkH_read (by rfl) (by (intro gx; go_simp; try (with_reducible rfl))) ?_; try simp only [Act.put, List.setIfInBounds_toArray, List.set_cons_zero, List.set_cons_succ])
  refine walkH_do rfl (fun K hK => ?_)
  go_simp
  refine (sealPair_any _ _ _ (unhide FAB) (unhide FCD)).mono ?_
  rintro e w2 ⟨rfl, rfl⟩
  rw [unhide QD]
  refine hK _ _ (((Below.refl _ _).drew).drew) ?_
  clear hK K
  try simp only [Act.put, List.setIfInBounds_toArray, List.set_cons_zero, List.set_cons_succ]
  repeat (refine walkH_read (by rfl) (by (intro gx; go_simp; try (with_reducible rfl))) ?_; try simp only [Act.put, List.setIfInBounds_toArray, List.set_cons_zero, List.set_cons_succ])
  refine walkH_do rfl (fun K hK => ?_)
  go_simp
  refine (sealPair_any _ _ _ (unhide FAB) (unhide FCD)).mono ?_
  rintro e w2 ⟨rfl, rfl⟩
  rw [unhide QD]
  refine hK _ _ (((Below.refl _ _).drew).drew) ?_
  clear hK K
  try simp only [Act.put, List.setIfInBounds_toArray, List.set_cons_zero, List.set_cons_succ]
  repeat (refine walkH_read (by rfl) (by (intro gx; go_simp; try (with_reducible rfl))) ?_; try simp only [Act.put, List.setIfInBounds_toArray, List.set_cons_zero, List.set_cons_succ])
  refine walkH_do rfl (fun K hK => ?_)
  go_simp
  refine (sealPair_any _ _ _ (unhide FABCD) (unhide F4)).mono ?_
  rintro e w2 ⟨rfl, rfl⟩
  rw [unhide QE]
  refine hK _ _ (((Below.refl _ _).drew).drew) ?_
  clear hK K
  try simp only [Act.put, List.setIfInBounds_toArray, List.set_cons_zero, List.set_cons_succ]
  repeat (refine walkH_read (by rfl) (by (intro gx; go_simp; try (with_reducible rfl))) ?_; try simp only [Act.put, List.setIfInBounds_toArray, List.set_cons_zero, List.set_cons_succ])
  refine walkH_do rfl (fun K hK => ?_)
  go_simp
  have hbB : Below W.heap.size W (W.alloc (.cells #[.int .i64 x0, .int .i64 ab, .int .i64 abc, .int .i64 abcd, .int .i64 abcde] 3)).drew.drew := by go_grown
  refine hK _ _ hbB ?_
  clear hK K
  try simp only [Act.put, List.setIfInBounds_toArray, List.set_cons_zero, List.set_cons_succ]
  repeat (refine walkH_read (by rfl) (by (intro gx; go_simp; try (with_reducible rfl))) ?_; try simp only [Act.put, List.setIfInBounds_toArray, List.set_cons_zero, List.set_cons_succ])
  refine lastPost_of_list ?_
  simp only [List.cons_append, List.nil_append]
  have hc : ((W.alloc (.cells #[.int .i64 x0, .int .i64 ab, .int .i64 abc, .int .i64 abcd, .int .i64 abcde] 3)).drew.drew).heap[W.heap.size]? = some (.cells #[.int .i64 x0, .int .i64 ab, .int .i64 abc, .int .i64 abcd, .int .i64 abcde] 3 (0, 0)) := heap_alloc_new W (.cells #[.int .i64 x0, .int .i64 ab, .int .i64 abc, .int .i64 abcd, .int .i64 abcde] 3)
  clear k0 k1 k2 k3 k4
  go_wp2_with fail
  refine NoPanic.normal ?_
  replace HI := hide ((unhide HI).below hbB)
  replace HW := hide (bt (unhide HW) hbB)
  generalize (W.alloc (.cells #[.int .i64 x0, .int .i64 ab, .int .i64 abc, .int .i64 abcd, .int .i64 abcde] 3)).drew.drew = W5 at *
  clear hbB
  have HC := hide hc
  clear hc
  go_wp2
  go_loopw [15] (fun iv wr => ∃ k : Nat, 1 ≤ k ∧ k ≤ 6 ∧ iv = .int .i64 k ∧ Hid (Ints wr (some ⟨w1.heap.size, 0, none⟩) 5 5 (nint [x0, x1, x2, x3, x4])) ∧ Hid (wr.heap[W.heap.size]? = some (.cells #[.int .i64 x0, .int .i64 ab, .int .i64 abc, .int .i64 abcd, .int .i64 abcde] 3 (0, 0))) ∧ Hid (Below w.heap.size w wr)) (fun iv _ => 6 - (intOf iv).toNat)
  case atStart => exact ⟨1, by omega, by omega, rfl, HI, HC, HW⟩
  case round =>
    obtain ⟨k, hk1, hk6, rfl, HI, HC, HW⟩ := hrel
    by_cases hlt : k ≤ 5
    · have hr := unhide HRT k hk1 hlt
      have hIk := (unhide HI).first hlt
      have hck := cell_of_row _ _ (k - 1) _ _ _ (unhide HC)
      have hk : k = 1 ∨ k = 2 ∨ k = 3 ∨ k = 4 ∨ k = 5 := by omega
      have hnt : (nint [x0, x1, x2, x3, x4]).take k = nint ([x0, x1, x2, x3, x4].take k) := by unfold nint; rw [List.map_take]
      rw [hnt] at hIk
      clear hnt hk1 hk6
      have HR := hide hr
      have HIk := hide hIk
      clear hr hIk
      have hkk : ∃ z : Nat, z = [x0, ab, abc, abcd, abcde].getD (k - 1) 0 := ⟨_, rfl⟩
      obtain ⟨z, ez⟩ := hkk
      have hcz : wr.cell? ⟨W.heap.size, k - 1, none⟩ = some (.int .i64 z) := by
        rw [hck, ez]
        rcases hk with rfl | rfl | rfl | rfl | rfl <;> rfl
      rw [← ez] at HR
      have hZ := hide ez
      have tz : ((z : Int) != (z : Int)) = false := by simp
      clear ez hck hlt
      rcases hk with rfl | rfl | rfl | rfl | rfl
      all_goals
        simp only [Nat.reduceSub, Nat.sub_self, Nat.add_one_sub_one] at hcz
        have fH := cell_lt hcz
        go_wp2_with fail
        refine (treeRoot_any _ _ _ _ _ (unhide HIk) (by decide)).mono ?_
        rintro e w6 ⟨rfl, b6⟩
        rw [unhide HR]
        have hcz6 := (b6.cell fH).trans hcz
        have HI6 := hide ((unhide HI).below b6)
        have HC6 := hide ((b6.block _ (lt_of_block (unhide HC))).trans (unhide HC))
        have HW6 := hide (bt (unhide HW) b6)
        clear b6 hcz
        go_wp2_with (go_at_call 14; refine (num_any _ _).mono ?_; rintro e w' ⟨rfl, rfl⟩)
        go_roundw
        case rel => exact ⟨_, by decide, by decide, rfl, HI6, HC6, HW6⟩
        case measure => simp [intOf]
    · obtain rfl : k = 6 := by omega
      go_wp2
      go_ret
      exact ⟨rfl, unhide HW⟩
end Go.Proofs.Ytcoggfpjomgajaa
