/- Package invert's pairs: what a settled column says, settle. -/
import Derived.Test.YtfeepmjkamdldaaDoorInvW2
import Derived.Test.YtfeepmjkamdldaaDoorRegion2
namespace Go.Proofs.YtfeepmjkamdldaaDoor
open Go.RowKit
set_option linter.unusedVariables false
set_option linter.unusedSimpArgs false
attribute [local go_sem ↓] Go.wp_at_zero Go.wp_at_succ
def BytP (F : Nat → Nat → Nat) : Prop := ∀ r s, r < 12 → s < 24 → F r s < 256
/-- the two halves of a pair, c columns of the first being those of the identity -/
def St (k : Nat) (E : Nat → Nat → Nat) (c : Nat) (F : Nat → Nat → Nat) : Prop := Two k E F (fun r s => F r (k + s)) ∧ UnitTo k F c ∧ BytP F
theorem St.byt {k c : Nat} {E F : Nat → Nat → Nat} (h : St k E c F) (hk : k ≤ 12) : BytK k F := fun r s hr hs => h.2.2 r s (by omega) (by omega)
theorem St.byt2 {k c : Nat} {E F : Nat → Nat → Nat} (h : St k E c F) (hk : k ≤ 12) : BytK k (fun r s => F r (k + s)) := fun r s hr hs => h.2.2 r (k + s) (by omega) (by omega)
theorem put_swap (c t : Nat) (F : Nat → Nat → Nat) : putRow t (F c) (putRow c (F t) F) = fun r s => F (sw c t r) s := by
  funext r s
  unfold putRow sw
  by_cases h : r = t
  · by_cases h2 : r = c
    · subst h; subst h2; simp
    · subst h; simp [h2]
  · by_cases h2 : r = c
    · subst h2; simp [h]
    · simp [h, h2]
theorem put_scale (c x : Nat) (F : Nat → Nat → Nat) : putRow c (plusF x (fun _ => 0) (F c)) F = sc c x F := by
  funext r s
  unfold putRow plusF sc
  by_cases h : r = c
  · subst h; simp [Gf.mul_comm]
  · simp [h]
theorem put_add (i c x : Nat) (F : Nat → Nat → Nat) : putRow i (plusF x (F i) (F c)) F = ad i c x F := by
  funext r s
  unfold putRow plusF ad
  by_cases h : r = i
  · subst h; simp [Gf.mul_comm]
  · simp [h]
theorem St.swap {k c t : Nat} {E F : Nat → Nat → Nat} (h : St k E c F) (hk : k ≤ 12) (hc : c < k) (ht : c ≤ t) (htk : t < k) : St k E c (putRow t (F c) (putRow c (F t) F)) := by
  rw [put_swap]
  exact ⟨h.1.swap hc htk (h.byt hk) (h.byt2 hk), h.2.1.swap hc ht htk, fun r s hr hs => h.2.2 _ s (sw_lt (by omega) (by omega) hr) hs⟩
theorem St.scale {k c : Nat} {E F : Nat → Nat → Nat} (h : St k E c F) (hk : k ≤ 12) (hc : c < k) (h0 : F c c ≠ 0) : St k E c (putRow c (plusF (Gf.inv (F c c)) (fun _ => 0) (F c)) F) ∧ ColTo k (putRow c (plusF (Gf.inv (F c c)) (fun _ => 0) (F c)) F) c 0 := by
  rw [put_scale]
  have hb := h.byt hk
  refine ⟨⟨h.1.scale (Gf.inv_lt _) (Gf.inv_ne (hb c c hc hc) h0) hb (h.byt2 hk), h.2.1.scale hc, fun r s hr hs => ?_⟩, ColTo.scaled hb hc h0⟩
  unfold sc
  split
  · exact Gf.mul_lt _ _
  · exact h.2.2 r s hr hs
theorem St.add {k c i : Nat} {E F : Nat → Nat → Nat} (h : St k E c F) (hC : ColTo k F c i) (hk : k ≤ 12) (hc : c < k) (hi : i < k) (hic : i ≠ c) : St k E c (putRow i (plusF (F i c) (F i) (F c)) F) ∧ ColTo k (putRow i (plusF (F i c) (F i) (F c)) F) c (i + 1) := by
  rw [put_add]
  have hb := h.byt hk
  refine ⟨⟨h.1.add hic hc (hb i c hi hc) hb (h.byt2 hk), h.2.1.add hc, fun r s hr hs => ?_⟩, hC.added hb hi hic hc⟩
  unfold ad
  split
  · exact Gf.xor_lt (h.2.2 r s hr hs) (Gf.mul_lt _ _)
  · exact h.2.2 r s hr hs
theorem St.next {k c : Nat} {E F : Nat → Nat → Nat} (h : St k E c F) (hC : ColTo k F c k) : St k E (c + 1) F := ⟨h.1, h.2.1.next hC, h.2.2⟩
/-- what settle leaves -/
def settlePost (w : World) (g k c : Nat) (E F : Nat → Nat → Nat) (e : Ending) (w' : World) : Prop :=
  (e = .returned (.bool false) ∧ w' = w ∧ ∀ r, c ≤ r → r < k → F r c = 0) ∨ (e = .returned (.bool true) ∧ Below g w w' ∧ ∃ F', PairAt w' g k F' ∧ St k E (c + 1) F')
set_option maxRecDepth 100000 in
set_option maxHeartbeats 2000000 in
theorem settle_any (g k c : Nat) (E F : Nat → Nat → Nat) (w : World) (hp : PairAt w g k F) (hk : k ≤ 12) (hc : c < k) (hst : St k E c F) :
    Calls Tryd.prog 38 #[.pointer (some ⟨g, 0, none⟩), .int .i64 c] w (settlePost w g k c E F) := by
  have HP := hide hp
  have HS := hide hst
  clear hp hst
  have hc12 : c < 12 := by omega
  have hc12' : (c : Int) < 12 := by omega
  have hc24' : (c : Int) < 24 := by omega
  go_enter Tryd.func38, Tryd.ntmps38
  go_wp2_with fail
  refine (pivot_any g k c F w (unhide HP) hk hc).mono ?_
  rintro e w' ⟨rfl, h⟩
  rcases h with ⟨t, h1, h2, h3, rfl⟩ | ⟨h, rfl⟩
  · have H3 := hide h3
    clear h3
    have ht12 : t < 12 := by omega
    have ht12' : (t : Int) < 12 := by omega
    go_upto_region 4 with fail
    refine wp_region_ord2 (S := fun _ => True) [0, 1, 2, 3, 4, 5, 6, 7, 8, 10, 11, 12, 13, 14, 16, 17, 20, 21] 9 15 [(false, 15), (true, 18), (false, 19), (true, 22), (false, 23)] [(false, 9), (true, 18), (false, 19), (true, 22), (false, 23)] (by kernel_rfl) (by kernel_rfl) (by kernel_rfl) (by kernel_rfl) (trivial) ?_
    simp only [withOps, List.map_cons, List.map_nil, List.getElem?_cons_succ, List.getElem?_cons_zero]
    repeat (refine walkH_read (by rfl) (by (intro gx; go_simp; try (with_reducible rfl))) ?_; try simp only [Act.put, List.setIfInBounds_toArray, List.set_cons_zero, List.set_cons_succ])
    have P0 := hide ((unhide HP).below (w' := w'.drew) ((Below.refl _ _).drew))
    have P1 := hide ((unhide P0).setRow hc12 (F t))
    have P2 := hide ((unhide P1).setRow ht12 (F c))
    refine walkH_both ?_ ?_
    refine walkH_load_line rfl rfl (.tmp 24) rfl g (1 + t * 24) rfl (F t) ((unhide P0).row ht12) trivial ?_
    refine walkH_load_line rfl rfl (.tmp 30) rfl g (1 + c * 24) rfl (F c) ((unhide P0).row hc12) trivial ?_
    rotate_left
    refine walkH_load_line rfl rfl (.tmp 30) rfl g (1 + c * 24) rfl (F c) ((unhide P0).row hc12) trivial ?_
    refine walkH_load_line rfl rfl (.tmp 24) rfl g (1 + t * 24) rfl (F t) ((unhide P0).row ht12) trivial ?_
    all_goals simp only [Act.put, List.setIfInBounds_toArray, List.set_cons_zero, List.set_cons_succ]
    all_goals repeat (refine walkH_read (by rfl) (by (intro gx; go_simp; try (with_reducible rfl))) ?_; try simp only [Act.put, List.setIfInBounds_toArray, List.set_cons_zero, List.set_cons_succ])
    all_goals refine walkH_store_line rfl rfl (.tmp 34) (.tmp 25) rfl g (1 + c * 24) rfl (F t) rfl ((unhide P0).there hc12) trivial ?_
    all_goals simp only [Act.put, List.setIfInBounds_toArray, List.set_cons_zero, List.set_cons_succ]
    all_goals repeat (refine walkH_read (by rfl) (by (intro gx; go_simp; try (with_reducible rfl))) ?_; try simp only [Act.put, List.setIfInBounds_toArray, List.set_cons_zero, List.set_cons_succ])
    all_goals refine walkH_store_line rfl rfl (.tmp 37) (.tmp 31) rfl g (1 + t * 24) rfl (F c) rfl ((unhide P1).there ht12) trivial ?_
    all_goals refine walkH_nil (NoPanic.normal ?_)
    all_goals simp only [Act.put, List.setIfInBounds_toArray, List.set_cons_zero, List.set_cons_succ]
    all_goals
      have S1 := hide ((unhide HS).swap hk hc h1 h2)
      have B1 : Hid (Below g w' ((w'.drew.setCells g (1 + c * 24) (lineC (F t))).setCells g (1 + t * 24) (lineC (F c)))) := hide (below_setCells (Nat.le_refl _) _ _ _ _ (below_setCells (Nat.le_refl _) _ _ _ _ (Below.refl _ _).drew))
      have N1 : Hid (putRow t (F c) (putRow c (F t) F) c c ≠ 0) := hide (by
        by_cases e : c = t
        · subst e; simpa [putRow] using unhide H3
        · simpa [putRow, e] using unhide H3)
      generalize ((w'.drew.setCells g (1 + c * 24) (lineC (F t))).setCells g (1 + t * 24) (lineC (F c))) = W1 at P2 B1 ⊢
      generalize putRow t (F c) (putRow c (F t) F) = F1 at S1 N1 P2
      clear P0 P1 H3
      obtain ⟨z, ez⟩ : ∃ z, z = F1 c c := ⟨_, rfl⟩
      have hz : z < 256 := by rw [ez]; exact (unhide S1).2.2 c c hc12 (by omega)
      have hz0 : z ≠ 0 := by rw [ez]; exact unhide N1
      have hzc := (unhide P2).cell (r := c) (c := c) hc12 (by omega)
      rw [← ez] at hzc
      have EZ := hide ez
      clear ez
      have q1 := hide (range_kept (B := W1.heap.size) ((unhide P2).row hc12) (unhide P2).lt)
      have q2 := kept_cell (B := W1.heap.size) hzc (cell_lt hzc)
      clear hzc
      go_upto_region 5 with fail
      refine wp_region_ord_thenT (S := Below W1.heap.size W1) [(true, 0), (true, 1), (true, 2), (true, 3), (true, 4), (true, 5), (true, 6), (true, 7), (true, 8), (true, 9), (true, 10), (true, 11), (true, 12), (true, 13), (true, 14), (true, 15), (true, 17), (true, 18), (false, 16), (true, 19)] (List.cons_ne_nil _ _) (by kernel_rfl) (by kernel_rfl) (by kernel_rfl) (by kernel_rfl) (by kernel_rfl) ((Below.refl _ _).drew) ?_
      simp only [List.dropLast_cons_cons, List.dropLast_singleton, List.getLast_cons_cons, List.getLast_singleton, withOps, List.map_cons, List.map_nil, List.getElem?_cons_succ, List.getElem?_cons_zero]
      repeat (refine walkH_read (by rfl) (by (intro gx; go_simp; try (with_reducible rfl))) ?_; try simp only [Act.put, List.setIfInBounds_toArray, List.set_cons_zero, List.set_cons_succ])
      refine walkH_read_line rfl (.tmp 44) rfl g (1 + c * 24) rfl (F1 c) (unhide q1) ?_
      simp only [Act.put, List.setIfInBounds_toArray, List.set_cons_zero, List.set_cons_succ]
      repeat (refine walkH_read (by rfl) (by (intro gx; go_simp; try (with_reducible rfl))) ?_; try simp only [Act.put, List.setIfInBounds_toArray, List.set_cons_zero, List.set_cons_succ])
      refine walkH_do rfl (fun K hK => ?_)
      go_simp
      refine (divided_any z (F1 c) _ hz hz0 (fun s hs => (unhide S1).2.2 c s hc12 hs)).mono ?_
      rintro e w2 ⟨rfl, b2⟩
      have hb2 : Below W1.heap.size W1 w2 := ((Below.refl _ _).drew).trans b2
      refine hK _ _ hb2 ?_
      clear hK
      repeat (refine walkH_read (by rfl) (by (intro gx; go_simp; try (with_reducible rfl))) ?_; try simp only [Act.put, List.setIfInBounds_toArray, List.set_cons_zero, List.set_cons_succ])
      have P3 := hide ((unhide P2).below hb2)
      have B3 := hide ((unhide B1).trans (hb2.mono (Nat.le_of_lt (unhide P2).lt)))
      clear b2 hb2 q1 q2
      refine lastPost_of_list ?_
      simp only [List.cons_append, List.nil_append]
      refine step_store_line rfl (.tmp 57) (.tmp 54) rfl g (1 + c * 24) rfl (plusF (Gf.inv z) (fun _ => 0) (F1 c)) rfl ((unhide P3).there hc12) ?_
      refine wpList_nil (NoPanic.normal ?_)
      have P4 := hide ((unhide P3).setRow hc12 (plusF (Gf.inv z) (fun _ => 0) (F1 c)))
      have B4 := hide (below_setCells (Nat.le_refl _) (lineC (plusF (Gf.inv z) (fun _ => 0) (F1 c))) (1 + c * 24) _ _ (unhide B3))
      have S4 := hide ((unhide S1).scale hk hc (unhide N1))
      rw [← unhide EZ] at S4
      generalize putRow c (plusF (Gf.inv z) (fun _ => 0) (F1 c)) F1 = F2 at P4 S4
      generalize w2.setCells g (1 + c * 24) (lineC (plusF (Gf.inv z) (fun _ => 0) (F1 c))) = W2 at P4 B4 ⊢
      clear P3 B3 P2 B1 S1 N1 EZ hz hz0 K
      simp only [Act.put, List.setIfInBounds_toArray, List.set_cons_zero, List.set_cons_succ]
      have c0 := (unhide P4).size
      go_wp2
      clear c0
      go_loopw [62] (fun iv wr => ∃ i : Nat, i ≤ k ∧ iv = .int .i64 i ∧ ∃ F3, Hid (PairAt wr g k F3) ∧ Hid (St k E c F3 ∧ ColTo k F3 c i) ∧ Hid (Below g w' wr)) (fun iv _ => k - (intOf iv).toNat)
      case atStart => exact ⟨0, by omega, rfl, F2, P4, S4, B4⟩
      case round =>
        obtain ⟨i, hi, rfl, F3, PR, SR, BR⟩ := hrel
        clear P4 S4 B4
        by_cases hlt : i < k
        · have hlt' : (i : Int) < k := by omega
          have hi12 : i < 12 := by omega
          have hi12' : (i : Int) < 12 := by omega
          by_cases hic : i = c
          · subst hic
            have t1 : ((i : Int) != (i : Int)) = false := by simp
            go_wp2
            go_roundw
            case rel => exact ⟨i + 1, by omega, by go_num, F3, PR, hide ⟨(unhide SR).1, (unhide SR).2.same rfl⟩, BR⟩
            case measure => simp [intOf]; omega
          · have t1 : ((i : Int) != (c : Int)) = true := by simp; omega
            obtain ⟨z, ez⟩ : ∃ z, z = F3 i c := ⟨_, rfl⟩
            have hz : z < 256 := by rw [ez]; exact (unhide SR).1.2.2 i c hi12 (by omega)
            have hzc := (unhide PR).cell (r := i) (c := c) hi12 (by omega)
            rw [← ez] at hzc
            have EZ := hide ez
            clear ez
            have q1 := hide (range_kept (B := wr.heap.size) ((unhide PR).row hc12) (unhide PR).lt)
            have q3 := hide (range_kept (B := wr.heap.size) ((unhide PR).row hi12) (unhide PR).lt)
            have q2 := kept_cell (B := wr.heap.size) hzc (cell_lt hzc)
            clear hzc
            go_upto_region 10 with fail
            refine wp_region_ord_thenT (S := Below wr.heap.size wr) [(true, 0), (true, 1), (true, 2), (true, 3), (true, 4), (true, 5), (true, 6), (true, 7), (true, 8), (true, 9), (true, 10), (true, 11), (true, 12), (true, 13), (true, 14), (true, 15), (true, 16), (true, 17), (true, 18), (true, 19), (true, 20), (true, 21), (true, 23), (true, 24), (false, 22), (true, 25)] (List.cons_ne_nil _ _) (by kernel_rfl) (by kernel_rfl) (by kernel_rfl) (by kernel_rfl) (by kernel_rfl) ((Below.refl _ _).drew) ?_
            simp only [List.dropLast_cons_cons, List.dropLast_singleton, List.getLast_cons_cons, List.getLast_singleton, withOps, List.map_cons, List.map_nil, List.getElem?_cons_succ, List.getElem?_cons_zero]
            repeat (refine walkH_read (by rfl) (by (intro gx; go_simp; try (with_reducible rfl))) ?_; try simp only [Act.put, List.setIfInBounds_toArray, List.set_cons_zero, List.set_cons_succ])
            refine walkH_read_line rfl (.tmp 74) rfl g (1 + i * 24) rfl (F3 i) (unhide q3) ?_
            simp only [Act.put, List.setIfInBounds_toArray, List.set_cons_zero, List.set_cons_succ]
            repeat (refine walkH_read (by rfl) (by (intro gx; go_simp; try (with_reducible rfl))) ?_; try simp only [Act.put, List.setIfInBounds_toArray, List.set_cons_zero, List.set_cons_succ])
            refine walkH_read_line rfl (.tmp 88) rfl g (1 + c * 24) rfl (F3 c) (unhide q1) ?_
            simp only [Act.put, List.setIfInBounds_toArray, List.set_cons_zero, List.set_cons_succ]
            repeat (refine walkH_read (by rfl) (by (intro gx; go_simp; try (with_reducible rfl))) ?_; try simp only [Act.put, List.setIfInBounds_toArray, List.set_cons_zero, List.set_cons_succ])
            refine walkH_do rfl (fun K hK => ?_)
            go_simp
            refine (plus_any z (F3 i) (F3 c) _ hz (fun s hs => (unhide SR).1.2.2 i s hi12 hs) (fun s hs => (unhide SR).1.2.2 c s hc12 hs)).mono ?_
            rintro e w2 ⟨rfl, b2⟩
            have hb2 : Below wr.heap.size wr w2 := ((Below.refl _ _).drew).trans b2
            refine hK _ _ hb2 ?_
            clear hK
            repeat (refine walkH_read (by rfl) (by (intro gx; go_simp; try (with_reducible rfl))) ?_; try simp only [Act.put, List.setIfInBounds_toArray, List.set_cons_zero, List.set_cons_succ])
            have P3 := hide ((unhide PR).below hb2)
            have B3 := hide ((unhide BR).trans (hb2.mono (Nat.le_of_lt (unhide PR).lt)))
            clear b2 hb2 q1 q2 q3
            refine lastPost_of_list ?_
            simp only [List.cons_append, List.nil_append]
            refine step_store_line rfl (.tmp 93) (.tmp 90) rfl g (1 + i * 24) rfl (plusF z (F3 i) (F3 c)) rfl ((unhide P3).there hi12) ?_
            refine wpList_nil (NoPanic.normal ?_)
            have P5 := hide ((unhide P3).setRow hi12 (plusF z (F3 i) (F3 c)))
            have B5 := hide (below_setCells (Nat.le_refl _) (lineC (plusF z (F3 i) (F3 c))) (1 + i * 24) _ _ (unhide B3))
            have S5 := hide ((unhide SR).1.add (unhide SR).2 hk hc hlt hic)
            rw [← unhide EZ] at S5
            generalize putRow i (plusF z (F3 i) (F3 c)) F3 = F4 at P5 S5
            generalize w2.setCells g (1 + i * 24) (lineC (plusF z (F3 i) (F3 c))) = W5 at P5 B5 ⊢
            clear P3 B3 PR SR BR EZ hz K
            simp only [Act.put, List.setIfInBounds_toArray, List.set_cons_zero, List.set_cons_succ]
            go_wp2
            go_roundw
            case rel => exact ⟨i + 1, by omega, by go_num, F4, P5, S5, B5⟩
            case measure => simp [intOf]; omega
        · have hlt' : ¬ (i : Int) < k := by omega
          obtain rfl : i = k := by omega
          go_wp2
          go_ret
          exact .inr ⟨rfl, unhide BR, F3, unhide PR, (unhide SR).1.next (unhide SR).2⟩
  · have HZ := hide h
    clear h
    go_wp2
    go_ret
    exact .inl ⟨rfl, rfl, unhide HZ⟩
end Go.Proofs.YtfeepmjkamdldaaDoor
