/- Frames by the document (ossuaryref13): GetFrame. -/
import Derived.Test.YtmphbajnadbggaaFrRef2
import Derived.Test.YtmphbajnadbggaaPieces
namespace Go.Proofs.Ytmphbajnadbggaa
open Go.RowKit
set_option linter.unusedVariables false
set_option linter.unusedSimpArgs false
attribute [local go_sem ↓] Go.wp_at_zero Go.wp_at_succ
def fourAt (t : ByteArray) (i : Nat) : Nat := numL (byts (t.extract (36 + 4 * i) (40 + 4 * i)))
/-- the first k numbers of a frame's path -/
def getPath (t : ByteArray) (k : Nat) : List Int := (List.range k).map fun i => ((fourAt t i : Nat) : Int)
theorem getPath_len (t : ByteArray) (k : Nat) : (getPath t k).length = k := by simp [getPath]
theorem getPath_succ (t : ByteArray) (k : Nat) : getPath t (k + 1) = getPath t k ++ [((fourAt t k : Nat) : Int)] := by simp [getPath, List.range_succ]
def frCount (t : ByteArray) : Nat := min ((byts t).getD 3 0) 3
/-- what a sector's frame has: its bytes, its path, an error -/
def getF (t : ByteArray) (slot shard : Int) : ByteArray × List Int × Int :=
  if t.size = 64 ∧ putF slot shard (t.extract 4 36) (getPath t (frCount t)) = (t, 0) then (t.extract 4 36, getPath t (frCount t), 0) else (ByteArray.empty, [], 1400)
def getPost (r : ByteArray × List Int × Int) (w : World) (e : Ending) (w' : World) : Prop := ∃ v, e = .returned (.tuple #[.string r.1, v, .int .i64 r.2.2]) ∧ OwnL w' w.heap.size 3 v (r.2.1.map (Value.int .i64)) ∧ Below w.heap.size w w'
theorem byts_get (t : ByteArray) (j : Nat) (h : j < t.size) : (byts t).getD j 0 = (t[j]).toNat := by
  have hl : j < (byts t).length := by rw [byts_len]; exact h
  simp only [List.getD, List.getElem?_eq_getElem hl, Option.getD_some]
  simp [byts]
  rfl
theorem ext4_size (t : ByteArray) (k : Nat) (h : t.size = 64) (hk : k < 3) : (t.extract (36 + 4 * k) (40 + 4 * k)).size = 4 := by
  rw [ByteArray.size_extract, h]; omega
theorem slice4 (t : ByteArray) (k : Nat) (h : t.size = 64) (hk : k < 3) (w : World) : (Instr.slice 9 (.string t) (some (.int .i64 (36 + 4 * (k : Int)))) (some (.int .i64 (36 + 4 * (k : Int) + 4))) none).run Try.prog w = .ok (.string (t.extract (36 + 4 * k) (40 + 4 * k))) w := by
  have e1 : (36 + 4 * (k : Int)) = ((36 + 4 * k : Nat) : Int) := by omega
  rw [e1]
  exact run_slice_lh w 9 t Try.underlying9 (36 + 4 * k) (40 + 4 * k) _ (by omega) (by omega) (by omega)
set_option maxRecDepth 100000 in
set_option maxHeartbeats 2000000 in
theorem refGetFrame_any (t : ByteArray) (slot shard : Int) (w : World) (wf1 : (Lit.int .i64 slot).wf = true) : Calls Try.prog 13 #[.string t, .int .i64 slot, .int .i64 shard] w (getPost (getF t slot shard) w) := by
  clear wf1
  by_cases h64 : t.size = 64
  · have hsl0 : ∀ w, (Instr.slice 9 (.string t) (some (.int .i64 4)) (some (.int .i64 36)) none).run Try.prog w = .ok (.string (t.extract 4 36)) w := fun w => run_slice_lh w 9 t Try.underlying9 4 36 36 rfl (by decide) (by omega)
    have h3 : 3 < t.size := by omega
    obtain ⟨c, ec, hc⟩ : ∃ c : Nat, (t[3]'h3).toNat = c ∧ frCount t = min c 3 := ⟨_, rfl, by rw [frCount, byts_get t 3 h3]⟩
    have ecI : (((t[3]'h3).toNat : Nat) : Int) = (c : Int) := by rw [ec]
    have hwc : wrap64 (c : Int) = (c : Int) := by
      have hcb : c < 256 := by rw [← ec]; exact UInt8.toNat_lt _
      clear hsl0 ecI ec hc
      unfold wrap64; omega
    have HC := hide hc
    clear hc ec
    go_enter Try.func13, Try.ntmps13
    go_wp2
    go_loopw [10, 11] (fun ov iv wr => ∃ k : Nat, k ≤ min c 3 ∧ iv = .int .i64 k ∧ Hid (OwnL wr w.heap.size 3 ov ((getPath t k).map (Value.int .i64))) ∧ Hid (Below w.heap.size w wr)) (fun _ iv _ => 3 - (intOf iv).toNat)
    case atStart => exact ⟨0, Nat.zero_le _, rfl, hide (OwnL.nil _ _ _), hide (Below.refl _ _)⟩
    case round =>
      obtain ⟨k, hk, rfl, HO, HB⟩ := hrel
      have hs3 := (unhide HB).size
      obtain ⟨pv, cv, ev⟩ := (unhide HO).form
      rw [List.length_map, getPath_len] at ev
      subst ev
      by_cases hlt : k < c ∧ k < 3
      · obtain ⟨hkc, hk3⟩ := hlt
        have hkc' : (k : Int) < c := by omega
        have hk3' : (k : Int) < 3 := by omega
        have hs4 := slice4 t k h64 hk3
        have hz4 := ext4_size t k h64 hk3
        obtain ⟨s4, es4⟩ : ∃ s4, s4 = t.extract (36 + 4 * k) (40 + 4 * k) := ⟨_, rfl⟩
        rw [← es4] at hs4 hz4
        obtain ⟨y, ey⟩ : ∃ y, y = numL (byts s4) := ⟨_, rfl⟩
        have ef : fourAt t k = y := by rw [ey, es4]; rfl
        have EF := hide ef
        have HK := hide hk
        clear es4 ef hk
        go_wp2_with fail
        refine (number_any s4 (by omega) _).mono ?_
        rintro e w1 ⟨rfl, hw1⟩
        subst hw1
        rw [← ey]
        clear ey
        go_wp2_with (at_builtin; refine wpList_push w1 (by rfl) (.tmp 34) (.tmp 41) 22 (by rfl) w.heap.size 3 (.int .i64 0) 8 Try.underlying22 Try.infoInt rfl _ _ (by rfl) (unhide HO) _ (by rfl) (by rfl) (by simp [getPath_len]; omega) (by omega) hs3 ?_; intro v4 w4 O4 P4; have HB4 := hide (P4.below (unhide HO) (unhide HB) (Nat.le_refl _) hs3); have HO4 := hide O4; clear O4 P4 HO HB)
        go_roundw
        case rel =>
          refine ⟨k + 1, by omega, by go_num, hide ?_, HB4⟩
          rw [getPath_succ, List.map_append, unhide EF]
          exact unhide HO4
        case measure => simp [intOf]; omega
      · have hkm : k = min c 3 := by omega
        have HKM := hide hkm
        have hlt' : ¬ (k : Int) < c ∨ ¬ (k : Int) < 3 := by omega
        obtain ⟨p, ep⟩ : ∃ p, p = getPath t k := ⟨_, rfl⟩
        have hpl : p.length = k := by rw [ep, getPath_len]
        have eC : getPath t (frCount t) = p := by rw [unhide HC, ← hkm, ep]
        rw [← ep] at HO
        have EC := hide eC
        obtain ⟨pa, pc, e9, I9⟩ := (unhide HO).ints
        simp only [Value.slice.injEq] at e9
        obtain ⟨rfl, -, rfl⟩ := e9
        rw [hpl] at I9
        have I' := hide I9
        clear ep eC hkm I9
        by_cases hkc : k < c
        · have h1 : (k : Int) < c := by omega
          have h2 : ¬ (k : Int) < 3 := by omega
          go_wp2_with fail
          refine (refPutFrame_any slot shard (t.extract 4 36) _ _ _ p _ (unhide I') (by omega)).mono ?_
          rintro e w2 ⟨rfl, b2⟩
          replace HB := hide (bt (unhide HB) b2)
          replace HO := hide ((unhide HO).below b2)
          clear b2
          obtain ⟨r, er⟩ : ∃ r, r = putF slot shard (t.extract 4 36) p := ⟨_, rfl⟩
          rw [← er]
          obtain ⟨ru, rn⟩ := r
          by_cases hrn : rn = 0
          · subst hrn
            by_cases hru : ru = t
            · subst hru
              have eg : getF ru slot shard = (ru.extract 4 36, p, 0) := by
                rw [getF, unhide EC, ← er, if_pos ⟨h64, rfl⟩]
              have HEG := hide eg
              clear er eg
              go_wp2
              exact bodyPost_ret (v := .tuple #[.string (ru.extract 4 36), .slice pv k cv, .int .i64 0]) (by simp [results, Try.results13, go_sem] <;> rfl) rfl (by rw [unhide HEG]; exact ⟨_, rfl, unhide HO, unhide HB⟩)
            · have hne : ¬ ru.toList = t.toList := fun e => hru (str_eq (by simp [e]))
              have eg : getF t slot shard = (ByteArray.empty, [], 1400) := by
                rw [getF, unhide EC, ← er, if_neg (fun h => hru (Prod.mk.inj h.2).1)]
              have HEG := hide eg
              have hne2 : (ru.toList == t.toList) = false := by simpa using hne
              have hne3 : (ru.toList != t.toList) = true := by simpa using hne
              have HRU := hide hru
              clear er eg hru
              go_wp2
              exact bodyPost_ret (v := .tuple #[.string ByteArray.empty, .slice none 0 0, .int .i64 1400]) (by simp [results, Try.results13, go_sem] <;> rfl) rfl (by rw [unhide HEG]; exact ⟨_, rfl, OwnL.nil _ _ _, unhide HB⟩)
          · have hn2 : (rn != 0) = true := by simp [hrn]
            have eg : getF t slot shard = (ByteArray.empty, [], 1400) := by
              rw [getF, unhide EC, ← er, if_neg (fun h => hrn (Prod.mk.inj h.2).2)]
            have HEG := hide eg
            have HRN := hide hrn
            clear er eg hrn
            go_wp2
            exact bodyPost_ret (v := .tuple #[.string ByteArray.empty, .slice none 0 0, .int .i64 1400]) (by simp [results, Try.results13, go_sem] <;> rfl) rfl (by rw [unhide HEG]; exact ⟨_, rfl, OwnL.nil _ _ _, unhide HB⟩)
        · have h1 : ¬ (k : Int) < c := by omega
          go_wp2_with fail
          refine (refPutFrame_any slot shard (t.extract 4 36) _ _ _ p _ (unhide I') (by omega)).mono ?_
          rintro e w2 ⟨rfl, b2⟩
          replace HB := hide (bt (unhide HB) b2)
          replace HO := hide ((unhide HO).below b2)
          clear b2
          obtain ⟨r, er⟩ : ∃ r, r = putF slot shard (t.extract 4 36) p := ⟨_, rfl⟩
          rw [← er]
          obtain ⟨ru, rn⟩ := r
          by_cases hrn : rn = 0
          · subst hrn
            by_cases hru : ru = t
            · subst hru
              have eg : getF ru slot shard = (ru.extract 4 36, p, 0) := by
                rw [getF, unhide EC, ← er, if_pos ⟨h64, rfl⟩]
              have HEG := hide eg
              clear er eg
              go_wp2
              exact bodyPost_ret (v := .tuple #[.string (ru.extract 4 36), .slice pv k cv, .int .i64 0]) (by simp [results, Try.results13, go_sem] <;> rfl) rfl (by rw [unhide HEG]; exact ⟨_, rfl, unhide HO, unhide HB⟩)
            · have hne : ¬ ru.toList = t.toList := fun e => hru (str_eq (by simp [e]))
              have eg : getF t slot shard = (ByteArray.empty, [], 1400) := by
                rw [getF, unhide EC, ← er, if_neg (fun h => hru (Prod.mk.inj h.2).1)]
              have HEG := hide eg
              have hne2 : (ru.toList == t.toList) = false := by simpa using hne
              have hne3 : (ru.toList != t.toList) = true := by simpa using hne
              have HRU := hide hru
              clear er eg hru
              go_wp2
              exact bodyPost_ret (v := .tuple #[.string ByteArray.empty, .slice none 0 0, .int .i64 1400]) (by simp [results, Try.results13, go_sem] <;> rfl) rfl (by rw [unhide HEG]; exact ⟨_, rfl, OwnL.nil _ _ _, unhide HB⟩)
          · have hn2 : (rn != 0) = true := by simp [hrn]
            have eg : getF t slot shard = (ByteArray.empty, [], 1400) := by
              rw [getF, unhide EC, ← er, if_neg (fun h => hrn (Prod.mk.inj h.2).2)]
            have HEG := hide eg
            have HRN := hide hrn
            clear er eg hrn
            go_wp2
            exact bodyPost_ret (v := .tuple #[.string ByteArray.empty, .slice none 0 0, .int .i64 1400]) (by simp [results, Try.results13, go_sem] <;> rfl) rfl (by rw [unhide HEG]; exact ⟨_, rfl, OwnL.nil _ _ _, unhide HB⟩)
  · have b5 : ((t.size : Int) != 64) = true := by simp; omega
    go_enter Try.func13, Try.ntmps13
    go_wp2
    have e : getF t slot shard = (ByteArray.empty, [], 1400) := by rw [getF, if_neg (fun h => h64 h.1)]
    rw [e]
    exact bodyPost_ret (v := .tuple #[.string ByteArray.empty, .slice none 0 0, .int .i64 1400]) (by simp [results, Try.results13, go_sem] <;> rfl) rfl ⟨_, rfl, OwnL.nil _ _ _, Below.refl _ _⟩
end Go.Proofs.Ytmphbajnadbggaa
