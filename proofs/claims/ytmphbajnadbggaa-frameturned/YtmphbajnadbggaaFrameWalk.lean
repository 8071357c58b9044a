/- The program's frames: Put, Get. -/
import Derived.Test.YtmphbajnadbggaaFrameRead
import Derived.Test.YtmphbajnadbggaaFrMath
import Derived.Test.YtmphbajnadbggaaAuditClone
namespace Go.Proofs.Ytmphbajnadbggaa
open Go.RowKit
set_option linter.unusedVariables false
set_option linter.unusedSimpArgs false
/-- a sector that tells of more than three numbers is no frame -/
theorem getF_long (t : ByteArray) (slot shard : Int) (h : ¬ (t.size = 64 ∧ (byts t).getD 3 0 ≤ 3)) : getF t slot shard = (ByteArray.empty, [], 1400) := by
  rw [getF, if_neg]
  rintro ⟨h64, he⟩
  have hc : 3 < (byts t).getD 3 0 := by omega
  have ec : frCount t = 3 := by unfold frCount; omega
  rw [ec] at he
  unfold putF at he
  split at he
  · rename_i hm
    have hb := frB_byts slot shard _ _ hm
    rw [(Prod.mk.inj he).1] at hb
    have h3 := getPath_len t 3
    rw [hb] at hc
    rw [h3] at hc
    simp at hc
  · have := (Prod.mk.inj he).2
    simp at this
theorem getF_short (t : ByteArray) (slot shard : Int) (c : Nat) (h64 : t.size = 64) (hc : (byts t).getD 3 0 = c) (hc3 : c ≤ 3) :
    getF t slot shard = if putF slot shard (t.extract 4 36) (getPath t c) = (t, 0) then (t.extract 4 36, getPath t c, 0) else (ByteArray.empty, [], 1400) := by
  have ec : frCount t = c := by unfold frCount; omega
  rw [getF, ec]
  by_cases h : putF slot shard (t.extract 4 36) (getPath t c) = (t, 0)
  · rw [if_pos ⟨h64, h⟩, if_pos h]
  · rw [if_neg (fun x => h x.2), if_neg h]
set_option maxRecDepth 100000 in
set_option maxHeartbeats 2000000 in
theorem frameGet_any (t : ByteArray) (slot shard : Int) (w : World) (wf1 : (Lit.int .i64 slot).wf = true) : Calls Try.prog 12 #[.string t, .int .i64 slot, .int .i64 shard] w (getPost (getF t slot shard) w) := by
  clear wf1
  by_cases h : t.size = 64 ∧ (byts t).getD 3 0 ≤ 3
  case neg =>
    have HE := hide (getF_long t slot shard h)
    have HN := hide h
    clear h
    go_enter Try.func12, Try.ntmps12
    go_wp2_with fail
    refine (frRead_no t _ (unhide HN)).mono ?_
    rintro e w1 ⟨r, rfl, hw1⟩
    subst hw1
    go_wp2_with fail
    refine (errIs_one r 1400 _).mono ?_
    rintro e w2 ⟨rfl, b2⟩
    have HB := hide b2
    clear b2
    go_wp2
    exact bodyPost_ret (v := .tuple #[.string ByteArray.empty, .slice none 0 0, .int .i64 1400]) (by simp [results, Try.results12, go_sem] <;> rfl) rfl (by rw [unhide HE]; exact ⟨_, rfl, OwnL.nil _ _ _, unhide HB⟩)
  obtain ⟨h64, hc3⟩ := h
  obtain ⟨c, hc⟩ : ∃ c, (byts t).getD 3 0 = c := ⟨_, rfl⟩
  rw [hc] at hc3
  have HE := hide (getF_short t slot shard c h64 hc hc3)
  have HC := hide hc
  obtain ⟨p, ep⟩ : ∃ p, p = getPath t c := ⟨_, rfl⟩
  have hpl : p.length = c := by rw [ep, getPath_len]
  have R := hide (frRead_yes t c w h64 hc hc3)
  obtain ⟨s, es⟩ : ∃ s, s = t.extract 4 36 := ⟨_, rfl⟩
  have hss : s.size = 32 := by rw [es, ByteArray.size_extract, h64]; rfl
  rw [← ep, ← es] at HE R
  have H32 := hide hss
  have HPL := hide hpl
  clear hc ep es h64 hpl hss
  go_enter Try.func12, Try.ntmps12
  go_wp2_with fail
  refine (unhide R).mono ?_
  rintro e w1 ⟨rfl, O1, b1⟩
  have HO := hide O1
  have HB := hide b1
  obtain ⟨a1, c1, e1, I1⟩ := O1.ints
  rw [unhide HPL] at e1 I1
  simp only [Value.slice.injEq] at e1
  obtain ⟨rfl, -, rfl⟩ := e1
  have HI := hide I1
  clear O1 b1 I1
  go_wp2_with fail
  refine (errIs_nil 1400 _).mono ?_
  rintro e w2 ⟨rfl, hw2⟩
  subst hw2
  go_wp2_with fail
  refine (framePut_any slot shard s _ _ _ p _ (unhide HI) (by omega)).mono ?_
  rintro e w3 ⟨rfl, b3⟩
  replace HB := hide (bt (unhide HB) b3)
  replace HO := hide ((unhide HO).below b3)
  clear b3
  obtain ⟨r, er⟩ : ∃ r, r = putF slot shard s p := ⟨_, rfl⟩
  rw [← er]
  rw [← er] at HE
  clear er
  obtain ⟨ru, rn⟩ := r
  by_cases hrn : rn = 0
  case neg =>
    have hn2 : (rn != 0) = true := by simp [hrn]
    have eg : getF t slot shard = (ByteArray.empty, [], 1400) := by rw [unhide HE, if_neg (fun h => hrn (Prod.mk.inj h).2)]
    have HEG := hide eg
    have HRN := hide hrn
    clear eg hrn
    go_wp2
    exact bodyPost_ret (v := .tuple #[.string ByteArray.empty, .slice none 0 0, .int .i64 1400]) (by simp [results, Try.results12, go_sem] <;> rfl) rfl (by rw [unhide HEG]; exact ⟨_, rfl, OwnL.nil _ _ _, unhide HB⟩)
  subst hrn
  by_cases hru : ru = t
  case neg =>
    have hne : ¬ ru.toList = t.toList := fun e => hru (str_eq (by simp [e]))
    have eg : getF t slot shard = (ByteArray.empty, [], 1400) := by rw [unhide HE, if_neg (fun h => hru (Prod.mk.inj h).1)]
    have HEG := hide eg
    have hne2 : (ru.toList == t.toList) = false := by simpa using hne
    have hne3 : (ru.toList != t.toList) = true := by simpa using hne
    have HRU := hide hru
    clear eg hru
    go_wp2
    exact bodyPost_ret (v := .tuple #[.string ByteArray.empty, .slice none 0 0, .int .i64 1400]) (by simp [results, Try.results12, go_sem] <;> rfl) rfl (by rw [unhide HEG]; exact ⟨_, rfl, OwnL.nil _ _ _, unhide HB⟩)
  subst hru
  have eg : getF ru slot shard = (s, p, 0) := by rw [unhide HE, if_pos rfl]
  have HEG := hide eg
  clear eg
  go_wp2_with fail
  refine (clone_any s _ (by rw [unhide H32]; decide) (by rw [unhide H32]; decide)).mono ?_
  rintro e w4 ⟨rfl, b4⟩
  replace HB := hide (bt (unhide HB) b4)
  replace HO := hide ((unhide HO).below b4)
  clear b4
  go_wp2
  exact bodyPost_ret (v := .tuple #[.string s, .slice (some ⟨w.heap.size, 0, none⟩) c c, .int .i64 0]) (by simp [results, Try.results12, go_sem] <;> rfl) rfl (by rw [unhide HEG]; exact ⟨_, rfl, unhide HO, unhide HB⟩)
end Go.Proofs.Ytmphbajnadbggaa
