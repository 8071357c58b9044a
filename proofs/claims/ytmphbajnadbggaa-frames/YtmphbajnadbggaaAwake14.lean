/- 'awake' of the statements over package frame returns true. -/
import Derived.Test.YtmphbajnadbggaaFrameWalk
import Derived.Test.YtmphbajnadbggaaFrTurn
import Derived.Test.YtmphbajnadbggaaFrameText
namespace Go.Proofs.Ytmphbajnadbggaa
open Go.RowKit
set_option linter.unusedVariables false
set_option linter.unusedSimpArgs false
def wF : ByteArray := frB 3 1 (textS 97) [5, 6]
theorem wF_may : FrMay 3 1 (textS 97) [5, 6] := by decide +kernel
theorem wF_put : putF 3 1 (textS 97) [5, 6] = (wF, 0) := if_pos wF_may
theorem wF_get : getF wF 3 1 = (textS 97, [5, 6], 0) := fr_back 3 1 _ _ wF_may
theorem wF_other : getF wF 3 2 = (ByteArray.empty, [], 1400) := fr_other wF_may (.inr (by decide))
theorem wF_no : putF 3 1 ⟨#[97]⟩ [] = (ByteArray.empty, 1400) := if_neg (by decide +kernel)
theorem wF_size : wF.size = 64 := frB_size _ _ _ _ (textS_size 97)
theorem wF_four : wF.extract 0 4 = ⟨#[79, 3, 1, 2]⟩ := by decide +kernel
set_option maxRecDepth 100000 in
set_option maxHeartbeats 4000000 in
theorem awake14_any (w : World) : Calls Try.prog 18 #[] w fun e w' => e = .returned (.bool true) ∧ Below w.heap.size w w' := by
  obtain ⟨s, es⟩ : ∃ s, s = textS 97 := ⟨_, rfl⟩
  have hss : s.size = 32 := by rw [es]; exact textS_size 97
  obtain ⟨t, et⟩ : ∃ t, t = wF := ⟨_, rfl⟩
  have ht : t.size = 64 := by rw [et]; exact wF_size
  have h4 : t.extract 0 4 = ⟨#[79, 3, 1, 2]⟩ := by rw [et]; exact wF_four
  have r1 : putF 3 1 s [5, 6] = (t, 0) := by rw [es, et]; exact wF_put
  have r2 : getF t 3 1 = (s, [5, 6], 0) := by rw [es, et]; exact wF_get
  have r3 : getF t 3 2 = (ByteArray.empty, [], 1400) := by rw [et]; exact wF_other
  have hsl : ∀ w, (Instr.slice 9 (.string t) none (some (.int .i64 4)) none).run Try.prog w = .ok (.string (t.extract 0 4)) w := fun w => run_slice_0h (P := Try.prog) w 9 t Try.underlying9 4 4 rfl (by omega)
  rw [h4] at hsl
  have ES : Hid (textS 97 = s) := hide es.symm
  have R1 := hide r1
  have R2 := hide r2
  have R3 := hide r3
  clear es et h4 r1 r2 r3
  go_enter Try.func18, Try.ntmps18
  go_wp2_with fail
  refine (text_any 97 (by decide) _).mono ?_
  rintro e w1 ⟨rfl, b1⟩
  rw [unhide ES]
  have B := hide b1
  clear b1
  go_wp2_with fail
  refine (framePut_any 3 1 s _ 2 2 [5, 6] _ (int_lit w1 [5, 6] 3 w1.heap.size _ 2 rfl rfl rfl) (by decide)).mono ?_
  rintro e w2 ⟨he, b2⟩
  rw [unhide R1] at he
  subst he
  replace B := hide (bt (unhide B) (bt (below_alloc w1 (.cells #[.int .i64 5, .int .i64 6] 3)) b2))
  clear b2
  go_wp2_with fail
  refine (frameGet_any t 3 1 _ (by decide)).mono ?_
  rintro e w3 ⟨v3, he, O3, b3⟩
  rw [unhide R2] at he O3
  subst he
  obtain ⟨p3, c3, rfl, S3⟩ := O3.ints
  have HP := hide S3
  replace B := hide (bt (unhide B) b3)
  clear O3 S3 b3
  go_wp2_with fail
  refine (frameGet_any t 3 2 _ (by decide)).mono ?_
  rintro e w4 ⟨v4, he, O4, b4⟩
  rw [unhide R3] at he O4
  subst he
  obtain ⟨p4, c4, rfl, S4⟩ := O4.ints
  replace HP := hide ((unhide HP).below b4)
  replace B := hide (bt (unhide B) b4)
  clear O4 S4 b4
  go_wp2_with fail
  refine (framePut_any 3 1 ⟨#[97]⟩ none 0 0 [] _ ⟨rfl, .inl ⟨rfl, rfl, rfl⟩⟩ (by decide)).mono ?_
  rintro e w5 ⟨he, b5⟩
  rw [wF_no] at he
  subst he
  replace HP := hide ((unhide HP).below b5)
  replace B := hide (bt (unhide B) b5)
  clear b5
  go_wp2_with fail
  refine (num_any _ _).mono ?_
  rintro e wn ⟨rfl, hwn⟩
  subst hwn
  go_wp2_with fail
  refine (text_any 97 (by decide) _).mono ?_
  rintro e w6 ⟨rfl, b6⟩
  rw [unhide ES]
  replace HP := hide ((unhide HP).below b6)
  replace B := hide (bt (unhide B) b6)
  clear b6
  go_wp2_with fail
  refine (sameInts_any _ _ _ _ _ _ [5, 6] [5, 6] _ ((unhide HP).below (below_alloc w6 (.cells #[.int .i64 5, .int .i64 6] 3))) (int_lit w6 [5, 6] 3 w6.heap.size _ 2 rfl rfl rfl) (by decide)).mono ?_
  rintro e w7 ⟨rfl, m, hw7⟩
  have hB7 : Below w6.heap.size w6 w7 := by rw [hw7]; exact bt (below_alloc w6 (.cells #[.int .i64 5, .int .i64 6] 3)) (below_drewN _ _ m)
  replace B := hide (bt (unhide B) hB7)
  clear hB7 hw7
  rw [show (([5, 6] : List Int) == [5, 6]) = true from rfl]
  go_wp2_with fail
  refine (num_any _ _).mono ?_
  rintro e wn ⟨rfl, hwn⟩
  subst hwn
  go_wp2_with fail
  refine (num_any _ _).mono ?_
  rintro e wn ⟨rfl, hwn⟩
  subst hwn
  go_wp2_with fail
  refine (num_any _ _).mono ?_
  rintro e wn ⟨rfl, hwn⟩
  subst hwn
  go_wp2
  go_ret
  exact ⟨rfl, unhide B⟩
end Go.Proofs.Ytmphbajnadbggaa
