/- Questions (ossuaryref1.AskMay): a contract. -/
import Derived.Test.YtmphbajnadbggaaProofRef2
import Derived.Test.YtmphbajnadbggaaRecMem
namespace Go.Proofs.Ytmphbajnadbggaa
open Go.RowKit
set_option linter.unusedVariables false
set_option linter.unusedSimpArgs false
def BkOk (x : Int) : Prop := 0 ≤ x ∧ x < 4
instance bkDec (x : Int) : Decidable (BkOk x) := by unfold BkOk; exact inferInstance
/-- a question that may be -/
def AskM (q : Int) (bs : List Int) : Prop := Sl q ∧ 1 ≤ bs.length ∧ bs.length ≤ 64 ∧ ∀ b ∈ bs, BkOk b
instance askDec (q : Int) (bs : List Int) : Decidable (AskM q bs) := by unfold AskM; exact inferInstance
theorem ask_false {q : Int} {bs : List Int} {e : Ending} (h : ¬ AskM q bs) (he : e = .returned (.bool false)) : e = .returned (.bool (decide (AskM q bs))) := by rw [decide_eq_false h]; exact he
/-- the two cells of a box, of a question's -/
theorem ask_box (w : World) (q : Int) (a : Option Addr) (n c : Nat) (T : TypeId) : (w.alloc (.cells #[.int .i64 q, .slice a n c] T)).cell? ⟨w.heap.size, 0, none⟩ = some (.int .i64 q) ∧ (w.alloc (.cells #[.int .i64 q, .slice a n c] T)).cell? ⟨w.heap.size, 1, none⟩ = some (.slice a n c) :=
  ⟨by rw [cell_of_row _ _ 0 _ _ _ (heap_alloc_new w _)]; rfl, by rw [cell_of_row _ _ 1 _ _ _ (heap_alloc_new w _)]; rfl⟩
set_option maxRecDepth 100000 in
set_option maxHeartbeats 2000000 in
theorem refAskMay_any (q : Int) (a : Option Addr) (n c : Nat) (bs : List Int) (w : World) (hI : Ints w a n c bs) (hn : n ≤ 140737488351232) :
    Calls Try.prog 50 #[.agg #[.int .i64 q, .slice a n c]] w fun e w' => e = .returned (.bool (decide (AskM q bs))) ∧ Below w.heap.size w w' := by
  have hl := hI.1
  have HI := hide hI
  have HB := hide (below_alloc w (.cells #[.int .i64 q, .slice a n c] 47))
  clear hI
  obtain ⟨x0, x1⟩ := ask_box w q a n c 47
  by_cases h1 : Sl q
  case neg =>
    have hno : ¬ AskM q bs := fun h => h1 h.1
    have HN := hide hno
    have d1 := decide_eq_false h1
    clear hno h1
    go_enter Try.func50, Try.ntmps50
    go_wp2_with (go_at_call 66; refine (refSealNum_any q _).mono ?_; rintro e w' ⟨rfl, hw'⟩; rw [d1, hw']; clear hw' w')
    go_ret
    exact ⟨ask_false (unhide HN) rfl, unhide HB⟩
  have d1 := decide_eq_true h1
  by_cases h2 : (n : Int) < 1
  · have hno : ¬ AskM q bs := fun h => by have := h.2.1; omega
    have HN := hide hno
    clear hno h1
    go_enter Try.func50, Try.ntmps50
    go_wp2_with (go_at_call 66; refine (refSealNum_any q _).mono ?_; rintro e w' ⟨rfl, hw'⟩; rw [d1, hw']; clear hw' w')
    go_ret
    exact ⟨ask_false (unhide HN) rfl, unhide HB⟩
  by_cases h3 : 64 < (n : Int)
  · have hno : ¬ AskM q bs := fun h => by have := h.2.2.1; omega
    have HN := hide hno
    clear hno h1
    go_enter Try.func50, Try.ntmps50
    go_wp2_with (go_at_call 66; refine (refSealNum_any q _).mono ?_; rintro e w' ⟨rfl, hw'⟩; rw [d1, hw']; clear hw' w')
    go_ret
    exact ⟨ask_false (unhide HN) rfl, unhide HB⟩
  obtain ⟨b, o, rfl, hcell⟩ : ∃ b off, a = some ⟨b, off, none⟩ ∧ ∀ i, i < n → w.cell? ⟨b, off + i, none⟩ = some (.int .i64 (bs.getD i 0)) := by
    rcases (unhide HI).2.two with h | h
    · omega
    · exact h
  have hcell' : ∀ i, i < n → (w.alloc (.cells #[.int .i64 q, .slice (some ⟨b, o, none⟩) n c] 47)).cell? ⟨b, o + i, none⟩ = some (.int .i64 (bs.getD i 0)) := fun i hi => ((unhide HB).cell (cell_lt (hcell i hi))).trans (hcell i hi)
  have HC := hide hcell'
  have H1 := hide h1
  clear hcell hcell' h1
  go_enter Try.func50, Try.ntmps50
  go_wp2_with (go_at_call 66; refine (refSealNum_any q _).mono ?_; rintro e w' ⟨rfl, hw'⟩; rw [d1, hw']; clear hw' w')
  go_loop [3] (fun iv => ∃ k : Nat, k ≤ n ∧ iv = .int .i64 k ∧ Hid (∀ b ∈ bs.take k, BkOk b)) (fun iv => n - (intOf iv).toNat)
  case atStart => exact ⟨0, by omega, rfl, hide (fun x hx => by simp at hx)⟩
  case round =>
    obtain ⟨k, hk, rfl, HS⟩ := hrel
    by_cases hlt : k < n
    · have hlt' : (k : Int) < n := by omega
      have c1 := unhide HC k hlt
      obtain ⟨x, ex⟩ : ∃ x, x = bs.getD k 0 := ⟨_, rfl⟩
      have hmem : x ∈ bs := by
        rw [ex]
        have e : bs.getD k 0 = bs[k]'(by omega) := by simp [List.getD, List.getElem?_eq_getElem (show k < bs.length by omega)]
        rw [e]; exact List.getElem_mem _
      rw [← ex] at c1
      have EX := hide ex
      have HM := hide hmem
      clear ex hmem
      by_cases x0' : x < 0
      · have hno : ¬ AskM q bs := fun h => by have := (h.2.2.2 x (unhide HM)).1; omega
        have HN := hide hno
        clear hno
        go_wp2
        go_ret
        exact ⟨ask_false (unhide HN) rfl, unhide HB⟩
      · by_cases x4 : 4 ≤ x
        · have hno : ¬ AskM q bs := fun h => by have := (h.2.2.2 x (unhide HM)).2; omega
          have HN := hide hno
          clear hno
          go_wp2
          go_ret
          exact ⟨ask_false (unhide HN) rfl, unhide HB⟩
        · go_wp2
          go_round
          case rel =>
            refine ⟨k + 1, by omega, by go_num, hide ?_⟩
            intro y hy
            rw [List.take_add_one] at hy
            rcases List.mem_append.1 hy with h | h
            · exact unhide HS y h
            · have e : bs[k]? = some (bs.getD k 0) := by simp [List.getD, List.getElem?_eq_getElem (show k < bs.length by omega)]
              rw [e, ← unhide EX] at h
              simp at h
              subst h
              exact ⟨by omega, by omega⟩
          case measure => simp [intOf]; omega
    · have hlt' : ¬ (k : Int) < n := by omega
      have hyes : AskM q bs := ⟨unhide H1, by omega, by omega, by
        have := unhide HS
        rw [List.take_of_length_le (by omega)] at this
        exact this⟩
      have HY := hide hyes
      clear hyes
      go_wp2
      go_ret
      exact ⟨by rw [decide_eq_true (unhide HY)]; rfl, unhide HB⟩
end Go.Proofs.Ytmphbajnadbggaa
