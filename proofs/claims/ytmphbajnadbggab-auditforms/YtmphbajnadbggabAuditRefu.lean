/- What the program refuses of a question, a shard, a path: contracts. -/
import Derived.Test.YtmphbajnadbggabAuditErr
import Derived.Test.YtmphbajnadbggabAuditRef3
import Derived.Test.YtmphbajnadbggabProofWalk
namespace Go.Proofs.Ytmphbajnadbggab
open Go.RowKit
set_option linter.unusedVariables false
set_option linter.unusedSimpArgs false
def Bks (xs : List Int) : Prop := ∀ x ∈ xs, BkOk x
instance bksDec (xs : List Int) : Decidable (Bks xs) := by unfold Bks; exact inferInstance
set_option maxRecDepth 100000 in
set_option maxHeartbeats 1000000 in
theorem noBlock_any (a : Int) (w : World) : Calls Try.prog 40 #[.int .i64 a] w fun e w' => e = .returned (.bool (decide (¬ BkOk a))) ∧ w' = w := by
  by_cases h1 : a < 0
  · have e : decide (¬ BkOk a) = true := decide_eq_true (fun h => by have := h.1; omega)
    rw [e]
    have t1 : decide (a < (0 : Int)) = true := decide_eq_true h1
    clear e
    go_enter Try.func40, Try.ntmps40
    go_wp2
    go_ret
    exact ⟨rfl, rfl⟩
  · have t1 : decide (a < (0 : Int)) = false := decide_eq_false h1
    by_cases h2 : (4 : Int) ≤ a
    · have e : decide (¬ BkOk a) = true := decide_eq_true (fun h => by have := h.2; omega)
      rw [e]
      have t2 : decide ((4 : Int) ≤ a) = true := decide_eq_true h2
      clear e h2
      go_enter Try.func40, Try.ntmps40
      go_wp2
      go_ret
      exact ⟨rfl, rfl⟩
    · have e : decide (¬ BkOk a) = false := decide_eq_false (fun h => h ⟨by omega, by omega⟩)
      rw [e]
      have t2 : decide ((4 : Int) ≤ a) = false := decide_eq_false h2
      clear e h2
      go_enter Try.func40, Try.ntmps40
      go_wp2
      go_ret
      exact ⟨rfl, rfl⟩
set_option maxRecDepth 100000 in
set_option maxHeartbeats 1000000 in
theorem indexBlk_any (a : Option Addr) (n ca : Nat) (xs : List Int) (w : World) (hI : Ints w a n ca xs) (hn : n ≤ 64) :
    Calls Try.prog 42 #[.slice a n ca, .func (.func 40) #[] #[]] w fun e w' => ∃ r : Int, e = .returned (.int .i64 r) ∧ decide (0 ≤ r) = decide (¬ Bks xs) ∧ w' = w := by
  have hl := hI.1
  have HI := hide hI
  clear hI
  go_enter Try.func42, Try.ntmps42
  go_wp2
  go_loopw [8] (fun iv wr => ∃ i : Nat, i ≤ n ∧ iv = .int .i64 i ∧ wr = w ∧ Hid (Bks (xs.take i))) (fun iv _ => n - (intOf iv).toNat)
  case atStart => exact ⟨0, by omega, rfl, rfl, hide (fun x hx => by simp at hx)⟩
  case round =>
    obtain ⟨i, hi, rfl, hw, HN⟩ := hrel
    subst hw
    by_cases hlt : i < n
    · have hlt' : (i : Int) < n := by omega
      obtain ⟨b, o, rfl, hcell⟩ : ∃ b off, a = some ⟨b, off, none⟩ ∧ ∀ i, i < n → wr.cell? ⟨b, off + i, none⟩ = some (.int .i64 (xs.getD i 0)) := by
        rcases (unhide HI).2.two with h | h
        · omega
        · exact h
      have ci := hcell i hlt
      clear hcell
      obtain ⟨x, ex⟩ : ∃ x, x = xs.getD i 0 := ⟨_, rfl⟩
      rw [← ex] at ci
      have hx : x ∈ xs := by
        have hil : i < xs.length := by omega
        rw [ex, List.getD, List.getElem?_eq_getElem hil]; exact List.getElem_mem hil
      have EX := hide ex
      have HX := hide hx
      clear ex hx
      have hE : ∀ (args : Array Value) (w : World), (callFunc 40 args).run Try.prog w = .ok (.enter 40 args) w := fun args w => rfl
      go_wp2_with fail
      refine (noBlock_any x _).mono ?_
      rintro e w' ⟨rfl, rfl⟩
      by_cases hs : BkOk x
      · rw [decide_eq_false (show ¬ ¬ BkOk x from fun h => h hs)]
        go_wp2
        go_roundw
        case rel =>
          refine ⟨i + 1, by omega, by go_num, trivial, hide (fun y hy => ?_)⟩
          have hil : i < xs.length := by omega
          rw [List.take_succ_eq_append_getElem hil] at hy
          rcases List.mem_append.1 hy with h | h
          · exact unhide HN y h
          · rw [List.mem_singleton] at h
            have : x = xs[i] := by rw [unhide EX, List.getD, List.getElem?_eq_getElem hil]; rfl
            rw [h, ← this]; exact hs
        case measure => simp [intOf]; omega
      · rw [decide_eq_true hs]
        go_wp2
        go_ret
        refine ⟨_, rfl, ?_, rfl⟩
        rw [decide_eq_true (by omega)]
        exact (decide_eq_true (show ¬ Bks xs from fun h => hs (h x (unhide HX)))).symm
    · have hlt' : ¬ (i : Int) < n := by omega
      obtain rfl : i = n := by omega
      have hall : Bks xs := by have := unhide HN; rwa [List.take_of_length_le (by omega)] at this
      have HALL := hide hall
      clear hall
      go_wp2
      go_ret
      refine ⟨_, rfl, ?_, rfl⟩
      rw [decide_eq_true (unhide HALL)]
      rfl
set_option maxRecDepth 100000 in
theorem containsBlk_any (a : Option Addr) (n ca : Nat) (xs : List Int) (w : World) (hI : Ints w a n ca xs) (hn : n ≤ 64) :
    Calls Try.prog 33 #[.slice a n ca, .func (.func 40) #[] #[]] w fun e w' => e = .returned (.bool (decide (¬ Bks xs))) ∧ w' = w := by
  have H := hide (indexBlk_any a n ca xs w hI hn)
  clear hn hI
  go_enter Try.func33, Try.ntmps33
  go_wp2_with fail
  refine (unhide H).mono ?_
  rintro e w' ⟨r, rfl, hr, rfl⟩
  have HR := hide hr
  clear hr
  go_wp2
  go_ret
  refine ⟨?_, rfl⟩
  rw [← unhide HR]; rfl
/-- an error that errors.Is finds to be number 1200 -/
def RefOk (v : Value) : Prop := ∀ w : World, Calls Try.prog 17 #[v, errN 1200] w fun e w' => e = .returned (.bool true) ∧ Below w.heap.size w w'
def refPost (P : Prop) (w : World) (e : Ending) (w' : World) : Prop := ∃ v, e = .returned v ∧ ((P ∧ v = .nilIface) ∨ (¬ P ∧ ∃ p, v = refV p (errN 1200))) ∧ Below w.heap.size w w'
set_option maxRecDepth 100000 in
set_option maxHeartbeats 2000000 in
theorem refuseAsk_any (q : Int) (a : Option Addr) (n c : Nat) (bs : List Int) (w : World) (hI : Ints w a n c bs) (hn : n ≤ 140737488351232) :
    Calls Try.prog 23 #[.agg #[.int .i64 q, .slice a n c]] w (refPost (AskM q bs) w) := by
  have hl := hI.1
  have hB0 := below_alloc w (.cells #[.int .i64 q, .slice a n c] 29)
  have HI := hide (hI.below hB0)
  have HB := hide hB0
  clear hI hB0
  obtain ⟨x0, x1⟩ := ask_box w q a n c 29
  by_cases h1 : Sl q
  case neg =>
    have hno : ¬ AskM q bs := fun h => h1 h.1
    have HN := hide hno
    have d1 : decide (¬ Sl q) = true := decide_eq_true h1
    clear hno h1
    go_enter Try.func23, Try.ntmps23
    go_wp2_with (first | (go_at_call 32; refine (refusalOf_err _ _ _ _).mono ?_; rintro e w' ⟨rfl, hw'⟩; rw [hw']; clear hw' w') | (go_at_call 34; refine (treeOutside_any q _).mono ?_; rintro e w' ⟨rfl, hw'⟩; rw [d1, hw']; clear hw' w'))
    go_ret
    exact ⟨_, rfl, .inr ⟨unhide HN, _, rfl⟩, unhide HB⟩
  have d1 : decide (¬ Sl q) = false := decide_eq_false (fun h => h h1)
  by_cases h2 : (n : Int) < 1
  · have hno : ¬ AskM q bs := fun h => by have := h.2.1; omega
    have HN := hide hno
    clear hno h1
    go_enter Try.func23, Try.ntmps23
    go_wp2_with (first | (go_at_call 32; refine (refusalOf_err _ _ _ _).mono ?_; rintro e w' ⟨rfl, hw'⟩; rw [hw']; clear hw' w') | (go_at_call 34; refine (treeOutside_any q _).mono ?_; rintro e w' ⟨rfl, hw'⟩; rw [d1, hw']; clear hw' w'))
    go_ret
    exact ⟨_, rfl, .inr ⟨unhide HN, _, rfl⟩, unhide HB⟩
  by_cases h3 : 64 < (n : Int)
  · have hno : ¬ AskM q bs := fun h => by have := h.2.2.1; omega
    have HN := hide hno
    clear hno h1
    go_enter Try.func23, Try.ntmps23
    go_wp2_with (first | (go_at_call 32; refine (refusalOf_err _ _ _ _).mono ?_; rintro e w' ⟨rfl, hw'⟩; rw [hw']; clear hw' w') | (go_at_call 34; refine (treeOutside_any q _).mono ?_; rintro e w' ⟨rfl, hw'⟩; rw [d1, hw']; clear hw' w'))
    go_ret
    exact ⟨_, rfl, .inr ⟨unhide HN, _, rfl⟩, unhide HB⟩
  have hn64 : n ≤ 64 := by omega
  by_cases h4 : Bks bs
  case neg =>
    have hno : ¬ AskM q bs := fun h => h4 h.2.2.2
    have HN := hide hno
    have d4 : decide (¬ Bks bs) = true := decide_eq_true h4
    clear hno h1 h4
    go_enter Try.func23, Try.ntmps23
    go_wp2_with (first | (go_at_call 32; refine (refusalOf_err _ _ _ _).mono ?_; rintro e w' ⟨rfl, hw'⟩; rw [hw']; clear hw' w') | (go_at_call 34; refine (treeOutside_any q _).mono ?_; rintro e w' ⟨rfl, hw'⟩; rw [d1, hw']; clear hw' w') | (go_at_call 33; refine (containsBlk_any _ _ _ bs _ (unhide HI) hn64).mono ?_; rintro e w' ⟨rfl, hw'⟩; rw [d4, hw']; clear hw' w'))
    go_ret
    exact ⟨_, rfl, .inr ⟨unhide HN, _, rfl⟩, unhide HB⟩
  have hyes : AskM q bs := ⟨h1, by omega, by omega, h4⟩
  have HN := hide hyes
  have d4 : decide (¬ Bks bs) = false := decide_eq_false (fun h => h h4)
  clear hyes h1 h4
  go_enter Try.func23, Try.ntmps23
  go_wp2_with (first | (go_at_call 32; refine (refusalOf_err _ _ _ _).mono ?_; rintro e w' ⟨rfl, hw'⟩; rw [hw']; clear hw' w') | (go_at_call 34; refine (treeOutside_any q _).mono ?_; rintro e w' ⟨rfl, hw'⟩; rw [d1, hw']; clear hw' w') | (go_at_call 33; refine (containsBlk_any _ _ _ bs _ (unhide HI) hn64).mono ?_; rintro e w' ⟨rfl, hw'⟩; rw [d4, hw']; clear hw' w'))
  go_ret
  exact ⟨_, rfl, .inl ⟨unhide HN, rfl⟩, unhide HB⟩
def refPost2 (P : Prop) (w : World) (e : Ending) (w' : World) : Prop := ∃ v, e = .returned v ∧ ((P ∧ v = .nilIface) ∨ (¬ P ∧ RefOk v)) ∧ Below w.heap.size w w'
set_option maxRecDepth 100000 in
set_option maxHeartbeats 2000000 in
theorem refuse_any (s : ByteArray) (pa : Option Addr) (pn pc : Nat) (p : List Int) (q : Int) (ba : Option Addr) (bn bc : Nat) (bs : List Int) (w : World) (hP : Ints w pa pn pc p) (hB : Ints w ba bn bc bs) (hbn : bn ≤ 140737488351232) :
    Calls Try.prog 18 #[.string s, .slice pa pn pc, .agg #[.int .i64 q, .slice ba bn bc]] w (refPost2 (RspM s p q bs) w) := by
  have hpl := hP.1
  have hB0 := below_alloc w (.cells #[.int .i64 q, .slice ba bn bc] 29)
  obtain ⟨x0, x1⟩ := ask_box w q ba bn bc 29
  have HP0 := hide (hP.below hB0)
  have HBI0 := hide (hB.below hB0)
  have HB := hide hB0
  clear hP hB hB0
  by_cases h32 : s.size = 32
  case neg =>
    have hno : ¬ RspM s p q bs := fun h => h32 h.1
    have HN := hide hno
    have t32 : ((s.size : Int) != 32) = true := by simp; omega
    clear hno h32
    go_enter Try.func18, Try.ntmps18
    go_wp2_with (go_at_call 32; refine (refusalOf_err _ _ _ _).mono ?_; rintro e w' ⟨rfl, hw'⟩; rw [hw']; clear hw' w')
    go_ret
    exact ⟨_, rfl, .inr ⟨unhide HN, fun w => errIs_one _ _ w⟩, unhide HB⟩
  have t32 : ((s.size : Int) != 32) = false := by rw [h32]; rfl
  by_cases h3 : 3 < (pn : Int)
  · have hno : ¬ RspM s p q bs := fun h => by have := h.2.1.2; omega
    have HN := hide hno
    clear hno h32
    go_enter Try.func18, Try.ntmps18
    go_wp2_with (go_at_call 32; refine (refusalOf_err _ _ _ _).mono ?_; rintro e w' ⟨rfl, hw'⟩; rw [hw']; clear hw' w')
    go_ret
    exact ⟨_, rfl, .inr ⟨unhide HN, fun w => errIs_one _ _ w⟩, unhide HB⟩
  have hp64 : pn ≤ 64 := by omega
  by_cases hp : Sls p
  case neg =>
    have hno : ¬ RspM s p q bs := fun h => hp h.2.1.1
    have HN := hide hno
    have d1 : decide (¬ Sls p) = true := decide_eq_true hp
    clear hno h32 hp
    go_enter Try.func18, Try.ntmps18
    go_wp2_with (first | (go_at_call 32; refine (refusalOf_err _ _ _ _).mono ?_; rintro e w' ⟨rfl, hw'⟩; rw [hw']; clear hw' w') | (go_at_call 33; refine (containsInt_any _ _ _ p _ (unhide HP0) hp64).mono ?_; rintro e w' ⟨rfl, hw'⟩; rw [d1, hw']; clear hw' w'))
    go_ret
    exact ⟨_, rfl, .inr ⟨unhide HN, fun w => errIs_one _ _ w⟩, unhide HB⟩
  have d1 : decide (¬ Sls p) = false := decide_eq_false (fun h => h hp)
  have hiff : RspM s p q bs ↔ AskM q bs := ⟨fun h => h.2.2, fun h => ⟨h32, ⟨hp, by omega⟩, h⟩⟩
  have HIF := hide hiff
  clear hiff h32 hp
  go_enter Try.func18, Try.ntmps18
  go_upto_region 3 with fail
  generalize (w.alloc (.cells #[.int .i64 q, .slice ba bn bc] 29)) = W at *
  go_wp2_with (first | (go_at_call 32; refine (refusalOf_err _ _ _ _).mono ?_; rintro e w' ⟨rfl, hw'⟩; rw [hw']; clear hw' w') | (go_at_call 33; refine (containsInt_any _ _ _ p _ (unhide HP0) hp64).mono ?_; rintro e w' ⟨rfl, hw'⟩; rw [d1, hw']; clear hw' w'))
  refine (refuseAsk_any q _ _ _ bs _ (unhide HBI0) hbn).mono ?_
  rintro e w1 ⟨v, rfl, hv, b1⟩
  replace HB := hide (bt (unhide HB) b1)
  clear b1
  rcases hv with ⟨hy, rfl⟩ | ⟨hn, r, rfl⟩
  · have HY := hide hy
    clear hy
    go_wp2_with (go_at_call 32; refine (refusalOf_nil _ _).mono ?_; rintro e w' ⟨rfl, hw'⟩; rw [hw']; clear hw' w')
    go_ret
    exact ⟨_, rfl, .inl ⟨(unhide HIF).2 (unhide HY), rfl⟩, unhide HB⟩
  · have HY := hide hn
    clear hn
    unfold refV
    go_wp2_with (go_at_call 32; refine (refusalOf_err _ _ _ _).mono ?_; rintro e w' ⟨rfl, hw'⟩; rw [hw']; clear hw' w')
    go_ret
    exact ⟨_, rfl, .inr ⟨fun h => unhide HY ((unhide HIF).1 h), fun w => errIs_two _ _ _ w⟩, unhide HB⟩
end Go.Proofs.Ytmphbajnadbggab
