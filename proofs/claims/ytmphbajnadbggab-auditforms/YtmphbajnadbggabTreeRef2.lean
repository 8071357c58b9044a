/- The document's own trees (ossuaryref1): SealNum, SealNums, Root. -/
import Derived.Test.YtmphbajnadbggabTreeRef
namespace Go.Proofs.Ytmphbajnadbggab
open Go.RowKit
set_option linter.unusedVariables false
set_option linter.unusedSimpArgs false
/-- a number that may be a seal -/
def Sl (a : Int) : Prop := 0 ≤ a ∧ a < 2147483647
instance slDec (a : Int) : Decidable (Sl a) := by unfold Sl; exact inferInstance
/-- all of them -/
def Sls (xs : List Int) : Prop := ∀ x ∈ xs, Sl x
instance slsDec (xs : List Int) : Decidable (Sls xs) := by unfold Sls; exact inferInstance
set_option maxRecDepth 100000 in
set_option maxHeartbeats 1000000 in
theorem refSealNum_any (a : Int) (w : World) : Calls Try.prog 28 #[.int .i64 a] w fun e w' => e = .returned (.bool (decide (Sl a))) ∧ w' = w := by
  by_cases h1 : 0 ≤ a
  · by_cases h2 : a < 2147483647
    · have e : decide (Sl a) = true := decide_eq_true ⟨h1, h2⟩
      rw [e]
      have t1 : decide ((0 : Int) ≤ a) = true := decide_eq_true h1
      have t2 : decide (a < (2147483647 : Int)) = true := decide_eq_true h2
      clear h1 h2 e
      go_enter Try.func28, Try.ntmps28
      go_wp2
      go_ret
      exact ⟨rfl, rfl⟩
    · have e : decide (Sl a) = false := decide_eq_false (fun h => h2 h.2)
      rw [e]
      have t1 : decide ((0 : Int) ≤ a) = true := decide_eq_true h1
      have t2 : decide (a < (2147483647 : Int)) = false := decide_eq_false h2
      clear h1 h2 e
      go_enter Try.func28, Try.ntmps28
      go_wp2
      go_ret
      exact ⟨rfl, rfl⟩
  · have e : decide (Sl a) = false := decide_eq_false (fun h => h1 h.1)
    rw [e]
    have t1 : decide ((0 : Int) ≤ a) = false := decide_eq_false h1
    clear h1 e
    go_enter Try.func28, Try.ntmps28
    go_wp2
    go_ret
    exact ⟨rfl, rfl⟩
set_option maxRecDepth 100000 in
set_option maxHeartbeats 1000000 in
theorem refSealNums_any (a : Option Addr) (n c : Nat) (xs : List Int) (m : Nat) (w : World) (hI : Ints w a n c xs) (hn : n ≤ 140737488351232) (hm : m ≤ 1000) : Calls Try.prog 14 #[.slice a n c, .int .i64 m] w fun e w' => e = .returned (.bool (decide (Sls xs ∧ n ≤ m))) ∧ w' = w := by
  have hl := hI.1
  have HI := hide hI
  clear hI
  go_enter Try.func14, Try.ntmps14
  go_wp2
  go_loop [5] (fun iv => ∃ k : Nat, k ≤ n ∧ iv = .int .i64 k ∧ Hid (Sls (xs.take k))) (fun iv => n - (intOf iv).toNat)
  case atStart => exact ⟨0, by omega, rfl, hide (fun x hx => by simp at hx)⟩
  case round =>
    obtain ⟨k, hk, rfl, HS⟩ := hrel
    by_cases hlt : k < n
    · have hlt' : (k : Int) < n := by omega
      obtain ⟨b, o, rfl, hcell⟩ : ∃ b off, a = some ⟨b, off, none⟩ ∧ ∀ i, i < n → w.cell? ⟨b, off + i, none⟩ = some (.int .i64 (xs.getD i 0)) := by
        rcases (unhide HI).2.two with h | h
        · omega
        · exact h
      have c1 := hcell k hlt
      clear hcell
      obtain ⟨x, ex⟩ : ∃ x, x = xs.getD k 0 := ⟨_, rfl⟩
      rw [← ex] at c1
      have EX := hide ex
      clear ex
      go_wp2_with fail
      refine (refSealNum_any x _).mono ?_
      rintro e w1 ⟨rfl, rfl⟩
      by_cases hsx : Sl x
      · rw [decide_eq_true hsx]
        go_wp2
        go_round
        case rel =>
          refine ⟨k + 1, by omega, by go_num, hide (fun y hy => ?_)⟩
          rw [List.take_succ_eq_append_getElem (by omega)] at hy
          rcases List.mem_append.1 hy with h | h
          · exact unhide HS y h
          · rw [List.mem_singleton] at h
            have : x = xs[k] := by rw [unhide EX]; simp [List.getD, show k < xs.length by omega]
            rw [h, ← this]; exact hsx
        case measure => simp [intOf]; omega
      · rw [decide_eq_false hsx]
        have e0 : decide (Sls xs ∧ n ≤ m) = false := decide_eq_false (fun h => hsx (h.1 x (by
          have hkl : k < xs.length := by omega
          have : x = xs[k] := by rw [unhide EX]; simp [List.getD, hkl]
          rw [this]; exact List.getElem_mem hkl)))
        have E0 := hide e0
        clear e0
        go_wp2
        go_ret
        exact ⟨by rw [unhide E0]; rfl, rfl⟩
    · have hlt' : ¬ (k : Int) < n := by omega
      obtain rfl : k = n := by omega
      have hall : Sls xs := by have := unhide HS; rwa [List.take_of_length_le (by omega)] at this
      have e0 : decide (Sls xs ∧ k ≤ m) = decide ((k : Int) ≤ (m : Int)) := by
        by_cases h : k ≤ m
        · rw [decide_eq_true ⟨hall, h⟩, decide_eq_true (by omega)]
        · rw [decide_eq_false (fun q => h q.2), decide_eq_false (by omega)]
      have E0 := hide e0
      clear e0
      go_wp2
      go_ret
      exact ⟨rfl, rfl⟩
/-- leaves as Root takes them -/
def RMay (xs : List Int) : Prop := 1 ≤ xs.length ∧ xs.length ≤ 64 ∧ Sls xs
instance rmayDec (xs : List Int) : Decidable (RMay xs) := by unfold RMay; exact inferInstance
def nats (xs : List Int) : List Nat := xs.map Int.toNat
theorem nats_back {xs : List Int} (h : Sls xs) : nint (nats xs) = xs := by
  unfold nint nats
  rw [List.map_map]
  conv => rhs; rw [← List.map_id xs]
  refine List.map_congr_left fun x hx => ?_
  have := (h x hx).1
  simp only [Function.comp, id]
  omega
theorem nats_may {xs : List Int} (h : Sls xs) : Tree.May (nats xs) := fun y hy => by
  unfold nats at hy
  obtain ⟨x, hx, rfl⟩ := List.mem_map.1 hy
  have := h x hx
  unfold Sl at this
  omega
/-- what Root answers: the root, the error's number -/
def rootP (xs : List Int) : Int × Int := if RMay xs then (((Tree.root (nats xs) : Nat) : Int), 0) else (0, 1000)
set_option maxRecDepth 100000 in
set_option maxHeartbeats 1000000 in
theorem refRoot_any (a : Option Addr) (n c : Nat) (xs : List Int) (w : World) (hI : Ints w a n c xs) (hn : n ≤ 140737488351232) : Calls Try.prog 7 #[.slice a n c] w fun e w' => e = .returned (.tuple #[.int .i64 (rootP xs).1, .int .i64 (rootP xs).2]) ∧ Below w.heap.size w w' := by
  have hl := hI.1
  have HI := hide hI
  clear hI
  by_cases h0 : n < 1
  · have h0' : (n : Int) < 1 := by omega
    have e : rootP xs = (0, 1000) := if_neg (fun h => by have := h.1; omega)
    rw [e]
    clear e
    go_enter Try.func7, Try.ntmps7
    go_wp2
    go_ret2
    exact ⟨rfl, Below.refl _ _⟩
  · have h0' : ¬ (n : Int) < 1 := by omega
    have hms := refSealNums_any a n c xs 64 w (unhide HI) hn (by decide)
    by_cases hm : Sls xs ∧ n ≤ 64
    · have e : rootP xs = (((Tree.root (nats xs) : Nat) : Int), 0) := if_pos ⟨by omega, by omega, hm.1⟩
      rw [e]
      rw [decide_eq_true hm] at hms
      have hrt := fun W (hb : Below w.heap.size w W) => refroot_any n a c (nats xs) W (by omega) hm.2 (by rw [nats_back hm.1]; exact (unhide HI).below hb) (nats_may hm.1)
      obtain ⟨X, eX⟩ : ∃ X, X = Tree.root (nats xs) := ⟨_, rfl⟩
      rw [← eX] at hrt ⊢
      have HMS := hide hms
      have HRT := hide hrt
      clear eX e hms hrt hm
      go_enter Try.func7, Try.ntmps7
      go_wp2_with fail
      refine (unhide HMS).mono ?_
      rintro e w1 ⟨rfl, rfl⟩
      go_wp2_with fail
      refine (unhide HRT w1 (Below.refl _ _)).mono ?_
      rintro e w2 ⟨rfl, b2⟩
      have B2 := hide b2
      clear b2
      go_wp2
      go_ret2
      exact ⟨rfl, unhide B2⟩
    · have e : rootP xs = (0, 1000) := if_neg (fun h => hm ⟨h.2.2, by have := h.2.1; omega⟩)
      rw [e]
      rw [decide_eq_false hm] at hms
      have HMS := hide hms
      clear e hms hm
      go_enter Try.func7, Try.ntmps7
      go_wp2_with fail
      refine (unhide HMS).mono ?_
      rintro e w1 ⟨rfl, rfl⟩
      go_wp2
      go_ret2
      exact ⟨rfl, Below.refl _ _⟩
end Go.Proofs.Ytmphbajnadbggab
