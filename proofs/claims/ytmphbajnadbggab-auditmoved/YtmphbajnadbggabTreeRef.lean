/- The document's own trees (ossuaryref1): half, root. -/
import Derived.Test.YtmphbajnadbggabTreeMath
import Derived.Test.YtmphbajnadbggabSealRef
import Derived.Test.YtmphbajnadbggabKRegs
import Derived.Deep.Cut
namespace Go.Proofs.Ytmphbajnadbggab
open Go.RowKit
set_option linter.unusedVariables false
set_option linter.unusedSimpArgs false
set_option maxRecDepth 100000 in
set_option maxHeartbeats 1000000 in
theorem refHalf_any (n : Nat) (w : World) (h2 : 2 ≤ n) (h : n ≤ 64) : Calls Try.prog 29 #[.int .i64 n] w fun e w' => e = .returned (.int .i64 (Tree.half n : Nat)) ∧ w' = w := by
  go_enter Try.func29, Try.ntmps29
  go_wp2
  go_loop [3] (fun xv => ∃ x i : Nat, x = 2 ^ i ∧ x < n ∧ xv = .int .i64 (x : Int)) (fun xv => n - (intOf xv).toNat)
  case atStart => exact ⟨1, 0, rfl, by omega, rfl⟩
  case round =>
    obtain ⟨x, i, hx, hlt, rfl⟩ := hrel
    have HX := hide hx
    clear hx
    by_cases hc : 2 * x < n
    · have hc' : (2 : Int) * (x : Int) < n := by omega
      go_wp2
      go_round
      case rel => exact ⟨2 * x, i + 1, by rw [Nat.pow_succ, unhide HX]; omega, hc, by go_num⟩
      case measure =>
        have : 0 < x := by rw [unhide HX]; exact Nat.two_pow_pos _
        simp [intOf]; omega
    · have hc' : ¬ (2 : Int) * (x : Int) < n := by omega
      go_wp2
      go_ret
      refine ⟨?_, rfl⟩
      have := Tree.half_one (n := n) (i := i) (by rw [← unhide HX]; exact hlt) (by rw [← unhide HX]; omega)
      rw [this, ← unhide HX]
      rfl
/-- a list of numbers as ints -/
def nint (l : List Nat) : List Int := l.map (fun x : Nat => (x : Int))
theorem nint_len (l : List Nat) : (nint l).length = l.length := by simp [nint]
theorem nint_at (l : List Nat) (i : Nat) : (nint l).getD i 0 = ((l.getD i 0 : Nat) : Int) := by
  simp only [nint, List.getD, List.getElem?_map]
  cases l[i]? <;> rfl
/-- a part of a slice of ints -/
theorem Ints.first {w : World} {b o n cap : Nat} {xs : List Int} (h : Ints w (some ⟨b, o, none⟩) n cap xs) {k : Nat} (hk : k ≤ n) : Ints w (some ⟨b, o, none⟩) k cap (xs.take k) := by
  obtain ⟨hl, hr⟩ := h
  refine ⟨by rw [List.length_take]; omega, ?_⟩
  by_cases h0 : k = 0
  · exact .inr (.inl ⟨h0, _, rfl⟩)
  · rcases hr with ⟨e, _⟩ | ⟨e, _⟩ | ⟨h0', hc, b', o', e, hcell⟩
    · simp at e
    · omega
    · simp only [Option.some.injEq, Addr.mk.injEq, and_true] at e
      obtain ⟨rfl, rfl⟩ := e
      refine .inr (.inr ⟨by omega, by omega, b, o, rfl, fun i hi => ?_⟩)
      rw [hcell i (by omega)]
      simp [List.getD, List.getElem?_take, hi]
theorem Ints.rest {w : World} {b o n cap : Nat} {xs : List Int} (h : Ints w (some ⟨b, o, none⟩) n cap xs) {k : Nat} (hk : k < n) : Ints w (some ⟨b, o + k, none⟩) (n - k) (cap - k) (xs.drop k) := by
  obtain ⟨hl, hr⟩ := h
  rcases hr with ⟨e, _⟩ | ⟨e, _⟩ | ⟨h0, hc, b', o', e, hcell⟩
  · simp at e
  · omega
  · simp only [Option.some.injEq, Addr.mk.injEq, and_true] at e
    obtain ⟨rfl, rfl⟩ := e
    refine ⟨by rw [List.length_drop, hl], .inr (.inr ⟨by omega, by omega, b, o + k, rfl, fun i hi => ?_⟩)⟩
    rw [show o + k + i = o + (k + i) by omega, hcell (k + i) (by omega)]
    simp [List.getD]
theorem Ints.cap {w : World} {a : Option Addr} {n cap : Nat} {xs : List Int} (h : Ints w a n cap xs) (h0 : 0 < n) : n ≤ cap ∧ ∃ b o, a = some ⟨b, o, none⟩ := by
  rcases h.2 with ⟨_, e, _⟩ | ⟨e, _⟩ | ⟨_, hc, b, o, e, _⟩
  · omega
  · omega
  · exact ⟨hc, b, o, e⟩
theorem wf_nat {x : Nat} (h : x < 2147483647) : (Lit.int .i64 (x : Int)).wf = true := by
  have e1 : IntKind.i64.min = -9223372036854775808 := by decide
  have e2 : IntKind.i64.max = 9223372036854775807 := by decide
  show (decide (IntKind.i64.min ≤ (x : Int)) && decide ((x : Int) ≤ IntKind.i64.max)) = true
  rw [e1, e2]
  simp
  omega
set_option maxRecDepth 100000 in
set_option maxHeartbeats 2000000 in
theorem refroot_any : ∀ (n : Nat) (a : Option Addr) (c : Nat) (l : List Nat) (w : World), 1 ≤ n → n ≤ 64 → Ints w a n c (nint l) → Tree.May l → Calls Try.prog 15 #[.slice a n c] w fun e w' => e = .returned (.int .i64 (Tree.root l : Nat)) ∧ Below w.heap.size w w' := by
  intro n
  induction n using Nat.strongRecOn with
  | ind n ih =>
    intro a c l w h1 h64 hI hm
    obtain ⟨hc, b, o, rfl⟩ := hI.cap (by omega)
    have hl : l.length = n := by rw [← nint_len]; exact hI.1
    by_cases h2 : n = 1
    · subst h2
      have c0 : w.cell? ⟨b, o, none⟩ = some (.int .i64 ((l.getD 0 0 : Nat) : Int)) := by
        rcases hI.2 with ⟨e, _⟩ | ⟨e, _⟩ | ⟨_, _, b', o', e, hcell⟩
        · simp at e
        · omega
        · simp only [Option.some.injEq, Addr.mk.injEq, and_true] at e
          obtain ⟨rfl, rfl⟩ := e
          have : w.cell? ⟨b, o + 0, none⟩ = some (.int .i64 ((nint l).getD 0 0)) := hcell 0 (by omega)
          rw [nint_at] at this
          exact this
      have er : Tree.root l = l.getD 0 0 := by
        match l, hl with
        | [x], _ => rfl
      rw [er]
      obtain ⟨x, ex⟩ : ∃ x, x = l.getD 0 0 := ⟨_, rfl⟩
      rw [← ex] at c0 ⊢
      clear ex er hI ih
      go_enter Try.func15, Try.ntmps15
      go_wp2
      go_ret
      exact ⟨rfl, Below.refl _ _⟩
    · have h2' : 2 ≤ n := by omega
      have t1 : ((n : Int) == 1) = false := by simp; omega
      obtain ⟨k, ek⟩ : ∃ k, k = Tree.half n := ⟨_, rfl⟩
      have hk1 : 0 < k := by rw [ek]; exact Tree.half_pos n
      have hk2 : k < n := by rw [ek]; exact Tree.half_lt h2'
      have er := Tree.root_two (l := l) (by omega)
      rw [hl, ← ek] at er
      have hmt : Tree.May (l.take k) := fun y hy => hm y (List.mem_of_mem_take hy)
      have hmd : Tree.May (l.drop k) := fun y hy => hm y (List.mem_of_mem_drop hy)
      have it : nint (l.take k) = (nint l).take k := by simp [nint, List.map_take]
      have id' : nint (l.drop k) = (nint l).drop k := by simp [nint, List.map_drop]
      have nt : l.take k ≠ [] := fun e => by have := congrArg List.length e; rw [List.length_take, List.length_nil] at this; omega
      have nd : l.drop k ≠ [] := fun e => by have := congrArg List.length e; rw [List.length_drop, List.length_nil] at this; omega
      have hx1 := Tree.root_lt nt hmt
      have hx2 := Tree.root_lt nd hmd
      have HI := hide hI
      have EK := hide ek
      have ERR := hide er
      have HIH := hide ih
      have HMT := hide hmt
      have HMD := hide hmd
      clear hI ek er ih hm hmt hmd nt nd
      have hk1' : (0 : Int) ≤ k := by omega
      have hkc : (k : Int) ≤ c := by omega
      have hkcn : k ≤ c := by omega
      have hkn : (k : Int) ≤ n := by omega
      have hcne : ¬ c = k := by omega
      go_enter Try.func15, Try.ntmps15
      go_wp2_with fail
      refine (refHalf_any n w h2' h64).mono ?_
      rintro e w1 ⟨rfl, rfl⟩
      rw [← unhide EK]
      go_upto_region 4 with fail
      refine wp_region_ord (S := Below w1.heap.size w1) [(true, 0), (true, 1), (true, 2), (true, 4), (true, 5), (true, 6), (false, 3), (false, 7), (false, 8), (true, 9)] (by kernel_rfl) (by kernel_rfl) (by kernel_rfl) (by kernel_rfl) ((Below.refl _ _).drew) ?_
      simp only [withOps, List.map_cons, List.map_nil, List.getElem?_cons_succ, List.getElem?_cons_zero]
      repeat (refine walkH_read (by rfl) (by (intro gx; go_simp; try (with_reducible rfl))) ?_; try simp only [Act.put, List.setIfInBounds_toArray, List.set_cons_zero, List.set_cons_succ])
      refine walkH_do rfl (fun K hK => ?_)
      go_simp
      refine (unhide HIH k hk2 _ _ (l.take k) _ hk1 (by omega) (by rw [it]; exact ((unhide HI).first (by omega)).below ((Below.refl _ _).drew)) (unhide HMT)).mono ?_
      rintro e w2 ⟨rfl, b2⟩
      have hb2 : Below w1.heap.size w1 w2 := ((Below.refl _ _).drew).trans b2
      obtain ⟨X, eX⟩ : ∃ X, X = Tree.root (l.take k) := ⟨_, rfl⟩
      rw [← eX] at hx1 ⊢
      have EX := hide eX
      clear eX
      refine hK _ _ hb2 ?_
      clear hK K
      try simp only [Act.put, List.setIfInBounds_toArray, List.set_cons_zero, List.set_cons_succ]
      repeat (refine walkH_read (by rfl) (by (intro gx; go_simp; try (with_reducible rfl))) ?_; try simp only [Act.put, List.setIfInBounds_toArray, List.set_cons_zero, List.set_cons_succ])
      refine walkH_do rfl (fun K hK => ?_)
      go_simp
      refine (unhide HIH (n - k) (by omega) _ _ (l.drop k) _ (by omega) (by omega) (by rw [id']; exact ((unhide HI).rest hk2).below hb2) (unhide HMD)).mono ?_
      rintro e w3 ⟨rfl, b3⟩
      have hb3 : Below w1.heap.size w1 w3 := bt hb2 b3
      obtain ⟨Y, eY⟩ : ∃ Y, Y = Tree.root (l.drop k) := ⟨_, rfl⟩
      rw [← eY] at hx2 ⊢
      have EY := hide eY
      clear eY
      refine hK _ _ hb3 ?_
      clear hK K
      try simp only [Act.put, List.setIfInBounds_toArray, List.set_cons_zero, List.set_cons_succ]
      repeat (refine walkH_read (by rfl) (by (intro gx; go_simp; try (with_reducible rfl))) ?_; try simp only [Act.put, List.setIfInBounds_toArray, List.set_cons_zero, List.set_cons_succ])
      refine walkH_do rfl (fun K hK => ?_)
      go_simp
      refine (refPair_any X Y w3 (wf_nat hx1) (wf_nat hx2)).mono ?_
      rintro e w4 ⟨rfl, rfl⟩
      have ep : Seal.pair (X : Int) (Y : Int) = Tree.root l := by
        rw [unhide ERR, ← unhide EX, ← unhide EY]
        unfold Seal.pair
        rw [Seal.md_small hx1, Seal.md_small hx2]
      rw [ep]
      refine hK _ _ hb3 ?_
      clear hK K
      try simp only [Act.put, List.setIfInBounds_toArray, List.set_cons_zero, List.set_cons_succ]
      repeat (refine walkH_read (by rfl) (by (intro gx; go_simp; try (with_reducible rfl))) ?_; try simp only [Act.put, List.setIfInBounds_toArray, List.set_cons_zero, List.set_cons_succ])
      refine (show walkH _ _ _ _ [] _ _ from NoPanic.normal ?_)
      go_wp2
      go_ret
      exact ⟨rfl, hb3⟩
end Go.Proofs.Ytmphbajnadbggab
