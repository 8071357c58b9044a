/- Texts of one proof, one behind the other: Awake9, SealNumbersWalk, SealPairsWalk, Lie, FormsT, SealTurnedWalk, AuditTrueWalk, MemOpen, OpenC, OpenR, OpenK. -/
import Derived.Test.YtmphbajnadbggaaSealWalk
import Derived.Test.YtmphbajnadbggaaPieces
import Derived.Test.YtmphbajnadbggaaKVec
import Derived.Test.YtmphbajnadbggaaKCore
import Derived.Test.YtmphbajnadbggaaKRegs
import Derived.Test.YtmphbajnadbggaaAwake12
import Derived.Test.YtmphbajnadbggaaAuditMath4
import Derived.Test.YtmphbajnadbggaaTreeTurnedWalk
import Derived.Test.YtmphbajnadbggaaRecMem
import Derived.Test.YtmphbajnadbggaaAnsMem
import Derived.Laws.BitsAllLaws
import Derived.Laws.IdiomStrings
import Derived.Deep.OwnRows
import Derived.Deep.Cut
import Derived.Deep.CutBlock
import Derived.Deep.CutRange
import Derived.Deep.Slices
import Derived.SizedLaws
import Derived.ChangeArms
/- 'awake' of the statements over package seal returns true. -/
namespace Go.Proofs.Ytmphbajnadbggaa
open Go.RowKit
set_option linter.unusedVariables false
set_option linter.unusedSimpArgs false
theorem of_e : ((Seal.of (byts ⟨#[]⟩) : Nat) : Int) = 0 := by decide +kernel
theorem of_a : ((Seal.of (byts ⟨#[97]⟩) : Nat) : Int) = 6422626 := by decide +kernel
theorem of_ab : ((Seal.of (byts ⟨#[97, 98]⟩) : Nat) : Int) = 19399051 := by decide +kernel
theorem pair_00 : ((Seal.pair 0 0 : Nat) : Int) = 911 := by decide +kernel
theorem pair_10 : ((Seal.pair 1 0 : Nat) : Int) = 66448 := by decide +kernel
theorem pair_p0 : ((Seal.pair (-2147483647) 0 : Nat) : Int) = 911 := by decide +kernel
end Go.Proofs.Ytmphbajnadbggaa
/- SealNumbers: seals, pairs are numbers that may be; numbers that differ by Prime are one. -/
namespace Go.Proofs.Ytmphbajnadbggaa
open Go.RowKit
set_option linter.unusedVariables false
set_option linter.unusedSimpArgs false
theorem md_add (x : Int) : Seal.md (x + 2147483647) = Seal.md x := by unfold Seal.md; omega
theorem pair_add (x b : Int) : Seal.pair (x + 2147483647) b = Seal.pair x b := by unfold Seal.pair; rw [md_add]
theorem wf_small {x : Int} (h1 : -9223372036854775808 ≤ x) (h2 : x < 9223372036854775808) : (Lit.int .i64 x).wf = true := by
  have e1 : IntKind.i64.min = -9223372036854775808 := by decide
  have e2 : IntKind.i64.max = 9223372036854775807 := by decide
  show (decide (IntKind.i64.min ≤ x) && decide (x ≤ IntKind.i64.max)) = true
  rw [e1, e2]
  simp
  omega
end Go.Proofs.Ytmphbajnadbggaa
/- SealPairs: a pair is linear. -/
namespace Go.Proofs.Ytmphbajnadbggaa
open Go.RowKit
set_option linter.unusedVariables false
set_option linter.unusedSimpArgs false
theorem num30 (a : Int) : ∃ x : Nat, x < 1073741824 ∧ a % 4294967296 / 4 = (x : Int) := ⟨(a % 4294967296 / 4).toNat, by omega, by omega⟩
theorem pair_nat {x y : Nat} (hx : x < 2147483647) (hy : y < 2147483647) : Seal.pair (x : Int) (y : Int) = Seal.pairN x y := by
  unfold Seal.pair
  rw [Seal.md_small hx, Seal.md_small hy]
theorem times_add (x z : Nat) : (x + z) * 65537 % 2147483647 = (x * 65537 % 2147483647 + z * 65537 % 2147483647) % 2147483647 := by
  rw [Nat.add_mul, Nat.add_mod]
theorem pair_sumL {x y z : Nat} (hx : x + z < 2147483647) (hy : y < 2147483647) : Seal.pair ((x : Int) + (z : Int)) (y : Int) = Seal.pairN (x + z) y := by
  have e : (x : Int) + (z : Int) = ((x + z : Nat) : Int) := by omega
  rw [e, pair_nat hx hy]
theorem pair_sumR {x y z : Nat} (hx : x < 2147483647) (hy : y + z < 2147483647) : Seal.pair (x : Int) ((y : Int) + (z : Int)) = Seal.pairN x (y + z) := by
  have e : (y : Int) + (z : Int) = ((y + z : Nat) : Int) := by omega
  rw [e, pair_nat hx hy]
theorem lin_left (X Y Z : Nat) (hZ : Z < 2147483647) : ((((911 + (X + Z) % 2147483647 + Y) % 2147483647 : Nat) : Int) - (((911 + X + Y) % 2147483647 : Nat) : Int) + 2147483647) % 2147483647 = (Z : Int) := by omega
theorem lin_right (X Y Z : Nat) : ((((911 + X + (Y + Z) % 2147483647 * 65537) % 2147483647 : Nat) : Int) - (((911 + X + Y * 65537) % 2147483647 : Nat) : Int) + 2147483647) % 2147483647 = ((Z * 65537 % 2147483647 : Nat) : Int) := by omega
theorem pair_left (x y z : Nat) : ((Seal.pairN (x + z) y : Int) - (Seal.pairN x y : Int) + 2147483647) % 2147483647 = ((z * 65537 % 2147483647 : Nat) : Int) := by
  unfold Seal.pairN
  rw [times_add]
  exact lin_left _ _ _ (Nat.mod_lt _ (by decide))
theorem pair_right (x y z : Nat) : ((Seal.pairN x (y + z) : Int) - (Seal.pairN x y : Int) + 2147483647) % 2147483647 = ((z * 65537 % 2147483647 * 65537 % 2147483647 : Nat) : Int) := by
  unfold Seal.pairN
  rw [times_add]
  exact lin_right _ _ _
end Go.Proofs.Ytmphbajnadbggaa
/- Other bytes, as many (ossuarylaw7.lie): a contract. -/
namespace Go.Proofs.Ytmphbajnadbggaa
open Go.RowKit
set_option linter.unusedVariables false
set_option linter.unusedSimpArgs false
/-- n bytes from the block's first cell on; none of its cells is frozen -/
def ByteRow (w : World) (g n : Nat) (T : TypeId) (xs : List Int) : Prop := xs.length = n ∧ ∃ C : Array Value, w.heap[g]? = some (.cells C T (C.size, C.size + 1)) ∧ n ≤ C.size ∧ ∀ j, j < n → C[j]? = some (.int .u8 (xs.getD j 0))
theorem ByteRow.cell {w : World} {g n : Nat} {T : TypeId} {xs : List Int} (h : ByteRow w g n T xs) {j : Nat} (hj : j < n) : w.cell? ⟨g, j, none⟩ = some (.int .u8 (xs.getD j 0)) := by
  obtain ⟨_, C, hh, _, hc⟩ := h
  rw [cell_of_row _ _ j _ _ _ hh, hc j hj]
theorem ByteRow.free {w : World} {g n : Nat} {T : TypeId} {xs : List Int} (h : ByteRow w g n T xs) {j : Nat} (hj : j < n) : w.frozen? ⟨g, j, none⟩ = false := by
  obtain ⟨_, C, hh, hn, _⟩ := h
  simp only [World.frozen?, hh]
  simp; omega
theorem bytes_row (w : World) (s : ByteArray) (cap : Nat) (T : TypeId) : ByteRow (w.alloc (.cells (bytesRow s cap) T ((bytesRow s cap).size, (bytesRow s cap).size + 1))) w.heap.size s.size T (s.data.toList.map fun b => (b.toNat : Int)) := by
  refine ⟨by rw [List.length_map, Array.length_toList]; rfl, _, heap_alloc_new w _, by unfold bytesRow; rw [Array.size_append, Array.size_map]; exact Nat.le_add_right _ _, fun j hj => ?_⟩
  rw [bytesRow_at s cap j hj]
  have hj' : j < s.data.size := hj
  simp [List.getD, Array.getElem?_eq_getElem hj']
theorem ByteRow.set {w : World} {g n : Nat} {T : TypeId} {xs : List Int} (h : ByteRow w g n T xs) (j : Nat) (x : Int) : ByteRow (w.setCell ⟨g, j, none⟩ (.int .u8 x)) g n T (xs.set j x) := by
  obtain ⟨hl, C, hh, hn, hc⟩ := h
  refine ⟨by simpa using hl, C.setIfInBounds j (.int .u8 x), ?_, by simpa using hn, fun i hi => ?_⟩
  · simp [World.setCell, hh, Array.getElem?_modify]
  · by_cases e : j = i
    · subst e
      have : j < C.size := by omega
      simp [this, List.getD, hl, hi]
    · rw [Array.getElem?_setIfInBounds_ne e, hc i hi]
      simp [List.getD, List.getElem?_set, e]
end Go.Proofs.Ytmphbajnadbggaa
/- Tables of lists of texts that were just written down. -/
namespace Go.Proofs.Ytmphbajnadbggaa
open Go.RowKit
set_option linter.unusedVariables false
set_option linter.unusedSimpArgs false
def StrsV (w : World) (v : Value) (ss : List ByteArray) : Prop := ∃ a n cap, v = .slice a n cap ∧ Strs w a n cap ss
theorem StrsV.below {w w' : World} {v : Value} {ss : List ByteArray} (h : StrsV w v ss) (hb : Below w.heap.size w w') : StrsV w' v ss := by
  obtain ⟨a, n, cap, e, h⟩ := h; exact ⟨a, n, cap, e, h.below hb⟩
def txtA : ByteArray := ⟨#[97]⟩
def txtB : ByteArray := ⟨#[98]⟩
/-- a slice of slices of strings -/
def TabS (w : World) (v : Value) (t : List (List ByteArray)) : Prop := ∃ g, v = .slice (some ⟨g, 0, none⟩) t.length t.length ∧ ∀ k, k < t.length → ∃ u, w.cell? ⟨g, k, none⟩ = some u ∧ StrsV w u (t.getD k [])
theorem TabS.below {w w' : World} {v : Value} {t : List (List ByteArray)} (h : TabS w v t) (hb : Below w.heap.size w w') : TabS w' v t := by
  obtain ⟨g, e, h⟩ := h
  refine ⟨g, e, fun k hk => ?_⟩
  obtain ⟨u, hu, hs⟩ := h k hk
  exact ⟨u, (hb.cell (cell_lt hu)).trans hu, hs.below hb⟩
theorem strs_made_at (w : World) (n : Nat) (T : TypeId) (H : Nat) (hH : w.heap.size = H) : Strs (w.alloc (.cells (madeCells #[.string ByteArray.empty] n) T)) (some ⟨H, 0, none⟩) n n (List.replicate n ByteArray.empty) := by
  subst hH
  have hr := World.rowIs_made w (.string ByteArray.empty) n T
  refine ⟨by simp, ?_⟩
  by_cases h : n = 0
  · exact .inr (.inl ⟨h, _, rfl⟩)
  · refine .inr (.inr ⟨by omega, Nat.le_refl _, _, _, rfl, fun i hi => ?_⟩)
    rw [Nat.zero_add, hr.cell hi]
    simp [List.getD, hi]
theorem wp_with {P : Program} {c : Code} {Q : Exit → Act → World → Prop} {a : Act} {w : World} (F : World → Prop) (hF : F w) (h : ∀ W, F W → c.wp P Q a W) : c.wp P Q a w := h w hF
/-- a table that was just written down: its cells -/
theorem tab_cells (w : World) (C : Array Value) (T : TypeId) (H k : Nat) (u : Value) (hH : w.heap.size = H) (hk : C[k]? = some u) : (w.alloc (.cells C T)).cell? ⟨H, k, none⟩ = some u := by
  subst hH; rw [cell_of_row _ _ k C T (0, 0) (heap_alloc_new w _)]; exact hk
theorem made_bytes (w : World) (n : Nat) (T : TypeId) : ∀ i, i < n → (w.alloc (.cells (madeCells #[.int .u8 0] n) T)).cell? ⟨w.heap.size, 0 + i, none⟩ = some (.int .u8 ((List.replicate n (0 : Int)).getD i 0)) := by
  intro i hi
  rw [Nat.zero_add, (World.rowIs_made w (.int .u8 0) n T).cell hi]
  simp [List.getD, hi]
theorem strs_lit_at' (w : World) (ss : List ByteArray) (T : TypeId) (n : Nat) (C : Array Value) (hn : ss.length = n) (hC : (ss.map Value.string).toArray = C) : Strs (w.alloc (.cells C T)) (some ⟨w.heap.size, 0, none⟩) n n ss := by
  subst hC hn
  refine ⟨rfl, ?_⟩
  by_cases h : ss.length = 0
  · exact .inr (.inl ⟨h, _, rfl⟩)
  · refine .inr (.inr ⟨by omega, Nat.le_refl _, _, _, rfl, fun i hi => ?_⟩)
    rw [Nat.zero_add, cell_of_row _ _ i _ T (0, 0) (heap_alloc_new w _)]
    simp [List.getElem?_eq_getElem hi]
theorem strsV_lit (w : World) (ss : List ByteArray) (T : TypeId) (n : Nat) (C : Array Value) (hn : ss.length = n) (hC : (ss.map Value.string).toArray = C) : StrsV (w.alloc (.cells C T)) (.slice (some ⟨w.heap.size, 0, none⟩) n n) ss := ⟨_, _, _, rfl, strs_lit_at' w ss T n C hn hC⟩
theorem modK (a n : Int) (h1 : 0 < n) (h2 : n ≤ 1000) : ∃ i : Nat, (i : Int) < n ∧ wrap64 ((IntKind.u64.wrap a).tmod n) = (i : Int) := by
  have h0 : IntKind.u64.wrap a = a % 18446744073709551616 := IntKind.wrap_u64 a
  have : 0 ≤ a % 18446744073709551616 := Int.emod_nonneg _ (by decide)
  rw [h0, Int.tmod_eq_emod_of_nonneg (by omega)]
  have h3 := Int.emod_nonneg (a % 18446744073709551616) (Int.ne_of_gt h1)
  have h4 := Int.emod_lt_of_pos (a % 18446744073709551616) h1
  exact ⟨(a % 18446744073709551616 % n).toNat, by omega, by unfold wrap64; omega⟩
end Go.Proofs.Ytmphbajnadbggaa
/- SealTurned: of texts that differ in one byte seals are unlike; of pairs that differ in one number too. -/
namespace Go.Proofs.Ytmphbajnadbggaa
open Go.RowKit
set_option linter.unusedVariables false
set_option linter.unusedSimpArgs false
theorem pair_sL {x y : Nat} (hx : x + 1 < 2147483647) (hy : y < 2147483647) : Seal.pair ((x : Int) + 1) (y : Int) = Seal.pairN (x + 1) y := by
  have e : (x : Int) + 1 = ((x + 1 : Nat) : Int) := by omega
  rw [e, pair_nat hx hy]
theorem pair_sR {x y : Nat} (hx : x < 2147483647) (hy : y + 1 < 2147483647) : Seal.pair (x : Int) ((y : Int) + 1) = Seal.pairN x (y + 1) := by
  have e : (y : Int) + 1 = ((y + 1 : Nat) : Int) := by omega
  rw [e, pair_nat hx hy]
theorem neq_b {a b : Nat} (h : a ≠ b) : ((a : Int) == (b : Int)) = false := by simp; omega
theorem modn9 (a : Int) (k : Nat) (hk : 0 < k) (hm : k ≤ 1000000) : ∃ i : Nat, i < k ∧ wrap64 ((IntKind.u64.wrap a).tmod (k : Int)) = (i : Int) := by
  have h0 : IntKind.u64.wrap a = a % 18446744073709551616 := IntKind.wrap_u64 a
  have : 0 ≤ a % 18446744073709551616 := Int.emod_nonneg _ (by decide)
  rw [h0, Int.tmod_eq_emod_of_nonneg (by omega)]
  have h3 := Int.emod_nonneg (a % 18446744073709551616) (show (k : Int) ≠ 0 by omega)
  have h4 := Int.emod_lt_of_pos (a % 18446744073709551616) (show (0 : Int) < k by omega)
  exact ⟨(a % 18446744073709551616 % (k : Int)).toNat, by omega, by unfold wrap64; omega⟩
/-- the bytes of a text as ints -/
def bint (s : ByteArray) : List Int := s.data.toList.map fun b => (b.toNat : Int)
theorem bint_len (s : ByteArray) : (bint s).length = s.size := by simp [bint]
/-- one byte is put anew -/
theorem byts_put (s : ByteArray) (k z : Nat) (hz : z < 256) : byts (strOfNums ((bint s).set k (z : Int))) = (byts s).set k z := by
  unfold byts
  rw [strOfNums_data, List.map_map]
  apply List.ext_getElem?
  intro i
  simp only [List.getElem?_map, List.getElem?_set, bint, List.length_map]
  by_cases e : k = i
  · subst e
    simp [Nat.mod_eq_of_lt hz]
  · simp only [e, if_false]
    cases s.data.toList[i]? with
    | none => rfl
    | some b => simp
theorem turned_text {s : ByteArray} {k z : Nat} (hk : k < s.size) (hz : z < 256) (hne : ((byts s).getD k 0) ≠ z) : Seal.of (byts s) ≠ Seal.of (byts (strOfNums ((bint s).set k (z : Int)))) := by
  rw [byts_put s k z hz]
  have hl : k < (byts s).length := by rw [byts_len]; exact hk
  have e1 : byts s = (byts s).take k ++ (byts s)[k] :: (byts s).drop (k + 1) := by
    rw [← List.drop_eq_getElem_cons hl, List.take_append_drop]
  have e2 : (byts s).set k z = (byts s).take k ++ z :: (byts s).drop (k + 1) := List.set_eq_take_append_cons_drop.trans (by rw [if_pos hl])
  have hb : (byts s)[k] < 256 := by simp [byts]; exact UInt8.toNat_lt _
  have hne' : (byts s)[k] ≠ z := by
    have : (byts s).getD k 0 = (byts s)[k] := by simp [List.getD, hl]
    rw [this] at hne
    exact hne
  rw [e2]
  intro h
  exact Seal.of_turned hb hz hne' _ (by rw [← e1]; exact h)
/-- a byte, turned by a number from 1 to 128 -/
theorem turn_byte (x : Nat) (hx : x < 256) (a : Int) : ∃ z : Nat, z < 256 ∧ x ≠ z ∧ bits .xor .u8 (x : Int) (wrap64 (1 + bits .and .i64 a 127) % 256) = (z : Int) := by
  have h := and_mask_i64 a 7 127 (by decide) (by decide)
  have h' : bits .and .i64 a 127 = a % 128 := h
  obtain ⟨v, hv⟩ : ∃ v : Nat, v = (1 + a % 128).toNat := ⟨_, rfl⟩
  have e : wrap64 (1 + bits .and .i64 a 127) % 256 = (v : Int) := by rw [h']; unfold wrap64; omega
  refine ⟨x ^^^ v, Nat.xor_lt_two_pow (n := 8) hx (by omega), fun q => ?_, by rw [e]; exact u8_xor_nat x v hx (by omega)⟩
  have : x ^^^ (x ^^^ v) = x ^^^ x := by rw [← q]
  rw [← Nat.xor_assoc, Nat.xor_self, Nat.zero_xor] at this
  omega
end Go.Proofs.Ytmphbajnadbggaa
/- The Go text of the statement AuditTrue returns true, whatever the roots, the question and the numbers. -/
namespace Go.Proofs.Ytmphbajnadbggaa
open Go.RowKit
set_option linter.unusedVariables false
set_option linter.unusedSimpArgs false
attribute [local go_sem ↓] Go.wp_at_zero Go.wp_at_succ
theorem byte_of (a : Int) : a % 256 = (((a % 256).toNat : Nat) : Int) := by omega
def ands (bs : List Int) (k : Nat) : List Int := (bs.take k).map (fun x => x % 4)
theorem ands_snoc (bs : List Int) (k : Nat) (h : k < bs.length) : ands bs (k + 1) = ands bs k ++ [bs.getD k 0 % 4] := by
  unfold ands
  rw [List.take_add_one, List.map_append]
  simp [List.getD, List.getElem?_eq_getElem h]
theorem ands_len (bs : List Int) (k : Nat) (h : k ≤ bs.length) : (ands bs k).length = k := by simp [ands]; omega
theorem ands_ok (bs : List Int) (k : Nat) : ∀ x ∈ ands bs k, BkOk x := by
  intro x hx
  unfold ands at hx
  obtain ⟨y, _, rfl⟩ := List.mem_map.1 hx
  unfold BkOk
  omega
theorem ask_m {N : Nat} (hN : N < 1073741825) {bs : List Int} (h1 : 1 ≤ bs.length) (h2 : bs.length ≤ 64) (hb : ∀ b ∈ bs, BkOk b) : AskM (N : Int) bs := ⟨by unfold Sl; omega, h1, h2, hb⟩
theorem and_3r (n : Int) : bits .and .i64 n 3 = n % 4 := and_mask_i64 n 2 3 (by decide) (by decide)
theorem two_set1 {w : World} {b : Nat} {x y y' : Value} {T : TypeId} (h : w.heap[b]? = some (.cells #[x, y] T (0, 0))) : (w.setCell ⟨b, 1, none⟩ y').heap[b]? = some (.cells #[x, y'] T (0, 0)) := by
  rw [heap_setCell_same w b 1 _ T y' h]
  rfl
theorem wrap_one {N : Nat} (h : N < 1073741824) : wrap64 ((N : Int) + 1) = (N : Int) + 1 := by unfold wrap64; omega
theorem ne_8 {n : Nat} (h : n = 8) : ((n : Int) != 8) = false := by subst h; rfl
theorem lt_2 {n : Nat} (h : 2 ≤ n) : ¬ ((n : Int) < 2) := by omega
theorem and_7 (n : Int) : ∃ m : Nat, m < 8 ∧ bits .and .i64 n 7 = (m : Int) := ⟨(n % 8).toNat, by omega, by
  have h : bits .and .i64 n 7 = n % 8 := and_mask_i64 n 3 7 (by decide) (by decide)
  rw [h]; omega⟩
theorem wf_30 {N : Nat} (h : N < 1073741824) : (Lit.int .i64 (N : Int)).wf = true := wf_nat (by omega)
theorem root_leaves {s : ByteArray} (h : s.size = 32) : rootP (nint (leavesL s)) = ((((Tree.root (leavesL s)) : Nat) : Int), 0) := rootP_nint (by rw [leaves_32 h]; decide) (by rw [leaves_32 h]; decide) (leaves_may _)
set_option maxRecDepth 100000 in
set_option maxHeartbeats 4000000 in
theorem AuditTrue_walk {w : World} (a0 : Option Addr) (n0 c0 : Nat) (xs : List Int) (h0 : Ints w a0 n0 c0 xs) (r0 : n0 * 8 ≤ 140737488351232) (wf0 : ∀ x ∈ xs, (Lit.int .i64 x).wf = true)
    (at_ : Int) (w1 : (Lit.int .i64 at_).wf = true) (b2 : Int) (w2 : (Lit.int .i64 b2).wf = true)
    (q : Int) (wfq : (Lit.int .i64 q).wf = true) (ba : Option Addr) (bn bc : Nat) (bs : List Int) (hB : Ints w ba bn bc bs) (rB : bn * 8 ≤ 140737488351232)
    (wh : Int) (w4 : (Lit.int .i64 wh).wf = true) (by_ : Int) (w5 : (Lit.int .i64 by_).wf = true) :
    Calls Try.prog 8 #[.slice a0 n0 c0, .int .i64 at_, .int .i64 b2, .agg #[.int .i64 q, .slice ba bn bc], .int .i64 wh, .int .i64 by_] w fun e w' => e = .returned (.bool true) ∧ Below w.heap.size w w' := by
  have hlen := h0.1
  have H0 := hide h0
  have K0 := hide hB
  have BX := hide (heap_alloc_new w (.cells #[.int .i64 q, .slice ba bn bc] 47))
  have HB := hide (below_alloc w (.cells #[.int .i64 q, .slice ba bn bc] 47))
  clear hB h0 wf0 w1 w2 w4 w5 wfq
  go_enter Try.func8, Try.ntmps8
  go_upto_region 1 with fail
  generalize (w.alloc (.cells #[.int .i64 q, .slice ba bn bc] 47)) = W at *
  go_wp2_with fail
  refine (awake12_any _).mono ?_
  rintro e w1 ⟨rfl, b1⟩
  replace BX := hide ((b1.block _ (lt_of_block (unhide BX))).trans (unhide BX))
  replace HB := hide (bt (unhide HB) b1)
  clear b1
  obtain ⟨bb, ebb⟩ : ∃ bb : Nat, bb = (b2 % 256).toNat := ⟨_, rfl⟩
  have hbb : bb < 256 := by omega
  have e8 : b2 % 256 = (bb : Int) := by omega
  clear ebb
  go_wp2_with fail
  refine (text_any bb hbb _).mono ?_
  rintro e w2 ⟨rfl, b2'⟩
  obtain ⟨s, es⟩ : ∃ s, s = textS bb := ⟨_, rfl⟩
  have hss : s.size = 32 := by rw [es]; exact textS_size _
  rw [← es]
  have hrt := root_leaves hss
  have hll : (nint (leavesL s)).length = 4 := by rw [nint_len, leaves_32 hss]
  obtain ⟨l, el⟩ : ∃ l, l = leavesL s := ⟨_, rfl⟩
  obtain ⟨own, eo⟩ : ∃ own, own = Tree.root l := ⟨_, rfl⟩
  rw [← el, ← eo] at hrt
  rw [← el] at hll
  have hol : own < 2147483647 := by rw [eo, el]; exact Tree.root_lt (by intro h; have := leaves_32 hss; rw [h] at this; simp at this) (leaves_may _)
  have HRT := hide hrt
  have HLL := hide hll
  have EL := hide el
  have EO := hide eo
  replace BX := hide ((b2'.block _ (lt_of_block (unhide BX))).trans (unhide BX))
  replace HB := hide (bt (unhide HB) b2')
  clear es hrt hll el eo b2' e8
  go_wp2_with fail
  refine (refLeaves_any s _ (by omega)).mono ?_
  rintro e w3 ⟨v2, rfl, O3, b3⟩
  rw [← unhide EL] at O3
  obtain ⟨p2, c2, rfl, S2⟩ := O3.ints
  rw [unhide HLL] at S2 ⊢
  have HI := hide S2
  replace BX := hide ((b3.block _ (lt_of_block (unhide BX))).trans (unhide BX))
  replace HB := hide (bt (unhide HB) b3)
  clear O3 S2 b3
  go_wp2_with fail
  refine (refRoot_any _ _ _ (nint l) _ (unhide HI) (by decide)).mono ?_
  rintro e w4 ⟨he, b4⟩
  rw [unhide HRT] at he
  subst he
  replace BX := hide ((b4.block _ (lt_of_block (unhide BX))).trans (unhide BX))
  replace HB := hide (bt (unhide HB) b4)
  clear b4 HI
  replace H0 := hide ((unhide H0).below (unhide HB))
  have hsw4 := (unhide HB).size
  have hbx4 := lt_of_block (unhide BX)
  go_upto_block 0 with fail
  go_cut [16, 17] from 42 to 61 (fun rv iv wr => ∃ j : Nat, j ≤ n0 ∧ j ≤ 6 ∧ (j = n0 ∨ j = 6) ∧ iv = .int .i64 j ∧ Hid (OwnL wr w4.heap.size 3 rv ((nint (lows xs j)).map (Value.int .i64))) ∧ Hid (Below w4.heap.size w4 wr))
  case first =>
    have HW4 := hide (Below.refl w4.heap.size w4)
    go_wp2
    go_loopw [16, 17] (fun rv iv wr => ∃ j : Nat, j ≤ n0 ∧ j ≤ 6 ∧ iv = .int .i64 j ∧ Hid (OwnL wr w4.heap.size 3 rv ((nint (lows xs j)).map (Value.int .i64))) ∧ Hid (Below w4.heap.size w4 wr)) (fun _ iv _ => 6 - (intOf iv).toNat)
    case atStart => exact ⟨0, by omega, by omega, rfl, hide (OwnL.nil _ _ _), HW4⟩
    case round =>
      obtain ⟨j, hj, hj6, rfl, HO, HW⟩ := hrel
      obtain ⟨pv, cv, ev⟩ := (unhide HO).form
      rw [List.length_map, nint_len, lows_len _ _ (by omega)] at ev
      subst ev
      have hszW := (unhide HW).size
      by_cases hlt : j < n0 ∧ j < 6
      · have hlt1 : (j : Int) < n0 := by omega
        have hlt2 : (j : Int) < 6 := by omega
        obtain ⟨b, o, ea, hcell⟩ : ∃ b off, a0 = some ⟨b, off, none⟩ ∧ ∀ i, i < n0 → wr.cell? ⟨b, off + i, none⟩ = some (.int .i64 (xs.getD i 0)) := by
          rcases ((unhide H0).below (unhide HW)).2.two with h | h
          · omega
          · exact h
        subst ea
        have cj := hcell j hlt.1
        clear hcell
        obtain ⟨x, ex⟩ : ∃ x, x = xs.getD j 0 := ⟨_, rfl⟩
        rw [← ex] at cj
        have EX := hide ex
        clear ex
        have hlow : (x % 4294967296 / 4) = ((low30 x : Nat) : Int) := by unfold low30; omega
        have HLOW := hide hlow
        have hlw := lows_len xs j (by omega)
        clear hlow
        go_wp2_with (at_builtin; refine wpList_push wr (by rfl) (.tmp 52) (.tmp 60) 22 (by rfl) w4.heap.size 3 (.int .i64 0) 8 Try.underlying22 Try.infoInt rfl _ _ (by rfl) (unhide HO) _ (by rfl) (by rfl) (by simp [nint_len, hlw]; omega) (by omega) hszW ?_; intro v1 wa O1 P1; have HBa := hide (P1.below (unhide HO) (unhide HW) (Nat.le_refl _) hszW); have HO1 := hide O1; clear O1 P1)
        go_roundw
        case rel =>
          refine ⟨j + 1, by omega, by omega, by go_num, hide ?_, HBa⟩
          have := unhide HO1
          rw [unhide HLOW, unhide EX] at this
          rw [lows_snoc _ _ (by omega)]
          simpa [nint] using this
        case measure => simp [intOf]; omega
      · have hex : (¬ (j : Int) < n0) ∨ ((j : Int) < n0 ∧ ¬ (j : Int) < 6) := by omega
        clear hlt
        rcases hex with h1 | ⟨h1, h2⟩
        · go_wp2
          go_meet
          case rel => exact ⟨j, hj, hj6, by omega, rfl, HO, HW⟩
        · go_wp2
          go_meet
          case rel => exact ⟨j, hj, hj6, by omega, rfl, HO, HW⟩
  case rest =>
    obtain ⟨j, hj, hj6, hjj, rfl, HO, HW⟩ := hcut
    have hll := lows_len xs j (by omega)
    obtain ⟨pv, cv, ev⟩ := (unhide HO).form
    rw [List.length_map, nint_len, hll] at ev
    subst ev
    replace BX := hide (((unhide HW).block _ (lt_of_block (unhide BX))).trans (unhide BX))
    replace HB := hide (bt (unhide HB) (unhide HW))
    have K1 := hide ((unhide K0).below (unhide HB))
    have hg0 := hide (fun g (e : pv = some ⟨g, 0, none⟩) => ((unhide HO).lt (g := g) (by rw [e]; rfl)).1)
    have hs4 := (unhide HW).size
    by_cases hz : j = 0
    · subst hz
      go_wp2
      go_ret
      exact ⟨rfl, unhide HB⟩
    · obtain ⟨k, hkj, ek⟩ := modT at_ j (by omega) (by omega)
      have hz1 : ¬ (j : Int) < 1 := by omega
      have hz2 : ¬ (j : Int) = 0 := by omega
      have hk : k < j := by omega
      obtain ⟨g, cap, eg, hg, hcap, hcap2, _⟩ := own_form (n := ((nint (lows xs j)).map (Value.int .i64)).length) (unhide HO) (by simp [nint_len, hll]; omega)
      simp only [Value.slice.injEq, List.length_map, nint_len, hll, true_and] at eg
      obtain ⟨rfl, rfl⟩ := eg
      have fi := own_free (unhide HO) k
      have ci := own_cell (unhide HO) k (by rw [nint_len]; omega)
      obtain ⟨y, ey⟩ : ∃ y, y = (nint (lows xs j)).getD k 0 := ⟨_, rfl⟩
      rw [← ey] at ci
      clear ey
      have HP := own_put (unhide HO) k (.int .i64 (own : Int))
      rw [nint_set] at HP
      obtain ⟨l2, el2⟩ : ∃ l2, l2 = (lows xs j).set k own := ⟨_, rfl⟩
      rw [← el2] at HP
      have hl2 : l2.length = j := by rw [el2, List.length_set]; exact hll
      have hm2 : Tree.May l2 := by
        intro x hx
        rw [el2] at hx
        rcases List.mem_or_eq_of_mem_set hx with h | rfl
        · exact lows_may xs j x h
        · exact hol
      have hk2 : l2.getD k 0 = Tree.root (leavesL s) := by
        rw [el2, ← unhide EL, ← unhide EO]
        simp [List.getD, show k < (lows xs j).length by omega]
      have HWHO : Hid (Who s l2 j k) := hide ⟨hss, hl2, hj6, hk, hm2, hk2⟩
      have hIP := HP.ints
      obtain ⟨p', c', e', hI⟩ := hIP
      simp only [Value.slice.injEq, nint_len, hl2, true_and] at e'
      obtain ⟨e1, e2⟩ := e'
      rw [← e1, ← e2, nint_len, hl2] at hI
      have HI := hide hI
      have hr := hide (rootP_nint (by omega) (by omega) hm2)
      have hp := hide (pathP_nint (i := k) (by omega) (by omega) (by omega) hm2)
      have HB5 := hide ((unhide HB).setCell (p := ⟨g, k, none⟩) (Nat.le_trans hsw4 hg) (.int .i64 (own : Int)))
      have BX5 := hide ((Below.heap_setCell wc ⟨g, k, none⟩ (.int .i64 (own : Int)) w.heap.size (by show w.heap.size ≠ g; omega)).trans (unhide BX))
      have K5 := hide ((unhide K0).below (unhide HB5))
      clear HP hI e1 e2 el2 hm2 hk2 HO HW HB BX K1 hg0
      go_wp2_with fail
      try clear ek
      generalize (wc.setCell ⟨g, k, none⟩ (.int .i64 (own : Int))) = W5 at *
      clear ci fi
      refine (refRoot_any _ _ _ (nint l2) _ (unhide HI) (by omega)).mono ?_
      rintro e w6 ⟨he, b6⟩
      rw [unhide hr] at he
      obtain ⟨R, eR⟩ : ∃ R, R = Tree.root l2 := ⟨_, rfl⟩
      rw [← eR] at he
      have ER := hide eR
      subst he
      replace HI := hide ((unhide HI).below b6)
      replace K5 := hide ((unhide K5).below b6)
      replace BX5 := hide ((b6.block _ (lt_of_block (unhide BX5))).trans (unhide BX5))
      replace HB5 := hide (bt (unhide HB5) b6)
      clear b6 eR hr
      go_wp2_with fail
      refine (refPath_any _ _ _ (nint l2) k _ (unhide HI) (by omega)).mono ?_
      rintro e w7 ⟨v7, he, O7, b7⟩
      rw [unhide hp] at he O7
      subst he
      have hps := who_path (unhide HWHO)
      obtain ⟨p, ep⟩ : ∃ p, p = nint (Tree.path l2 k) := ⟨_, rfl⟩
      rw [← ep] at hps O7
      have EP := hide ep
      obtain ⟨pp, pc, rfl, IP⟩ := O7.ints
      obtain ⟨pn, epn⟩ : ∃ pn, pn = p.length := ⟨_, rfl⟩
      rw [← epn] at IP hps ⊢
      have HP := hide IP
      have hpn := hps.2
      replace K5 := hide ((unhide K5).below b7)
      replace BX5 := hide ((b7.block _ (lt_of_block (unhide BX5))).trans (unhide BX5))
      replace HB5 := hide (bt (unhide HB5) b7)
      have EPN := hide epn
      clear b7 O7 IP hps ep HI hp epn
      obtain ⟨x0, x1⟩ := box_2 (unhide BX5)
      obtain ⟨N, eN, hN⟩ : ∃ N : Nat, q % 4294967296 / 4 = (N : Int) ∧ N < 1073741824 := ⟨(q % 4294967296 / 4).toNat, by omega, by omega⟩
      have hbx7 := lt_of_block (unhide BX5)
      go_upto_region 17 with fail
      have BQ := hide (heap_alloc_new w7 (.cells #[.int .i64 (N : Int), .slice none 0 0] 47))
      have HW8 := hide (below_alloc w7 (.cells #[.int .i64 (N : Int), .slice none 0 0] 47))
      clear x0 x1 eN
      generalize (w7.alloc (.cells #[.int .i64 (N : Int), .slice none 0 0] 47)) = W8 at *
      go_upto_block 2 with fail
      go_cut [24] from 93 to 114 (fun iv wr => ∃ (i : Nat) (v : Value), i ≤ bn ∧ i ≤ 8 ∧ (i = bn ∨ i = 8) ∧ iv = .int .i64 i ∧ Hid (wr.heap[w7.heap.size]? = some (.cells #[.int .i64 (N : Int), v] 47 (0, 0))) ∧ Hid (OwnL wr (w7.heap.size + 1) 3 v ((ands bs i).map (Value.int .i64))) ∧ Hid (Below w7.heap.size w7 wr))
      case first =>
        go_wp2
        go_loopw [24] (fun iv wr => ∃ (i : Nat) (v : Value), i ≤ bn ∧ i ≤ 8 ∧ iv = .int .i64 i ∧ Hid (wr.heap[w7.heap.size]? = some (.cells #[.int .i64 (N : Int), v] 47 (0, 0))) ∧ Hid (OwnL wr (w7.heap.size + 1) 3 v ((ands bs i).map (Value.int .i64))) ∧ Hid (Below w7.heap.size w7 wr)) (fun iv _ => 8 - (intOf iv).toNat)
        case atStart => exact ⟨0, _, by omega, by omega, rfl, BQ, hide (OwnL.nil _ _ _), HW8⟩
        case round =>
          obtain ⟨i, v, hi, hi8, rfl, BQr, HO, HW⟩ := hrel
          obtain ⟨pv, cw, ev⟩ := (unhide HO).form
          have hbl := (unhide K5).1
          rw [List.length_map, ands_len _ _ (by omega)] at ev
          subst ev
          have BXr := hide (((unhide HW).block _ hbx7).trans (unhide BX5))
          obtain ⟨x0, x1⟩ := box_2 (unhide BXr)
          obtain ⟨y0, y1⟩ := box_2 (unhide BQr)
          by_cases hlt : i < bn ∧ i < 8
          · have hlt1 : (i : Int) < bn := by omega
            have hlt2 : (i : Int) < 8 := by omega
            obtain ⟨b, o, ea, hcell⟩ : ∃ b off, ba = some ⟨b, off, none⟩ ∧ ∀ i, i < bn → w7.cell? ⟨b, off + i, none⟩ = some (.int .i64 (bs.getD i 0)) := by
              rcases (unhide K5).2.two with h | h
              · omega
              · exact h
            subst ea
            have cj7 := hcell i hlt.1
            have hbl7 := cell_lt cj7
            have cj := ((unhide HW).cell hbl7).trans cj7
            obtain ⟨x, ex⟩ : ∃ x, x = bs.getD i 0 := ⟨_, rfl⟩
            rw [← ex] at cj
            have EX := hide ex
            have k0 := kept_cell (B := w7.heap.size + 1) x1 (by show w.heap.size < _; omega)
            have k1 := kept_cell (B := w7.heap.size + 1) y1 (by show w7.heap.size < _; omega)
            have k2 := kept_cell (B := w7.heap.size + 1) cj (by show b < _; have : b < w7.heap.size := hbl7; omega)
            have hnl := ands_len bs i (by omega)
            have hand := and_3r x
            have f1 := free_of_row (unhide BQr) 1
            have hs78 := (unhide HW8).size
            have hszr := lt_of_block (unhide BQr)
            have HO' := HO
            clear ex hcell cj7
            go_upto_region 20 with fail
            clear x0 x1 y0 cj
            refine wp_region_ord_then (S := Below (w7.heap.size + 1) wr) [(true, 0), (true, 1), (true, 2), (true, 3), (true, 4), (true, 5), (true, 6), (true, 7), (false, 8), (false, 9), (true, 10)] (List.cons_ne_nil _ _) (by kernel_rfl) (by kernel_rfl) (by kernel_rfl) (by kernel_rfl) (by kernel_rfl) ((Below.refl _ _).drew) ?_
            simp only [List.dropLast_cons_cons, List.dropLast_singleton, List.getLast_cons_cons, List.getLast_singleton, withOps, List.map_cons, List.map_nil, List.getElem?_cons_succ, List.getElem?_cons_zero]
            repeat (refine walkH_read (by rfl) (by (intro gx; go_simp; try (with_reducible rfl))) ?_; try simp only [Act.put, List.setIfInBounds_toArray, List.set_cons_zero, List.set_cons_succ])
            refine walkH_do rfl (fun K hK => ?_)
            go_simp
            have hbA : Below wr.heap.size wr (wr.alloc (.cells #[.int .i64 (x % 4)] 3)).drew := by go_grown
            have cA : (wr.alloc (.cells #[.int .i64 (x % 4)] 3)).drew.cell? ⟨wr.heap.size, 0, none⟩ = some (.int .i64 (x % 4)) := cell_of_one (heap_alloc_new wr _)
            refine hK _ _ (hbA.mono (by omega)) ?_
            clear hK K
            try simp only [Act.put, List.setIfInBounds_toArray, List.set_cons_zero, List.set_cons_succ]
            have HO6 := hide ((unhide HO).below hbA)
            have HB6 := hide (hbA.mono (B' := w7.heap.size + 1) (by omega))
            have BQ6 := hide ((hbA.block _ hszr).trans (unhide BQr))
            have hsz6 := hbA.size
            generalize (wr.alloc (.cells #[.int .i64 (x % 4)] 3)).drew = w6' at *
            clear hbA
            refine walkH_do rfl (fun K hK => ?_)
            refine step_push _ (by rfl) (.tmp 105) (.tmp 112) 22 (by rfl) (w7.heap.size + 1) 3 (.int .i64 0) 8 Try.underlying22 Try.infoInt rfl (.slice pv i cw) ((ands bs i).map (Value.int .i64)) (by simp [Act.eval]) (unhide HO6) (.int .i64 (x % 4)) (by rfl) wr.heap.size 0 (by simp [Act.eval]) cA (by rw [List.length_map, hnl]; omega) (by omega) (by omega) ?_
            intro v7' wa O7 P7
            have hBa : Below (w7.heap.size + 1) wr wa := P7.below (unhide HO6) (unhide HB6) (Nat.le_refl _) (by omega)
            have BQa := hide ((P7.block (unhide HO6) (k := w7.heap.size) (by omega) (by omega)).trans (unhide BQ6))
            have HOa := hide O7
            refine hK _ _ hBa ?_
            clear hK K O7 P7 k0 k1 k2 cA HB6 BQ6 HO6
            try simp only [Act.put, List.setIfInBounds_toArray, List.set_cons_zero, List.set_cons_succ]
            have HBa := hide hBa
            clear hBa
            repeat (refine walkH_read (by rfl) (by (intro gx; go_simp; try (with_reducible rfl))) ?_; try simp only [Act.put, List.setIfInBounds_toArray, List.set_cons_zero, List.set_cons_succ])
            refine lastPost_of_list ?_
            simp only [List.cons_append, List.nil_append]
            obtain ⟨p7, c7, e7⟩ := (unhide HOa).form
            rw [List.length_append, List.length_map, hnl] at e7
            simp only [List.length_cons, List.length_nil, Nat.zero_add] at e7
            subst e7
            obtain ⟨z0, z1⟩ := box_2 (unhide BQa)
            have f1a := free_of_row (unhide BQa) 1
            go_wp2
            refine NoPanic.normal ?_
            go_wp2
            go_roundw
            case rel =>
              refine ⟨i + 1, _, by omega, by omega, by go_num, hide (two_set1 (unhide BQa)), hide ?_, hide (((unhide HW).trans ((unhide HBa).mono (by omega))).setCell (Nat.le_refl _) _)⟩
              rw [ands_snoc _ _ (by omega), ← unhide EX, List.map_append]
              exact (unhide HOa).setBelow (Nat.lt_succ_self _) _
            case measure => simp [intOf]; omega
          · have hex : (¬ (i : Int) < bn) ∨ ((i : Int) < bn ∧ ¬ (i : Int) < 8) := by omega
            clear hlt
            rcases hex with h1 | ⟨h1, h2⟩
            · go_wp2
              go_meet
              case rel => exact ⟨i, _, hi, hi8, by omega, rfl, BQr, HO, HW⟩
            · go_wp2
              go_meet
              case rel => exact ⟨i, _, hi, hi8, by omega, rfl, BQr, HO, HW⟩
      case rest =>
        obtain ⟨i, v, hi, hi8, hii, rfl, BQr, HO, HW⟩ := hcut
        have hbl := (unhide K5).1
        have hnl := ands_len bs i (by omega)
        obtain ⟨pb, cb, ev, IB⟩ := (unhide HO).ints
        rw [hnl] at ev IB
        subst ev
        have HIB := hide IB
        obtain ⟨y0, y1⟩ := box_2 (unhide BQr)
        have f1 := free_of_row (unhide BQr) 1
        have hlt7 := lt_of_block (unhide BQr)
        have AK0 : Hid (1 ≤ i → AskM (N : Int) (ands bs i)) := hide (fun h => ask_m (by omega) (by omega) (by omega) (ands_ok bs i))
        have AK1 : Hid (AskM (N : Int) [b2 % 4]) := hide (ask_m (by omega) (by simp) (by simp) (fun x hx => by rw [List.mem_singleton.1 hx]; unfold BkOk; omega))
        have hand := and_3r b2
        clear IB
        go_upto_if 118 with fail
        go_cut [] from 115 to 122 (fun wr => ∃ (L : List Int) (p : Option Addr) (m c : Nat), L.length = m ∧ m ≤ 8 ∧ Hid (wr.heap[w7.heap.size]? = some (.cells #[.int .i64 (N : Int), .slice p m c] 47 (0, 0))) ∧ Hid (Ints wr p m c L) ∧ Hid (AskM (N : Int) L) ∧ Hid (Below w7.heap.size w7 wr))
        case first =>
          by_cases hi1 : i = 0
          · subst hi1
            go_wp2
            go_meet
            case rel =>
              refine ⟨[b2 % 4], some ⟨wc.heap.size, 0, none⟩, 1, 1, rfl, by decide, hide ?_, hide ?_, AK1, hide ?_⟩
              · exact ((below_alloc _ _).block _ (by rw [World.size_setCell]; exact hlt7)).trans (two_set1 (unhide BQr))
              · exact int_lit (wc.setCell ⟨w7.heap.size, 1, none⟩ (.slice (some ⟨wc.heap.size, 0, none⟩) 1 1)) [b2 % 4] 3 wc.heap.size #[.int .i64 (b2 % 4)] 1 (World.size_setCell _ _ _) rfl rfl
              · exact ((unhide HW).setCell (Nat.le_refl _) _).alloc (by rw [World.size_setCell]; have := (unhide HW).size; exact this) _
          · have hi2 : ¬ (i : Int) < 1 := by omega
            have hi3 : ¬ (i : Int) = 0 := by omega
            go_wp2
            go_meet
            case rel => exact ⟨_, _, _, _, hnl, hi8, BQr, HIB, hide (unhide AK0 (by omega)), HW⟩
        case rest =>
          obtain ⟨L, pL, m, cL, hLl, hm8, BQs, HK, AK, HWs⟩ := hcut
          clear AK0 AK1 hand BQr HO HW HIB hii hi8 hi hnl f1 y0 y1 HW8
          have HP9 := hide ((unhide HP).below (unhide HWs))
          have HK0 := HK
          have BQ0 := BQs
          have HB9 := hide (bt (unhide HB5) (unhide HWs))
          have hm1 : 1 ≤ m := by have := (unhide AK).2.1; omega
          have hm9 : m ≤ 140737488351232 := Nat.le_trans hm8 (by decide)
          have hlq : w7.heap.size < wc.heap.size := lt_of_block (unhide BQs)
          have hr1 := who_rsp (unhide HWHO) (unhide AK)
          have ht1 := who_aud (unhide HWHO) (unhide AK)
          have ho1 := other_nonce (unhide HWHO) (unhide AK) (by omega)
          have hblk := fun (j' : Nat) (h : j' < L.length) => ans_blk (unhide HWHO) (unhide AK) h
          have htb := fun (j' : Nat) (h : j' < L.length) (t : ByteArray) (ht : Seal.of (byts ((ansL s l2 k N L).getD j' ans0).blk) ≠ Seal.of (byts t)) => other_block (unhide HWHO) (unhide AK) h ht
          have htl := fun (j' : Nat) (h : j' < L.length) (t : ByteArray) (ht : Seal.of (byts ((ansL s l2 k N L).getD j' ans0).blk) ≠ Seal.of (byts t)) (y : Int) => other_liar (unhide HWHO) (unhide AK) h ht y
          obtain ⟨zs, ez⟩ : ∃ zs, zs = ansL s l2 k N L := ⟨_, rfl⟩
          have hzl : zs.length = m := by rw [ez, ansL_len]; exact hLl
          rw [← ez] at ht1 ho1 hblk htb htl
          rw [← unhide EP, ← ez] at hr1
          rw [← unhide ER] at ht1 ho1 htb htl
          rw [hLl] at hblk htb htl
          have R1 := hide hr1
          have T1 := hide (decide_eq_true ht1)
          have O1 := hide (decide_eq_false ho1)
          have HBLK := hide hblk
          have HTB := hide htb
          have HTL := hide htl
          have HPZ : Hid (∀ j, j < m → (zs.getD j ans0).path.length ≤ 140737488351232) := hide (fun j hj => by have := (hblk j hj).2.2; omega)
          have HZL := hide hzl
          clear hr1 ht1 ho1 hblk htb htl ez hzl
          obtain ⟨y0, y1⟩ := box_2 (unhide BQs)
          go_wp2_with fail
          refine (auditRespond_any s _ _ _ p N _ _ _ L _ (unhide HP9) (unhide HK) (by omega) (by omega)).mono ?_
          rintro e w10 ⟨v10, us, he, O10, b10⟩
          rw [unhide R1] at he O10
          subst he
          simp only [] at O10 ⊢
          have ho10 := O10.outer
          obtain ⟨g9, c9, ev, hg9, hc9, hc9m, _⟩ := ownZ_form ho10 (by rw [unhide HZL]; omega)
          rw [unhide HZL] at ev
          subst ev
          have HA := hide O10
          replace BQs := hide ((b10.block _ (lt_of_block (unhide BQs))).trans (unhide BQs))
          replace HK := hide ((unhide HK).below b10)
          replace HB9 := hide (bt (unhide HB9) b10)
          have HKc := HK0
          have HBc := hide b10
          have hs10 := b10.size
          clear b10 O10 ho10 y0 y1 HP9
          obtain ⟨y0, y1⟩ := box_2 (unhide BQs)
          have HV : Hid (AnsV w10 (some ⟨g9, 0, none⟩) m c9 zs) := hide (by
            obtain ⟨a', c', e', hv⟩ := (unhide HA).ansV
            rw [unhide HZL] at e' hv
            simp only [Value.slice.injEq, true_and] at e'
            obtain ⟨e1, e2⟩ := e'
            rw [e1, e2]
            exact hv)
          go_wp2_with (go_at_call 14; refine (num_any _ _).mono ?_; rintro e w' ⟨rfl, hw'⟩; rw [hw']; clear hw' w')
          refine (auditCheck_any _ _ _ _ _ _ _ L _ _ _ zs _ (unhide HK) (unhide HV) hm9 (unhide HPZ)).mono ?_
          rintro e w11 ⟨he, b11⟩
          rw [unhide T1] at he
          subst he
          replace BQs := hide ((b11.block _ (lt_of_block (unhide BQs))).trans (unhide BQs))
          replace HK := hide ((unhide HK).below b11)
          replace HA := hide ((unhide HA).below b11)
          replace HV := hide ((unhide HV).below b11)
          replace HB9 := hide (bt (unhide HB9) b11)
          replace HBc := hide (bt (unhide HBc) b11)
          have hs11 := b11.size
          clear b11 y0 y1
          obtain ⟨jj, hjm, ejj⟩ := modT wh m (by omega) (by omega)
          have hjm' : jj < m := by omega
          have hzm : ¬ (m : Int) = 0 := by omega
          obtain ⟨ab, ao, px, cx, ea, _, z0, z1, z2, hIx⟩ := (unhide HV).at hjm'
          simp only [Option.some.injEq, Addr.mk.injEq, and_true] at ea
          obtain ⟨e1, e2⟩ := ea
          rw [← e1, ← e2, Nat.zero_add] at z0 z1 z2
          clear e1 e2
          obtain ⟨zx, ezx⟩ : ∃ zx, zx = zs.getD jj ans0 := ⟨_, rfl⟩
          rw [← ezx] at z0 z1 z2 hIx
          have hbx := unhide HBLK jj hjm'
          rw [← ezx] at hbx
          obtain ⟨hb8, hp2, hp64⟩ := hbx
          have EZX := hide ezx
          have hus := (unhide HA).mid (unhide HZL) (j := jj) (by rw [unhide HZL]; exact hjm') (v := .slice px zx.path.length cx) z1
          have HUS := hide hus
          clear ezx hIx hus
          go_upto_region 28 with fail
          try rw [ejj]
          clear ejj
          have BXX := hide (heap_alloc_new w11 (.cells #[.string zx.blk, .slice px zx.path.length cx, .int .i64 zx.keyed] 64))
          have b12 := below_alloc w11 (.cells #[.string zx.blk, .slice px zx.path.length cx, .int .i64 zx.keyed] 64)
          replace BQs := hide ((b12.block _ (lt_of_block (unhide BQs))).trans (unhide BQs))
          replace HK := hide ((unhide HK).below b12)
          replace HA := hide ((unhide HA).below b12)
          replace HV := hide ((unhide HV).below b12)
          replace HB9 := hide (bt (unhide HB9) b12)
          replace HBc := hide (bt (unhide HBc) b12)
          have hs12 := b12.size
          have hgA : g9 < w11.heap.size := cell_lt z0
          clear b12 z0 z1 z2
          generalize (w11.alloc (.cells #[.string zx.blk, .slice px zx.path.length cx, .int .i64 zx.keyed] 64)) = W12 at *
          obtain ⟨z0, z1, z2⟩ := box_three (unhide BXX)
          have hb8' : ((zx.blk.size : Int) != 8) = false := ne_8 hb8
          have hp2' : ¬ ((zx.path.length : Int) < 2) := lt_2 hp2
          have hp2'' : decide ((zx.path.length : Int) < 2) = false := decide_eq_false hp2'
          go_upto_region 30 with fail
          obtain ⟨y0, y1⟩ := box_2 (unhide BQs)
          have hN1 := wrap_one hN
          have HWN := hide (wf_30 hN)
          clear hN hol
          go_upto_region 31 with fail
          have BO := hide (heap_alloc_new W12 (.cells #[.int .i64 ((N : Int) + 1), .slice pL m cL] 47))
          have b13 := below_alloc W12 (.cells #[.int .i64 ((N : Int) + 1), .slice pL m cL] 47)
          replace BQs := hide ((b13.block _ (lt_of_block (unhide BQs))).trans (unhide BQs))
          replace BXX := hide ((b13.block _ (lt_of_block (unhide BXX))).trans (unhide BXX))
          replace HK := hide ((unhide HK).below b13)
          replace HA := hide ((unhide HA).below b13)
          replace HV := hide ((unhide HV).below b13)
          replace HB9 := hide (bt (unhide HB9) b13)
          replace HBc := hide (bt (unhide HBc) b13)
          have hs13 := b13.size
          clear b13 y0 y1 z0 z1 z2 hN1 hp2' hp2'' hb8'
          generalize (W12.alloc (.cells #[.int .i64 ((N : Int) + 1), .slice pL m cL] 47)) = W13 at *
          obtain ⟨y0, y1⟩ := box_2 (unhide BO)
          go_wp2_with fail
          refine (auditCheck_any _ _ _ _ _ _ _ L _ _ _ zs _ (unhide HK) (unhide HV) hm9 (unhide HPZ)).mono ?_
          rintro e w14 ⟨he, b14⟩
          rw [unhide O1] at he
          subst he
          replace BQs := hide ((b14.block _ (lt_of_block (unhide BQs))).trans (unhide BQs))
          replace BXX := hide ((b14.block _ (lt_of_block (unhide BXX))).trans (unhide BXX))
          replace HK := hide ((unhide HK).below b14)
          replace HA := hide ((unhide HA).below b14)
          replace HB9 := hide (bt (unhide HB9) b14)
          replace HBc := hide (bt (unhide HBc) b14)
          have hs14 := b14.size
          clear b14 y0 y1 BO HV O1
          obtain ⟨z0, z1, z2⟩ := box_three (unhide BXX)
          obtain ⟨bk, ebk⟩ : ∃ bk, bk = zx.blk := ⟨_, rfl⟩
          rw [← ebk] at z0 hb8
          have EBK := hide ebk
          clear ebk
          have hcv := run_bytes_of_string (P := Try.prog) w14 9 41 5 bk Try.underlying9 Try.underlying41 Try.underlying5
          obtain ⟨cap, ec⟩ : ∃ cap, cap = grownCap w14 bk.size 0 5 := ⟨_, rfl⟩
          rw [← ec] at hcv
          clear ec
          have R0 : Hid (ByteRow (w14.alloc (.cells (bytesRow bk cap) 5 ((bytesRow bk cap).size, (bytesRow bk cap).size + 1))).drew w14.heap.size bk.size 5 (bint bk)) := hide (bytes_row w14 bk cap 5)
          have B0 : Hid (Below w14.heap.size w14 (w14.alloc (.cells (bytesRow bk cap) 5 ((bytesRow bk cap).size, (bytesRow bk cap).size + 1))).drew) := hide (by go_grown)
          obtain ⟨kb, hkb, ekb⟩ := and_7 by_
          have hkb' : (kb : Int) < 8 := by omega
          have hkz : kb < bk.size := by rw [hb8]; exact hkb
          obtain ⟨z, hz, hzne, ezz⟩ := turn_byte ((byts bk).getD kb 0) (by
            have hl : kb < (byts bk).length := by rw [byts_len]; exact hkz
            have : (byts bk).getD kb 0 = (byts bk)[kb] := by simp [List.getD, hl]
            rw [this]
            simp [byts]
            exact UInt8.toNat_lt _) (by_ / 8)
          have htt := turned_text hkz hz hzne
          have HTT := hide htt
          have HZ := hide hz
          clear htt hzne hz
          go_upto_region 34 with fail
          clear hcv
          generalize hW15 : (w14.alloc (.cells (bytesRow bk cap) 5 ((bytesRow bk cap).size, (bytesRow bk cap).size + 1))).drew = W15 at *
          clear hW15
          have c8 := (unhide R0).cell hkz
          have f8 := (unhide R0).free hkz
          have eb : (bint bk).getD kb 0 = (((byts bk).getD kb 0 : Nat) : Int) := by
            have hl : kb < bk.data.toList.length := by simpa using hkz
            simp only [bint, byts, List.getD, List.getElem?_map]
            cases bk.data.toList[kb]? <;> rfl
          rw [eb] at c8
          obtain ⟨x0, ex0⟩ : ∃ x0, x0 = (byts bk).getD kb 0 := ⟨_, rfl⟩
          rw [← ex0] at c8 ezz
          clear ex0 eb
          go_upto_region 35 with fail
          have hR9 := (unhide R0).set kb (z : Int)
          have hl9 := hR9.1
          rw [hb8] at hR9 hl9
          have hcb := run_convert_bytes_arg (P := Try.prog) (W15.setCell ⟨w14.heap.size, kb, none⟩ (.int .u8 (z : Int))) 41 5 Try.underlying41 Try.underlying5 w14.heap.size 0 8 cap _ hl9 (fun j hj => by rw [Nat.zero_add]; exact hR9.cell hj) 9 Try.underlying9
          obtain ⟨t, et⟩ : ∃ t, t = strOfNums ((bint bk).set kb (z : Int)) := ⟨_, rfl⟩
          have htz : t.size = 8 := by rw [et, strOfNums_size, List.length_set, bint_len]; exact hb8
          rw [← et] at hcb HTT
          have HCB := hide hcb
          have hB16 := (unhide B0).setCell (p := ⟨w14.heap.size, kb, none⟩) (Nat.le_refl _) (.int .u8 (z : Int))
          have RB16 : Hid (ByteRow (W15.setCell ⟨w14.heap.size, kb, none⟩ (.int .u8 (z : Int))) w14.heap.size 8 5 ((bint bk).set kb (z : Int))) := hide hR9
          have ETT := hide et
          replace BQs := hide ((hB16.block _ (lt_of_block (unhide BQs))).trans (unhide BQs))
          replace BXX := hide ((hB16.block _ (lt_of_block (unhide BXX))).trans (unhide BXX))
          replace HK := hide ((unhide HK).below hB16)
          replace HA := hide ((unhide HA).below hB16)
          replace HB9 := hide (bt (unhide HB9) hB16)
          replace HBc := hide (bt (unhide HBc) hB16)
          clear hR9 hl9 et R0 c8 f8 B0 hB16 z0 z1 z2 ekb ezz
          generalize (W15.setCell ⟨w14.heap.size, kb, none⟩ (.int .u8 (z : Int))) = W16 at *
          have hcb := unhide HCB
          have HV16 : Hid (AnsV W16 (some ⟨g9, 0, none⟩) m c9 zs) := hide (by
            obtain ⟨a', c', e', hv⟩ := (unhide HA).ansV
            rw [unhide HZL] at e' hv
            simp only [Value.slice.injEq, true_and] at e'
            obtain ⟨e1, e2⟩ := e'
            rw [e1, e2]
            exact hv)
          obtain ⟨ab', ao', px', cx', ea', _, z0, z1, z2, _⟩ := (unhide HV16).at hjm'
          simp only [Option.some.injEq, Addr.mk.injEq, and_true] at ea'
          obtain ⟨e1, e2⟩ := ea'
          rw [← e1, ← e2, Nat.zero_add] at z0 z1 z2
          clear e1 e2
          have fz : W16.frozen? ⟨g9, jj * 3, none⟩ = false := by
            have h := (unhide HA).outer
            rw [unhide HZL] at h
            exact World.ownsRow.frozenAt h (jj * 3)
          go_upto_region 36 with fail
          have hw9 : w.heap.size ≤ g9 := by omega
          have hA1 := (unhide HA).putBlk (by decide) (unhide HZL) (j := jj) (by rw [unhide HZL]; exact hjm') t
          obtain ⟨zs1, ez1⟩ : ∃ zs1, zs1 = zs.set jj ⟨t, (zs.getD jj ans0).path, (zs.getD jj ans0).keyed⟩ := ⟨_, rfl⟩
          rw [← ez1] at hA1
          have hl1 : zs1.length = m := by rw [ez1, List.length_set]; exact unhide HZL
          have hbad := decide_eq_false (unhide HTB jj hjm' t (by rw [← unhide EZX, ← unhide EBK]; exact unhide HTT))
          rw [← ez1] at hbad
          have hp1 : ∀ j, j < m → (zs1.getD j ans0).path.length ≤ 140737488351232 := fun j' hj' => by
            rw [ez1, set_getD (by rw [unhide HZL]; exact hjm')]
            by_cases e : j' = jj
            · subst e; simp only [if_pos]; exact unhide HPZ j' hj'
            · rw [if_neg e]; exact unhide HPZ j' hj'
          have HA1 := hide hA1
          have HL1 := hide hl1
          have BAD1 := hide hbad
          have HPZ1 := hide hp1
          have EZ1 := hide ez1
          replace BXX := hide ((Below.heap_setCell W16 ⟨g9, jj * 3, none⟩ (.string t) w11.heap.size (by show w11.heap.size ≠ g9; omega)).trans (unhide BXX))
          replace HB9 := hide ((unhide HB9).setCell (p := ⟨g9, jj * 3, none⟩) hw9 (.string t))
          replace HBc := hide ((unhide HBc).setCell (p := ⟨g9, jj * 3, none⟩) hg9 (.string t))
          have RB17 : Hid (ByteRow (W16.setCell ⟨g9, jj * 3, none⟩ (.string t)) w14.heap.size 8 5 ((bint bk).set kb (z : Int))) := hide (by
            obtain ⟨h1, C, h2, h3, h4⟩ := unhide RB16
            have hne : w14.heap.size ≠ g9 := by omega
            exact ⟨h1, C, (Below.heap_setCell W16 ⟨g9, jj * 3, none⟩ (.string t) w14.heap.size hne).trans h2, h3, h4⟩)
          clear hA1 hl1 hbad hp1 ez1 HV16 z0 z1 z2 fz hcb HCB RB16 BQs HK HA
          generalize (W16.setCell ⟨g9, jj * 3, none⟩ (.string t)) = W17 at *
          have HK := hide ((unhide HKc).below (unhide HBc))
          have BQs := hide (((unhide HBc).block _ hlq).trans (unhide BQ0))
          have HV1 : Hid (AnsV W17 (some ⟨g9, 0, none⟩) m c9 zs1) := hide (by
            obtain ⟨a', c', e', hv⟩ := (unhide HA1).ansV
            rw [unhide HL1] at e' hv
            simp only [Value.slice.injEq, true_and] at e'
            obtain ⟨e1, e2⟩ := e'
            rw [e1, e2]
            exact hv)
          obtain ⟨y0, y1⟩ := box_2 (unhide BQs)
          go_wp2_with fail
          refine (auditCheck_any _ _ _ _ _ _ _ L _ _ _ zs1 _ (unhide HK) (unhide HV1) hm9 (unhide HPZ1)).mono ?_
          rintro e w18 ⟨he, b18⟩
          rw [unhide BAD1] at he
          subst he
          replace BXX := hide ((b18.block _ (lt_of_block (unhide BXX))).trans (unhide BXX))
          replace HA1 := hide ((unhide HA1).below b18)
          replace HV1 := hide ((unhide HV1).below b18)
          replace HB9 := hide (bt (unhide HB9) b18)
          replace HBc := hide (bt (unhide HBc) b18)
          have RB18 : Hid (ByteRow w18 w14.heap.size 8 5 ((bint bk).set kb (z : Int))) := hide (by
            obtain ⟨h1, C, h2, h3, h4⟩ := unhide RB17
            exact ⟨h1, C, (b18.block _ (lt_of_block h2)).trans h2, h3, h4⟩)
          clear b18 y0 y1 HK BQs RB17 BAD1
          have HK := hide ((unhide HKc).below (unhide HBc))
          have BQs := hide (((unhide HBc).block _ hlq).trans (unhide BQ0))
          obtain ⟨y0, y1⟩ := box_2 (unhide BQs)
          have k0 := kept_cell (B := w18.heap.size) y0 (cell_lt y0)
          have hrb := unhide RB18
          have hcb := fun X : Subtype (Below w18.heap.size w18) => run_convert_bytes_arg (P := Try.prog) X.val 41 5 Try.underlying41 Try.underlying5 w14.heap.size 0 8 cap _ hrb.1 (fun j hj => by rw [Nat.zero_add]; exact (X.property.cell (cell_lt (hrb.cell hj))).trans (hrb.cell hj)) 9 Try.underlying9
          rw [← unhide ETT] at hcb
          obtain ⟨f, ef⟩ : ∃ f, f = Seal.of (byts t) := ⟨_, rfl⟩
          have hfw : (Lit.int .i64 (f : Int)).wf = true := by rw [ef]; exact wf_nat (Seal.of_lt _)
          have HFW := hide hfw
          have EF := hide ef
          have HTZ := hide htz
          clear hfw ef htz hrb y0 y1
          go_upto_region 38 with fail
          refine wp_region_ord_thenT (S := Below w18.heap.size w18) [(true, 0), (true, 1), (true, 2), (true, 3), (true, 4), (true, 5), (false, 6), (false, 7), (true, 8), (true, 9)] (List.cons_ne_nil _ _) (by kernel_rfl) (by kernel_rfl) (by kernel_rfl) (by kernel_rfl) (by kernel_rfl) ((Below.refl _ _).drew) ?_
          simp only [List.dropLast_cons_cons, List.dropLast_singleton, List.getLast_cons_cons, List.getLast_singleton, withOps, List.map_cons, List.map_nil, List.getElem?_cons_succ, List.getElem?_cons_zero]
          repeat (refine walkH_read (by rfl) (by (intro gx; go_simp; try (with_reducible rfl))) ?_; try simp only [Act.put, List.setIfInBounds_toArray, List.set_cons_zero, List.set_cons_succ])
          refine walkH_do rfl (fun K hK => ?_)
          go_simp
          refine (refOf_any t _ (by rw [unhide HTZ]; decide)).mono ?_
          rintro e wn ⟨rfl, hwn⟩
          subst hwn
          rw [← unhide EF]
          refine hK _ _ ((Below.refl _ _).drew) ?_
          clear hK K
          try simp only [Act.put, List.setIfInBounds_toArray, List.set_cons_zero, List.set_cons_succ]
          repeat (refine walkH_read (by rfl) (by (intro gx; go_simp; try (with_reducible rfl))) ?_; try simp only [Act.put, List.setIfInBounds_toArray, List.set_cons_zero, List.set_cons_succ])
          refine walkH_do rfl (fun K hK => ?_)
          go_simp
          refine (refPair_any N f _ (unhide HWN) (unhide HFW)).mono ?_
          rintro e wn ⟨rfl, hwn⟩
          subst hwn
          refine hK _ _ ((Below.refl _ _).drew) ?_
          clear hK K hcb k0
          try simp only [Act.put, List.setIfInBounds_toArray, List.set_cons_zero, List.set_cons_succ]
          obtain ⟨pk, epk⟩ : ∃ pk, pk = Seal.pair (N : Int) (f : Int) := ⟨_, rfl⟩
          rw [← epk]
          clear epk
          repeat (refine walkH_read (by rfl) (by (intro gx; go_simp; try (with_reducible rfl))) ?_; try simp only [Act.put, List.setIfInBounds_toArray, List.set_cons_zero, List.set_cons_succ])
          refine lastPost_of_list ?_
          simp only [List.cons_append, List.nil_append]
          have b19 : Below w18.heap.size w18 w18.drew := (Below.refl _ _).drew
          replace BXX := hide ((b19.block _ (lt_of_block (unhide BXX))).trans (unhide BXX))
          replace HA1 := hide ((unhide HA1).below b19)
          replace HV1 := hide ((unhide HV1).below b19)
          replace HB9 := hide (bt (unhide HB9) b19)
          replace HBc := hide (bt (unhide HBc) b19)
          clear b19 HK BQs RB18
          generalize w18.drew = w19 at *
          obtain ⟨ab', ao', px', cx', ea', _, z0, z1, z2, _⟩ := (unhide HV1).at hjm'
          simp only [Option.some.injEq, Addr.mk.injEq, and_true] at ea'
          obtain ⟨e1, e2⟩ := ea'
          rw [← e1, ← e2, Nat.zero_add] at z0 z1 z2
          clear e1 e2
          have fz : w19.frozen? ⟨g9, jj * 3 + 2, none⟩ = false := by
            have h := (unhide HA1).outer
            rw [unhide HL1] at h
            exact World.ownsRow.frozenAt h (jj * 3 + 2)
          go_wp2
          refine NoPanic.normal ?_
          go_upto_region 39 with fail
          have hA2 := (unhide HA1).putKey (by decide) (unhide HL1) (j := jj) (by rw [unhide HL1]; exact hjm') (pk : Int)
          have e1g : zs1.getD jj ans0 = ⟨t, (zs.getD jj ans0).path, (zs.getD jj ans0).keyed⟩ := by rw [unhide EZ1, set_getD (by rw [unhide HZL]; exact hjm'), if_pos rfl]
          rw [e1g, unhide EZ1, List.set_set] at hA2
          obtain ⟨zs2, ez2⟩ : ∃ zs2, zs2 = zs.set jj ⟨t, (zs.getD jj ans0).path, (pk : Int)⟩ := ⟨_, rfl⟩
          simp only [] at hA2
          rw [← ez2] at hA2
          have hl2' : zs2.length = m := by rw [ez2, List.length_set]; exact unhide HZL
          have hbad := decide_eq_false (unhide HTL jj hjm' t (by rw [← unhide EZX, ← unhide EBK]; exact unhide HTT) (pk : Int))
          rw [← ez2] at hbad
          have hp1 : ∀ j, j < m → (zs2.getD j ans0).path.length ≤ 140737488351232 := fun j' hj' => by
            rw [ez2, set_getD (by rw [unhide HZL]; exact hjm')]
            by_cases e : j' = jj
            · subst e; simp only [if_pos]; exact unhide HPZ j' hj'
            · rw [if_neg e]; exact unhide HPZ j' hj'
          have HA2 := hide hA2
          have HL2 := hide hl2'
          have BAD2 := hide hbad
          have HPZ2 := hide hp1
          have EZ2 := hide ez2
          replace BXX := hide ((Below.heap_setCell w19 ⟨g9, jj * 3 + 2, none⟩ (.int .i64 (pk : Int)) w11.heap.size (by show w11.heap.size ≠ g9; omega)).trans (unhide BXX))
          replace HB9 := hide ((unhide HB9).setCell (p := ⟨g9, jj * 3 + 2, none⟩) hw9 (.int .i64 (pk : Int)))
          replace HBc := hide ((unhide HBc).setCell (p := ⟨g9, jj * 3 + 2, none⟩) hg9 (.int .i64 (pk : Int)))
          clear hA2 hl2' hbad hp1 ez2 e1g z0 z1 z2 fz HV1 HA1
          generalize (w19.setCell ⟨g9, jj * 3 + 2, none⟩ (.int .i64 (pk : Int))) = W20 at *
          have HK := hide ((unhide HKc).below (unhide HBc))
          have BQs := hide (((unhide HBc).block _ hlq).trans (unhide BQ0))
          have HV2 : Hid (AnsV W20 (some ⟨g9, 0, none⟩) m c9 zs2) := hide (by
            obtain ⟨a', c', e', hv⟩ := (unhide HA2).ansV
            rw [unhide HL2] at e' hv
            simp only [Value.slice.injEq, true_and] at e'
            obtain ⟨e1, e2⟩ := e'
            rw [e1, e2]
            exact hv)
          obtain ⟨y0, y1⟩ := box_2 (unhide BQs)
          go_wp2_with fail
          refine (auditCheck_any _ _ _ _ _ _ _ L _ _ _ zs2 _ (unhide HK) (unhide HV2) hm9 (unhide HPZ2)).mono ?_
          rintro e w21 ⟨he, b21⟩
          rw [unhide BAD2] at he
          subst he
          replace BXX := hide ((b21.block _ (lt_of_block (unhide BXX))).trans (unhide BXX))
          replace HA2 := hide ((unhide HA2).below b21)
          replace HV2 := hide ((unhide HV2).below b21)
          replace HB9 := hide (bt (unhide HB9) b21)
          replace HBc := hide (bt (unhide HBc) b21)
          clear b21 y0 y1 HK BQs BAD2
          obtain ⟨ab', ao', px', cx', ea', _, z0, z1, z2, _⟩ := (unhide HV2).at hjm'
          simp only [Option.some.injEq, Addr.mk.injEq, and_true] at ea'
          obtain ⟨e1, e2⟩ := ea'
          rw [← e1, ← e2, Nat.zero_add] at z0 z1 z2
          clear e1 e2
          have fz := fun i => World.ownsRow.frozenAt (n := m) (w := w21) (g := g9) (cap := c9) (xs := ansCells us zs2) (by have h := (unhide HA2).outer; rw [unhide HL2] at h; exact h) i
          have f0 := fz (jj * 3)
          have f1 := fz (jj * 3 + 1)
          have f2 := fz (jj * 3 + 2)
          clear fz
          obtain ⟨x0, x1, x2⟩ := box_three (unhide BXX)
          rw [← unhide EBK] at x0
          go_upto_region 42 with fail
          have hA3 := (unhide HA2).putAll (by decide) (unhide HL2) (j := jj) (by rw [unhide HL2]; exact hjm') bk (unhide HUS) zx.keyed
          have e2g : (zs2.getD jj ans0).path = (zs.getD jj ans0).path := by rw [unhide EZ2, set_getD (by rw [unhide HZL]; exact hjm'), if_pos rfl]
          rw [e2g, unhide EZ2, ans_back (by rw [unhide HZL]; exact hjm') _ _ _ (by rw [unhide EBK, unhide EZX]) (by rw [unhide EZX])] at hA3
          have HA3 := hide hA3
          have hB22 := (((unhide HB9).setCell (p := ⟨g9, jj * 3, none⟩) hw9 (.string bk)).setCell (p := ⟨g9, jj * 3 + 1, none⟩) hw9 (.slice px zx.path.length cx)).setCell (p := ⟨g9, jj * 3 + 2, none⟩) hw9 (.int .i64 zx.keyed)
          have hC22 := (((unhide HBc).setCell (p := ⟨g9, jj * 3, none⟩) hg9 (.string bk)).setCell (p := ⟨g9, jj * 3 + 1, none⟩) hg9 (.slice px zx.path.length cx)).setCell (p := ⟨g9, jj * 3 + 2, none⟩) hg9 (.int .i64 zx.keyed)
          replace HB9 := hide hB22
          replace HBc := hide hC22
          clear hA3 e2g hB22 hC22 z0 z1 z2 f0 f1 f2 x0 x1 x2 HV2 HA2 BXX
          generalize (((w21.setCell ⟨g9, jj * 3, none⟩ (.string bk)).setCell ⟨g9, jj * 3 + 1, none⟩ (.slice px zx.path.length cx)).setCell ⟨g9, jj * 3 + 2, none⟩ (.int .i64 zx.keyed)) = W22 at *
          have HK := hide ((unhide HKc).below (unhide HBc))
          have BQs := hide (((unhide HBc).block _ hlq).trans (unhide BQ0))
          have HV3 : Hid (AnsV W22 (some ⟨g9, 0, none⟩) m c9 zs) := hide (by
            obtain ⟨a', c', e', hv⟩ := (unhide HA3).ansV
            rw [unhide HZL] at e' hv
            simp only [Value.slice.injEq, true_and] at e'
            obtain ⟨e1, e2⟩ := e'
            rw [e1, e2]
            exact hv)
          have ht3 := (unhide HV3).tail (by omega)
          rw [Nat.zero_add] at ht3
          have HT := hide ht3
          clear ht3
          have hbad := decide_eq_false (p := Aud (R : Int) j k N L (zs.drop 1)) (fun ha => by
            have h1 := ha.1.2.1
            rw [List.length_drop, unhide HZL, hLl] at h1
            omega)
          have BAD3 := hide hbad
          have HPZ3 : Hid (∀ j, j < m - 1 → ((zs.drop 1).getD j ans0).path.length ≤ 140737488351232) := hide (fun j' hj' => by
            have e : (zs.drop 1).getD j' ans0 = zs.getD (1 + j') ans0 := by simp [List.getD, Nat.add_comm]
            rw [e]; exact unhide HPZ _ (by omega))
          clear hbad
          obtain ⟨y0, y1⟩ := box_2 (unhide BQs)
          have k0 := kept_cell (B := W22.heap.size) y0 (cell_lt y0)
          have k1 := kept_cell (B := W22.heap.size) y1 (cell_lt y1)
          clear y0 y1
          refine wp_region_ord_then (S := Below W22.heap.size W22) [(true, 0), (true, 1), (true, 2), (true, 3), (true, 4), (true, 5), (false, 6), (true, 7), (true, 8), (true, 9), (true, 10), (true, 11), (true, 12), (true, 13), (true, 14), (false, 15), (true, 16), (true, 17)] (List.cons_ne_nil _ _) (by kernel_rfl) (by kernel_rfl) (by kernel_rfl) (by kernel_rfl) (by kernel_rfl) ((Below.refl _ _).drew) ?_
          simp only [List.dropLast_cons_cons, List.dropLast_singleton, List.getLast_cons_cons, List.getLast_singleton, withOps, List.map_cons, List.map_nil, List.getElem?_cons_succ, List.getElem?_cons_zero]
          repeat (refine walkH_read (by rfl) (by (intro gx; go_simp; try (with_reducible rfl))) ?_; try simp only [Act.put, List.setIfInBounds_toArray, List.set_cons_zero, List.set_cons_succ])
          refine walkH_do rfl (fun K hK => ?_)
          go_simp
          refine (auditCheck_any _ _ _ _ _ _ _ L _ _ _ zs _ ((unhide HK).below ((Below.refl _ _).drew)) ((unhide HV3).below ((Below.refl _ _).drew)) hm9 (unhide HPZ)).mono ?_
          rintro e w23 ⟨he, b23⟩
          rw [unhide T1] at he
          subst he
          have hb23 : Below W22.heap.size W22 w23 := ((Below.refl _ _).drew).trans b23
          refine hK _ _ hb23 ?_
          clear hK K b23
          try simp only [Act.put, List.setIfInBounds_toArray, List.set_cons_zero, List.set_cons_succ]
          have hm2 : (1 : Int) ≤ m := by omega
          repeat (refine walkH_read (by rfl) (by (intro gx; go_simp; try (with_reducible rfl))) ?_; try simp only [Act.put, List.setIfInBounds_toArray, List.set_cons_zero, List.set_cons_succ])
          refine walkH_do rfl (fun K hK => ?_)
          go_simp
          generalize (if c9 = 1 then some (⟨g9, 0, none⟩ : Addr) else some ⟨g9, 3, none⟩) = TA at *
          refine (auditCheck_any _ _ _ _ _ _ _ L _ _ _ (zs.drop 1) _ ((unhide HK).below hb23) ((unhide HT).below hb23) hm9 (unhide HPZ3)).mono ?_
          rintro e w24 ⟨he, b24⟩
          rw [unhide BAD3] at he
          subst he
          have hb24 : Below W22.heap.size W22 w24 := bt hb23 b24
          refine hK _ _ hb24 ?_
          clear hK K b24 k0 k1
          try simp only [Act.put, List.setIfInBounds_toArray, List.set_cons_zero, List.set_cons_succ]
          repeat (refine walkH_read (by rfl) (by (intro gx; go_simp; try (with_reducible rfl))) ?_; try simp only [Act.put, List.setIfInBounds_toArray, List.set_cons_zero, List.set_cons_succ])
          refine lastPost_of_list ?_
          simp only [List.cons_append, List.nil_append]
          go_wp2
          refine NoPanic.normal ?_
          go_wp2
          go_ret
          exact ⟨rfl, bt (unhide HB9) hb24⟩
end Go.Proofs.Ytmphbajnadbggaa
/- Plain facts on slices that came in. -/
namespace Go.Proofs.Ytmphbajnadbggaa
open Go.RowKit
set_option linter.unusedVariables false
/-- a slice of bytes reads xs -/
def Bytes (w : World) (a : Option Addr) (n cap : Nat) (xs : List Int) : Prop := xs.length = n ∧ IsRow w a n cap (fun i => .int .u8 (xs.getD i 0))
theorem row_le {w : World} {a : Option Addr} {n cap : Nat} {f : Nat → Value} (h : IsRow w a n cap f) : n ≤ cap := by
  rcases h with h | h | h <;> omega
theorem getD_take {α : Type} {zs : List α} {n i : Nat} (d : α) (h : i < n) : (zs.take n).getD i d = zs.getD i d := by
  simp [List.getD, h]
theorem row_of_add {w : World} {x : Addr} {n cap : Nat} {f : Nat → Value} (hl : n ≤ cap) (hc : ∀ i, i < n → w.cell? (x.add i) = some (f i)) : IsRow w (some x) n cap f := by
  by_cases h0 : n = 0
  · exact .inr (.inl ⟨h0, x, rfl⟩)
  · obtain ⟨b, off, spot⟩ := x
    have h := hc 0 (by omega)
    have hs : spot = none := by simpa [Addr.add] using World.cell?_spot h
    subst hs
    refine .inr (.inr ⟨by omega, hl, b, off, rfl, fun i hi => ?_⟩)
    have := hc i hi
    have e : (⟨b, off, none⟩ : Addr).add i = ⟨b, off + i, none⟩ := by unfold Addr.add; split <;> simp_all
    rw [e] at this; exact this
end Go.Proofs.Ytmphbajnadbggaa
/- Opening what came in: by the shape of its type. -/
namespace Go.Proofs.Ytmphbajnadbggaa
open Go.RowKit Go.ChangeShapes Go.WideShapes
set_option linter.unusedVariables false
set_option linter.unusedSimpArgs false
section
variable {H : Type} {enc : TypeId × Value → H} {P : Program}
/-- whatever is read at type t, of which no part is too great, is as R says -/
def Opens (enc : TypeId × Value → H) (P : Program) (t : TypeId) (R : World → List Value → Prop) : Prop :=
  ∀ (w : World) (fuel : Nat) (cs : List Value) (x : DataW H × List MemPlace), DataW.trod enc P w 0 (fun _ => true) true fuel t cs = some x → (∀ n ∈ x.1.weights P t, n ≤ reachBytes) → R w cs
theorem Opens.mono {t : TypeId} {R R' : World → List Value → Prop} (h : Opens enc P t R) (h' : ∀ w cs, R w cs → R' w cs) : Opens enc P t R' := fun w fuel cs x hx hw => h' w cs (h w fuel cs x hx hw)
theorem opens_int {t : TypeId} {k : IntKind} (ht : P.underlying t = some (.int k)) : Opens enc P t (fun _ cs => ∃ z, cs = [.int k z] ∧ (Lit.int k z).wf = true) := by
  intro w fuel cs x h _
  cases fuel with
  | zero => simp [DataW.trod] at h
  | succ n =>
    unfold DataW.trod at h
    rw [ht] at h
    split at h <;> simp_all
theorem opens_bool {t : TypeId} (ht : P.underlying t = some .bool) : Opens enc P t (fun _ cs => ∃ b, cs = [.bool b]) := by
  intro w fuel cs x h _
  cases fuel with
  | zero => simp [DataW.trod] at h
  | succ n =>
    unfold DataW.trod at h
    rw [ht] at h
    split at h <;> simp_all
theorem opens_string {t : TypeId} (ht : P.underlying t = some .string) : Opens enc P t (fun _ cs => ∃ s : ByteArray, cs = [.string s] ∧ s.size ≤ reachBytes) := by
  intro w fuel cs x h hw
  cases fuel with
  | zero => simp [DataW.trod] at h
  | succ n =>
    unfold DataW.trod at h
    rw [ht] at h
    split at h <;> try simp_all
    rename_i s
    obtain ⟨h1, rfl⟩ := h
    have := hw s.size (by simp [DataW.weights])
    simpa using this
theorem weightsAll_mem {e : TypeId} : ∀ {l : List (DataW H)} {d : DataW H} {n : Nat}, d ∈ l → n ∈ d.weights P e → n ∈ DataW.weightsAll P e l
  | d0 :: l, d, n, hd, hn => by
    simp only [DataW.weightsAll, List.mem_append]
    rcases List.mem_cons.1 hd with rfl | hd
    · exact .inl hn
    · exact .inr (weightsAll_mem hd hn)
/-- a slice whose elements (each of c cells) are as R says -/
def SliceR (R : World → List Value → Prop) (c : Nat) (w : World) (a : Option Addr) (n cap : Nat) : Prop :=
  (a = none ∧ n = 0 ∧ cap = 0) ∨ ∃ x : Addr, a = some x ∧ n ≤ cap ∧ cap ≤ maxLen ∧ ∀ i, i < cap → ∃ cs, w.cells? 0 (x.add (i * c)) c = some cs ∧ R w cs
theorem opens_slice {t e : TypeId} {R : World → List Value → Prop} (ht : P.underlying t = some (.slice e)) (hR : Opens enc P e R) :
    Opens enc P t (fun w cs => ∃ a n cap, cs = [.slice a n cap] ∧ SliceR R (P.cellsOf e) w a n cap ∧ cap * P.bytesOf e ≤ reachBytes) := by
  intro w fuel cs x h hw
  rcases Go.Deep.open_slice ht h with ⟨rfl, _⟩ | ⟨a, len, cap, m, n, D, Pl, rfl, hb, hl, hm, hmm, rfl, hx⟩
  · exact ⟨none, 0, 0, rfl, .inl ⟨rfl, rfl, rfl⟩, by simp⟩
  · simp only [if_true] at hmm
    subst hmm
    simp only [DataW.weights, ht, List.length_map, List.length_range] at hw
    have h0 := hw _ (List.mem_cons_self ..)
    rw [show len + (m - len) = m by omega] at h0
    refine ⟨some a, len, m, rfl, .inr ⟨a, rfl, hl, hm, fun i hi => ?_⟩, h0⟩
    obtain ⟨cs', h1, h2⟩ := hx i hi
    refine ⟨cs', h1, hR w n cs' _ h2 (fun k hk => hw k ?_)⟩
    refine List.mem_cons_of_mem _ ?_
    rw [List.mem_append]
    by_cases hil : i < len
    · exact .inl (weightsAll_mem (d := D i) (List.mem_map.2 ⟨i, by simpa using hil, rfl⟩) hk)
    · exact .inr (weightsAll_mem (d := D i) (List.mem_map.2 ⟨i - len, by simp; omega, by rw [show len + (i - len) = i by omega]⟩) hk)
theorem opens_struct {t : TypeId} {fs : Array Field} {R : Nat → World → List Value → Prop} (ht : P.underlying t = some (.struct fs)) (hR : ∀ (i : Nat) f, fs[i]? = some f → Opens enc P f.type (R i)) :
    Opens enc P t (fun w cs => cs.length = P.cellsOf t ∧ ∀ (i : Nat) f, fs[i]? = some f → R i w ((cs.drop f.offset).take (P.cellsOf f.type))) := by
  intro w fuel cs x h hw
  obtain ⟨xs, n, rfl, rfl, hl, hxl, hx⟩ := DataW.trod_struct ht h
  refine ⟨hl, fun i f hf => ?_⟩
  have hi : i < fs.size := (Array.getElem?_eq_some_iff.1 hf).1
  have hxi := hx i f hf
  rw [List.getElem?_eq_getElem (by omega)] at hxi
  refine hR i f hf w n _ _ hxi (fun k hk => hw k ?_)
  simp only [DataW.weights, ht]
  refine DataW.weights_mem_each (j := i) (t := f.type) (d := (xs[i]'(by omega)).1) ?_ ?_ k hk
  · simp [hf]
  · simp [List.getElem?_eq_getElem (show i < xs.length by omega)]
theorem okWide_struct {w : World} {r : Reach} {base : Nat} {t : TypeId} {v : Value} {fs : Array Field} (ht : P.underlying t = some (.struct fs)) (h : Value.okWide P w r base t v) : ∃ cs, v = .agg cs := by
  unfold Value.okWide at h
  rw [ht] at h
  obtain ⟨cs, rfl, _⟩ := h
  exact ⟨cs, rfl⟩
theorem cells_one {w : World} {x : Addr} {c : List Value} (h : w.cells? 0 x 1 = some c) : ∃ v, c = [v] ∧ w.cell? x = some v := by
  obtain ⟨_, hl, hc⟩ := World.cells?_some h
  match c, hl with
  | [v], _ =>
    have := hc 0 (by omega)
    have e : x.add 0 = x := by unfold Addr.add; split <;> simp_all
    rw [e] at this
    exact ⟨v, rfl, by simpa using this⟩
/-- a slice of elements of one cell: a row of values, each as R says -/
theorem SliceR.row {R : World → List Value → Prop} {w : World} {a : Option Addr} {n cap : Nat} (h : SliceR R 1 w a n cap) : ∃ f : Nat → Value, IsRow w a n cap f ∧ n ≤ cap ∧ n ≤ maxLen ∧ ∀ i, i < n → R w [f i] := by
  rcases h with ⟨rfl, rfl, rfl⟩ | ⟨x, rfl, hl, hm, hc⟩
  · exact ⟨fun _ => undef, .inl ⟨rfl, rfl, rfl⟩, Nat.le_refl _, Nat.zero_le _, fun i hi => by omega⟩
  · have each : ∀ i, i < cap → ∃ v, w.cell? (x.add i) = some v ∧ R w [v] := fun i hi => by
      obtain ⟨cs, h1, h2⟩ := hc i hi
      rw [Nat.mul_one] at h1
      obtain ⟨v, rfl, hv⟩ := cells_one h1
      exact ⟨v, hv, h2⟩
    refine ⟨fun i => if h : i < cap then (each i h).choose else undef, row_of_add hl (fun i hi => ?_), hl, Nat.le_trans hl hm, fun i hi => ?_⟩
    · have hi' : i < cap := by omega
      simp only [dif_pos hi']; exact (each i hi').choose_spec.1
    · have hi' : i < cap := by omega
      simp only [dif_pos hi']; exact (each i hi').choose_spec.2
theorem list_of {α : Type} {p : Nat → α → Prop} {n : Nat} (d : α) (h : ∀ i, i < n → ∃ x, p i x) : ∃ l : List α, l.length = n ∧ ∀ i, i < n → p i (l.getD i d) := by
  refine ⟨(List.range n).map (fun i => if h' : i < n then (h i h').choose else d), by simp, fun i hi => ?_⟩
  have e : ((List.range n).map (fun i => if h' : i < n then (h i h').choose else d)).getD i d = (h i hi).choose := by
    simp [List.getD, hi]
  rw [e]; exact (h i hi).choose_spec
theorem IsRow.congr' {w : World} {a : Option Addr} {n cap : Nat} {f g : Nat → Value} (h : IsRow w a n cap f) (he : ∀ i, i < n → f i = g i) : IsRow w a n cap g := by
  rcases h with h | h | ⟨h1, h2, b, off, e, hc⟩
  · exact .inl h
  · exact .inr (.inl h)
  · exact .inr (.inr ⟨h1, h2, b, off, e, fun i hi => by rw [hc i hi, he i hi]⟩)
/-- a slice of ints that came in -/
def GotInts (w : World) (cs : List Value) : Prop := ∃ a n cap xs, cs = [.slice a n cap] ∧ Ints w a n cap xs ∧ cap * 8 ≤ reachBytes ∧ n ≤ cap ∧ ∀ x ∈ xs, (Lit.int .i64 x).wf = true
theorem opens_ints {t e : TypeId} (ht : P.underlying t = some (.slice e)) (he : P.underlying e = some (.int .i64)) (hc : P.cellsOf e = 1) (hb : P.bytesOf e = 8) : Opens enc P t GotInts := by
  refine (opens_slice ht (opens_int he)).mono ?_
  rintro w cs ⟨a, n, cap, rfl, hs, hbd⟩
  rw [hc] at hs
  rw [hb] at hbd
  obtain ⟨f, hr, hl, hm, hR⟩ := hs.row
  obtain ⟨xs, hxl, hx⟩ := list_of (α := Int) (p := fun i z => f i = .int .i64 z ∧ (Lit.int .i64 z).wf = true) 0 (fun i hi => by
    obtain ⟨z, h1, h2⟩ := hR i hi
    exact ⟨z, by simpa using h1, h2⟩)
  refine ⟨a, n, cap, xs, rfl, ⟨hxl, hr.congr' (fun i hi => (hx i hi).1)⟩, hbd, hl, fun z hz => ?_⟩
  obtain ⟨i, hi, rfl⟩ := List.getElem_of_mem hz
  have := (hx i (by omega)).2
  simpa [List.getD, List.getElem?_eq_getElem hi] using this
/-- a slice of strings that came in -/
def GotStrs (w : World) (cs : List Value) : Prop := ∃ a n cap xs, cs = [.slice a n cap] ∧ Strs w a n cap xs ∧ cap * 16 ≤ reachBytes ∧ n ≤ cap ∧ ∀ x ∈ xs, x.size ≤ reachBytes
theorem opens_strs {t e : TypeId} (ht : P.underlying t = some (.slice e)) (he : P.underlying e = some .string) (hc : P.cellsOf e = 1) (hb : P.bytesOf e = 16) : Opens enc P t GotStrs := by
  refine (opens_slice ht (opens_string he)).mono ?_
  rintro w cs ⟨a, n, cap, rfl, hs, hbd⟩
  rw [hc] at hs
  rw [hb] at hbd
  obtain ⟨f, hr, hl, hm, hR⟩ := hs.row
  obtain ⟨xs, hxl, hx⟩ := list_of (α := ByteArray) (p := fun i z => f i = .string z ∧ z.size ≤ reachBytes) ByteArray.empty (fun i hi => by
    obtain ⟨z, h1, h2⟩ := hR i hi
    exact ⟨z, by simpa using h1, h2⟩)
  refine ⟨a, n, cap, xs, rfl, ⟨hxl, hr.congr' (fun i hi => (hx i hi).1)⟩, hbd, hl, fun z hz => ?_⟩
  obtain ⟨i, hi, rfl⟩ := List.getElem_of_mem hz
  have := (hx i (by omega)).2
  simpa [List.getD, List.getElem?_eq_getElem hi] using this
/-- rows of numbers that came in -/
def GotRows (w : World) (cs : List Value) : Prop := ∃ a n cap M, cs = [.slice a n cap] ∧ RowsV w a n cap M ∧ cap * 24 ≤ reachBytes ∧ n ≤ cap ∧ ∀ i, (M.getD i []).length * 8 ≤ reachBytes
theorem opens_rows {t e q : TypeId} (ht : P.underlying t = some (.slice e)) (he : P.underlying e = some (.slice q)) (hq : P.underlying q = some (.int .i64)) (ce : P.cellsOf e = 1) (be : P.bytesOf e = 24) (cq : P.cellsOf q = 1) (bq : P.bytesOf q = 8) : Opens enc P t GotRows := by
  refine (opens_slice ht (opens_ints he hq cq bq)).mono ?_
  rintro w cs ⟨a, n, cap, rfl, hs, hbd⟩
  rw [ce] at hs
  rw [be] at hbd
  obtain ⟨f, hr, hl, hm, hR⟩ := hs.row
  obtain ⟨M, hMl, hM⟩ := list_of (α := List Int) (p := fun i r => RowV w (f i) r ∧ r.length * 8 ≤ reachBytes) [] (fun i hi => by
    obtain ⟨a', n', cap', xs, h1, h2, h3, h4, _⟩ := hR i hi
    have hlen := h2.1
    have hn' : n' * 8 ≤ reachBytes := Nat.le_trans (Nat.mul_le_mul_right _ h4) h3
    refine ⟨xs, ⟨a', n', cap', by simpa using h1, ?_, h2⟩, by rw [hlen]; exact hn'⟩
    unfold reachBytes at hn'
    unfold maxLen
    omega)
  refine ⟨a, n, cap, M, rfl, ⟨f, hMl, hm, hr, fun i hi => (hM i hi).1⟩, hbd, hl, fun i => ?_⟩
  by_cases hi : i < n
  · exact (hM i hi).2
  · rw [show M.getD i [] = [] by simp [List.getD, List.getElem?_eq_none (show M.length ≤ i by omega)]]
    simp
/-- a matrix that came in -/
def GotMatrix (w : World) (cs : List Value) : Prop := ∃ M, MatV w (.agg cs.toArray) M ∧ M.length * 24 ≤ 140737488351232 ∧ ∀ i, (M.getD i []).length * 8 ≤ 140737488351232
theorem opens_matrix {t r e q : TypeId} {f : Field} (ht : P.underlying t = some (.struct #[f])) (ct : P.cellsOf t = 1) (f0 : f.offset = 0) (fr : f.type = r) (cr : P.cellsOf r = 1) (hr : P.underlying r = some (.slice e)) (he : P.underlying e = some (.slice q)) (hq : P.underlying q = some (.int .i64)) (ce : P.cellsOf e = 1) (be : P.bytesOf e = 24) (cq : P.cellsOf q = 1) (bq : P.bytesOf q = 8) : Opens enc P t GotMatrix := by
  refine (opens_struct (R := fun _ => GotRows) ht (fun i g hg => ?_)).mono ?_
  · have : i = 0 ∧ g = f := by
      match i with
      | 0 => simp at hg; exact ⟨rfl, hg.symm⟩
      | i + 1 => simp at hg
    obtain ⟨rfl, rfl⟩ := this
    rw [fr]
    exact opens_rows hr he hq ce be cq bq
  · rintro w cs ⟨hl, h⟩
    have h0 := h 0 f rfl
    rw [f0, fr, cr, List.drop_zero, List.take_of_length_le (by rw [hl, ct]; exact Nat.le_refl _)] at h0
    obtain ⟨a, n, cap, M, rfl, hM, h1, h2, h3⟩ := h0
    have hml : M.length = n := by obtain ⟨_, h, _⟩ := hM; exact h
    refine ⟨M, ⟨a, n, cap, rfl, hM⟩, ?_, h3⟩
    rw [hml]
    exact Nat.le_trans (Nat.mul_le_mul_right _ h2) h1
end
end Go.Proofs.Ytmphbajnadbggaa
/- Opening structs and slices of structs that came in. -/
namespace Go.Proofs.Ytmphbajnadbggaa
open Go.RowKit Go.ChangeShapes Go.WideShapes
set_option linter.unusedVariables false
set_option linter.unusedSimpArgs false
theorem rec_of_add {w : World} {x : Addr} {n cap z : Nat} {f : Nat → Value} (hz : 0 < z) (hl : n ≤ cap) (hc : ∀ i, i < n * z → w.cell? (x.add i) = some (f i)) : RecV w (some x) n cap z f := by
  by_cases h0 : n = 0
  · exact .inr (.inl ⟨h0, x, rfl⟩)
  · obtain ⟨b, off, spot⟩ := x
    have h := hc 0 (Nat.mul_pos (by omega) hz)
    have hs : spot = none := by simpa [Addr.add] using World.cell?_spot h
    subst hs
    refine .inr (.inr ⟨by omega, hl, b, off, rfl, fun i hi => ?_⟩)
    have := hc i hi
    rw [add_row] at this; exact this
theorem addr_two (x : Addr) (i j : Nat) : (x.add i).add j = x.add (i + j) := by
  unfold Addr.add
  by_cases hi : i = 0
  · subst hi; simp
  · by_cases hj : j = 0
    · subst hj; simp
    · rw [if_neg hi, if_neg hj, if_neg (by omega)]
      simp [Nat.add_assoc]
/-- a slice of structs: its cells, and what each struct's are -/
theorem SliceR.recs {R : World → List Value → Prop} {w : World} {a : Option Addr} {n cap z : Nat} (hz : 0 < z) (h : SliceR R z w a n cap) :
    ∃ f : Nat → Value, RecV w a n cap z f ∧ n ≤ cap ∧ n ≤ maxLen ∧ ∀ i, i < n → ∃ cs, cs.length = z ∧ R w cs ∧ ∀ j, j < z → cs[j]? = some (f (i * z + j)) := by
  rcases h with ⟨rfl, rfl, rfl⟩ | ⟨x, rfl, hl, hm, hc⟩
  · exact ⟨fun _ => undef, .inl ⟨rfl, rfl, rfl⟩, Nat.le_refl _, Nat.zero_le _, fun i hi => by omega⟩
  · have each : ∀ i, i < n → ∃ cs : List Value, cs.length = z ∧ R w cs ∧ ∀ j, j < z → ∃ v, cs[j]? = some v ∧ w.cell? (x.add (i * z + j)) = some v := fun i hi => by
      obtain ⟨cs, h1, h2⟩ := hc i (by omega)
      obtain ⟨_, h3, h4⟩ := World.cells?_some h1
      refine ⟨cs, h3, h2, fun j hj => ?_⟩
      have h5 := h4 j hj
      rw [List.getElem?_eq_getElem (by omega)] at h5
      exact ⟨cs[j], List.getElem?_eq_getElem _, by rw [← addr_two]; exact h5⟩
    let cs : Nat → List Value := fun i => if h : i < n then (each i h).choose else []
    have hcs : ∀ i, i < n → (cs i).length = z ∧ R w (cs i) ∧ ∀ j, j < z → ∃ v, (cs i)[j]? = some v ∧ w.cell? (x.add (i * z + j)) = some v := fun i hi => by
      have := (each i hi).choose_spec
      simp only [cs, dif_pos hi]; exact this
    refine ⟨fun k => (cs (k / z)).getD (k % z) undef, rec_of_add hz hl (fun k hk => ?_), hl, Nat.le_trans hl hm, fun i hi => ?_⟩
    · have hd : k / z < n := Nat.div_lt_of_lt_mul (by rw [Nat.mul_comm]; exact hk)
      have hm' : k % z < z := Nat.mod_lt _ hz
      obtain ⟨v, h1, h2⟩ := (hcs _ hd).2.2 _ hm'
      have e : k / z * z + k % z = k := by rw [Nat.mul_comm]; exact Nat.div_add_mod k z
      rw [e] at h2
      rw [h2]
      simp [List.getD, h1]
    · obtain ⟨h1, h2, h3⟩ := hcs i hi
      refine ⟨cs i, h1, h2, fun j hj => ?_⟩
      have e1 : (i * z + j) / z = i := by rw [Nat.mul_comm, Nat.mul_add_div hz]; simp [Nat.div_eq_of_lt hj]
      have e2 : (i * z + j) % z = j := by rw [Nat.mul_comm, Nat.mul_add_mod]; exact Nat.mod_eq_of_lt hj
      show (cs i)[j]? = some ((cs ((i * z + j) / z)).getD ((i * z + j) % z) undef)
      rw [e1, e2]
      obtain ⟨v, h4, _⟩ := h3 j hj
      rw [h4]
      simp [List.getD, h4]
section
variable {H : Type} {enc : TypeId × Value → H} {P : Program}
/-- a struct of fields of one cell each -/
theorem opens_flat {t : TypeId} {fs : Array Field} {n : Nat} {R : Nat → World → List Value → Prop} (ht : P.underlying t = some (.struct fs)) (ct : P.cellsOf t = n) (hn : fs.size = n) (ho : ∀ (i : Nat) f, fs[i]? = some f → f.offset = i ∧ P.cellsOf f.type = 1)
    (hR : ∀ (i : Nat) f, fs[i]? = some f → Opens enc P f.type (R i)) : Opens enc P t (fun w cs => cs.length = n ∧ ∀ i, i < n → ∃ v, cs[i]? = some v ∧ R i w [v]) := by
  refine (opens_struct ht hR).mono ?_
  rintro w cs ⟨hl, h⟩
  rw [ct] at hl
  refine ⟨hl, fun i hi => ?_⟩
  have hf : fs[i]? = some (fs[i]'(by omega)) := Array.getElem?_eq_getElem _
  have := h i _ hf
  obtain ⟨o1, o2⟩ := ho i _ hf
  rw [o1, o2] at this
  have e : (cs.drop i).take 1 = [cs[i]'(by omega)] := by
    rw [List.drop_eq_getElem_cons (by omega)]
    rfl
  rw [e] at this
  exact ⟨cs[i]'(by omega), List.getElem?_eq_getElem _, this⟩
end
end Go.Proofs.Ytmphbajnadbggaa
/- Opening a question, and answers, that came in. -/
namespace Go.Proofs.Ytmphbajnadbggaa
open Go.RowKit Go.ChangeShapes Go.WideShapes
set_option linter.unusedVariables false
set_option linter.unusedSimpArgs false
section
variable {H : Type} {enc : TypeId × Value → H} {P : Program}
theorem getD_of_some {α : Type} {l : List α} {i : Nat} {v d : α} (h : l[i]? = some v) : v = l.getD i d := by simp [List.getD, h]
def GotAsk (w : World) (cs : List Value) : Prop := ∃ q a n cap xs, cs = [.int .i64 q, .slice a n cap] ∧ (Lit.int .i64 q).wf = true ∧ Ints w a n cap xs ∧ n * 8 ≤ reachBytes
theorem opens_ask {t r e : TypeId} {f g : Field} (ht : P.underlying t = some (.struct #[f, g])) (ct : P.cellsOf t = 2) (f0 : f.offset = 0) (g0 : g.offset = 1) (fr : f.type = e) (gr : g.type = r) (hr : P.underlying r = some (.slice e)) (cr : P.cellsOf r = 1)
    (he : P.underlying e = some (.int .i64)) (ce : P.cellsOf e = 1) (be : P.bytesOf e = 8) : Opens enc P t GotAsk := by
  refine (opens_flat (R := fun i => if i = 0 then (fun _ cs => ∃ z, cs = [.int .i64 z] ∧ (Lit.int .i64 z).wf = true) else GotInts) ht ct rfl (fun i h hh => ?_) (fun i h hh => ?_)).mono ?_
  · match i with
    | 0 => simp at hh; subst hh; exact ⟨f0, by rw [fr]; exact ce⟩
    | 1 => simp at hh; subst hh; exact ⟨g0, by rw [gr]; exact cr⟩
    | i + 2 => simp at hh
  · match i with
    | 0 => simp at hh; subst hh; rw [fr]; exact opens_int he
    | 1 => simp at hh; subst hh; rw [gr]; exact opens_ints hr he ce be
    | i + 2 => simp at hh
  · rintro w cs ⟨hl, h⟩
    obtain ⟨v0, h0, z, e0, wz⟩ := h 0 (by decide)
    obtain ⟨v1, h1, a, n, cap, xs, e1, hI, hb, hle, _⟩ := h 1 (by decide)
    simp only [List.cons.injEq, and_true] at e0 e1
    subst e0 e1
    match cs, hl with
    | [x, y], _ =>
      simp at h0 h1
      subst h0 h1
      exact ⟨z, a, n, cap, xs, rfl, wz, hI, Nat.le_trans (Nat.mul_le_mul_right _ hle) hb⟩
def GotAnswers (w : World) (cs : List Value) : Prop := ∃ a n cap zs, cs = [.slice a n cap] ∧ AnsV w a n cap zs ∧ n * 48 ≤ reachBytes ∧ ∀ j, j < n → (zs.getD j ans0).path.length * 8 ≤ reachBytes
theorem opens_answers {t u s r e : TypeId} {f g h : Field} (ht : P.underlying t = some (.slice u)) (hu : P.underlying u = some (.struct #[f, g, h])) (cu : P.cellsOf u = 3) (bu : P.bytesOf u = 48)
    (f0 : f.offset = 0) (g0 : g.offset = 1) (h0 : h.offset = 2) (fr : f.type = s) (gr : g.type = r) (hr' : h.type = e) (hs : P.underlying s = some .string) (cs' : P.cellsOf s = 1) (hr : P.underlying r = some (.slice e)) (cr : P.cellsOf r = 1)
    (he : P.underlying e = some (.int .i64)) (ce : P.cellsOf e = 1) (be : P.bytesOf e = 8) : Opens enc P t GotAnswers := by
  have hU : Opens enc P u (fun w cs => ∃ (z : Ans) (p : Option Addr) (m c : Nat) (xs : List Int), cs = [.string z.blk, .slice p m c, .int .i64 z.keyed] ∧ z.path = xs ∧ m = xs.length ∧ Ints w p m c xs ∧ m * 8 ≤ reachBytes) := by
    refine (opens_flat (R := fun i => if i = 0 then (fun _ cs => ∃ s : ByteArray, cs = [.string s] ∧ s.size ≤ reachBytes) else if i = 1 then GotInts else (fun _ cs => ∃ z, cs = [.int .i64 z] ∧ (Lit.int .i64 z).wf = true)) hu cu rfl (fun i k hh => ?_) (fun i k hh => ?_)).mono ?_
    · match i with
      | 0 => simp at hh; subst hh; exact ⟨f0, by rw [fr]; exact cs'⟩
      | 1 => simp at hh; subst hh; exact ⟨g0, by rw [gr]; exact cr⟩
      | 2 => simp at hh; subst hh; exact ⟨h0, by rw [hr']; exact ce⟩
      | i + 3 => simp at hh
    · match i with
      | 0 => simp at hh; subst hh; rw [fr]; exact opens_string hs
      | 1 => simp at hh; subst hh; rw [gr]; exact opens_ints hr he ce be
      | 2 => simp at hh; subst hh; rw [hr']; exact opens_int he
      | i + 3 => simp at hh
    · rintro w cs ⟨hl, h⟩
      obtain ⟨v0, h0, z, e0, _⟩ := h 0 (by decide)
      obtain ⟨v1, h1, a, n, cap, xs, e1, hI, hb, hle, _⟩ := h 1 (by decide)
      obtain ⟨v2, h2, y, e2, _⟩ := h 2 (by decide)
      simp only [List.cons.injEq, and_true] at e0 e1 e2
      subst e0 e1 e2
      match cs, hl with
      | [x0, x1, x2], _ =>
        simp at h0 h1 h2
        subst h0 h1 h2
        exact ⟨⟨z, xs, y⟩, a, n, cap, xs, rfl, rfl, hI.1.symm, hI, Nat.le_trans (Nat.mul_le_mul_right _ hle) hb⟩
  refine (opens_slice ht hU).mono ?_
  rintro w cs ⟨a, n, cap, rfl, hS, hbd⟩
  rw [cu] at hS
  rw [bu] at hbd
  obtain ⟨f', hR, hle, hm, hE⟩ := hS.recs (by decide)
  obtain ⟨l, hll, hl⟩ := list_of (α := Value × Ans) (p := fun i y => f' (i * 3) = .string y.2.blk ∧ f' (i * 3 + 1) = y.1 ∧ f' (i * 3 + 2) = .int .i64 y.2.keyed ∧ ∃ p c, y.1 = .slice p y.2.path.length c ∧ Ints w p y.2.path.length c y.2.path ∧ y.2.path.length * 8 ≤ reachBytes) (undef, ans0) (fun i hi => by
    obtain ⟨cs, hcl, ⟨z, p, m, c, xs, rfl, hz, rfl, hI, hb⟩, hcs⟩ := hE i hi
    have c0 := hcs 0 (by decide)
    have c1 := hcs 1 (by decide)
    have c2 := hcs 2 (by decide)
    simp at c0 c1 c2
    exact ⟨(.slice p xs.length c, z), c0.symm, c1.symm, c2.symm, p, c, by rw [hz], by rw [hz]; exact hI, by rw [hz]; exact hb⟩)
  have hu1 : ∀ j, j < n → (l.map Prod.fst)[j]? = some (l.getD j (undef, ans0)).1 := fun j hj => by simp [List.getD, List.getElem?_eq_getElem (show j < l.length by omega)]
  have hz1 : ∀ j, j < n → (l.map Prod.snd).getD j ans0 = (l.getD j (undef, ans0)).2 := fun j hj => by simp [List.getD, List.getElem?_eq_getElem (show j < l.length by omega)]
  refine ⟨a, n, cap, l.map Prod.snd, rfl, ⟨by simpa using hll, l.map Prod.fst, by simpa using hll, hR.congr (fun i hi => ?_), fun j hj => ?_⟩, Nat.le_trans (Nat.mul_le_mul_right _ hle) hbd, fun j hj => ?_⟩
  · have hj : i / 3 < n := by omega
    obtain ⟨t1, t2, t3⟩ := ansCells_at (us := l.map Prod.fst) (zs := l.map Prod.snd) (by simp) (i := i / 3) (by simp; omega)
    obtain ⟨g1, g2, g3, _⟩ := hl _ hj
    rw [hz1 _ hj] at t1 t3
    rw [hu1 _ hj] at t2
    have : i = i / 3 * 3 ∨ i = i / 3 * 3 + 1 ∨ i = i / 3 * 3 + 2 := by omega
    rcases this with h | h | h
    · rw [h, g1]; exact getD_of_some t1
    · rw [h, g2]; exact getD_of_some t2
    · rw [h, g3]; exact getD_of_some t3
  · obtain ⟨_, _, _, p, c, e1, hI, _⟩ := hl j hj
    exact ⟨p, c, by rw [hu1 j hj, hz1 j hj, e1], by rw [hz1 j hj]; exact hI⟩
  · obtain ⟨_, _, _, p, c, _, _, hb⟩ := hl j hj
    rw [hz1 j hj]; exact hb
end
end Go.Proofs.Ytmphbajnadbggaa
