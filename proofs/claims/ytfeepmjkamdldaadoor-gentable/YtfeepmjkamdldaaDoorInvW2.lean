/- Package invert's pairs: pivot. -/
import Derived.Test.YtfeepmjkamdldaaDoorInvW1
import Derived.Test.YtfeepmjkamdldaaDoorHoist2
import Derived.Test.YtfeepmjkamdldaaDoorInvMath
namespace Go.Proofs.YtfeepmjkamdldaaDoor
open Go.RowKit
set_option linter.unusedVariables false
set_option linter.unusedSimpArgs false
attribute [local go_sem ↓] Go.wp_at_zero Go.wp_at_succ
section
variable {Q : Exit → Act → World → Prop} {S : World → Prop} {ops : Array Oper}
/-- a line is read, a line is written, in their turn -/
theorem walkH_load_line {i : Nat} {r : List (Bool × Nat × Option Oper)} {a : Act} {w : World} {o : Oper} (ho : ops[i]? = some o) (hw : Region.wanted o (yielded ops a.tmps) = true) (x : Operand) (hop : o.op = .load 71 x)
    (b off : Nat) (hx : a.eval x = .pointer (some ⟨b, off, none⟩)) (f : Nat → Nat) (hc : w.rangeAt b off (lineC f)) (hS : S w) (h : walkH Tryd.prog ops Q S r (a.put o.dst (.agg (lineC f).toArray)) w) : walkH Tryd.prog ops Q S ((false, i, some o) :: r) a w := by
  obtain ⟨d, hu, hd⟩ := desc_line
  refine walkH_do ho (fun K hK => ?_)
  rw [if_pos hw]
  exact wp_load_mid _ x hop b off hx _ d hc hu hd (by rw [info_line, lineC_len]) (hK _ _ hS h)
theorem walkH_store_line {i : Nat} {r : List (Bool × Nat × Option Oper)} {a : Act} {w : World} {o : Oper} (ho : ops[i]? = some o) (hw : Region.wanted o (yielded ops a.tmps) = true) (x y : Operand) (hop : o.op = .store 71 x y)
    (b off : Nat) (hx : a.eval x = .pointer (some ⟨b, off, none⟩)) (f : Nat → Nat) (hy : a.eval y = .agg (lineC f).toArray) (hc : w.there b off 24) (hS : S (w.setCells b off (lineC f))) (h : walkH Tryd.prog ops Q S r (a.put o.dst undef) (w.setCells b off (lineC f))) : walkH Tryd.prog ops Q S ((false, i, some o) :: r) a w := by
  refine walkH_do ho (fun K hK => ?_)
  rw [if_pos hw]
  exact wp_store_mid _ x y hop b off _ hx hy (by simpa [lineC_len] using hc) (by rw [info_line]; simp [lineC_len]) (all_oneCell_toArray (lineC_one f)) (by simpa using hK _ _ hS h)
/-- a line is read whatever came ahead -/
theorem walkH_read_line {i : Nat} {r : List (Bool × Nat × Option Oper)} {a : Act} {w : World} {o : Oper} (hw : Region.wanted o (yielded ops a.tmps) = true) (x : Operand) (hop : o.op = .load 71 x)
    (b off : Nat) (hx : a.eval x = .pointer (some ⟨b, off, none⟩)) (f : Nat → Nat) (hc : ∀ w, S w → w.rangeAt b off (lineC f)) (h : walkH Tryd.prog ops Q S r (a.put o.dst (.agg (lineC f).toArray)) w) : walkH Tryd.prog ops Q S ((true, i, some o) :: r) a w := by
  obtain ⟨d, hu, hd⟩ := desc_line
  exact ⟨o, _, rfl, yieldsIf_load_mid hw _ x hop b off hx _ d hc hu hd (by rw [info_line, lineC_len]), h⟩
end
theorem range_kept {B b o : Nat} {W : World} {cs : List Value} (h : W.rangeAt b o cs) (hb : b < B) : ∀ w, Below B W w → w.rangeAt b o cs := fun w hw j v hv => (hw.cell hb).trans (h j v hv)
def pivPost (w : World) (f : Nat → Nat → Nat) (k c : Nat) (e : Ending) (w' : World) : Prop := w' = w ∧ ((∃ r, c ≤ r ∧ r < k ∧ f r c ≠ 0 ∧ e = .returned (.tuple #[.int .i64 r, .bool true])) ∨ ((∀ r, c ≤ r → r < k → f r c = 0) ∧ e = .returned (.tuple #[.int .i64 0, .bool false])))
set_option maxRecDepth 100000 in
set_option maxHeartbeats 1000000 in
theorem pivot_any (g k c : Nat) (f : Nat → Nat → Nat) (w : World) (hp : PairAt w g k f) (hk : k ≤ 12) (hc : c < k) :
    Calls Tryd.prog 57 #[.pointer (some ⟨g, 0, none⟩), .int .i64 c] w (pivPost w f k c) := by
  have hz := hp.size
  have HP := hide hp
  clear hp
  have hc24 : c < 24 := by omega
  have hc24' : (c : Int) < 24 := by omega
  go_enter Tryd.func57, Tryd.ntmps57
  go_wp2
  go_loop [6] (fun iv => ∃ r : Nat, c ≤ r ∧ r ≤ k ∧ iv = .int .i64 r ∧ Hid (∀ t, c ≤ t → t < r → f t c = 0)) (fun iv => k - (intOf iv).toNat)
  case atStart => exact ⟨c, by omega, by omega, rfl, hide (fun t h1 h2 => by omega)⟩
  case round =>
    obtain ⟨r, h1, h2, rfl, HZ⟩ := hrel
    by_cases hlt : r < k
    · have hlt' : (r : Int) < k := by omega
      have hr12 : (r : Int) < 12 := by omega
      have hcell := (unhide HP).cell (r := r) (c := c) (by omega) (by omega)
      obtain ⟨x, ex⟩ : ∃ x, x = f r c := ⟨_, rfl⟩
      rw [← ex] at hcell
      have EX := hide ex
      clear ex
      by_cases hx : x = 0
      · subst hx
        go_wp2
        go_round
        case rel => exact ⟨r + 1, by omega, by omega, by go_num, hide (fun t u1 u2 => by
          by_cases e : t = r
          · subst e; exact (unhide EX).symm
          · exact unhide HZ t u1 (by omega))⟩
        case measure => simp [intOf]; omega
      · have hx' : ((x : Int) != 0) = true := by simp; omega
        go_wp2
        go_ret2
        refine ⟨rfl, .inl ⟨r, h1, hlt, by rw [← unhide EX]; exact hx, ?_⟩⟩
        rfl
    · have hlt' : ¬ (r : Int) < k := by omega
      go_wp2
      go_ret2
      refine ⟨rfl, .inr ⟨fun t u1 u2 => unhide HZ t u1 (by omega), ?_⟩⟩
      rfl
end Go.Proofs.YtfeepmjkamdldaaDoor
