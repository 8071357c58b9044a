/- errors.Is over the program's refusals: nil, one that holds a number, one that holds such a one: contracts. -/
import Derived.Test.YtmphbajnadbggabKRegs
import Derived.LaidEql
import Derived.Stop.Asserts
import Derived.RowKitTokens
namespace Go.Proofs.Ytmphbajnadbggab
open Go.RowKit Go.Extern.Stop Go.Stop Go.Extern
set_option linter.unusedVariables false
set_option linter.unusedSimpArgs false
/-- a number as an error -/
def errN (n : Int) : Value := .iface 31 (.int .i64 n)
/-- a refusal of a part -/
def refV (p : ByteArray) (v : Value) : Value := .iface 84 (.agg #[.string p, v])
theorem Try.erTypeOf (n : Int) (w : World) : (Extern.ReflectliteType.typeOf #[.iface 31 (.int .i64 n)]).run Try.prog w = .ok (.iface 73 (.agg #[.pointer (some ⟨0, 31, none⟩)])) w := by kernel_rfl
/-- the library's own answer: whether values of a type can be compared -/
def erCmp : Array Value → Sem Value := Extern.ReflectliteType.method fun t => do Extern.Rtype.noPackHeld "Comparable" t; pure (.bool (← typeInfo t).comparable)
theorem Try.erComparable (w : World) : (erCmp #[.agg #[.pointer (some ⟨0, 31, none⟩)]]).run Try.prog w = .ok (.bool true) w := by kernel_rfl
theorem Try.erMethodComparable (v : Value) (w : World) : (Go.method 227 73 v "Comparable").run Try.prog w = .ok (72, v) w := by kernel_rfl
theorem Try.erMethodUnwrap (v : Value) (w : World) : (Go.method 227 84 v "Unwrap").run Try.prog w = .ok (82, v) w := by kernel_rfl
theorem Try.erComp : (Try.prog.info? 31).map (·.comparable) = some true := by kernel_rfl
theorem Try.erNoIs (v : Value) (xT : TypeId) (w : World) : (Instr.typeAssert (.iface 84 v) xT 75 true).run Try.prog w = .ok (.tuple #[.nilIface, .bool false]) w := run_typeAssert_lacksB Try.underlying75 (by kernel_rfl) (by kernel_rfl) v xT w
theorem Try.erHasUnwrap (v : Value) (xT : TypeId) (w : World) : (Instr.typeAssert (.iface 84 v) xT 78 true).run Try.prog w = .ok (.tuple #[.iface 84 v, .bool true]) w := run_typeAssert_hasB Try.underlying78 (by kernel_rfl) v xT w
theorem run_eql_iface_int {P : Program} {ti tp : TypeId} {ms : Array (String × TypeId)} {i : TypeInfo} (w : World) (n : Int) (hi : P.underlying ti = some (.interface ms)) (hp : P.underlying tp = some (.int .i64)) (hinfo : P.info? tp = some i) (hcomp : i.comparable = true) :
    (binOp .eql ti (.iface tp (.int .i64 n)) (.iface tp (.int .i64 n))).run P w = .ok (.bool true) w := by
  have h : ∀ d : Nat, (Op.equalIn (d + 2) ti (.iface tp (.int .i64 n)) (.iface tp (.int .i64 n))).run P w = .ok true w := fun d => by simp [Op.equalIn, run_underlying hi, run_underlying hp, typeInfo, hinfo, hcomp]
  simp only [binOp]
  simp [Op.equal, Op.maxDepth, h 9998]
theorem Try.erEq (n : Int) (w : World) : (binOp .eql 52 (errN n) (errN n)).run Try.prog w = .ok (.bool true) w := by
  obtain ⟨i, hi, hcmp⟩ := Option.map_eq_some_iff.1 Try.erComp
  exact run_eql_iface_int w n Try.underlying52 Try.underlying31 hi hcmp
theorem Try.erNe (n : Int) (v : Value) (w : World) : (binOp .eql 52 (.iface 84 v) (.iface 31 (.int .i64 n))).run Try.prog w = .ok (.bool false) w := run_eql_iface_types (P := Try.prog) 84 31 v _ Try.underlying52 (by decide) w
/-- refusal.Of of no error: none -/
theorem refusalOf_nil (p : ByteArray) (w : World) : Calls Try.prog 32 #[.string p, .nilIface] w fun e w' => e = .returned .nilIface ∧ w' = w := by
  go_enter Try.func32, Try.ntmps32
  go_wp2
  go_ret
  exact ⟨rfl, rfl⟩
/-- refusal.Of of an error: it is wrapped -/
theorem refusalOf_err (p : ByteArray) (t : TypeId) (x : Value) (w : World) : Calls Try.prog 32 #[.string p, .iface t x] w fun e w' => e = .returned (refV p (.iface t x)) ∧ w' = w := by
  unfold refV
  go_enter Try.func32, Try.ntmps32
  go_wp2
  go_ret
  exact ⟨rfl, rfl⟩
/-- what a refusal wraps -/
theorem refUnwrap_any (p : ByteArray) (v : Value) (w : World) : Calls Try.prog 82 #[.agg #[.string p, v]] w fun e w' => e = .returned v ∧ Below w.heap.size w w' := by
  have HB := hide (below_alloc w (.cells #[.string p, v] 84))
  have x1 : (w.alloc (.cells #[.string p, v] 84)).cell? ⟨w.heap.size, 1, none⟩ = some v := by rw [cell_of_row _ _ 1 _ _ _ (heap_alloc_new w _)]; rfl
  go_enter Try.func82, Try.ntmps82
  go_wp2
  go_ret
  exact ⟨rfl, unhide HB⟩
theorem errIs_nil (n : Int) (w : World) : Calls Try.prog 17 #[.nilIface, .iface 31 (.int .i64 n)] w fun e w' => e = .returned (.bool false) ∧ w' = w := by
  have hn := run_eql_iface_nil_left (P := Try.prog) w 31 (.int .i64 n) Try.underlying52
  go_enter Try.func17, Try.ntmps17
  go_wp2
  go_ret
  exact ⟨rfl, rfl⟩
set_option maxRecDepth 100000 in
set_option maxHeartbeats 2000000 in
theorem erris_one (p : ByteArray) (n : Int) (w : World) : Calls Try.prog 31 #[refV p (errN n), errN n, .bool true] w fun e w' => e = .returned (.bool true) ∧ Below w.heap.size w w' := by
  have nI := Try.erNoIs
  have hU := Try.erHasUnwrap
  have mU := Try.erMethodUnwrap
  have hq := Try.erEq n
  have hne := Try.erNe n
  unfold refV
  unfold errN at hq ⊢
  go_enter Try.func31, Try.ntmps31
  go_wp2
  refine wp_loop_rounds 2 ?_
  rw [rounds_succ]
  go_wp2_with fail
  refine (refUnwrap_any p _ _).mono ?_
  rintro e w1 ⟨rfl, b1⟩
  have HB := hide b1
  clear b1
  go_wp2
  rw [rounds_succ]
  go_wp2
  go_ret
  exact ⟨rfl, unhide HB⟩
set_option maxRecDepth 100000 in
set_option maxHeartbeats 2000000 in
theorem erris_two (p q : ByteArray) (n : Int) (w : World) : Calls Try.prog 31 #[refV p (refV q (errN n)), errN n, .bool true] w fun e w' => e = .returned (.bool true) ∧ Below w.heap.size w w' := by
  have nI := Try.erNoIs
  have hU := Try.erHasUnwrap
  have mU := Try.erMethodUnwrap
  have hq := Try.erEq n
  have hne := Try.erNe n
  unfold refV
  unfold errN at hq ⊢
  go_enter Try.func31, Try.ntmps31
  go_wp2
  refine wp_loop_rounds 3 ?_
  rw [rounds_succ]
  go_wp2_with fail
  refine (refUnwrap_any p _ _).mono ?_
  rintro e w1 ⟨rfl, b1⟩
  have HB := hide b1
  clear b1
  go_wp2
  rw [rounds_succ]
  go_wp2_with fail
  refine (refUnwrap_any q _ _).mono ?_
  rintro e w2 ⟨rfl, b2⟩
  replace HB := hide (bt (unhide HB) b2)
  clear b2
  go_wp2
  rw [rounds_succ]
  go_wp2
  go_ret
  exact ⟨rfl, unhide HB⟩
set_option maxRecDepth 100000 in
set_option maxHeartbeats 2000000 in
/-- errors.Is of a refusal: as errors.is answers -/
theorem errIs_of {p : ByteArray} {v : Value} {n : Int} {w : World} (H : ∀ w : World, Calls Try.prog 31 #[refV p v, errN n, .bool true] w fun e w' => e = .returned (.bool true) ∧ Below w.heap.size w w') :
    Calls Try.prog 17 #[refV p v, errN n] w fun e w' => e = .returned (.bool true) ∧ Below w.heap.size w w' := by
  have h8 := @run_callFunc_extern Try.prog 30 _ Extern.ReflectliteType.typeOf Try.func30 (by kernel_rfl) (by kernel_rfl) (by kernel_rfl) (by kernel_rfl)
  have h32 := @run_callFunc_extern Try.prog 72 _ erCmp Try.func72 (by kernel_rfl) (by kernel_rfl) (by kernel_rfl) (by kernel_rfl)
  have tT := Try.erTypeOf
  have cT := Try.erComparable
  have mR := Try.erMethodComparable
  have HH := hide H
  clear H
  unfold refV errN
  unfold refV errN at HH
  go_enter Try.func17, Try.ntmps17
  go_wp2_with (go_at_call 31; refine (unhide HH _).mono ?_; rintro e w' ⟨rfl, b1⟩; have HB := hide b1; clear b1)
  go_ret
  exact ⟨rfl, unhide HB⟩
theorem errIs_one (p : ByteArray) (n : Int) (w : World) : Calls Try.prog 17 #[refV p (errN n), errN n] w fun e w' => e = .returned (.bool true) ∧ Below w.heap.size w w' := errIs_of fun w => erris_one p n w
theorem errIs_two (p q : ByteArray) (n : Int) (w : World) : Calls Try.prog 17 #[refV p (refV q (errN n)), errN n] w fun e w' => e = .returned (.bool true) ∧ Below w.heap.size w w' := errIs_of fun w => erris_two p q n w
end Go.Proofs.Ytmphbajnadbggab
