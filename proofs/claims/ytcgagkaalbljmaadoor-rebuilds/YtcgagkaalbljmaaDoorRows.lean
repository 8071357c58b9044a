/-
  NARROWER THAN 'FOR EVERY INPUT', by the rows' own cells (each row's printed sentence says how): Rebuilds: laid · RebuildAll: laid · RebuildMends: laid · RebuildForms: laid · RebuildCode: laid.
  DERIVED. THE GIVEN ROWS OF THIS SEAT. 5 by the template 'for every input the law returns true; each argument reads behind the call as it read before'; 0 by the template 'total and deterministic' (their statements: YtcgagkaalbljmaaDoorTotals.lean).
  GIVEN WITH THE SEED: the statements are not yours to turn. If you find one false, say at which input.
  Laid BY PROGRAM, IN A SANDBOX (cutbox-rows.mjs): the forced cells as the released guide's own fill.sh prints them over the translation 470672ba6c166c1e… (all of the seat's roots in one cut). By AI agents, Wed Nov 11 2026. No macro, syntax, notation, axiom, sorry.
-/
import Derived.Test.YtcgagkaalbljmaaDoorChecked
import GoSem.Claim
import GoSem.ClaimJoined
import GoSem.ClaimMapViews
import Derived.JoinedTies
import Derived.KernelRfl
namespace Go.Proofs.YtcgagkaalbljmaaDoor
/- THE CELL 'sum', in the pinned program and in every row, IS THE sha256 OF THE DUMP (.gsa) THAT YtcgagkaalbljmaaDoorProg.lean LOADS. Nothing in Lean hashes anything: it is a label: what it is worth is what the hold of that sum in a sandbox is worth. -/
noncomputable def Tryd.pinned : Pinned := { name := "ytcgagkaalbljmaadoor", sum := "470672ba6c166c1e125bc79fd1d37fcfbd74b7a278e4c7691f35b1d45a2bf6e3", checked := Tryd.checked }
namespace Rows
def none {H : Type} : Left H := { results := [], args := [] }

/- WHAT THE LISTED PACKAGE-LEVEL VARIABLES READ AS WHEN THE CALL BEGINS. Each datum BY PROGRAM (the guide's laid-datum.mjs) off the statement by which the dump's own 'gosem.cut.vars' lays the variable. In a bare row this is a premise. The card (YtcgagkaalbljmaaDoorCards.lean) ties it to the program's text. -/
def laid_ossuary_gen_made {H : Type} : DataW H := .agg [.agg [.lit (.bool true), .lit (.bool true), .lit (.bool true)], .agg [.lit (.bool true), .lit (.bool true), .lit (.bool true)], .agg [.lit (.bool true), .lit (.bool true), .lit (.bool true)], .agg [.lit (.bool true), .lit (.bool true), .lit (.bool true)]]

/-- 'ossuarylaw8.Rebuilds': WHATEVER THE INPUT: true; the input reads as it did. -/
def rebuildsSpec : ChangeSpec := { name := "rebuilds", fn := fun _ => fun
  | [d1, d2, d3] => { results := [.lit (.bool true)], args := [d1, d2, d3] }
  | _ => none }
def rebuildsRow : OpenClaim := { program := "ytcgagkaalbljmaadoor", sum := "470672ba6c166c1e125bc79fd1d37fcfbd74b7a278e4c7691f35b1d45a2bf6e3", func := "ossuary/ossuarylaw8.Rebuilds", spec := "rebuilds", unfollowed := true, recurses := true, named := ["ossuary/gen.made"], apart := false, laid := [("ossuary/gen.made", laid_ossuary_gen_made)] }
def RebuildsSaid : Prop := rebuildsRow.holds Tryd.pinned (OpenSpec.ofChange rebuildsSpec)

/-- ITS FALSE NEIGHBOUR: 'it returns false'. Refute it at one input. -/
def rebuildsWrong : ChangeSpec := { name := "rebuilds", fn := fun _ => fun
  | [d1, d2, d3] => { results := [.lit (.bool false)], args := [d1, d2, d3] }
  | _ => none }
def RebuildsWrongFalsely : Prop := rebuildsRow.holds Tryd.pinned (OpenSpec.ofChange rebuildsWrong)

/-- 'ossuarylaw8.RebuildAll': WHATEVER THE INPUT: true; the input reads as it did. -/
def rebuildAllSpec : ChangeSpec := { name := "rebuildAll", fn := fun _ => fun
  | [d1, d2, d3, d4] => { results := [.lit (.bool true)], args := [d1, d2, d3, d4] }
  | _ => none }
def rebuildAllRow : OpenClaim := { program := "ytcgagkaalbljmaadoor", sum := "470672ba6c166c1e125bc79fd1d37fcfbd74b7a278e4c7691f35b1d45a2bf6e3", func := "ossuary/ossuarylaw8.RebuildAll", spec := "rebuildAll", unfollowed := true, recurses := true, named := ["ossuary/gen.made"], apart := false, laid := [("ossuary/gen.made", laid_ossuary_gen_made)] }
def RebuildAllSaid : Prop := rebuildAllRow.holds Tryd.pinned (OpenSpec.ofChange rebuildAllSpec)

/-- ITS FALSE NEIGHBOUR: 'it returns false'. Refute it at one input. -/
def rebuildAllWrong : ChangeSpec := { name := "rebuildAll", fn := fun _ => fun
  | [d1, d2, d3, d4] => { results := [.lit (.bool false)], args := [d1, d2, d3, d4] }
  | _ => none }
def RebuildAllWrongFalsely : Prop := rebuildAllRow.holds Tryd.pinned (OpenSpec.ofChange rebuildAllWrong)

/-- 'ossuarylaw8.RebuildMends': WHATEVER THE INPUT: true; the input reads as it did. -/
def rebuildMendsSpec : ChangeSpec := { name := "rebuildMends", fn := fun _ => fun
  | [d1, d2, d3, d4] => { results := [.lit (.bool true)], args := [d1, d2, d3, d4] }
  | _ => none }
def rebuildMendsRow : OpenClaim := { program := "ytcgagkaalbljmaadoor", sum := "470672ba6c166c1e125bc79fd1d37fcfbd74b7a278e4c7691f35b1d45a2bf6e3", func := "ossuary/ossuarylaw8.RebuildMends", spec := "rebuildMends", unfollowed := true, recurses := true, named := ["ossuary/gen.made"], apart := false, laid := [("ossuary/gen.made", laid_ossuary_gen_made)] }
def RebuildMendsSaid : Prop := rebuildMendsRow.holds Tryd.pinned (OpenSpec.ofChange rebuildMendsSpec)

/-- ITS FALSE NEIGHBOUR: 'it returns false'. Refute it at one input. -/
def rebuildMendsWrong : ChangeSpec := { name := "rebuildMends", fn := fun _ => fun
  | [d1, d2, d3, d4] => { results := [.lit (.bool false)], args := [d1, d2, d3, d4] }
  | _ => none }
def RebuildMendsWrongFalsely : Prop := rebuildMendsRow.holds Tryd.pinned (OpenSpec.ofChange rebuildMendsWrong)

/-- 'ossuarylaw8.RebuildForms': WHATEVER THE INPUT: true; the input reads as it did. -/
def rebuildFormsSpec : ChangeSpec := { name := "rebuildForms", fn := fun _ => fun
  | [d1, d2] => { results := [.lit (.bool true)], args := [d1, d2] }
  | _ => none }
def rebuildFormsRow : OpenClaim := { program := "ytcgagkaalbljmaadoor", sum := "470672ba6c166c1e125bc79fd1d37fcfbd74b7a278e4c7691f35b1d45a2bf6e3", func := "ossuary/ossuarylaw8.RebuildForms", spec := "rebuildForms", unfollowed := true, recurses := true, named := ["ossuary/gen.made"], apart := false, laid := [("ossuary/gen.made", laid_ossuary_gen_made)] }
def RebuildFormsSaid : Prop := rebuildFormsRow.holds Tryd.pinned (OpenSpec.ofChange rebuildFormsSpec)

/-- ITS FALSE NEIGHBOUR: 'it returns false'. Refute it at one input. -/
def rebuildFormsWrong : ChangeSpec := { name := "rebuildForms", fn := fun _ => fun
  | [d1, d2] => { results := [.lit (.bool false)], args := [d1, d2] }
  | _ => none }
def RebuildFormsWrongFalsely : Prop := rebuildFormsRow.holds Tryd.pinned (OpenSpec.ofChange rebuildFormsWrong)

/-- 'ossuarylaw8.RebuildCode': WHATEVER THE INPUT: true; the input reads as it did. -/
def rebuildCodeSpec : ChangeSpec := { name := "rebuildCode", fn := fun _ => fun
  | [d1, d2, d3, d4] => { results := [.lit (.bool true)], args := [d1, d2, d3, d4] }
  | _ => none }
def rebuildCodeRow : OpenClaim := { program := "ytcgagkaalbljmaadoor", sum := "470672ba6c166c1e125bc79fd1d37fcfbd74b7a278e4c7691f35b1d45a2bf6e3", func := "ossuary/ossuarylaw8.RebuildCode", spec := "rebuildCode", unfollowed := true, recurses := true, named := ["ossuary/gen.made"], apart := false, laid := [("ossuary/gen.made", laid_ossuary_gen_made)] }
def RebuildCodeSaid : Prop := rebuildCodeRow.holds Tryd.pinned (OpenSpec.ofChange rebuildCodeSpec)

/-- ITS FALSE NEIGHBOUR: 'it returns false'. Refute it at one input. -/
def rebuildCodeWrong : ChangeSpec := { name := "rebuildCode", fn := fun _ => fun
  | [d1, d2, d3, d4] => { results := [.lit (.bool false)], args := [d1, d2, d3, d4] }
  | _ => none }
def RebuildCodeWrongFalsely : Prop := rebuildCodeRow.holds Tryd.pinned (OpenSpec.ofChange rebuildCodeWrong)

/- THE SECOND FORM. 'bulk': how many values and letters a reading holds, each counted each time it is reached (what is shared counts as often as it is met; a slice's spare places count too). A statement '..UptoSaid' is the law's where the arguments, and the package variables that the reading takes, are together of bulk at most 1048576: NARROWER than '..Said'. Prove '..Said' where nothing that the law and all that it calls make is longer than what came in: it says more and counts as full. Else prove '..UptoSaid'. A law counts once. -/
mutual
def uptoBulk {H : Type} : DataW H → Nat
  | .lit (.string bytes) => bytes.length + 1
  | .lit _ => 1
  | .nil => 1
  | .ptr d => uptoBulk d + 1
  | .slice elems spare => uptoBulkAll elems + uptoBulkAll spare + 1
  | .agg parts => uptoBulkAll parts + 1
  | .iface _ d => uptoBulk d + 1
  | .map entries => uptoBulkEntries entries + 1
  | .held _ => 1
def uptoBulkAll {H : Type} : List (DataW H) → Nat
  | [] => 0
  | d :: r => uptoBulk d + uptoBulkAll r
def uptoBulkEntries {H : Type} : List (Lit × DataW H) → Nat
  | [] => 0
  | x :: r => uptoBulkEntry x + uptoBulkEntries r
def uptoBulkEntry {H : Type} : Lit × DataW H → Nat
  | (.string bytes, d) => bytes.length + uptoBulk d + 1
  | (_, d) => uptoBulk d + 1
 end
def uptoSmall : (H : Type) → List (DataW H) → Bool := fun _ ds => decide (uptoBulkAll ds ≤ 1048576)
def OpenSpec.upto (s : _root_.Go.ChangeSpec) : _root_.Go.OpenSpec := { _root_.Go.OpenSpec.ofChange s with cond := some uptoSmall }

/-- 'ossuarylaw8.Rebuilds', WHERE WHAT IT READS IS OF BULK AT MOST 1048576: true; the input reads as it did. -/
def rebuildsUptoRow : OpenClaim := { program := "ytcgagkaalbljmaadoor", sum := "470672ba6c166c1e125bc79fd1d37fcfbd74b7a278e4c7691f35b1d45a2bf6e3", func := "ossuary/ossuarylaw8.Rebuilds", spec := "rebuilds", unfollowed := true, recurses := true, named := ["ossuary/gen.made"], apart := false, laid := [("ossuary/gen.made", laid_ossuary_gen_made)], narrowed := true }
def RebuildsUptoSaid : Prop := rebuildsUptoRow.holds Tryd.pinned (OpenSpec.upto rebuildsSpec)

/-- 'ossuarylaw8.RebuildAll', WHERE WHAT IT READS IS OF BULK AT MOST 1048576: true; the input reads as it did. -/
def rebuildAllUptoRow : OpenClaim := { program := "ytcgagkaalbljmaadoor", sum := "470672ba6c166c1e125bc79fd1d37fcfbd74b7a278e4c7691f35b1d45a2bf6e3", func := "ossuary/ossuarylaw8.RebuildAll", spec := "rebuildAll", unfollowed := true, recurses := true, named := ["ossuary/gen.made"], apart := false, laid := [("ossuary/gen.made", laid_ossuary_gen_made)], narrowed := true }
def RebuildAllUptoSaid : Prop := rebuildAllUptoRow.holds Tryd.pinned (OpenSpec.upto rebuildAllSpec)

/-- 'ossuarylaw8.RebuildMends', WHERE WHAT IT READS IS OF BULK AT MOST 1048576: true; the input reads as it did. -/
def rebuildMendsUptoRow : OpenClaim := { program := "ytcgagkaalbljmaadoor", sum := "470672ba6c166c1e125bc79fd1d37fcfbd74b7a278e4c7691f35b1d45a2bf6e3", func := "ossuary/ossuarylaw8.RebuildMends", spec := "rebuildMends", unfollowed := true, recurses := true, named := ["ossuary/gen.made"], apart := false, laid := [("ossuary/gen.made", laid_ossuary_gen_made)], narrowed := true }
def RebuildMendsUptoSaid : Prop := rebuildMendsUptoRow.holds Tryd.pinned (OpenSpec.upto rebuildMendsSpec)

/-- 'ossuarylaw8.RebuildForms', WHERE WHAT IT READS IS OF BULK AT MOST 1048576: true; the input reads as it did. -/
def rebuildFormsUptoRow : OpenClaim := { program := "ytcgagkaalbljmaadoor", sum := "470672ba6c166c1e125bc79fd1d37fcfbd74b7a278e4c7691f35b1d45a2bf6e3", func := "ossuary/ossuarylaw8.RebuildForms", spec := "rebuildForms", unfollowed := true, recurses := true, named := ["ossuary/gen.made"], apart := false, laid := [("ossuary/gen.made", laid_ossuary_gen_made)], narrowed := true }
def RebuildFormsUptoSaid : Prop := rebuildFormsUptoRow.holds Tryd.pinned (OpenSpec.upto rebuildFormsSpec)

/-- 'ossuarylaw8.RebuildCode', WHERE WHAT IT READS IS OF BULK AT MOST 1048576: true; the input reads as it did. -/
def rebuildCodeUptoRow : OpenClaim := { program := "ytcgagkaalbljmaadoor", sum := "470672ba6c166c1e125bc79fd1d37fcfbd74b7a278e4c7691f35b1d45a2bf6e3", func := "ossuary/ossuarylaw8.RebuildCode", spec := "rebuildCode", unfollowed := true, recurses := true, named := ["ossuary/gen.made"], apart := false, laid := [("ossuary/gen.made", laid_ossuary_gen_made)], narrowed := true }
def RebuildCodeUptoSaid : Prop := rebuildCodeUptoRow.holds Tryd.pinned (OpenSpec.upto rebuildCodeSpec)

end Rows
end Go.Proofs.YtcgagkaalbljmaaDoor
