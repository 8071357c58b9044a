/-
  No cell of these rows narrows 'for every input' (looked for: loops, veiled, ifaces, maps, wideKeys, modest, calm, conditions, laid).
  DERIVED. THE GIVEN ROWS OF THIS SEAT. 4 by the template 'for every input the law returns true; each argument reads behind the call as it read before'; 0 by the template 'total and deterministic' (their statements: YtpcjhcjfclnjjaaTotals.lean).
  GIVEN WITH THE SEED: the statements are not yours to turn. If you find one false, say at which input.
  Laid BY PROGRAM, IN A SANDBOX (cutbox-rows.mjs): the forced cells as the released guide's own fill.sh prints them over the translation 361b0e12e32b8e28… (all of the seat's roots in one cut). By AI agents, Wed Nov 11 2026. No macro, syntax, notation, axiom, sorry.
-/
import Derived.Test.YtpcjhcjfclnjjaaChecked
import GoSem.Claim
import GoSem.ClaimJoined
import GoSem.ClaimMapViews
import Derived.JoinedTies
import Derived.KernelRfl
namespace Go.Proofs.Ytpcjhcjfclnjjaa
/- THE CELL 'sum', in the pinned program and in every row, IS THE sha256 OF THE DUMP (.gsa) THAT YtpcjhcjfclnjjaaProg.lean LOADS. Nothing in Lean hashes anything: it is a label: what it is worth is what the hold of that sum in a sandbox is worth. -/
noncomputable def Try.pinned : Pinned := { name := "ytpcjhcjfclnjjaa", sum := "361b0e12e32b8e28809fd5a2dfc37d8050aa172b5302cf330041b4091d5b529e", checked := Try.checked }
namespace Rows
def none {H : Type} : Left H := { results := [], args := [] }

/-- 'ossuarylaw2.Combines': WHATEVER THE INPUT: true; the input reads as it did. -/
def combinesSpec : ChangeSpec := { name := "combines", fn := fun _ => fun
  | [d1, d2] => { results := [.lit (.bool true)], args := [d1, d2] }
  | _ => none }
def combinesRow : OpenClaim := { program := "ytpcjhcjfclnjjaa", sum := "361b0e12e32b8e28809fd5a2dfc37d8050aa172b5302cf330041b4091d5b529e", func := "ossuary/ossuarylaw2.Combines", spec := "combines", apart := false }
def CombinesSaid : Prop := combinesRow.holds Try.pinned (OpenSpec.ofChange combinesSpec)

/-- ITS FALSE NEIGHBOUR: 'it returns false'. Refute it at one input. -/
def combinesWrong : ChangeSpec := { name := "combines", fn := fun _ => fun
  | [d1, d2] => { results := [.lit (.bool false)], args := [d1, d2] }
  | _ => none }
def CombinesWrongFalsely : Prop := combinesRow.holds Try.pinned (OpenSpec.ofChange combinesWrong)

/-- 'ossuarylaw2.CombineLinear': WHATEVER THE INPUT: true; the input reads as it did. -/
def combineLinearSpec : ChangeSpec := { name := "combineLinear", fn := fun _ => fun
  | [d1, d2, d3, d4] => { results := [.lit (.bool true)], args := [d1, d2, d3, d4] }
  | _ => none }
def combineLinearRow : OpenClaim := { program := "ytpcjhcjfclnjjaa", sum := "361b0e12e32b8e28809fd5a2dfc37d8050aa172b5302cf330041b4091d5b529e", func := "ossuary/ossuarylaw2.CombineLinear", spec := "combineLinear", apart := false }
def CombineLinearSaid : Prop := combineLinearRow.holds Try.pinned (OpenSpec.ofChange combineLinearSpec)

/-- ITS FALSE NEIGHBOUR: 'it returns false'. Refute it at one input. -/
def combineLinearWrong : ChangeSpec := { name := "combineLinear", fn := fun _ => fun
  | [d1, d2, d3, d4] => { results := [.lit (.bool false)], args := [d1, d2, d3, d4] }
  | _ => none }
def CombineLinearWrongFalsely : Prop := combineLinearRow.holds Try.pinned (OpenSpec.ofChange combineLinearWrong)

/-- 'ossuarylaw2.CombineForms': WHATEVER THE INPUT: true; the input reads as it did. -/
def combineFormsSpec : ChangeSpec := { name := "combineForms", fn := fun _ => fun
  | [d1, d2] => { results := [.lit (.bool true)], args := [d1, d2] }
  | _ => none }
def combineFormsRow : OpenClaim := { program := "ytpcjhcjfclnjjaa", sum := "361b0e12e32b8e28809fd5a2dfc37d8050aa172b5302cf330041b4091d5b529e", func := "ossuary/ossuarylaw2.CombineForms", spec := "combineForms", apart := false }
def CombineFormsSaid : Prop := combineFormsRow.holds Try.pinned (OpenSpec.ofChange combineFormsSpec)

/-- ITS FALSE NEIGHBOUR: 'it returns false'. Refute it at one input. -/
def combineFormsWrong : ChangeSpec := { name := "combineForms", fn := fun _ => fun
  | [d1, d2] => { results := [.lit (.bool false)], args := [d1, d2] }
  | _ => none }
def CombineFormsWrongFalsely : Prop := combineFormsRow.holds Try.pinned (OpenSpec.ofChange combineFormsWrong)

/-- 'ossuarylaw2.CombineParts': WHATEVER THE INPUT: true; the input reads as it did. -/
def combinePartsSpec : ChangeSpec := { name := "combineParts", fn := fun _ => fun
  | [d1, d2, d3] => { results := [.lit (.bool true)], args := [d1, d2, d3] }
  | _ => none }
def combinePartsRow : OpenClaim := { program := "ytpcjhcjfclnjjaa", sum := "361b0e12e32b8e28809fd5a2dfc37d8050aa172b5302cf330041b4091d5b529e", func := "ossuary/ossuarylaw2.CombineParts", spec := "combineParts", apart := false }
def CombinePartsSaid : Prop := combinePartsRow.holds Try.pinned (OpenSpec.ofChange combinePartsSpec)

/-- ITS FALSE NEIGHBOUR: 'it returns false'. Refute it at one input. -/
def combinePartsWrong : ChangeSpec := { name := "combineParts", fn := fun _ => fun
  | [d1, d2, d3] => { results := [.lit (.bool false)], args := [d1, d2, d3] }
  | _ => none }
def CombinePartsWrongFalsely : Prop := combinePartsRow.holds Try.pinned (OpenSpec.ofChange combinePartsWrong)

/- THE SECOND FORM. 'bulk': how many values and letters a reading holds, each counted each time it is reached (what is shared counts as often as it is met; a slice's spare places count too). A statement '..UptoSaid' is the law's where the arguments, and the package variables that the reading takes, are together of bulk at most 1048576: NARROWER than '..Said'. Prove '..Said' where nothing that the law and all that it calls make is longer than what came in: it says more and counts as full. Else prove '..UptoSaid'. A law counts once. -/
mutual
def uptoBulk {H : Type} : DataW H → Nat
  | .lit (.string bytes) => bytes.length + 1
  | .lit _ => 1
  | .nil => 1
  | .ptr d => uptoBulk d + 1
  | .slice elems spare => uptoBulkAll elems + uptoBulkAll spare + 1
  | .agg parts => uptoBulkAll parts + 1
  | .iface _ d => uptoBulk d + 1
  | .map entries => uptoBulkEntries entries + 1
  | .held _ => 1
def uptoBulkAll {H : Type} : List (DataW H) → Nat
  | [] => 0
  | d :: r => uptoBulk d + uptoBulkAll r
def uptoBulkEntries {H : Type} : List (Lit × DataW H) → Nat
  | [] => 0
  | x :: r => uptoBulkEntry x + uptoBulkEntries r
def uptoBulkEntry {H : Type} : Lit × DataW H → Nat
  | (.string bytes, d) => bytes.length + uptoBulk d + 1
  | (_, d) => uptoBulk d + 1
 end
def uptoSmall : (H : Type) → List (DataW H) → Bool := fun _ ds => decide (uptoBulkAll ds ≤ 1048576)
def OpenSpec.upto (s : _root_.Go.ChangeSpec) : _root_.Go.OpenSpec := { _root_.Go.OpenSpec.ofChange s with cond := some uptoSmall }

/-- 'ossuarylaw2.Combines', WHERE WHAT IT READS IS OF BULK AT MOST 1048576: true; the input reads as it did. -/
def combinesUptoRow : OpenClaim := { program := "ytpcjhcjfclnjjaa", sum := "361b0e12e32b8e28809fd5a2dfc37d8050aa172b5302cf330041b4091d5b529e", func := "ossuary/ossuarylaw2.Combines", spec := "combines", apart := false, narrowed := true }
def CombinesUptoSaid : Prop := combinesUptoRow.holds Try.pinned (OpenSpec.upto combinesSpec)

/-- 'ossuarylaw2.CombineLinear', WHERE WHAT IT READS IS OF BULK AT MOST 1048576: true; the input reads as it did. -/
def combineLinearUptoRow : OpenClaim := { program := "ytpcjhcjfclnjjaa", sum := "361b0e12e32b8e28809fd5a2dfc37d8050aa172b5302cf330041b4091d5b529e", func := "ossuary/ossuarylaw2.CombineLinear", spec := "combineLinear", apart := false, narrowed := true }
def CombineLinearUptoSaid : Prop := combineLinearUptoRow.holds Try.pinned (OpenSpec.upto combineLinearSpec)

/-- 'ossuarylaw2.CombineForms', WHERE WHAT IT READS IS OF BULK AT MOST 1048576: true; the input reads as it did. -/
def combineFormsUptoRow : OpenClaim := { program := "ytpcjhcjfclnjjaa", sum := "361b0e12e32b8e28809fd5a2dfc37d8050aa172b5302cf330041b4091d5b529e", func := "ossuary/ossuarylaw2.CombineForms", spec := "combineForms", apart := false, narrowed := true }
def CombineFormsUptoSaid : Prop := combineFormsUptoRow.holds Try.pinned (OpenSpec.upto combineFormsSpec)

/-- 'ossuarylaw2.CombineParts', WHERE WHAT IT READS IS OF BULK AT MOST 1048576: true; the input reads as it did. -/
def combinePartsUptoRow : OpenClaim := { program := "ytpcjhcjfclnjjaa", sum := "361b0e12e32b8e28809fd5a2dfc37d8050aa172b5302cf330041b4091d5b529e", func := "ossuary/ossuarylaw2.CombineParts", spec := "combineParts", apart := false, narrowed := true }
def CombinePartsUptoSaid : Prop := combinePartsUptoRow.holds Try.pinned (OpenSpec.upto combinePartsSpec)

end Rows
end Go.Proofs.Ytpcjhcjfclnjjaa
