/-
  NARROWER THAN 'FOR EVERY INPUT', by the rows' own cells (each row's printed sentence says how): Decodes: laid · DecodeForms: laid · DecodeFirst: laid · DecodeSums: laid.
  DERIVED. THE GIVEN ROWS OF THIS SEAT. 4 by the template 'for every input the law returns true; each argument reads behind the call as it read before'; 0 by the template 'total and deterministic' (their statements: YtncehpbghnokpaaDoorTotals.lean).
  GIVEN WITH THE SEED: the statements are not yours to turn. If you find one false, say at which input.
  Laid BY PROGRAM, IN A SANDBOX (cutbox-rows.mjs): the forced cells as the released guide's own fill.sh prints them over the translation 42b75bafff9983d8… (all of the seat's roots in one cut). By AI agents, Wed Nov 11 2026. No macro, syntax, notation, axiom, sorry.
-/
import Derived.Test.YtncehpbghnokpaaDoorChecked
import GoSem.Claim
import GoSem.ClaimJoined
import GoSem.ClaimMapViews
import Derived.JoinedTies
import Derived.KernelRfl
namespace Go.Proofs.YtncehpbghnokpaaDoor
/- THE CELL 'sum', in the pinned program and in every row, IS THE sha256 OF THE DUMP (.gsa) THAT YtncehpbghnokpaaDoorProg.lean LOADS. Nothing in Lean hashes anything: it is a label: what it is worth is what the hold of that sum in a sandbox is worth. -/
noncomputable def Tryd.pinned : Pinned := { name := "ytncehpbghnokpaadoor", sum := "42b75bafff9983d841d91e67b24e44c2f4131e40337dd94162651f7aa6dc1416", checked := Tryd.checked }
namespace Rows
def none {H : Type} : Left H := { results := [], args := [] }

/- WHAT THE LISTED PACKAGE-LEVEL VARIABLES READ AS WHEN THE CALL BEGINS. Each datum BY PROGRAM (the guide's laid-datum.mjs) off the statement by which the dump's own 'gosem.cut.vars' lays the variable. In a bare row this is a premise. The card (YtncehpbghnokpaaDoorCards.lean) ties it to the program's text. -/
def laid_ossuary_gen_made {H : Type} : DataW H := .agg [.agg [.lit (.bool true), .lit (.bool true), .lit (.bool true)], .agg [.lit (.bool true), .lit (.bool true), .lit (.bool true)], .agg [.lit (.bool true), .lit (.bool true), .lit (.bool true)], .agg [.lit (.bool true), .lit (.bool true), .lit (.bool true)]]

/-- 'ossuarylaw7.Decodes': WHATEVER THE INPUT: true; the input reads as it did. -/
def decodesSpec : ChangeSpec := { name := "decodes", fn := fun _ => fun
  | [d1, d2, d3] => { results := [.lit (.bool true)], args := [d1, d2, d3] }
  | _ => none }
def decodesRow : OpenClaim := { program := "ytncehpbghnokpaadoor", sum := "42b75bafff9983d841d91e67b24e44c2f4131e40337dd94162651f7aa6dc1416", func := "ossuary/ossuarylaw7.Decodes", spec := "decodes", unfollowed := true, recurses := true, named := ["ossuary/gen.made"], apart := false, laid := [("ossuary/gen.made", laid_ossuary_gen_made)] }
def DecodesSaid : Prop := decodesRow.holds Tryd.pinned (OpenSpec.ofChange decodesSpec)

/-- ITS FALSE NEIGHBOUR: 'it returns false'. Refute it at one input. -/
def decodesWrong : ChangeSpec := { name := "decodes", fn := fun _ => fun
  | [d1, d2, d3] => { results := [.lit (.bool false)], args := [d1, d2, d3] }
  | _ => none }
def DecodesWrongFalsely : Prop := decodesRow.holds Tryd.pinned (OpenSpec.ofChange decodesWrong)

/-- 'ossuarylaw7.DecodeForms': WHATEVER THE INPUT: true; the input reads as it did. -/
def decodeFormsSpec : ChangeSpec := { name := "decodeForms", fn := fun _ => fun
  | [d1, d2] => { results := [.lit (.bool true)], args := [d1, d2] }
  | _ => none }
def decodeFormsRow : OpenClaim := { program := "ytncehpbghnokpaadoor", sum := "42b75bafff9983d841d91e67b24e44c2f4131e40337dd94162651f7aa6dc1416", func := "ossuary/ossuarylaw7.DecodeForms", spec := "decodeForms", unfollowed := true, recurses := true, named := ["ossuary/gen.made"], apart := false, laid := [("ossuary/gen.made", laid_ossuary_gen_made)] }
def DecodeFormsSaid : Prop := decodeFormsRow.holds Tryd.pinned (OpenSpec.ofChange decodeFormsSpec)

/-- ITS FALSE NEIGHBOUR: 'it returns false'. Refute it at one input. -/
def decodeFormsWrong : ChangeSpec := { name := "decodeForms", fn := fun _ => fun
  | [d1, d2] => { results := [.lit (.bool false)], args := [d1, d2] }
  | _ => none }
def DecodeFormsWrongFalsely : Prop := decodeFormsRow.holds Tryd.pinned (OpenSpec.ofChange decodeFormsWrong)

/-- 'ossuarylaw7.DecodeFirst': WHATEVER THE INPUT: true; the input reads as it did. -/
def decodeFirstSpec : ChangeSpec := { name := "decodeFirst", fn := fun _ => fun
  | [d1, d2, d3, d4] => { results := [.lit (.bool true)], args := [d1, d2, d3, d4] }
  | _ => none }
def decodeFirstRow : OpenClaim := { program := "ytncehpbghnokpaadoor", sum := "42b75bafff9983d841d91e67b24e44c2f4131e40337dd94162651f7aa6dc1416", func := "ossuary/ossuarylaw7.DecodeFirst", spec := "decodeFirst", unfollowed := true, recurses := true, named := ["ossuary/gen.made"], apart := false, laid := [("ossuary/gen.made", laid_ossuary_gen_made)] }
def DecodeFirstSaid : Prop := decodeFirstRow.holds Tryd.pinned (OpenSpec.ofChange decodeFirstSpec)

/-- ITS FALSE NEIGHBOUR: 'it returns false'. Refute it at one input. -/
def decodeFirstWrong : ChangeSpec := { name := "decodeFirst", fn := fun _ => fun
  | [d1, d2, d3, d4] => { results := [.lit (.bool false)], args := [d1, d2, d3, d4] }
  | _ => none }
def DecodeFirstWrongFalsely : Prop := decodeFirstRow.holds Tryd.pinned (OpenSpec.ofChange decodeFirstWrong)

/-- 'ossuarylaw7.DecodeSums': WHATEVER THE INPUT: true; the input reads as it did. -/
def decodeSumsSpec : ChangeSpec := { name := "decodeSums", fn := fun _ => fun
  | [d1, d2, d3, d4] => { results := [.lit (.bool true)], args := [d1, d2, d3, d4] }
  | _ => none }
def decodeSumsRow : OpenClaim := { program := "ytncehpbghnokpaadoor", sum := "42b75bafff9983d841d91e67b24e44c2f4131e40337dd94162651f7aa6dc1416", func := "ossuary/ossuarylaw7.DecodeSums", spec := "decodeSums", unfollowed := true, recurses := true, named := ["ossuary/gen.made"], apart := false, laid := [("ossuary/gen.made", laid_ossuary_gen_made)] }
def DecodeSumsSaid : Prop := decodeSumsRow.holds Tryd.pinned (OpenSpec.ofChange decodeSumsSpec)

/-- ITS FALSE NEIGHBOUR: 'it returns false'. Refute it at one input. -/
def decodeSumsWrong : ChangeSpec := { name := "decodeSums", fn := fun _ => fun
  | [d1, d2, d3, d4] => { results := [.lit (.bool false)], args := [d1, d2, d3, d4] }
  | _ => none }
def DecodeSumsWrongFalsely : Prop := decodeSumsRow.holds Tryd.pinned (OpenSpec.ofChange decodeSumsWrong)

/- THE SECOND FORM. 'bulk': how many values and letters a reading holds, each counted each time it is reached (what is shared counts as often as it is met; a slice's spare places count too). A statement '..UptoSaid' is the law's where the arguments, and the package variables that the reading takes, are together of bulk at most 1048576: NARROWER than '..Said'. Prove '..Said' where nothing that the law and all that it calls make is longer than what came in: it says more and counts as full. Else prove '..UptoSaid'. A law counts once. -/
mutual
def uptoBulk {H : Type} : DataW H → Nat
  | .lit (.string bytes) => bytes.length + 1
  | .lit _ => 1
  | .nil => 1
  | .ptr d => uptoBulk d + 1
  | .slice elems spare => uptoBulkAll elems + uptoBulkAll spare + 1
  | .agg parts => uptoBulkAll parts + 1
  | .iface _ d => uptoBulk d + 1
  | .map entries => uptoBulkEntries entries + 1
  | .held _ => 1
def uptoBulkAll {H : Type} : List (DataW H) → Nat
  | [] => 0
  | d :: r => uptoBulk d + uptoBulkAll r
def uptoBulkEntries {H : Type} : List (Lit × DataW H) → Nat
  | [] => 0
  | x :: r => uptoBulkEntry x + uptoBulkEntries r
def uptoBulkEntry {H : Type} : Lit × DataW H → Nat
  | (.string bytes, d) => bytes.length + uptoBulk d + 1
  | (_, d) => uptoBulk d + 1
 end
def uptoSmall : (H : Type) → List (DataW H) → Bool := fun _ ds => decide (uptoBulkAll ds ≤ 1048576)
def OpenSpec.upto (s : _root_.Go.ChangeSpec) : _root_.Go.OpenSpec := { _root_.Go.OpenSpec.ofChange s with cond := some uptoSmall }

/-- 'ossuarylaw7.Decodes', WHERE WHAT IT READS IS OF BULK AT MOST 1048576: true; the input reads as it did. -/
def decodesUptoRow : OpenClaim := { program := "ytncehpbghnokpaadoor", sum := "42b75bafff9983d841d91e67b24e44c2f4131e40337dd94162651f7aa6dc1416", func := "ossuary/ossuarylaw7.Decodes", spec := "decodes", unfollowed := true, recurses := true, named := ["ossuary/gen.made"], apart := false, laid := [("ossuary/gen.made", laid_ossuary_gen_made)], narrowed := true }
def DecodesUptoSaid : Prop := decodesUptoRow.holds Tryd.pinned (OpenSpec.upto decodesSpec)

/-- 'ossuarylaw7.DecodeForms', WHERE WHAT IT READS IS OF BULK AT MOST 1048576: true; the input reads as it did. -/
def decodeFormsUptoRow : OpenClaim := { program := "ytncehpbghnokpaadoor", sum := "42b75bafff9983d841d91e67b24e44c2f4131e40337dd94162651f7aa6dc1416", func := "ossuary/ossuarylaw7.DecodeForms", spec := "decodeForms", unfollowed := true, recurses := true, named := ["ossuary/gen.made"], apart := false, laid := [("ossuary/gen.made", laid_ossuary_gen_made)], narrowed := true }
def DecodeFormsUptoSaid : Prop := decodeFormsUptoRow.holds Tryd.pinned (OpenSpec.upto decodeFormsSpec)

/-- 'ossuarylaw7.DecodeFirst', WHERE WHAT IT READS IS OF BULK AT MOST 1048576: true; the input reads as it did. -/
def decodeFirstUptoRow : OpenClaim := { program := "ytncehpbghnokpaadoor", sum := "42b75bafff9983d841d91e67b24e44c2f4131e40337dd94162651f7aa6dc1416", func := "ossuary/ossuarylaw7.DecodeFirst", spec := "decodeFirst", unfollowed := true, recurses := true, named := ["ossuary/gen.made"], apart := false, laid := [("ossuary/gen.made", laid_ossuary_gen_made)], narrowed := true }
def DecodeFirstUptoSaid : Prop := decodeFirstUptoRow.holds Tryd.pinned (OpenSpec.upto decodeFirstSpec)

/-- 'ossuarylaw7.DecodeSums', WHERE WHAT IT READS IS OF BULK AT MOST 1048576: true; the input reads as it did. -/
def decodeSumsUptoRow : OpenClaim := { program := "ytncehpbghnokpaadoor", sum := "42b75bafff9983d841d91e67b24e44c2f4131e40337dd94162651f7aa6dc1416", func := "ossuary/ossuarylaw7.DecodeSums", spec := "decodeSums", unfollowed := true, recurses := true, named := ["ossuary/gen.made"], apart := false, laid := [("ossuary/gen.made", laid_ossuary_gen_made)], narrowed := true }
def DecodeSumsUptoSaid : Prop := decodeSumsUptoRow.holds Tryd.pinned (OpenSpec.upto decodeSumsSpec)

end Rows
end Go.Proofs.YtncehpbghnokpaaDoor
