/-
  NARROWER THAN 'FOR EVERY INPUT', by the rows' own cells (each row's printed sentence says how): Gens: laid · GenAny: laid · GenTable: laid · GenForms: laid · GenMore: laid · Encodes: laid.
  DERIVED. THE GIVEN ROWS OF THIS SEAT. 6 by the template 'for every input the law returns true; each argument reads behind the call as it read before'; 0 by the template 'total and deterministic' (their statements: YtfeepmjkamdldaaDoorTotals.lean).
  GIVEN WITH THE SEED: the statements are not yours to turn. If you find one false, say at which input.
  Laid BY PROGRAM, IN A SANDBOX (cutbox-rows.mjs): the forced cells as the released guide's own fill.sh prints them over the translation 72fa12d0feeeac1c… (all of the seat's roots in one cut). By AI agents, Wed Nov 11 2026. No macro, syntax, notation, axiom, sorry.
-/
import Derived.Test.YtfeepmjkamdldaaDoorChecked
import GoSem.Claim
import GoSem.ClaimJoined
import GoSem.ClaimMapViews
import Derived.JoinedTies
import Derived.KernelRfl
namespace Go.Proofs.YtfeepmjkamdldaaDoor
/- THE CELL 'sum', in the pinned program and in every row, IS THE sha256 OF THE DUMP (.gsa) THAT YtfeepmjkamdldaaDoorProg.lean LOADS. Nothing in Lean hashes anything: it is a label: what it is worth is what the hold of that sum in a sandbox is worth. -/
noncomputable def Tryd.pinned : Pinned := { name := "ytfeepmjkamdldaadoor", sum := "72fa12d0feeeac1cd98187d414b22e2c0df0284a6e6ced3e5a17b98f8b0b335a", checked := Tryd.checked }
namespace Rows
def none {H : Type} : Left H := { results := [], args := [] }

/- WHAT THE LISTED PACKAGE-LEVEL VARIABLES READ AS WHEN THE CALL BEGINS. Each datum BY PROGRAM (the guide's laid-datum.mjs) off the statement by which the dump's own 'gosem.cut.vars' lays the variable. In a bare row this is a premise. The card (YtfeepmjkamdldaaDoorCards.lean) ties it to the program's text. -/
def laid_ossuary_gen_made {H : Type} : DataW H := .agg [.agg [.lit (.bool true), .lit (.bool true), .lit (.bool true)], .agg [.lit (.bool true), .lit (.bool true), .lit (.bool true)], .agg [.lit (.bool true), .lit (.bool true), .lit (.bool true)], .agg [.lit (.bool true), .lit (.bool true), .lit (.bool true)]]

/-- 'ossuarylaw5.Gens': WHATEVER THE INPUT: true; the input reads as it did. -/
def gensSpec : ChangeSpec := { name := "gens", fn := fun _ => fun
  | [d] => { results := [.lit (.bool true)], args := [d] }
  | _ => none }
def gensRow : OpenClaim := { program := "ytfeepmjkamdldaadoor", sum := "72fa12d0feeeac1cd98187d414b22e2c0df0284a6e6ced3e5a17b98f8b0b335a", func := "ossuary/ossuarylaw5.Gens", spec := "gens", unfollowed := true, recurses := true, named := ["ossuary/gen.made"], apart := false, laid := [("ossuary/gen.made", laid_ossuary_gen_made)] }
def GensSaid : Prop := gensRow.holds Tryd.pinned (OpenSpec.ofChange gensSpec)

/-- ITS FALSE NEIGHBOUR: 'it returns false'. Refute it at one input. -/
def gensWrong : ChangeSpec := { name := "gens", fn := fun _ => fun
  | [d] => { results := [.lit (.bool false)], args := [d] }
  | _ => none }
def GensWrongFalsely : Prop := gensRow.holds Tryd.pinned (OpenSpec.ofChange gensWrong)

/-- 'ossuarylaw5.GenAny': WHATEVER THE INPUT: true; the input reads as it did. -/
def genAnySpec : ChangeSpec := { name := "genAny", fn := fun _ => fun
  | [d1, d2, d3] => { results := [.lit (.bool true)], args := [d1, d2, d3] }
  | _ => none }
def genAnyRow : OpenClaim := { program := "ytfeepmjkamdldaadoor", sum := "72fa12d0feeeac1cd98187d414b22e2c0df0284a6e6ced3e5a17b98f8b0b335a", func := "ossuary/ossuarylaw5.GenAny", spec := "genAny", unfollowed := true, recurses := true, named := ["ossuary/gen.made"], apart := false, laid := [("ossuary/gen.made", laid_ossuary_gen_made)] }
def GenAnySaid : Prop := genAnyRow.holds Tryd.pinned (OpenSpec.ofChange genAnySpec)

/-- ITS FALSE NEIGHBOUR: 'it returns false'. Refute it at one input. -/
def genAnyWrong : ChangeSpec := { name := "genAny", fn := fun _ => fun
  | [d1, d2, d3] => { results := [.lit (.bool false)], args := [d1, d2, d3] }
  | _ => none }
def GenAnyWrongFalsely : Prop := genAnyRow.holds Tryd.pinned (OpenSpec.ofChange genAnyWrong)

/-- 'ossuarylaw5.GenTable': WHATEVER THE INPUT: true; the input reads as it did. -/
def genTableSpec : ChangeSpec := { name := "genTable", fn := fun _ => fun
  | [d] => { results := [.lit (.bool true)], args := [d] }
  | _ => none }
def genTableRow : OpenClaim := { program := "ytfeepmjkamdldaadoor", sum := "72fa12d0feeeac1cd98187d414b22e2c0df0284a6e6ced3e5a17b98f8b0b335a", func := "ossuary/ossuarylaw5.GenTable", spec := "genTable", unfollowed := true, recurses := true, named := ["ossuary/gen.made"], apart := false, laid := [("ossuary/gen.made", laid_ossuary_gen_made)] }
def GenTableSaid : Prop := genTableRow.holds Tryd.pinned (OpenSpec.ofChange genTableSpec)

/-- ITS FALSE NEIGHBOUR: 'it returns false'. Refute it at one input. -/
def genTableWrong : ChangeSpec := { name := "genTable", fn := fun _ => fun
  | [d] => { results := [.lit (.bool false)], args := [d] }
  | _ => none }
def GenTableWrongFalsely : Prop := genTableRow.holds Tryd.pinned (OpenSpec.ofChange genTableWrong)

/-- 'ossuarylaw5.GenForms': WHATEVER THE INPUT: true; the input reads as it did. -/
def genFormsSpec : ChangeSpec := { name := "genForms", fn := fun _ => fun
  | [d1, d2] => { results := [.lit (.bool true)], args := [d1, d2] }
  | _ => none }
def genFormsRow : OpenClaim := { program := "ytfeepmjkamdldaadoor", sum := "72fa12d0feeeac1cd98187d414b22e2c0df0284a6e6ced3e5a17b98f8b0b335a", func := "ossuary/ossuarylaw5.GenForms", spec := "genForms", unfollowed := true, recurses := true, named := ["ossuary/gen.made"], apart := false, laid := [("ossuary/gen.made", laid_ossuary_gen_made)] }
def GenFormsSaid : Prop := genFormsRow.holds Tryd.pinned (OpenSpec.ofChange genFormsSpec)

/-- ITS FALSE NEIGHBOUR: 'it returns false'. Refute it at one input. -/
def genFormsWrong : ChangeSpec := { name := "genForms", fn := fun _ => fun
  | [d1, d2] => { results := [.lit (.bool false)], args := [d1, d2] }
  | _ => none }
def GenFormsWrongFalsely : Prop := genFormsRow.holds Tryd.pinned (OpenSpec.ofChange genFormsWrong)

/-- 'ossuarylaw5.GenMore': WHATEVER THE INPUT: true; the input reads as it did. -/
def genMoreSpec : ChangeSpec := { name := "genMore", fn := fun _ => fun
  | [d1, d2] => { results := [.lit (.bool true)], args := [d1, d2] }
  | _ => none }
def genMoreRow : OpenClaim := { program := "ytfeepmjkamdldaadoor", sum := "72fa12d0feeeac1cd98187d414b22e2c0df0284a6e6ced3e5a17b98f8b0b335a", func := "ossuary/ossuarylaw5.GenMore", spec := "genMore", unfollowed := true, recurses := true, named := ["ossuary/gen.made"], apart := false, laid := [("ossuary/gen.made", laid_ossuary_gen_made)] }
def GenMoreSaid : Prop := genMoreRow.holds Tryd.pinned (OpenSpec.ofChange genMoreSpec)

/-- ITS FALSE NEIGHBOUR: 'it returns false'. Refute it at one input. -/
def genMoreWrong : ChangeSpec := { name := "genMore", fn := fun _ => fun
  | [d1, d2] => { results := [.lit (.bool false)], args := [d1, d2] }
  | _ => none }
def GenMoreWrongFalsely : Prop := genMoreRow.holds Tryd.pinned (OpenSpec.ofChange genMoreWrong)

/-- 'ossuarylaw6.Encodes': WHATEVER THE INPUT: true; the input reads as it did. -/
def encodesSpec : ChangeSpec := { name := "encodes", fn := fun _ => fun
  | [d1, d2] => { results := [.lit (.bool true)], args := [d1, d2] }
  | _ => none }
def encodesRow : OpenClaim := { program := "ytfeepmjkamdldaadoor", sum := "72fa12d0feeeac1cd98187d414b22e2c0df0284a6e6ced3e5a17b98f8b0b335a", func := "ossuary/ossuarylaw6.Encodes", spec := "encodes", unfollowed := true, recurses := true, named := ["ossuary/gen.made"], apart := false, laid := [("ossuary/gen.made", laid_ossuary_gen_made)] }
def EncodesSaid : Prop := encodesRow.holds Tryd.pinned (OpenSpec.ofChange encodesSpec)

/-- ITS FALSE NEIGHBOUR: 'it returns false'. Refute it at one input. -/
def encodesWrong : ChangeSpec := { name := "encodes", fn := fun _ => fun
  | [d1, d2] => { results := [.lit (.bool false)], args := [d1, d2] }
  | _ => none }
def EncodesWrongFalsely : Prop := encodesRow.holds Tryd.pinned (OpenSpec.ofChange encodesWrong)

/- THE SECOND FORM. 'bulk': how many values and letters a reading holds, each counted each time it is reached (what is shared counts as often as it is met; a slice's spare places count too). A statement '..UptoSaid' is the law's where the arguments, and the package variables that the reading takes, are together of bulk at most 1048576: NARROWER than '..Said'. Prove '..Said' where nothing that the law and all that it calls make is longer than what came in: it says more and counts as full. Else prove '..UptoSaid'. A law counts once. -/
mutual
def uptoBulk {H : Type} : DataW H → Nat
  | .lit (.string bytes) => bytes.length + 1
  | .lit _ => 1
  | .nil => 1
  | .ptr d => uptoBulk d + 1
  | .slice elems spare => uptoBulkAll elems + uptoBulkAll spare + 1
  | .agg parts => uptoBulkAll parts + 1
  | .iface _ d => uptoBulk d + 1
  | .map entries => uptoBulkEntries entries + 1
  | .held _ => 1
def uptoBulkAll {H : Type} : List (DataW H) → Nat
  | [] => 0
  | d :: r => uptoBulk d + uptoBulkAll r
def uptoBulkEntries {H : Type} : List (Lit × DataW H) → Nat
  | [] => 0
  | x :: r => uptoBulkEntry x + uptoBulkEntries r
def uptoBulkEntry {H : Type} : Lit × DataW H → Nat
  | (.string bytes, d) => bytes.length + uptoBulk d + 1
  | (_, d) => uptoBulk d + 1
 end
def uptoSmall : (H : Type) → List (DataW H) → Bool := fun _ ds => decide (uptoBulkAll ds ≤ 1048576)
def OpenSpec.upto (s : _root_.Go.ChangeSpec) : _root_.Go.OpenSpec := { _root_.Go.OpenSpec.ofChange s with cond := some uptoSmall }

/-- 'ossuarylaw5.Gens', WHERE WHAT IT READS IS OF BULK AT MOST 1048576: true; the input reads as it did. -/
def gensUptoRow : OpenClaim := { program := "ytfeepmjkamdldaadoor", sum := "72fa12d0feeeac1cd98187d414b22e2c0df0284a6e6ced3e5a17b98f8b0b335a", func := "ossuary/ossuarylaw5.Gens", spec := "gens", unfollowed := true, recurses := true, named := ["ossuary/gen.made"], apart := false, laid := [("ossuary/gen.made", laid_ossuary_gen_made)], narrowed := true }
def GensUptoSaid : Prop := gensUptoRow.holds Tryd.pinned (OpenSpec.upto gensSpec)

/-- 'ossuarylaw5.GenAny', WHERE WHAT IT READS IS OF BULK AT MOST 1048576: true; the input reads as it did. -/
def genAnyUptoRow : OpenClaim := { program := "ytfeepmjkamdldaadoor", sum := "72fa12d0feeeac1cd98187d414b22e2c0df0284a6e6ced3e5a17b98f8b0b335a", func := "ossuary/ossuarylaw5.GenAny", spec := "genAny", unfollowed := true, recurses := true, named := ["ossuary/gen.made"], apart := false, laid := [("ossuary/gen.made", laid_ossuary_gen_made)], narrowed := true }
def GenAnyUptoSaid : Prop := genAnyUptoRow.holds Tryd.pinned (OpenSpec.upto genAnySpec)

/-- 'ossuarylaw5.GenTable', WHERE WHAT IT READS IS OF BULK AT MOST 1048576: true; the input reads as it did. -/
def genTableUptoRow : OpenClaim := { program := "ytfeepmjkamdldaadoor", sum := "72fa12d0feeeac1cd98187d414b22e2c0df0284a6e6ced3e5a17b98f8b0b335a", func := "ossuary/ossuarylaw5.GenTable", spec := "genTable", unfollowed := true, recurses := true, named := ["ossuary/gen.made"], apart := false, laid := [("ossuary/gen.made", laid_ossuary_gen_made)], narrowed := true }
def GenTableUptoSaid : Prop := genTableUptoRow.holds Tryd.pinned (OpenSpec.upto genTableSpec)

/-- 'ossuarylaw5.GenForms', WHERE WHAT IT READS IS OF BULK AT MOST 1048576: true; the input reads as it did. -/
def genFormsUptoRow : OpenClaim := { program := "ytfeepmjkamdldaadoor", sum := "72fa12d0feeeac1cd98187d414b22e2c0df0284a6e6ced3e5a17b98f8b0b335a", func := "ossuary/ossuarylaw5.GenForms", spec := "genForms", unfollowed := true, recurses := true, named := ["ossuary/gen.made"], apart := false, laid := [("ossuary/gen.made", laid_ossuary_gen_made)], narrowed := true }
def GenFormsUptoSaid : Prop := genFormsUptoRow.holds Tryd.pinned (OpenSpec.upto genFormsSpec)

/-- 'ossuarylaw5.GenMore', WHERE WHAT IT READS IS OF BULK AT MOST 1048576: true; the input reads as it did. -/
def genMoreUptoRow : OpenClaim := { program := "ytfeepmjkamdldaadoor", sum := "72fa12d0feeeac1cd98187d414b22e2c0df0284a6e6ced3e5a17b98f8b0b335a", func := "ossuary/ossuarylaw5.GenMore", spec := "genMore", unfollowed := true, recurses := true, named := ["ossuary/gen.made"], apart := false, laid := [("ossuary/gen.made", laid_ossuary_gen_made)], narrowed := true }
def GenMoreUptoSaid : Prop := genMoreUptoRow.holds Tryd.pinned (OpenSpec.upto genMoreSpec)

/-- 'ossuarylaw6.Encodes', WHERE WHAT IT READS IS OF BULK AT MOST 1048576: true; the input reads as it did. -/
def encodesUptoRow : OpenClaim := { program := "ytfeepmjkamdldaadoor", sum := "72fa12d0feeeac1cd98187d414b22e2c0df0284a6e6ced3e5a17b98f8b0b335a", func := "ossuary/ossuarylaw6.Encodes", spec := "encodes", unfollowed := true, recurses := true, named := ["ossuary/gen.made"], apart := false, laid := [("ossuary/gen.made", laid_ossuary_gen_made)], narrowed := true }
def EncodesUptoSaid : Prop := encodesUptoRow.holds Tryd.pinned (OpenSpec.upto encodesSpec)

end Rows
end Go.Proofs.YtfeepmjkamdldaaDoor
