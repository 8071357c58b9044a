/-
  No cell of these rows narrows 'for every input' (looked for: loops, veiled, ifaces, maps, wideKeys, modest, calm, conditions, laid).
  DERIVED. THE GIVEN ROWS OF THIS SEAT. 4 by the template 'for every input the law returns true; each argument reads behind the call as it read before'; 0 by the template 'total and deterministic' (their statements: YthkafgcpnbolfaaTotals.lean).
  GIVEN WITH THE SEED: the statements are not yours to turn. If you find one false, say at which input.
  Laid BY PROGRAM, IN A SANDBOX (cutbox-rows.mjs): the forced cells as the released guide's own fill.sh prints them over the translation e41403dd1c1c70e1… (all of the seat's roots in one cut). By AI agents, Wed Nov 11 2026. No macro, syntax, notation, axiom, sorry.
-/
import Derived.Test.YthkafgcpnbolfaaChecked
import GoSem.Claim
import GoSem.ClaimJoined
import GoSem.ClaimMapViews
import Derived.JoinedTies
import Derived.KernelRfl
namespace Go.Proofs.Ythkafgcpnbolfaa
/- THE CELL 'sum', in the pinned program and in every row, IS THE sha256 OF THE DUMP (.gsa) THAT YthkafgcpnbolfaaProg.lean LOADS. Nothing in Lean hashes anything: it is a label: what it is worth is what the hold of that sum in a sandbox is worth. -/
noncomputable def Try.pinned : Pinned := { name := "ythkafgcpnbolfaa", sum := "e41403dd1c1c70e15c3c12dc013afd6dfbf9d3161f9f742da6bed2118d8bf21d", checked := Try.checked }
namespace Rows
def none {H : Type} : Left H := { results := [], args := [] }

/-- 'ossuarylaw4.Inverts': WHATEVER THE INPUT: true; the input reads as it did. -/
def invertsSpec : ChangeSpec := { name := "inverts", fn := fun _ => fun
  | [d] => { results := [.lit (.bool true)], args := [d] }
  | _ => none }
def invertsRow : OpenClaim := { program := "ythkafgcpnbolfaa", sum := "e41403dd1c1c70e15c3c12dc013afd6dfbf9d3161f9f742da6bed2118d8bf21d", func := "ossuary/ossuarylaw4.Inverts", spec := "inverts", apart := false }
def InvertsSaid : Prop := invertsRow.holds Try.pinned (OpenSpec.ofChange invertsSpec)

/-- ITS FALSE NEIGHBOUR: 'it returns false'. Refute it at one input. -/
def invertsWrong : ChangeSpec := { name := "inverts", fn := fun _ => fun
  | [d] => { results := [.lit (.bool false)], args := [d] }
  | _ => none }
def InvertsWrongFalsely : Prop := invertsRow.holds Try.pinned (OpenSpec.ofChange invertsWrong)

/-- 'ossuarylaw4.InvertBack': WHATEVER THE INPUT: true; the input reads as it did. -/
def invertBackSpec : ChangeSpec := { name := "invertBack", fn := fun _ => fun
  | [d] => { results := [.lit (.bool true)], args := [d] }
  | _ => none }
def invertBackRow : OpenClaim := { program := "ythkafgcpnbolfaa", sum := "e41403dd1c1c70e15c3c12dc013afd6dfbf9d3161f9f742da6bed2118d8bf21d", func := "ossuary/ossuarylaw4.InvertBack", spec := "invertBack", unfollowed := true, recurses := true, apart := false }
def InvertBackSaid : Prop := invertBackRow.holds Try.pinned (OpenSpec.ofChange invertBackSpec)

/-- ITS FALSE NEIGHBOUR: 'it returns false'. Refute it at one input. -/
def invertBackWrong : ChangeSpec := { name := "invertBack", fn := fun _ => fun
  | [d] => { results := [.lit (.bool false)], args := [d] }
  | _ => none }
def InvertBackWrongFalsely : Prop := invertBackRow.holds Try.pinned (OpenSpec.ofChange invertBackWrong)

/-- 'ossuarylaw4.InvertProduct': WHATEVER THE INPUT: true; the input reads as it did. -/
def invertProductSpec : ChangeSpec := { name := "invertProduct", fn := fun _ => fun
  | [d1, d2] => { results := [.lit (.bool true)], args := [d1, d2] }
  | _ => none }
def invertProductRow : OpenClaim := { program := "ythkafgcpnbolfaa", sum := "e41403dd1c1c70e15c3c12dc013afd6dfbf9d3161f9f742da6bed2118d8bf21d", func := "ossuary/ossuarylaw4.InvertProduct", spec := "invertProduct", unfollowed := true, recurses := true, apart := false }
def InvertProductSaid : Prop := invertProductRow.holds Try.pinned (OpenSpec.ofChange invertProductSpec)

/-- ITS FALSE NEIGHBOUR: 'it returns false'. Refute it at one input. -/
def invertProductWrong : ChangeSpec := { name := "invertProduct", fn := fun _ => fun
  | [d1, d2] => { results := [.lit (.bool false)], args := [d1, d2] }
  | _ => none }
def InvertProductWrongFalsely : Prop := invertProductRow.holds Try.pinned (OpenSpec.ofChange invertProductWrong)

/-- 'ossuarylaw4.InvertDiagonal': WHATEVER THE INPUT: true; the input reads as it did. -/
def invertDiagonalSpec : ChangeSpec := { name := "invertDiagonal", fn := fun _ => fun
  | [d] => { results := [.lit (.bool true)], args := [d] }
  | _ => none }
def invertDiagonalRow : OpenClaim := { program := "ythkafgcpnbolfaa", sum := "e41403dd1c1c70e15c3c12dc013afd6dfbf9d3161f9f742da6bed2118d8bf21d", func := "ossuary/ossuarylaw4.InvertDiagonal", spec := "invertDiagonal", unfollowed := true, recurses := true, apart := false }
def InvertDiagonalSaid : Prop := invertDiagonalRow.holds Try.pinned (OpenSpec.ofChange invertDiagonalSpec)

/-- ITS FALSE NEIGHBOUR: 'it returns false'. Refute it at one input. -/
def invertDiagonalWrong : ChangeSpec := { name := "invertDiagonal", fn := fun _ => fun
  | [d] => { results := [.lit (.bool false)], args := [d] }
  | _ => none }
def InvertDiagonalWrongFalsely : Prop := invertDiagonalRow.holds Try.pinned (OpenSpec.ofChange invertDiagonalWrong)

/- THE SECOND FORM. 'bulk': how many values and letters a reading holds, each counted each time it is reached (what is shared counts as often as it is met; a slice's spare places count too). A statement '..UptoSaid' is the law's where the arguments, and the package variables that the reading takes, are together of bulk at most 1048576: NARROWER than '..Said'. Prove '..Said' where nothing that the law and all that it calls make is longer than what came in: it says more and counts as full. Else prove '..UptoSaid'. A law counts once. -/
mutual
def uptoBulk {H : Type} : DataW H → Nat
  | .lit (.string bytes) => bytes.length + 1
  | .lit _ => 1
  | .nil => 1
  | .ptr d => uptoBulk d + 1
  | .slice elems spare => uptoBulkAll elems + uptoBulkAll spare + 1
  | .agg parts => uptoBulkAll parts + 1
  | .iface _ d => uptoBulk d + 1
  | .map entries => uptoBulkEntries entries + 1
  | .held _ => 1
def uptoBulkAll {H : Type} : List (DataW H) → Nat
  | [] => 0
  | d :: r => uptoBulk d + uptoBulkAll r
def uptoBulkEntries {H : Type} : List (Lit × DataW H) → Nat
  | [] => 0
  | x :: r => uptoBulkEntry x + uptoBulkEntries r
def uptoBulkEntry {H : Type} : Lit × DataW H → Nat
  | (.string bytes, d) => bytes.length + uptoBulk d + 1
  | (_, d) => uptoBulk d + 1
 end
def uptoSmall : (H : Type) → List (DataW H) → Bool := fun _ ds => decide (uptoBulkAll ds ≤ 1048576)
def OpenSpec.upto (s : _root_.Go.ChangeSpec) : _root_.Go.OpenSpec := { _root_.Go.OpenSpec.ofChange s with cond := some uptoSmall }

/-- 'ossuarylaw4.Inverts', WHERE WHAT IT READS IS OF BULK AT MOST 1048576: true; the input reads as it did. -/
def invertsUptoRow : OpenClaim := { program := "ythkafgcpnbolfaa", sum := "e41403dd1c1c70e15c3c12dc013afd6dfbf9d3161f9f742da6bed2118d8bf21d", func := "ossuary/ossuarylaw4.Inverts", spec := "inverts", apart := false, narrowed := true }
def InvertsUptoSaid : Prop := invertsUptoRow.holds Try.pinned (OpenSpec.upto invertsSpec)

/-- 'ossuarylaw4.InvertBack', WHERE WHAT IT READS IS OF BULK AT MOST 1048576: true; the input reads as it did. -/
def invertBackUptoRow : OpenClaim := { program := "ythkafgcpnbolfaa", sum := "e41403dd1c1c70e15c3c12dc013afd6dfbf9d3161f9f742da6bed2118d8bf21d", func := "ossuary/ossuarylaw4.InvertBack", spec := "invertBack", unfollowed := true, recurses := true, apart := false, narrowed := true }
def InvertBackUptoSaid : Prop := invertBackUptoRow.holds Try.pinned (OpenSpec.upto invertBackSpec)

/-- 'ossuarylaw4.InvertProduct', WHERE WHAT IT READS IS OF BULK AT MOST 1048576: true; the input reads as it did. -/
def invertProductUptoRow : OpenClaim := { program := "ythkafgcpnbolfaa", sum := "e41403dd1c1c70e15c3c12dc013afd6dfbf9d3161f9f742da6bed2118d8bf21d", func := "ossuary/ossuarylaw4.InvertProduct", spec := "invertProduct", unfollowed := true, recurses := true, apart := false, narrowed := true }
def InvertProductUptoSaid : Prop := invertProductUptoRow.holds Try.pinned (OpenSpec.upto invertProductSpec)

/-- 'ossuarylaw4.InvertDiagonal', WHERE WHAT IT READS IS OF BULK AT MOST 1048576: true; the input reads as it did. -/
def invertDiagonalUptoRow : OpenClaim := { program := "ythkafgcpnbolfaa", sum := "e41403dd1c1c70e15c3c12dc013afd6dfbf9d3161f9f742da6bed2118d8bf21d", func := "ossuary/ossuarylaw4.InvertDiagonal", spec := "invertDiagonal", unfollowed := true, recurses := true, apart := false, narrowed := true }
def InvertDiagonalUptoSaid : Prop := invertDiagonalUptoRow.holds Try.pinned (OpenSpec.upto invertDiagonalSpec)

end Rows
end Go.Proofs.Ythkafgcpnbolfaa
