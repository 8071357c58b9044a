/-
  DERIVED. GIVEN WITH THE SEED: THE CARDS: each row of YtcgagkaalbljmaaDoorRows.lean that lists a variable, with what it lists TIED to the program's text (the seventh form; the later family's looks); each row that meets fmt, with fmt's text TOLD by the authors' own Lean function (tested against real Go, not proved from fmt's source: count such statements apart). THE CARD IS WHAT COUNTS. Prove the row's statement (the work); the ties are given (YtcgagkaalbljmaaDoorTie.lean); close each card by the builder's one call (the guide's Derived/Test/ToyasCard.lean, 'card_holds'). Laid BY PROGRAM, IN A SANDBOX (cutbox-door.mjs). By AI agents, Wed Nov 11 2026. No macro, syntax, notation, axiom, sorry.
-/
import Derived.Test.YtcgagkaalbljmaaDoorRows
import GoSem.ClaimSeven
namespace Go.Proofs.YtcgagkaalbljmaaDoor
namespace Rows

/-- THE TIED CARD OF 'ossuarylaw8.Rebuilds'. -/
def rebuildsCard : Claim7 := { stood := { row := rebuildsRow, standIns := [], harness := (true, "3acf248ec581cae7e55f418449434bf35175afa046385bbaea8c8750009d0a06"), looks := false }, kinds := [], alts := [], laidByText := true, laidKinds := [.data], laidTests := true, laidLooks := .later }
def RebuildsCardSaid : Prop := Claim7.holds Tryd.pinned (.plain (OpenSpec.ofChange rebuildsSpec)) rebuildsCard

/-- THE TIED CARD OF 'ossuarylaw8.RebuildAll'. -/
def rebuildAllCard : Claim7 := { stood := { row := rebuildAllRow, standIns := [], harness := (true, "3acf248ec581cae7e55f418449434bf35175afa046385bbaea8c8750009d0a06"), looks := false }, kinds := [], alts := [], laidByText := true, laidKinds := [.data], laidTests := true, laidLooks := .later }
def RebuildAllCardSaid : Prop := Claim7.holds Tryd.pinned (.plain (OpenSpec.ofChange rebuildAllSpec)) rebuildAllCard

/-- THE TIED CARD OF 'ossuarylaw8.RebuildMends'. -/
def rebuildMendsCard : Claim7 := { stood := { row := rebuildMendsRow, standIns := [], harness := (true, "3acf248ec581cae7e55f418449434bf35175afa046385bbaea8c8750009d0a06"), looks := false }, kinds := [], alts := [], laidByText := true, laidKinds := [.data], laidTests := true, laidLooks := .later }
def RebuildMendsCardSaid : Prop := Claim7.holds Tryd.pinned (.plain (OpenSpec.ofChange rebuildMendsSpec)) rebuildMendsCard

/-- THE TIED CARD OF 'ossuarylaw8.RebuildForms'. -/
def rebuildFormsCard : Claim7 := { stood := { row := rebuildFormsRow, standIns := [], harness := (true, "3acf248ec581cae7e55f418449434bf35175afa046385bbaea8c8750009d0a06"), looks := false }, kinds := [], alts := [], laidByText := true, laidKinds := [.data], laidTests := true, laidLooks := .later }
def RebuildFormsCardSaid : Prop := Claim7.holds Tryd.pinned (.plain (OpenSpec.ofChange rebuildFormsSpec)) rebuildFormsCard

/-- THE TIED CARD OF 'ossuarylaw8.RebuildCode'. -/
def rebuildCodeCard : Claim7 := { stood := { row := rebuildCodeRow, standIns := [], harness := (true, "3acf248ec581cae7e55f418449434bf35175afa046385bbaea8c8750009d0a06"), looks := false }, kinds := [], alts := [], laidByText := true, laidKinds := [.data], laidTests := true, laidLooks := .later }
def RebuildCodeCardSaid : Prop := Claim7.holds Tryd.pinned (.plain (OpenSpec.ofChange rebuildCodeSpec)) rebuildCodeCard

/-- THE SECOND FORM's CARD OF 'ossuarylaw8.Rebuilds'. -/
def rebuildsUptoCard : Claim7 := { stood := { row := rebuildsUptoRow, standIns := [], harness := (true, "3acf248ec581cae7e55f418449434bf35175afa046385bbaea8c8750009d0a06"), looks := false }, kinds := [], alts := [], laidByText := true, laidKinds := [.data], laidTests := true, laidLooks := .later }
def RebuildsUptoCardSaid : Prop := Claim7.holds Tryd.pinned (.plain (OpenSpec.upto rebuildsSpec)) rebuildsUptoCard

/-- THE SECOND FORM's CARD OF 'ossuarylaw8.RebuildAll'. -/
def rebuildAllUptoCard : Claim7 := { stood := { row := rebuildAllUptoRow, standIns := [], harness := (true, "3acf248ec581cae7e55f418449434bf35175afa046385bbaea8c8750009d0a06"), looks := false }, kinds := [], alts := [], laidByText := true, laidKinds := [.data], laidTests := true, laidLooks := .later }
def RebuildAllUptoCardSaid : Prop := Claim7.holds Tryd.pinned (.plain (OpenSpec.upto rebuildAllSpec)) rebuildAllUptoCard

/-- THE SECOND FORM's CARD OF 'ossuarylaw8.RebuildMends'. -/
def rebuildMendsUptoCard : Claim7 := { stood := { row := rebuildMendsUptoRow, standIns := [], harness := (true, "3acf248ec581cae7e55f418449434bf35175afa046385bbaea8c8750009d0a06"), looks := false }, kinds := [], alts := [], laidByText := true, laidKinds := [.data], laidTests := true, laidLooks := .later }
def RebuildMendsUptoCardSaid : Prop := Claim7.holds Tryd.pinned (.plain (OpenSpec.upto rebuildMendsSpec)) rebuildMendsUptoCard

/-- THE SECOND FORM's CARD OF 'ossuarylaw8.RebuildForms'. -/
def rebuildFormsUptoCard : Claim7 := { stood := { row := rebuildFormsUptoRow, standIns := [], harness := (true, "3acf248ec581cae7e55f418449434bf35175afa046385bbaea8c8750009d0a06"), looks := false }, kinds := [], alts := [], laidByText := true, laidKinds := [.data], laidTests := true, laidLooks := .later }
def RebuildFormsUptoCardSaid : Prop := Claim7.holds Tryd.pinned (.plain (OpenSpec.upto rebuildFormsSpec)) rebuildFormsUptoCard

/-- THE SECOND FORM's CARD OF 'ossuarylaw8.RebuildCode'. -/
def rebuildCodeUptoCard : Claim7 := { stood := { row := rebuildCodeUptoRow, standIns := [], harness := (true, "3acf248ec581cae7e55f418449434bf35175afa046385bbaea8c8750009d0a06"), looks := false }, kinds := [], alts := [], laidByText := true, laidKinds := [.data], laidTests := true, laidLooks := .later }
def RebuildCodeUptoCardSaid : Prop := Claim7.holds Tryd.pinned (.plain (OpenSpec.upto rebuildCodeSpec)) rebuildCodeUptoCard
end Rows
end Go.Proofs.YtcgagkaalbljmaaDoor
