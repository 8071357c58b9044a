/-
  DERIVED. GIVEN WITH THE SEED: THE CARDS: each row of YtfeepmjkamdldaaDoorRows.lean that lists a variable, with what it lists TIED to the program's text (the seventh form; the later family's looks); each row that meets fmt, with fmt's text TOLD by the authors' own Lean function (tested against real Go, not proved from fmt's source: count such statements apart). THE CARD IS WHAT COUNTS. Prove the row's statement (the work); the ties are given (YtfeepmjkamdldaaDoorTie.lean); close each card by the builder's one call (the guide's Derived/Test/ToyasCard.lean, 'card_holds'). Laid BY PROGRAM, IN A SANDBOX (cutbox-door.mjs). By AI agents, Wed Nov 11 2026. No macro, syntax, notation, axiom, sorry.
-/
import Derived.Test.YtfeepmjkamdldaaDoorRows
import GoSem.ClaimSeven
namespace Go.Proofs.YtfeepmjkamdldaaDoor
namespace Rows

/-- THE TIED CARD OF 'ossuarylaw5.Gens'. -/
def gensCard : Claim7 := { stood := { row := gensRow, standIns := [], harness := (true, "45b839ff1df3132110f6f5c4dc1052e1ea713fba30761923d9b28b851f4fd55b"), looks := false }, kinds := [], alts := [], laidByText := true, laidKinds := [.data], laidTests := true, laidLooks := .later }
def GensCardSaid : Prop := Claim7.holds Tryd.pinned (.plain (OpenSpec.ofChange gensSpec)) gensCard

/-- THE TIED CARD OF 'ossuarylaw5.GenAny'. -/
def genAnyCard : Claim7 := { stood := { row := genAnyRow, standIns := [], harness := (true, "45b839ff1df3132110f6f5c4dc1052e1ea713fba30761923d9b28b851f4fd55b"), looks := false }, kinds := [], alts := [], laidByText := true, laidKinds := [.data], laidTests := true, laidLooks := .later }
def GenAnyCardSaid : Prop := Claim7.holds Tryd.pinned (.plain (OpenSpec.ofChange genAnySpec)) genAnyCard

/-- THE TIED CARD OF 'ossuarylaw5.GenTable'. -/
def genTableCard : Claim7 := { stood := { row := genTableRow, standIns := [], harness := (true, "45b839ff1df3132110f6f5c4dc1052e1ea713fba30761923d9b28b851f4fd55b"), looks := false }, kinds := [], alts := [], laidByText := true, laidKinds := [.data], laidTests := true, laidLooks := .later }
def GenTableCardSaid : Prop := Claim7.holds Tryd.pinned (.plain (OpenSpec.ofChange genTableSpec)) genTableCard

/-- THE TIED CARD OF 'ossuarylaw5.GenForms'. -/
def genFormsCard : Claim7 := { stood := { row := genFormsRow, standIns := [], harness := (true, "45b839ff1df3132110f6f5c4dc1052e1ea713fba30761923d9b28b851f4fd55b"), looks := false }, kinds := [], alts := [], laidByText := true, laidKinds := [.data], laidTests := true, laidLooks := .later }
def GenFormsCardSaid : Prop := Claim7.holds Tryd.pinned (.plain (OpenSpec.ofChange genFormsSpec)) genFormsCard

/-- THE TIED CARD OF 'ossuarylaw5.GenMore'. -/
def genMoreCard : Claim7 := { stood := { row := genMoreRow, standIns := [], harness := (true, "45b839ff1df3132110f6f5c4dc1052e1ea713fba30761923d9b28b851f4fd55b"), looks := false }, kinds := [], alts := [], laidByText := true, laidKinds := [.data], laidTests := true, laidLooks := .later }
def GenMoreCardSaid : Prop := Claim7.holds Tryd.pinned (.plain (OpenSpec.ofChange genMoreSpec)) genMoreCard

/-- THE TIED CARD OF 'ossuarylaw6.Encodes'. -/
def encodesCard : Claim7 := { stood := { row := encodesRow, standIns := [], harness := (true, "45b839ff1df3132110f6f5c4dc1052e1ea713fba30761923d9b28b851f4fd55b"), looks := false }, kinds := [], alts := [], laidByText := true, laidKinds := [.data], laidTests := true, laidLooks := .later }
def EncodesCardSaid : Prop := Claim7.holds Tryd.pinned (.plain (OpenSpec.ofChange encodesSpec)) encodesCard

/-- THE SECOND FORM's CARD OF 'ossuarylaw5.Gens'. -/
def gensUptoCard : Claim7 := { stood := { row := gensUptoRow, standIns := [], harness := (true, "45b839ff1df3132110f6f5c4dc1052e1ea713fba30761923d9b28b851f4fd55b"), looks := false }, kinds := [], alts := [], laidByText := true, laidKinds := [.data], laidTests := true, laidLooks := .later }
def GensUptoCardSaid : Prop := Claim7.holds Tryd.pinned (.plain (OpenSpec.upto gensSpec)) gensUptoCard

/-- THE SECOND FORM's CARD OF 'ossuarylaw5.GenAny'. -/
def genAnyUptoCard : Claim7 := { stood := { row := genAnyUptoRow, standIns := [], harness := (true, "45b839ff1df3132110f6f5c4dc1052e1ea713fba30761923d9b28b851f4fd55b"), looks := false }, kinds := [], alts := [], laidByText := true, laidKinds := [.data], laidTests := true, laidLooks := .later }
def GenAnyUptoCardSaid : Prop := Claim7.holds Tryd.pinned (.plain (OpenSpec.upto genAnySpec)) genAnyUptoCard

/-- THE SECOND FORM's CARD OF 'ossuarylaw5.GenTable'. -/
def genTableUptoCard : Claim7 := { stood := { row := genTableUptoRow, standIns := [], harness := (true, "45b839ff1df3132110f6f5c4dc1052e1ea713fba30761923d9b28b851f4fd55b"), looks := false }, kinds := [], alts := [], laidByText := true, laidKinds := [.data], laidTests := true, laidLooks := .later }
def GenTableUptoCardSaid : Prop := Claim7.holds Tryd.pinned (.plain (OpenSpec.upto genTableSpec)) genTableUptoCard

/-- THE SECOND FORM's CARD OF 'ossuarylaw5.GenForms'. -/
def genFormsUptoCard : Claim7 := { stood := { row := genFormsUptoRow, standIns := [], harness := (true, "45b839ff1df3132110f6f5c4dc1052e1ea713fba30761923d9b28b851f4fd55b"), looks := false }, kinds := [], alts := [], laidByText := true, laidKinds := [.data], laidTests := true, laidLooks := .later }
def GenFormsUptoCardSaid : Prop := Claim7.holds Tryd.pinned (.plain (OpenSpec.upto genFormsSpec)) genFormsUptoCard

/-- THE SECOND FORM's CARD OF 'ossuarylaw5.GenMore'. -/
def genMoreUptoCard : Claim7 := { stood := { row := genMoreUptoRow, standIns := [], harness := (true, "45b839ff1df3132110f6f5c4dc1052e1ea713fba30761923d9b28b851f4fd55b"), looks := false }, kinds := [], alts := [], laidByText := true, laidKinds := [.data], laidTests := true, laidLooks := .later }
def GenMoreUptoCardSaid : Prop := Claim7.holds Tryd.pinned (.plain (OpenSpec.upto genMoreSpec)) genMoreUptoCard

/-- THE SECOND FORM's CARD OF 'ossuarylaw6.Encodes'. -/
def encodesUptoCard : Claim7 := { stood := { row := encodesUptoRow, standIns := [], harness := (true, "45b839ff1df3132110f6f5c4dc1052e1ea713fba30761923d9b28b851f4fd55b"), looks := false }, kinds := [], alts := [], laidByText := true, laidKinds := [.data], laidTests := true, laidLooks := .later }
def EncodesUptoCardSaid : Prop := Claim7.holds Tryd.pinned (.plain (OpenSpec.upto encodesSpec)) encodesUptoCard
end Rows
end Go.Proofs.YtfeepmjkamdldaaDoor
