/-
  DERIVED. GIVEN WITH THE SEED: THE CARDS: each row of YtncehpbghnokpaaDoorRows.lean that lists a variable, with what it lists TIED to the program's text (the seventh form; the later family's looks); each row that meets fmt, with fmt's text TOLD by the authors' own Lean function (tested against real Go, not proved from fmt's source: count such statements apart). THE CARD IS WHAT COUNTS. Prove the row's statement (the work); the ties are given (YtncehpbghnokpaaDoorTie.lean); close each card by the builder's one call (the guide's Derived/Test/ToyasCard.lean, 'card_holds'). Laid BY PROGRAM, IN A SANDBOX (cutbox-door.mjs). By AI agents, Wed Nov 11 2026. No macro, syntax, notation, axiom, sorry.
-/
import Derived.Test.YtncehpbghnokpaaDoorRows
import GoSem.ClaimSeven
namespace Go.Proofs.YtncehpbghnokpaaDoor
namespace Rows

/-- THE TIED CARD OF 'ossuarylaw7.Decodes'. -/
def decodesCard : Claim7 := { stood := { row := decodesRow, standIns := [], harness := (true, "35074de582a7f50830f47f60ee3838f13b5375424c2a8ffa1af2831108980aa6"), looks := false }, kinds := [], alts := [], laidByText := true, laidKinds := [.data], laidTests := true, laidLooks := .later }
def DecodesCardSaid : Prop := Claim7.holds Tryd.pinned (.plain (OpenSpec.ofChange decodesSpec)) decodesCard

/-- THE TIED CARD OF 'ossuarylaw7.DecodeForms'. -/
def decodeFormsCard : Claim7 := { stood := { row := decodeFormsRow, standIns := [], harness := (true, "35074de582a7f50830f47f60ee3838f13b5375424c2a8ffa1af2831108980aa6"), looks := false }, kinds := [], alts := [], laidByText := true, laidKinds := [.data], laidTests := true, laidLooks := .later }
def DecodeFormsCardSaid : Prop := Claim7.holds Tryd.pinned (.plain (OpenSpec.ofChange decodeFormsSpec)) decodeFormsCard

/-- THE TIED CARD OF 'ossuarylaw7.DecodeFirst'. -/
def decodeFirstCard : Claim7 := { stood := { row := decodeFirstRow, standIns := [], harness := (true, "35074de582a7f50830f47f60ee3838f13b5375424c2a8ffa1af2831108980aa6"), looks := false }, kinds := [], alts := [], laidByText := true, laidKinds := [.data], laidTests := true, laidLooks := .later }
def DecodeFirstCardSaid : Prop := Claim7.holds Tryd.pinned (.plain (OpenSpec.ofChange decodeFirstSpec)) decodeFirstCard

/-- THE TIED CARD OF 'ossuarylaw7.DecodeSums'. -/
def decodeSumsCard : Claim7 := { stood := { row := decodeSumsRow, standIns := [], harness := (true, "35074de582a7f50830f47f60ee3838f13b5375424c2a8ffa1af2831108980aa6"), looks := false }, kinds := [], alts := [], laidByText := true, laidKinds := [.data], laidTests := true, laidLooks := .later }
def DecodeSumsCardSaid : Prop := Claim7.holds Tryd.pinned (.plain (OpenSpec.ofChange decodeSumsSpec)) decodeSumsCard

/-- THE SECOND FORM's CARD OF 'ossuarylaw7.Decodes'. -/
def decodesUptoCard : Claim7 := { stood := { row := decodesUptoRow, standIns := [], harness := (true, "35074de582a7f50830f47f60ee3838f13b5375424c2a8ffa1af2831108980aa6"), looks := false }, kinds := [], alts := [], laidByText := true, laidKinds := [.data], laidTests := true, laidLooks := .later }
def DecodesUptoCardSaid : Prop := Claim7.holds Tryd.pinned (.plain (OpenSpec.upto decodesSpec)) decodesUptoCard

/-- THE SECOND FORM's CARD OF 'ossuarylaw7.DecodeForms'. -/
def decodeFormsUptoCard : Claim7 := { stood := { row := decodeFormsUptoRow, standIns := [], harness := (true, "35074de582a7f50830f47f60ee3838f13b5375424c2a8ffa1af2831108980aa6"), looks := false }, kinds := [], alts := [], laidByText := true, laidKinds := [.data], laidTests := true, laidLooks := .later }
def DecodeFormsUptoCardSaid : Prop := Claim7.holds Tryd.pinned (.plain (OpenSpec.upto decodeFormsSpec)) decodeFormsUptoCard

/-- THE SECOND FORM's CARD OF 'ossuarylaw7.DecodeFirst'. -/
def decodeFirstUptoCard : Claim7 := { stood := { row := decodeFirstUptoRow, standIns := [], harness := (true, "35074de582a7f50830f47f60ee3838f13b5375424c2a8ffa1af2831108980aa6"), looks := false }, kinds := [], alts := [], laidByText := true, laidKinds := [.data], laidTests := true, laidLooks := .later }
def DecodeFirstUptoCardSaid : Prop := Claim7.holds Tryd.pinned (.plain (OpenSpec.upto decodeFirstSpec)) decodeFirstUptoCard

/-- THE SECOND FORM's CARD OF 'ossuarylaw7.DecodeSums'. -/
def decodeSumsUptoCard : Claim7 := { stood := { row := decodeSumsUptoRow, standIns := [], harness := (true, "35074de582a7f50830f47f60ee3838f13b5375424c2a8ffa1af2831108980aa6"), looks := false }, kinds := [], alts := [], laidByText := true, laidKinds := [.data], laidTests := true, laidLooks := .later }
def DecodeSumsUptoCardSaid : Prop := Claim7.holds Tryd.pinned (.plain (OpenSpec.upto decodeSumsSpec)) decodeSumsUptoCard
end Rows
end Go.Proofs.YtncehpbghnokpaaDoor
