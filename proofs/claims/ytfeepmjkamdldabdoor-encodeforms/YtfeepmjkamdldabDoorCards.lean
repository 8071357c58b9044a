/-
  DERIVED. GIVEN WITH THE SEED: THE CARDS: each row of YtfeepmjkamdldabDoorRows.lean that lists a variable, with what it lists TIED to the program's text (the seventh form; the later family's looks); each row that meets fmt, with fmt's text TOLD by the authors' own Lean function (tested against real Go, not proved from fmt's source: count such statements apart). THE CARD IS WHAT COUNTS. Prove the row's statement (the work); the ties are given (YtfeepmjkamdldabDoorTie.lean); close each card by the builder's one call (the guide's Derived/Test/ToyasCard.lean, 'card_holds'). Laid BY PROGRAM, IN A SANDBOX (cutbox-door.mjs). By AI agents, Wed Nov 11 2026. No macro, syntax, notation, axiom, sorry.
-/
import Derived.Test.YtfeepmjkamdldabDoorRows
import GoSem.ClaimSeven
namespace Go.Proofs.YtfeepmjkamdldabDoor
namespace Rows

/-- THE TIED CARD OF 'ossuarylaw6.EncodeForms'. -/
def encodeFormsCard : Claim7 := { stood := { row := encodeFormsRow, standIns := [], harness := (true, "1768f9617679077a415378c7f526a1747a4d537ebd2535540d1f78874a734aa6"), looks := false }, kinds := [], alts := [], laidByText := true, laidKinds := [.data], laidTests := true, laidLooks := .later }
def EncodeFormsCardSaid : Prop := Claim7.holds Tryd.pinned (.plain (OpenSpec.ofChange encodeFormsSpec)) encodeFormsCard

/-- THE SECOND FORM's CARD OF 'ossuarylaw6.EncodeForms'. -/
def encodeFormsUptoCard : Claim7 := { stood := { row := encodeFormsUptoRow, standIns := [], harness := (true, "1768f9617679077a415378c7f526a1747a4d537ebd2535540d1f78874a734aa6"), looks := false }, kinds := [], alts := [], laidByText := true, laidKinds := [.data], laidTests := true, laidLooks := .later }
def EncodeFormsUptoCardSaid : Prop := Claim7.holds Tryd.pinned (.plain (OpenSpec.upto encodeFormsSpec)) encodeFormsUptoCard
end Rows
end Go.Proofs.YtfeepmjkamdldabDoor
