/-
  DERIVED. GIVEN WITH THE SEED: THE CARDS: each row of YtalnfjnfcloonaaGreatDoorRows.lean that lists a variable, with what it lists TIED to the program's text (the seventh form; the later family's looks); each row that meets fmt, with fmt's text TOLD by the authors' own Lean function (tested against real Go, not proved from fmt's source: count such statements apart). THE CARD IS WHAT COUNTS. Prove the row's statement (the work); the ties are given (YtalnfjnfcloonaaGreatDoorTie.lean); close each card by the builder's one call (the guide's Derived/Test/ToyasCard.lean, 'card_holds'). Laid BY PROGRAM, IN A SANDBOX (cutbox-door.mjs). By AI agents, Wed Nov 11 2026. No macro, syntax, notation, axiom, sorry.
-/
import Derived.Test.YtalnfjnfcloonaaGreatDoorRows
import GoSem.ClaimSeven
namespace Go.Proofs.YtalnfjnfcloonaaGreatDoor
namespace Rows

/-- THE TIED CARD OF 'acequialaw11.SrcsTexts'. -/
def srcsTextsCard : Claim7 := { stood := { row := srcsTextsRow, standIns := [], harness := (true, "17e9a4b95e88b152fb4254e77c513a8ebf34a4f5cfdefc8d7ff9104c0a95ff51"), looks := true }, kinds := [], alts := [], laidByText := true, laidKinds := [.data, .data, .data, .data, .sentinel, .sentinel, .pinned], laidTests := true, laidLooks := .later }
def SrcsTextsCardSaid : Prop := Claim7.holds Tryz.pinned (.plain (OpenSpec.ofChange srcsTextsSpec)) srcsTextsCard

/-- THE SECOND FORM's CARD OF 'acequialaw11.SrcsTexts'. -/
def srcsTextsUptoCard : Claim7 := { stood := { row := srcsTextsUptoRow, standIns := [], harness := (true, "17e9a4b95e88b152fb4254e77c513a8ebf34a4f5cfdefc8d7ff9104c0a95ff51"), looks := true }, kinds := [], alts := [], laidByText := true, laidKinds := [.data, .data, .data, .data, .sentinel, .sentinel, .pinned], laidTests := true, laidLooks := .later }
def SrcsTextsUptoCardSaid : Prop := Claim7.holds Tryz.pinned (.plain (OpenSpec.upto srcsTextsSpec)) srcsTextsUptoCard
end Rows
end Go.Proofs.YtalnfjnfcloonaaGreatDoor
