/-
  DERIVED. GIVEN WITH THE SEED: THE CARDS: each row of YtalnfjnfcloonaaDoorRows.lean that lists a variable, with what it lists TIED to the program's text (the seventh form; the later family's looks); each row that meets fmt, with fmt's text TOLD by the authors' own Lean function (tested against real Go, not proved from fmt's source: count such statements apart). THE CARD IS WHAT COUNTS. Prove the row's statement (the work); the ties are given (YtalnfjnfcloonaaDoorTie.lean); close each card by the builder's one call (the guide's Derived/Test/ToyasCard.lean, 'card_holds'). Laid BY PROGRAM, IN A SANDBOX (cutbox-door.mjs). By AI agents, Wed Nov 11 2026. No macro, syntax, notation, axiom, sorry.
-/
import Derived.Test.YtalnfjnfcloonaaDoorRows
import GoSem.ClaimSeven
namespace Go.Proofs.YtalnfjnfcloonaaDoor
namespace Rows

/-- THE TIED CARD OF 'acequialaw11.SrcsMakes'. -/
def srcsMakesCard : Claim7 := { stood := { row := srcsMakesRow, standIns := [], harness := (true, "1eaabfacd1e37a213d0015f5987ef76a56c0340bfcec82dc1cf7bb2781b0145b"), looks := false }, kinds := [], alts := [], laidByText := true, laidKinds := [.data, .data, .data], laidTests := true, laidLooks := .later }
def SrcsMakesCardSaid : Prop := Claim7.holds Tryd.pinned (.plain (OpenSpec.ofChange srcsMakesSpec)) srcsMakesCard

/-- THE TIED CARD OF 'acequialaw11.SrcsPairs'. -/
def srcsPairsCard : Claim7 := { stood := { row := srcsPairsRow, standIns := [], harness := (true, "1eaabfacd1e37a213d0015f5987ef76a56c0340bfcec82dc1cf7bb2781b0145b"), looks := false }, kinds := [], alts := [], laidByText := true, laidKinds := [.data, .data, .data], laidTests := true, laidLooks := .later }
def SrcsPairsCardSaid : Prop := Claim7.holds Tryd.pinned (.plain (OpenSpec.ofChange srcsPairsSpec)) srcsPairsCard

/-- THE SECOND FORM's CARD OF 'acequialaw11.SrcsMakes'. -/
def srcsMakesUptoCard : Claim7 := { stood := { row := srcsMakesUptoRow, standIns := [], harness := (true, "1eaabfacd1e37a213d0015f5987ef76a56c0340bfcec82dc1cf7bb2781b0145b"), looks := false }, kinds := [], alts := [], laidByText := true, laidKinds := [.data, .data, .data], laidTests := true, laidLooks := .later }
def SrcsMakesUptoCardSaid : Prop := Claim7.holds Tryd.pinned (.plain (OpenSpec.upto srcsMakesSpec)) srcsMakesUptoCard

/-- THE SECOND FORM's CARD OF 'acequialaw11.SrcsPairs'. -/
def srcsPairsUptoCard : Claim7 := { stood := { row := srcsPairsUptoRow, standIns := [], harness := (true, "1eaabfacd1e37a213d0015f5987ef76a56c0340bfcec82dc1cf7bb2781b0145b"), looks := false }, kinds := [], alts := [], laidByText := true, laidKinds := [.data, .data, .data], laidTests := true, laidLooks := .later }
def SrcsPairsUptoCardSaid : Prop := Claim7.holds Tryd.pinned (.plain (OpenSpec.upto srcsPairsSpec)) srcsPairsUptoCard
end Rows
end Go.Proofs.YtalnfjnfcloonaaDoor
