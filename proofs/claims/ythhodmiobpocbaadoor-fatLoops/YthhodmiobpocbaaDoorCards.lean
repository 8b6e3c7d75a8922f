/-
  DERIVED. GIVEN WITH THE SEED: THE CARDS: each row of YthhodmiobpocbaaDoorRows.lean that lists a variable, with what it lists TIED to the program's text (the seventh form; the later family's looks); each row that meets fmt, with fmt's text TOLD by the authors' own Lean function (tested against real Go, not proved from fmt's source: count such statements apart). THE CARD IS WHAT COUNTS. Prove the row's statement (the work); the ties are given (YthhodmiobpocbaaDoorTie.lean); close each card by the builder's one call (the guide's Derived/Test/ToyasCard.lean, 'card_holds'). Laid BY PROGRAM, IN A SANDBOX (cutbox-door.mjs). By AI agents, Wed Nov 11 2026. No macro, syntax, notation, axiom, sorry.
-/
import Derived.Test.YthhodmiobpocbaaDoorRows
import GoSem.ClaimSeven
namespace Go.Proofs.YthhodmiobpocbaaDoor
namespace Rows

/-- THE TIED CARD OF 'fettlelaw16.FatChains'. -/
def fatChainsCard : Claim7 := { stood := { row := fatChainsRow, standIns := [], harness := (true, "5a8e68b94aa45cd3da70c09dcd652d1070f06dc8d5c90b5cc3b4f9a891745c97"), looks := false }, kinds := [], alts := [], laidByText := true, laidKinds := [.data, .data], laidTests := true, laidLooks := .later }
def FatChainsCardSaid : Prop := Claim7.holds Tryd.pinned (.plain (OpenSpec.ofChange fatChainsSpec)) fatChainsCard

/-- THE TIED CARD OF 'fettlelaw16.FatLoops'. -/
def fatLoopsCard : Claim7 := { stood := { row := fatLoopsRow, standIns := [], harness := (true, "5a8e68b94aa45cd3da70c09dcd652d1070f06dc8d5c90b5cc3b4f9a891745c97"), looks := false }, kinds := [], alts := [], laidByText := true, laidKinds := [.data, .data], laidTests := true, laidLooks := .later }
def FatLoopsCardSaid : Prop := Claim7.holds Tryd.pinned (.plain (OpenSpec.ofChange fatLoopsSpec)) fatLoopsCard

/-- THE SECOND FORM's CARD OF 'fettlelaw16.FatChains'. -/
def fatChainsUptoCard : Claim7 := { stood := { row := fatChainsUptoRow, standIns := [], harness := (true, "5a8e68b94aa45cd3da70c09dcd652d1070f06dc8d5c90b5cc3b4f9a891745c97"), looks := false }, kinds := [], alts := [], laidByText := true, laidKinds := [.data, .data], laidTests := true, laidLooks := .later }
def FatChainsUptoCardSaid : Prop := Claim7.holds Tryd.pinned (.plain (OpenSpec.upto fatChainsSpec)) fatChainsUptoCard

/-- THE SECOND FORM's CARD OF 'fettlelaw16.FatLoops'. -/
def fatLoopsUptoCard : Claim7 := { stood := { row := fatLoopsUptoRow, standIns := [], harness := (true, "5a8e68b94aa45cd3da70c09dcd652d1070f06dc8d5c90b5cc3b4f9a891745c97"), looks := false }, kinds := [], alts := [], laidByText := true, laidKinds := [.data, .data], laidTests := true, laidLooks := .later }
def FatLoopsUptoCardSaid : Prop := Claim7.holds Tryd.pinned (.plain (OpenSpec.upto fatLoopsSpec)) fatLoopsUptoCard
end Rows
end Go.Proofs.YthhodmiobpocbaaDoor
