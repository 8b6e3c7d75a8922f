/-
  DERIVED. GIVEN WITH THE SEED: THE CARDS: each row of YtbldkebolmellaaDoorRows.lean that lists a variable, with what it lists TIED to the program's text (the seventh form; the later family's looks); each row that meets fmt, with fmt's text TOLD by the authors' own Lean function (tested against real Go, not proved from fmt's source: count such statements apart). THE CARD IS WHAT COUNTS. Prove the row's statement (the work); the ties are given (YtbldkebolmellaaDoorTie.lean); close each card by the builder's one call (the guide's Derived/Test/ToyasCard.lean, 'card_holds'). Laid BY PROGRAM, IN A SANDBOX (cutbox-door.mjs). By AI agents, Wed Nov 11 2026. No macro, syntax, notation, axiom, sorry.
-/
import Derived.Test.YtbldkebolmellaaDoorRows
import GoSem.ClaimSeven
namespace Go.Proofs.YtbldkebolmellaaDoor
namespace Rows

/-- THE TIED CARD OF 'fettlelaw16.FatBoots'. -/
def fatBootsCard : Claim7 := { stood := { row := fatBootsRow, standIns := [], harness := (true, "cef4f92033b86b756cdeb854791cba9f6c3b4615937b91e7b466014a9569903c"), looks := false }, kinds := [], alts := [], laidByText := true, laidKinds := [.data, .data], laidTests := true, laidLooks := .later }
def FatBootsCardSaid : Prop := Claim7.holds Tryd.pinned (.plain (OpenSpec.ofChange fatBootsSpec)) fatBootsCard

/-- THE TIED CARD OF 'fettlelaw16.FatSectors'. -/
def fatSectorsCard : Claim7 := { stood := { row := fatSectorsRow, standIns := [], harness := (true, "cef4f92033b86b756cdeb854791cba9f6c3b4615937b91e7b466014a9569903c"), looks := false }, kinds := [], alts := [], laidByText := true, laidKinds := [.data, .data], laidTests := true, laidLooks := .later }
def FatSectorsCardSaid : Prop := Claim7.holds Tryd.pinned (.plain (OpenSpec.ofChange fatSectorsSpec)) fatSectorsCard

/-- THE TIED CARD OF 'fettlelaw16.FatParses'. -/
def fatParsesCard : Claim7 := { stood := { row := fatParsesRow, standIns := [], harness := (true, "cef4f92033b86b756cdeb854791cba9f6c3b4615937b91e7b466014a9569903c"), looks := false }, kinds := [], alts := [], laidByText := true, laidKinds := [.data, .data], laidTests := true, laidLooks := .later }
def FatParsesCardSaid : Prop := Claim7.holds Tryd.pinned (.plain (OpenSpec.ofChange fatParsesSpec)) fatParsesCard

/-- THE TIED CARD OF 'fettlelaw16.FatMakes'. -/
def fatMakesCard : Claim7 := { stood := { row := fatMakesRow, standIns := [], harness := (true, "cef4f92033b86b756cdeb854791cba9f6c3b4615937b91e7b466014a9569903c"), looks := false }, kinds := [], alts := [], laidByText := true, laidKinds := [.data, .data], laidTests := true, laidLooks := .later }
def FatMakesCardSaid : Prop := Claim7.holds Tryd.pinned (.plain (OpenSpec.ofChange fatMakesSpec)) fatMakesCard

/-- THE SECOND FORM's CARD OF 'fettlelaw16.FatBoots'. -/
def fatBootsUptoCard : Claim7 := { stood := { row := fatBootsUptoRow, standIns := [], harness := (true, "cef4f92033b86b756cdeb854791cba9f6c3b4615937b91e7b466014a9569903c"), looks := false }, kinds := [], alts := [], laidByText := true, laidKinds := [.data, .data], laidTests := true, laidLooks := .later }
def FatBootsUptoCardSaid : Prop := Claim7.holds Tryd.pinned (.plain (OpenSpec.upto fatBootsSpec)) fatBootsUptoCard

/-- THE SECOND FORM's CARD OF 'fettlelaw16.FatSectors'. -/
def fatSectorsUptoCard : Claim7 := { stood := { row := fatSectorsUptoRow, standIns := [], harness := (true, "cef4f92033b86b756cdeb854791cba9f6c3b4615937b91e7b466014a9569903c"), looks := false }, kinds := [], alts := [], laidByText := true, laidKinds := [.data, .data], laidTests := true, laidLooks := .later }
def FatSectorsUptoCardSaid : Prop := Claim7.holds Tryd.pinned (.plain (OpenSpec.upto fatSectorsSpec)) fatSectorsUptoCard

/-- THE SECOND FORM's CARD OF 'fettlelaw16.FatParses'. -/
def fatParsesUptoCard : Claim7 := { stood := { row := fatParsesUptoRow, standIns := [], harness := (true, "cef4f92033b86b756cdeb854791cba9f6c3b4615937b91e7b466014a9569903c"), looks := false }, kinds := [], alts := [], laidByText := true, laidKinds := [.data, .data], laidTests := true, laidLooks := .later }
def FatParsesUptoCardSaid : Prop := Claim7.holds Tryd.pinned (.plain (OpenSpec.upto fatParsesSpec)) fatParsesUptoCard

/-- THE SECOND FORM's CARD OF 'fettlelaw16.FatMakes'. -/
def fatMakesUptoCard : Claim7 := { stood := { row := fatMakesUptoRow, standIns := [], harness := (true, "cef4f92033b86b756cdeb854791cba9f6c3b4615937b91e7b466014a9569903c"), looks := false }, kinds := [], alts := [], laidByText := true, laidKinds := [.data, .data], laidTests := true, laidLooks := .later }
def FatMakesUptoCardSaid : Prop := Claim7.holds Tryd.pinned (.plain (OpenSpec.upto fatMakesSpec)) fatMakesUptoCard
end Rows
end Go.Proofs.YtbldkebolmellaaDoor
