/-
  DERIVED. GIVEN WITH THE SEED: THE CARDS: each row of YtppfoklghafjgabDoorRows.lean that lists a variable, with what it lists TIED to the program's text (the seventh form; the later family's looks); each row that meets fmt, with fmt's text TOLD by the authors' own Lean function (tested against real Go, not proved from fmt's source: count such statements apart). THE CARD IS WHAT COUNTS. Prove the row's statement (the work); the ties are given (YtppfoklghafjgabDoorTie.lean); close each card by the builder's one call (the guide's Derived/Test/ToyasCard.lean, 'card_holds'). Laid BY PROGRAM, IN A SANDBOX (cutbox-door.mjs). By AI agents, Wed Nov 11 2026. No macro, syntax, notation, axiom, sorry.
-/
import Derived.Test.YtppfoklghafjgabDoorRows
import GoSem.ClaimSeven
namespace Go.Proofs.YtppfoklghafjgabDoor
namespace Rows

/-- THE TIED CARD OF 'fettlelaw16.FatNils'. -/
def fatNilsCard : Claim7 := { stood := { row := fatNilsRow, standIns := [], harness := (true, "2dde0dca605d613ef4045698f4c303d96b0b3f6c2633ef7ae5fc893cf094cc8d"), looks := false }, kinds := [], alts := [], laidByText := true, laidKinds := [.data, .data], laidTests := true, laidLooks := .later }
def FatNilsCardSaid : Prop := Claim7.holds Tryd.pinned (.plain (OpenSpec.ofChange fatNilsSpec)) fatNilsCard

/-- THE TIED CARD OF 'fettlelaw16.FatLoops'. -/
def fatLoopsCard : Claim7 := { stood := { row := fatLoopsRow, standIns := [], harness := (true, "2dde0dca605d613ef4045698f4c303d96b0b3f6c2633ef7ae5fc893cf094cc8d"), looks := false }, kinds := [], alts := [], laidByText := true, laidKinds := [.data, .data], laidTests := true, laidLooks := .later }
def FatLoopsCardSaid : Prop := Claim7.holds Tryd.pinned (.plain (OpenSpec.ofChange fatLoopsSpec)) fatLoopsCard

/-- THE SECOND FORM's CARD OF 'fettlelaw16.FatNils'. -/
def fatNilsUptoCard : Claim7 := { stood := { row := fatNilsUptoRow, standIns := [], harness := (true, "2dde0dca605d613ef4045698f4c303d96b0b3f6c2633ef7ae5fc893cf094cc8d"), looks := false }, kinds := [], alts := [], laidByText := true, laidKinds := [.data, .data], laidTests := true, laidLooks := .later }
def FatNilsUptoCardSaid : Prop := Claim7.holds Tryd.pinned (.plain (OpenSpec.upto fatNilsSpec)) fatNilsUptoCard

/-- THE SECOND FORM's CARD OF 'fettlelaw16.FatLoops'. -/
def fatLoopsUptoCard : Claim7 := { stood := { row := fatLoopsUptoRow, standIns := [], harness := (true, "2dde0dca605d613ef4045698f4c303d96b0b3f6c2633ef7ae5fc893cf094cc8d"), looks := false }, kinds := [], alts := [], laidByText := true, laidKinds := [.data, .data], laidTests := true, laidLooks := .later }
def FatLoopsUptoCardSaid : Prop := Claim7.holds Tryd.pinned (.plain (OpenSpec.upto fatLoopsSpec)) fatLoopsUptoCard
end Rows
end Go.Proofs.YtppfoklghafjgabDoor
