/-
  DERIVED. GIVEN WITH THE SEED: THE CARDS: each row of YtjpdfchdgphdoaaGreatDoorRows.lean that lists a variable, with what it lists TIED to the program's text (the seventh form; the later family's looks); each row that meets fmt, with fmt's text TOLD by the authors' own Lean function (tested against real Go, not proved from fmt's source: count such statements apart). THE CARD IS WHAT COUNTS. Prove the row's statement (the work); the ties are given (YtjpdfchdgphdoaaGreatDoorTie.lean); close each card by the builder's one call (the guide's Derived/Test/ToyasCard.lean, 'card_holds'). Laid BY PROGRAM, IN A SANDBOX (cutbox-door.mjs). By AI agents, Wed Nov 11 2026. No macro, syntax, notation, axiom, sorry.
-/
import Derived.Test.YtjpdfchdgphdoaaGreatDoorRows
import GoSem.ClaimSeven
namespace Go.Proofs.YtjpdfchdgphdoaaGreatDoor
namespace Rows

/-- THE TIED CARD OF 'fettlelaw15.PartsWindows'. -/
def partsWindowsCard : Claim7 := { stood := { row := partsWindowsRow, standIns := [], harness := (true, "48e7b214f82d0273228bd0e752cb202f1f173523018546ed7ae1f9d8f284b3ee"), looks := false }, kinds := [], alts := [], laidByText := true, laidKinds := [.data], laidTests := true, laidLooks := .later }
def PartsWindowsCardSaid : Prop := Claim7.holds Tryz.pinned (.plain (OpenSpec.ofChange partsWindowsSpec)) partsWindowsCard

/-- THE TIED CARD OF 'fettlelaw15.PartsContents'. -/
def partsContentsCard : Claim7 := { stood := { row := partsContentsRow, standIns := [], harness := (true, "48e7b214f82d0273228bd0e752cb202f1f173523018546ed7ae1f9d8f284b3ee"), looks := false }, kinds := [], alts := [], laidByText := true, laidKinds := [.data], laidTests := true, laidLooks := .later }
def PartsContentsCardSaid : Prop := Claim7.holds Tryz.pinned (.plain (OpenSpec.ofChange partsContentsSpec)) partsContentsCard

/-- THE TIED CARD OF 'fettlelaw15.PartsFinds'. -/
def partsFindsCard : Claim7 := { stood := { row := partsFindsRow, standIns := [], harness := (true, "48e7b214f82d0273228bd0e752cb202f1f173523018546ed7ae1f9d8f284b3ee"), looks := false }, kinds := [], alts := [], laidByText := true, laidKinds := [.data], laidTests := true, laidLooks := .later }
def PartsFindsCardSaid : Prop := Claim7.holds Tryz.pinned (.plain (OpenSpec.ofChange partsFindsSpec)) partsFindsCard

/-- THE SECOND FORM's CARD OF 'fettlelaw15.PartsWindows'. -/
def partsWindowsUptoCard : Claim7 := { stood := { row := partsWindowsUptoRow, standIns := [], harness := (true, "48e7b214f82d0273228bd0e752cb202f1f173523018546ed7ae1f9d8f284b3ee"), looks := false }, kinds := [], alts := [], laidByText := true, laidKinds := [.data], laidTests := true, laidLooks := .later }
def PartsWindowsUptoCardSaid : Prop := Claim7.holds Tryz.pinned (.plain (OpenSpec.upto partsWindowsSpec)) partsWindowsUptoCard

/-- THE SECOND FORM's CARD OF 'fettlelaw15.PartsContents'. -/
def partsContentsUptoCard : Claim7 := { stood := { row := partsContentsUptoRow, standIns := [], harness := (true, "48e7b214f82d0273228bd0e752cb202f1f173523018546ed7ae1f9d8f284b3ee"), looks := false }, kinds := [], alts := [], laidByText := true, laidKinds := [.data], laidTests := true, laidLooks := .later }
def PartsContentsUptoCardSaid : Prop := Claim7.holds Tryz.pinned (.plain (OpenSpec.upto partsContentsSpec)) partsContentsUptoCard

/-- THE SECOND FORM's CARD OF 'fettlelaw15.PartsFinds'. -/
def partsFindsUptoCard : Claim7 := { stood := { row := partsFindsUptoRow, standIns := [], harness := (true, "48e7b214f82d0273228bd0e752cb202f1f173523018546ed7ae1f9d8f284b3ee"), looks := false }, kinds := [], alts := [], laidByText := true, laidKinds := [.data], laidTests := true, laidLooks := .later }
def PartsFindsUptoCardSaid : Prop := Claim7.holds Tryz.pinned (.plain (OpenSpec.upto partsFindsSpec)) partsFindsUptoCard
end Rows
end Go.Proofs.YtjpdfchdgphdoaaGreatDoor
