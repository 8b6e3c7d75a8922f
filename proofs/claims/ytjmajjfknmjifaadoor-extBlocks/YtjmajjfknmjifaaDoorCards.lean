/-
  DERIVED. GIVEN WITH THE SEED: THE CARDS: each row of YtjmajjfknmjifaaDoorRows.lean that lists a variable, with what it lists TIED to the program's text (the seventh form; the later family's looks); each row that meets fmt, with fmt's text TOLD by the authors' own Lean function (tested against real Go, not proved from fmt's source: count such statements apart). THE CARD IS WHAT COUNTS. Prove the row's statement (the work); the ties are given (YtjmajjfknmjifaaDoorTie.lean); close each card by the builder's one call (the guide's Derived/Test/ToyasCard.lean, 'card_holds'). Laid BY PROGRAM, IN A SANDBOX (cutbox-door.mjs). By AI agents, Wed Nov 11 2026. No macro, syntax, notation, axiom, sorry.
-/
import Derived.Test.YtjmajjfknmjifaaDoorRows
import GoSem.ClaimSeven
namespace Go.Proofs.YtjmajjfknmjifaaDoor
namespace Rows

/-- THE TIED CARD OF 'fettlelaw18.ExtBlocks'. -/
def extBlocksCard : Claim7 := { stood := { row := extBlocksRow, standIns := [], harness := (true, "13f0ff14a66336177113f6b15f429511f42bc7c95bfd63222c01fcb9c83f7a93"), looks := false }, kinds := [], alts := [], laidByText := true, laidKinds := [.data], laidTests := true, laidLooks := .later }
def ExtBlocksCardSaid : Prop := Claim7.holds Tryd.pinned (.plain (OpenSpec.ofChange extBlocksSpec)) extBlocksCard

/-- THE TIED CARD OF 'fettlelaw18.ExtRows'. -/
def extRowsCard : Claim7 := { stood := { row := extRowsRow, standIns := [], harness := (true, "13f0ff14a66336177113f6b15f429511f42bc7c95bfd63222c01fcb9c83f7a93"), looks := false }, kinds := [], alts := [], laidByText := true, laidKinds := [.data], laidTests := true, laidLooks := .later }
def ExtRowsCardSaid : Prop := Claim7.holds Tryd.pinned (.plain (OpenSpec.ofChange extRowsSpec)) extRowsCard

/-- THE TIED CARD OF 'fettlelaw18.ExtMaps'. -/
def extMapsCard : Claim7 := { stood := { row := extMapsRow, standIns := [], harness := (true, "13f0ff14a66336177113f6b15f429511f42bc7c95bfd63222c01fcb9c83f7a93"), looks := false }, kinds := [], alts := [], laidByText := true, laidKinds := [.data], laidTests := true, laidLooks := .later }
def ExtMapsCardSaid : Prop := Claim7.holds Tryd.pinned (.plain (OpenSpec.ofChange extMapsSpec)) extMapsCard

/-- THE SECOND FORM's CARD OF 'fettlelaw18.ExtBlocks'. -/
def extBlocksUptoCard : Claim7 := { stood := { row := extBlocksUptoRow, standIns := [], harness := (true, "13f0ff14a66336177113f6b15f429511f42bc7c95bfd63222c01fcb9c83f7a93"), looks := false }, kinds := [], alts := [], laidByText := true, laidKinds := [.data], laidTests := true, laidLooks := .later }
def ExtBlocksUptoCardSaid : Prop := Claim7.holds Tryd.pinned (.plain (OpenSpec.upto extBlocksSpec)) extBlocksUptoCard

/-- THE SECOND FORM's CARD OF 'fettlelaw18.ExtRows'. -/
def extRowsUptoCard : Claim7 := { stood := { row := extRowsUptoRow, standIns := [], harness := (true, "13f0ff14a66336177113f6b15f429511f42bc7c95bfd63222c01fcb9c83f7a93"), looks := false }, kinds := [], alts := [], laidByText := true, laidKinds := [.data], laidTests := true, laidLooks := .later }
def ExtRowsUptoCardSaid : Prop := Claim7.holds Tryd.pinned (.plain (OpenSpec.upto extRowsSpec)) extRowsUptoCard

/-- THE SECOND FORM's CARD OF 'fettlelaw18.ExtMaps'. -/
def extMapsUptoCard : Claim7 := { stood := { row := extMapsUptoRow, standIns := [], harness := (true, "13f0ff14a66336177113f6b15f429511f42bc7c95bfd63222c01fcb9c83f7a93"), looks := false }, kinds := [], alts := [], laidByText := true, laidKinds := [.data], laidTests := true, laidLooks := .later }
def ExtMapsUptoCardSaid : Prop := Claim7.holds Tryd.pinned (.plain (OpenSpec.upto extMapsSpec)) extMapsUptoCard
end Rows
end Go.Proofs.YtjmajjfknmjifaaDoor
