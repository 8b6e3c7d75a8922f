/-
  DERIVED. GIVEN WITH THE SEED: THE CARDS: each row of YtpbnjobjjnhplaaDoorRows.lean that lists a variable, with what it lists TIED to the program's text (the seventh form; the later family's looks); each row that meets fmt, with fmt's text TOLD by the authors' own Lean function (tested against real Go, not proved from fmt's source: count such statements apart). THE CARD IS WHAT COUNTS. Prove the row's statement (the work); the ties are given (YtpbnjobjjnhplaaDoorTie.lean); close each card by the builder's one call (the guide's Derived/Test/ToyasCard.lean, 'card_holds'). Laid BY PROGRAM, IN A SANDBOX (cutbox-door.mjs). By AI agents, Wed Nov 11 2026. No macro, syntax, notation, axiom, sorry.
-/
import Derived.Test.YtpbnjobjjnhplaaDoorRows
import GoSem.ClaimSeven
namespace Go.Proofs.YtpbnjobjjnhplaaDoor
namespace Rows

/-- THE TIED CARD OF 'fettlelaw14.GptChecks'. -/
def gptChecksCard : Claim7 := { stood := { row := gptChecksRow, standIns := [], harness := (true, "00e8357547e409e73e123c185434ab9b8728d5f36009e300b5ec8e1baef13ec9"), looks := false }, kinds := [], alts := [], laidByText := true, laidKinds := [.data], laidTests := true, laidLooks := .later }
def GptChecksCardSaid : Prop := Claim7.holds Tryd.pinned (.plain (OpenSpec.ofChange gptChecksSpec)) gptChecksCard

/-- THE TIED CARD OF 'fettlelaw14.GptParses'. -/
def gptParsesCard : Claim7 := { stood := { row := gptParsesRow, standIns := [], harness := (true, "00e8357547e409e73e123c185434ab9b8728d5f36009e300b5ec8e1baef13ec9"), looks := false }, kinds := [], alts := [], laidByText := true, laidKinds := [.data], laidTests := true, laidLooks := .later }
def GptParsesCardSaid : Prop := Claim7.holds Tryd.pinned (.plain (OpenSpec.ofChange gptParsesSpec)) gptParsesCard

/-- THE TIED CARD OF 'fettlelaw14.GptBytes'. -/
def gptBytesCard : Claim7 := { stood := { row := gptBytesRow, standIns := [], harness := (true, "00e8357547e409e73e123c185434ab9b8728d5f36009e300b5ec8e1baef13ec9"), looks := false }, kinds := [], alts := [], laidByText := true, laidKinds := [.data], laidTests := true, laidLooks := .later }
def GptBytesCardSaid : Prop := Claim7.holds Tryd.pinned (.plain (OpenSpec.ofChange gptBytesSpec)) gptBytesCard

/-- THE TIED CARD OF 'fettlelaw14.GptParts'. -/
def gptPartsCard : Claim7 := { stood := { row := gptPartsRow, standIns := [], harness := (true, "00e8357547e409e73e123c185434ab9b8728d5f36009e300b5ec8e1baef13ec9"), looks := false }, kinds := [], alts := [], laidByText := true, laidKinds := [.data], laidTests := true, laidLooks := .later }
def GptPartsCardSaid : Prop := Claim7.holds Tryd.pinned (.plain (OpenSpec.ofChange gptPartsSpec)) gptPartsCard

/-- THE SECOND FORM's CARD OF 'fettlelaw14.GptChecks'. -/
def gptChecksUptoCard : Claim7 := { stood := { row := gptChecksUptoRow, standIns := [], harness := (true, "00e8357547e409e73e123c185434ab9b8728d5f36009e300b5ec8e1baef13ec9"), looks := false }, kinds := [], alts := [], laidByText := true, laidKinds := [.data], laidTests := true, laidLooks := .later }
def GptChecksUptoCardSaid : Prop := Claim7.holds Tryd.pinned (.plain (OpenSpec.upto gptChecksSpec)) gptChecksUptoCard

/-- THE SECOND FORM's CARD OF 'fettlelaw14.GptParses'. -/
def gptParsesUptoCard : Claim7 := { stood := { row := gptParsesUptoRow, standIns := [], harness := (true, "00e8357547e409e73e123c185434ab9b8728d5f36009e300b5ec8e1baef13ec9"), looks := false }, kinds := [], alts := [], laidByText := true, laidKinds := [.data], laidTests := true, laidLooks := .later }
def GptParsesUptoCardSaid : Prop := Claim7.holds Tryd.pinned (.plain (OpenSpec.upto gptParsesSpec)) gptParsesUptoCard

/-- THE SECOND FORM's CARD OF 'fettlelaw14.GptBytes'. -/
def gptBytesUptoCard : Claim7 := { stood := { row := gptBytesUptoRow, standIns := [], harness := (true, "00e8357547e409e73e123c185434ab9b8728d5f36009e300b5ec8e1baef13ec9"), looks := false }, kinds := [], alts := [], laidByText := true, laidKinds := [.data], laidTests := true, laidLooks := .later }
def GptBytesUptoCardSaid : Prop := Claim7.holds Tryd.pinned (.plain (OpenSpec.upto gptBytesSpec)) gptBytesUptoCard

/-- THE SECOND FORM's CARD OF 'fettlelaw14.GptParts'. -/
def gptPartsUptoCard : Claim7 := { stood := { row := gptPartsUptoRow, standIns := [], harness := (true, "00e8357547e409e73e123c185434ab9b8728d5f36009e300b5ec8e1baef13ec9"), looks := false }, kinds := [], alts := [], laidByText := true, laidKinds := [.data], laidTests := true, laidLooks := .later }
def GptPartsUptoCardSaid : Prop := Claim7.holds Tryd.pinned (.plain (OpenSpec.upto gptPartsSpec)) gptPartsUptoCard
end Rows
end Go.Proofs.YtpbnjobjjnhplaaDoor
