/-
  DERIVED. GIVEN WITH THE SEED: THE CARDS: each row of YtcbbaoiefdbcpaaDoorRows.lean that lists a variable, with what it lists TIED to the program's text (the seventh form; the later family's looks); each row that meets fmt, with fmt's text TOLD by the authors' own Lean function (tested against real Go, not proved from fmt's source: count such statements apart). THE CARD IS WHAT COUNTS. Prove the row's statement (the work); the ties are given (YtcbbaoiefdbcpaaDoorTie.lean); close each card by the builder's one call (the guide's Derived/Test/ToyasCard.lean, 'card_holds'). Laid BY PROGRAM, IN A SANDBOX (cutbox-door.mjs). By AI agents, Wed Nov 11 2026. No macro, syntax, notation, axiom, sorry.
-/
import Derived.Test.YtcbbaoiefdbcpaaDoorRows
import GoSem.ClaimSeven
namespace Go.Proofs.YtcbbaoiefdbcpaaDoor
namespace Rows

/-- THE TIED CARD OF 'fettlelaw16.FatChains'. -/
def fatChainsCard : Claim7 := { stood := { row := fatChainsRow, standIns := [], harness := (true, "fefacc8d4801222f181f7213c5d837171c562d51096889b759b133e5af4e6ea2"), looks := false }, kinds := [], alts := [], laidByText := true, laidKinds := [.data, .data], laidTests := true, laidLooks := .later }
def FatChainsCardSaid : Prop := Claim7.holds Tryd.pinned (.plain (OpenSpec.ofChange fatChainsSpec)) fatChainsCard

/-- THE SECOND FORM's CARD OF 'fettlelaw16.FatChains'. -/
def fatChainsUptoCard : Claim7 := { stood := { row := fatChainsUptoRow, standIns := [], harness := (true, "fefacc8d4801222f181f7213c5d837171c562d51096889b759b133e5af4e6ea2"), looks := false }, kinds := [], alts := [], laidByText := true, laidKinds := [.data, .data], laidTests := true, laidLooks := .later }
def FatChainsUptoCardSaid : Prop := Claim7.holds Tryd.pinned (.plain (OpenSpec.upto fatChainsSpec)) fatChainsUptoCard
end Rows
end Go.Proofs.YtcbbaoiefdbcpaaDoor
