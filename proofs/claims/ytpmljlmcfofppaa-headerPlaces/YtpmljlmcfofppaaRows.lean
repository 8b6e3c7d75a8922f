/-
  No cell of these rows narrows 'for every input' (looked for: loops, veiled, ifaces, maps, wideKeys, modest, calm, conditions, laid).
  DERIVED. THE GIVEN ROWS OF THIS SEAT. 6 by the template 'for every input the law returns true; each argument reads behind the call as it read before'; 0 by the template 'total and deterministic' (their statements: YtpmljlmcfofppaaTotals.lean).
  GIVEN WITH THE SEED: the statements are not yours to turn. If you find one false, say at which input.
  Laid BY PROGRAM, IN A SANDBOX (cutbox-rows.mjs): the forced cells as the released guide's own fill.sh prints them over the translation e707a8528df6ade9… (all of the seat's roots in one cut). By AI agents, Wed Nov 11 2026. No macro, syntax, notation, axiom, sorry.
-/
import Derived.Test.YtpmljlmcfofppaaChecked
import GoSem.Claim
import GoSem.ClaimJoined
import GoSem.ClaimMapViews
import Derived.JoinedTies
import Derived.KernelRfl
namespace Go.Proofs.Ytpmljlmcfofppaa
/- THE CELL 'sum', in the pinned program and in every row, IS THE sha256 OF THE DUMP (.gsa) THAT YtpmljlmcfofppaaProg.lean LOADS. Nothing in Lean hashes anything: it is a label: what it is worth is what the hold of that sum in a sandbox is worth. -/
noncomputable def Try.pinned : Pinned := { name := "ytpmljlmcfofppaa", sum := "e707a8528df6ade933b124f9d61a2d5a2bcae3cdce410d7c768342f99696a151", checked := Try.checked }
namespace Rows
def none {H : Type} : Left H := { results := [], args := [] }

/-- 'fettlelaw07.HeaderPlaces': WHATEVER THE INPUT: true; the input reads as it did. -/
def headerPlacesSpec : ChangeSpec := { name := "headerPlaces", fn := fun _ => fun
  | [d] => { results := [.lit (.bool true)], args := [d] }
  | _ => none }
def headerPlacesRow : OpenClaim := { program := "ytpmljlmcfofppaa", sum := "e707a8528df6ade933b124f9d61a2d5a2bcae3cdce410d7c768342f99696a151", func := "fettle/fettlelaw07.HeaderPlaces", spec := "headerPlaces", apart := false }
def HeaderPlacesSaid : Prop := headerPlacesRow.holds Try.pinned (OpenSpec.ofChange headerPlacesSpec)

/-- ITS FALSE NEIGHBOUR: 'it returns false'. Refute it at one input. -/
def headerPlacesWrong : ChangeSpec := { name := "headerPlaces", fn := fun _ => fun
  | [d] => { results := [.lit (.bool false)], args := [d] }
  | _ => none }
def HeaderPlacesWrongFalsely : Prop := headerPlacesRow.holds Try.pinned (OpenSpec.ofChange headerPlacesWrong)

/-- 'fettlelaw07.HeaderChecks': WHATEVER THE INPUT: true; the input reads as it did. -/
def headerChecksSpec : ChangeSpec := { name := "headerChecks", fn := fun _ => fun
  | [d] => { results := [.lit (.bool true)], args := [d] }
  | _ => none }
def headerChecksRow : OpenClaim := { program := "ytpmljlmcfofppaa", sum := "e707a8528df6ade933b124f9d61a2d5a2bcae3cdce410d7c768342f99696a151", func := "fettle/fettlelaw07.HeaderChecks", spec := "headerChecks", apart := false }
def HeaderChecksSaid : Prop := headerChecksRow.holds Try.pinned (OpenSpec.ofChange headerChecksSpec)

/-- ITS FALSE NEIGHBOUR: 'it returns false'. Refute it at one input. -/
def headerChecksWrong : ChangeSpec := { name := "headerChecks", fn := fun _ => fun
  | [d] => { results := [.lit (.bool false)], args := [d] }
  | _ => none }
def HeaderChecksWrongFalsely : Prop := headerChecksRow.holds Try.pinned (OpenSpec.ofChange headerChecksWrong)

/-- 'fettlelaw07.HeaderEncodes': WHATEVER THE INPUT: true; the input reads as it did. -/
def headerEncodesSpec : ChangeSpec := { name := "headerEncodes", fn := fun _ => fun
  | [d1, d2] => { results := [.lit (.bool true)], args := [d1, d2] }
  | _ => none }
def headerEncodesRow : OpenClaim := { program := "ytpmljlmcfofppaa", sum := "e707a8528df6ade933b124f9d61a2d5a2bcae3cdce410d7c768342f99696a151", func := "fettle/fettlelaw07.HeaderEncodes", spec := "headerEncodes", apart := false }
def HeaderEncodesSaid : Prop := headerEncodesRow.holds Try.pinned (OpenSpec.ofChange headerEncodesSpec)

/-- ITS FALSE NEIGHBOUR: 'it returns false'. Refute it at one input. -/
def headerEncodesWrong : ChangeSpec := { name := "headerEncodes", fn := fun _ => fun
  | [d1, d2] => { results := [.lit (.bool false)], args := [d1, d2] }
  | _ => none }
def HeaderEncodesWrongFalsely : Prop := headerEncodesRow.holds Try.pinned (OpenSpec.ofChange headerEncodesWrong)

/-- 'fettlelaw07.HeaderDecodes': WHATEVER THE INPUT: true; the input reads as it did. -/
def headerDecodesSpec : ChangeSpec := { name := "headerDecodes", fn := fun _ => fun
  | [d] => { results := [.lit (.bool true)], args := [d] }
  | _ => none }
def headerDecodesRow : OpenClaim := { program := "ytpmljlmcfofppaa", sum := "e707a8528df6ade933b124f9d61a2d5a2bcae3cdce410d7c768342f99696a151", func := "fettle/fettlelaw07.HeaderDecodes", spec := "headerDecodes", apart := false }
def HeaderDecodesSaid : Prop := headerDecodesRow.holds Try.pinned (OpenSpec.ofChange headerDecodesSpec)

/-- ITS FALSE NEIGHBOUR: 'it returns false'. Refute it at one input. -/
def headerDecodesWrong : ChangeSpec := { name := "headerDecodes", fn := fun _ => fun
  | [d] => { results := [.lit (.bool false)], args := [d] }
  | _ => none }
def HeaderDecodesWrongFalsely : Prop := headerDecodesRow.holds Try.pinned (OpenSpec.ofChange headerDecodesWrong)

/-- 'fettlelaw07.HeaderOnes': WHATEVER THE INPUT: true; the input reads as it did. -/
def headerOnesSpec : ChangeSpec := { name := "headerOnes", fn := fun _ => fun
  | [d] => { results := [.lit (.bool true)], args := [d] }
  | _ => none }
def headerOnesRow : OpenClaim := { program := "ytpmljlmcfofppaa", sum := "e707a8528df6ade933b124f9d61a2d5a2bcae3cdce410d7c768342f99696a151", func := "fettle/fettlelaw07.HeaderOnes", spec := "headerOnes", apart := false }
def HeaderOnesSaid : Prop := headerOnesRow.holds Try.pinned (OpenSpec.ofChange headerOnesSpec)

/-- ITS FALSE NEIGHBOUR: 'it returns false'. Refute it at one input. -/
def headerOnesWrong : ChangeSpec := { name := "headerOnes", fn := fun _ => fun
  | [d] => { results := [.lit (.bool false)], args := [d] }
  | _ => none }
def HeaderOnesWrongFalsely : Prop := headerOnesRow.holds Try.pinned (OpenSpec.ofChange headerOnesWrong)

/-- 'fettlelaw07.HeaderLeasts': WHATEVER THE INPUT: true; the input reads as it did. -/
def headerLeastsSpec : ChangeSpec := { name := "headerLeasts", fn := fun _ => fun
  | [d1, d2, d3] => { results := [.lit (.bool true)], args := [d1, d2, d3] }
  | _ => none }
def headerLeastsRow : OpenClaim := { program := "ytpmljlmcfofppaa", sum := "e707a8528df6ade933b124f9d61a2d5a2bcae3cdce410d7c768342f99696a151", func := "fettle/fettlelaw07.HeaderLeasts", spec := "headerLeasts", apart := false }
def HeaderLeastsSaid : Prop := headerLeastsRow.holds Try.pinned (OpenSpec.ofChange headerLeastsSpec)

/-- ITS FALSE NEIGHBOUR: 'it returns false'. Refute it at one input. -/
def headerLeastsWrong : ChangeSpec := { name := "headerLeasts", fn := fun _ => fun
  | [d1, d2, d3] => { results := [.lit (.bool false)], args := [d1, d2, d3] }
  | _ => none }
def HeaderLeastsWrongFalsely : Prop := headerLeastsRow.holds Try.pinned (OpenSpec.ofChange headerLeastsWrong)

/- THE SECOND FORM. 'bulk': how many values and letters a reading holds, each counted each time it is reached (what is shared counts as often as it is met; a slice's spare places count too). A statement '..UptoSaid' is the law's where the arguments, and the package variables that the reading takes, are together of bulk at most 1048576: NARROWER than '..Said'. Prove '..Said' where nothing that the law and all that it calls make is longer than what came in: it says more and counts as full. Else prove '..UptoSaid'. A law counts once. -/
mutual
def uptoBulk {H : Type} : DataW H → Nat
  | .lit (.string bytes) => bytes.length + 1
  | .lit _ => 1
  | .nil => 1
  | .ptr d => uptoBulk d + 1
  | .slice elems spare => uptoBulkAll elems + uptoBulkAll spare + 1
  | .agg parts => uptoBulkAll parts + 1
  | .iface _ d => uptoBulk d + 1
  | .map entries => uptoBulkEntries entries + 1
  | .held _ => 1
def uptoBulkAll {H : Type} : List (DataW H) → Nat
  | [] => 0
  | d :: r => uptoBulk d + uptoBulkAll r
def uptoBulkEntries {H : Type} : List (Lit × DataW H) → Nat
  | [] => 0
  | x :: r => uptoBulkEntry x + uptoBulkEntries r
def uptoBulkEntry {H : Type} : Lit × DataW H → Nat
  | (.string bytes, d) => bytes.length + uptoBulk d + 1
  | (_, d) => uptoBulk d + 1
 end
def uptoSmall : (H : Type) → List (DataW H) → Bool := fun _ ds => decide (uptoBulkAll ds ≤ 1048576)
def OpenSpec.upto (s : _root_.Go.ChangeSpec) : _root_.Go.OpenSpec := { _root_.Go.OpenSpec.ofChange s with cond := some uptoSmall }

/-- 'fettlelaw07.HeaderPlaces', WHERE WHAT IT READS IS OF BULK AT MOST 1048576: true; the input reads as it did. -/
def headerPlacesUptoRow : OpenClaim := { program := "ytpmljlmcfofppaa", sum := "e707a8528df6ade933b124f9d61a2d5a2bcae3cdce410d7c768342f99696a151", func := "fettle/fettlelaw07.HeaderPlaces", spec := "headerPlaces", apart := false, narrowed := true }
def HeaderPlacesUptoSaid : Prop := headerPlacesUptoRow.holds Try.pinned (OpenSpec.upto headerPlacesSpec)

/-- 'fettlelaw07.HeaderChecks', WHERE WHAT IT READS IS OF BULK AT MOST 1048576: true; the input reads as it did. -/
def headerChecksUptoRow : OpenClaim := { program := "ytpmljlmcfofppaa", sum := "e707a8528df6ade933b124f9d61a2d5a2bcae3cdce410d7c768342f99696a151", func := "fettle/fettlelaw07.HeaderChecks", spec := "headerChecks", apart := false, narrowed := true }
def HeaderChecksUptoSaid : Prop := headerChecksUptoRow.holds Try.pinned (OpenSpec.upto headerChecksSpec)

/-- 'fettlelaw07.HeaderEncodes', WHERE WHAT IT READS IS OF BULK AT MOST 1048576: true; the input reads as it did. -/
def headerEncodesUptoRow : OpenClaim := { program := "ytpmljlmcfofppaa", sum := "e707a8528df6ade933b124f9d61a2d5a2bcae3cdce410d7c768342f99696a151", func := "fettle/fettlelaw07.HeaderEncodes", spec := "headerEncodes", apart := false, narrowed := true }
def HeaderEncodesUptoSaid : Prop := headerEncodesUptoRow.holds Try.pinned (OpenSpec.upto headerEncodesSpec)

/-- 'fettlelaw07.HeaderDecodes', WHERE WHAT IT READS IS OF BULK AT MOST 1048576: true; the input reads as it did. -/
def headerDecodesUptoRow : OpenClaim := { program := "ytpmljlmcfofppaa", sum := "e707a8528df6ade933b124f9d61a2d5a2bcae3cdce410d7c768342f99696a151", func := "fettle/fettlelaw07.HeaderDecodes", spec := "headerDecodes", apart := false, narrowed := true }
def HeaderDecodesUptoSaid : Prop := headerDecodesUptoRow.holds Try.pinned (OpenSpec.upto headerDecodesSpec)

/-- 'fettlelaw07.HeaderOnes', WHERE WHAT IT READS IS OF BULK AT MOST 1048576: true; the input reads as it did. -/
def headerOnesUptoRow : OpenClaim := { program := "ytpmljlmcfofppaa", sum := "e707a8528df6ade933b124f9d61a2d5a2bcae3cdce410d7c768342f99696a151", func := "fettle/fettlelaw07.HeaderOnes", spec := "headerOnes", apart := false, narrowed := true }
def HeaderOnesUptoSaid : Prop := headerOnesUptoRow.holds Try.pinned (OpenSpec.upto headerOnesSpec)

/-- 'fettlelaw07.HeaderLeasts', WHERE WHAT IT READS IS OF BULK AT MOST 1048576: true; the input reads as it did. -/
def headerLeastsUptoRow : OpenClaim := { program := "ytpmljlmcfofppaa", sum := "e707a8528df6ade933b124f9d61a2d5a2bcae3cdce410d7c768342f99696a151", func := "fettle/fettlelaw07.HeaderLeasts", spec := "headerLeasts", apart := false, narrowed := true }
def HeaderLeastsUptoSaid : Prop := headerLeastsUptoRow.holds Try.pinned (OpenSpec.upto headerLeastsSpec)

end Rows
end Go.Proofs.Ytpmljlmcfofppaa
