/-
  No cell of these rows narrows 'for every input' (looked for: loops, veiled, ifaces, maps, wideKeys, modest, calm, conditions, laid).
  DERIVED. THE GIVEN ROWS OF THIS SEAT. 3 by the template 'for every input the law returns true; each argument reads behind the call as it read before'; 0 by the template 'total and deterministic' (their statements: YtpdcnaijhiogdaaTotals.lean).
  GIVEN WITH THE SEED: the statements are not yours to turn. If you find one false, say at which input.
  Laid BY PROGRAM, IN A SANDBOX (cutbox-rows.mjs): the forced cells as the released guide's own fill.sh prints them over the translation a258171b6254d743… (all of the seat's roots in one cut). By AI agents, Wed Nov 11 2026. No macro, syntax, notation, axiom, sorry.
-/
import Derived.Test.YtpdcnaijhiogdaaChecked
import GoSem.Claim
import GoSem.ClaimJoined
import GoSem.ClaimMapViews
import Derived.JoinedTies
import Derived.KernelRfl
namespace Go.Proofs.Ytpdcnaijhiogdaa
/- THE CELL 'sum', in the pinned program and in every row, IS THE sha256 OF THE DUMP (.gsa) THAT YtpdcnaijhiogdaaProg.lean LOADS. Nothing in Lean hashes anything: it is a label: what it is worth is what the hold of that sum in a sandbox is worth. -/
noncomputable def Try.pinned : Pinned := { name := "ytpdcnaijhiogdaa", sum := "a258171b6254d7435852bf2cec741dc0971bcc89299ef3b79014a3c4882f1937", checked := Try.checked }
namespace Rows
def none {H : Type} : Left H := { results := [], args := [] }

/-- 'fettlelaw09.MapsEncodes': WHATEVER THE INPUT: true; the input reads as it did. -/
def mapsEncodesSpec : ChangeSpec := { name := "mapsEncodes", fn := fun _ => fun
  | [d] => { results := [.lit (.bool true)], args := [d] }
  | _ => none }
def mapsEncodesRow : OpenClaim := { program := "ytpdcnaijhiogdaa", sum := "a258171b6254d7435852bf2cec741dc0971bcc89299ef3b79014a3c4882f1937", func := "fettle/fettlelaw09.MapsEncodes", spec := "mapsEncodes", apart := false }
def MapsEncodesSaid : Prop := mapsEncodesRow.holds Try.pinned (OpenSpec.ofChange mapsEncodesSpec)

/-- ITS FALSE NEIGHBOUR: 'it returns false'. Refute it at one input. -/
def mapsEncodesWrong : ChangeSpec := { name := "mapsEncodes", fn := fun _ => fun
  | [d] => { results := [.lit (.bool false)], args := [d] }
  | _ => none }
def MapsEncodesWrongFalsely : Prop := mapsEncodesRow.holds Try.pinned (OpenSpec.ofChange mapsEncodesWrong)

/-- 'fettlelaw09.MapsDecodes': WHATEVER THE INPUT: true; the input reads as it did. -/
def mapsDecodesSpec : ChangeSpec := { name := "mapsDecodes", fn := fun _ => fun
  | [d] => { results := [.lit (.bool true)], args := [d] }
  | _ => none }
def mapsDecodesRow : OpenClaim := { program := "ytpdcnaijhiogdaa", sum := "a258171b6254d7435852bf2cec741dc0971bcc89299ef3b79014a3c4882f1937", func := "fettle/fettlelaw09.MapsDecodes", spec := "mapsDecodes", apart := false }
def MapsDecodesSaid : Prop := mapsDecodesRow.holds Try.pinned (OpenSpec.ofChange mapsDecodesSpec)

/-- ITS FALSE NEIGHBOUR: 'it returns false'. Refute it at one input. -/
def mapsDecodesWrong : ChangeSpec := { name := "mapsDecodes", fn := fun _ => fun
  | [d] => { results := [.lit (.bool false)], args := [d] }
  | _ => none }
def MapsDecodesWrongFalsely : Prop := mapsDecodesRow.holds Try.pinned (OpenSpec.ofChange mapsDecodesWrong)

/-- 'fettlelaw09.MapsLists': WHATEVER THE INPUT: true; the input reads as it did. -/
def mapsListsSpec : ChangeSpec := { name := "mapsLists", fn := fun _ => fun
  | [d1, d2] => { results := [.lit (.bool true)], args := [d1, d2] }
  | _ => none }
def mapsListsRow : OpenClaim := { program := "ytpdcnaijhiogdaa", sum := "a258171b6254d7435852bf2cec741dc0971bcc89299ef3b79014a3c4882f1937", func := "fettle/fettlelaw09.MapsLists", spec := "mapsLists", apart := false }
def MapsListsSaid : Prop := mapsListsRow.holds Try.pinned (OpenSpec.ofChange mapsListsSpec)

/-- ITS FALSE NEIGHBOUR: 'it returns false'. Refute it at one input. -/
def mapsListsWrong : ChangeSpec := { name := "mapsLists", fn := fun _ => fun
  | [d1, d2] => { results := [.lit (.bool false)], args := [d1, d2] }
  | _ => none }
def MapsListsWrongFalsely : Prop := mapsListsRow.holds Try.pinned (OpenSpec.ofChange mapsListsWrong)

/- THE SECOND FORM. 'bulk': how many values and letters a reading holds, each counted each time it is reached (what is shared counts as often as it is met; a slice's spare places count too). A statement '..UptoSaid' is the law's where the arguments, and the package variables that the reading takes, are together of bulk at most 1048576: NARROWER than '..Said'. Prove '..Said' where nothing that the law and all that it calls make is longer than what came in: it says more and counts as full. Else prove '..UptoSaid'. A law counts once. -/
mutual
def uptoBulk {H : Type} : DataW H → Nat
  | .lit (.string bytes) => bytes.length + 1
  | .lit _ => 1
  | .nil => 1
  | .ptr d => uptoBulk d + 1
  | .slice elems spare => uptoBulkAll elems + uptoBulkAll spare + 1
  | .agg parts => uptoBulkAll parts + 1
  | .iface _ d => uptoBulk d + 1
  | .map entries => uptoBulkEntries entries + 1
  | .held _ => 1
def uptoBulkAll {H : Type} : List (DataW H) → Nat
  | [] => 0
  | d :: r => uptoBulk d + uptoBulkAll r
def uptoBulkEntries {H : Type} : List (Lit × DataW H) → Nat
  | [] => 0
  | x :: r => uptoBulkEntry x + uptoBulkEntries r
def uptoBulkEntry {H : Type} : Lit × DataW H → Nat
  | (.string bytes, d) => bytes.length + uptoBulk d + 1
  | (_, d) => uptoBulk d + 1
 end
def uptoSmall : (H : Type) → List (DataW H) → Bool := fun _ ds => decide (uptoBulkAll ds ≤ 1048576)
def OpenSpec.upto (s : _root_.Go.ChangeSpec) : _root_.Go.OpenSpec := { _root_.Go.OpenSpec.ofChange s with cond := some uptoSmall }

/-- 'fettlelaw09.MapsEncodes', WHERE WHAT IT READS IS OF BULK AT MOST 1048576: true; the input reads as it did. -/
def mapsEncodesUptoRow : OpenClaim := { program := "ytpdcnaijhiogdaa", sum := "a258171b6254d7435852bf2cec741dc0971bcc89299ef3b79014a3c4882f1937", func := "fettle/fettlelaw09.MapsEncodes", spec := "mapsEncodes", apart := false, narrowed := true }
def MapsEncodesUptoSaid : Prop := mapsEncodesUptoRow.holds Try.pinned (OpenSpec.upto mapsEncodesSpec)

/-- 'fettlelaw09.MapsDecodes', WHERE WHAT IT READS IS OF BULK AT MOST 1048576: true; the input reads as it did. -/
def mapsDecodesUptoRow : OpenClaim := { program := "ytpdcnaijhiogdaa", sum := "a258171b6254d7435852bf2cec741dc0971bcc89299ef3b79014a3c4882f1937", func := "fettle/fettlelaw09.MapsDecodes", spec := "mapsDecodes", apart := false, narrowed := true }
def MapsDecodesUptoSaid : Prop := mapsDecodesUptoRow.holds Try.pinned (OpenSpec.upto mapsDecodesSpec)

/-- 'fettlelaw09.MapsLists', WHERE WHAT IT READS IS OF BULK AT MOST 1048576: true; the input reads as it did. -/
def mapsListsUptoRow : OpenClaim := { program := "ytpdcnaijhiogdaa", sum := "a258171b6254d7435852bf2cec741dc0971bcc89299ef3b79014a3c4882f1937", func := "fettle/fettlelaw09.MapsLists", spec := "mapsLists", apart := false, narrowed := true }
def MapsListsUptoSaid : Prop := mapsListsUptoRow.holds Try.pinned (OpenSpec.upto mapsListsSpec)

end Rows
end Go.Proofs.Ytpdcnaijhiogdaa
