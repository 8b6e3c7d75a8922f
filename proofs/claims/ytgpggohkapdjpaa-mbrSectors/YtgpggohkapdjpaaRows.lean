/-
  No cell of these rows narrows 'for every input' (looked for: loops, veiled, ifaces, maps, wideKeys, modest, calm, conditions, laid).
  DERIVED. THE GIVEN ROWS OF THIS SEAT. 4 by the template 'for every input the law returns true; each argument reads behind the call as it read before'; 0 by the template 'total and deterministic' (their statements: YtgpggohkapdjpaaTotals.lean).
  GIVEN WITH THE SEED: the statements are not yours to turn. If you find one false, say at which input.
  Laid BY PROGRAM, IN A SANDBOX (cutbox-rows.mjs): the forced cells as the released guide's own fill.sh prints them over the translation 7a191a0f58b82882… (all of the seat's roots in one cut). By AI agents, Wed Nov 11 2026. No macro, syntax, notation, axiom, sorry.
-/
import Derived.Test.YtgpggohkapdjpaaChecked
import GoSem.Claim
import GoSem.ClaimJoined
import GoSem.ClaimMapViews
import Derived.JoinedTies
import Derived.KernelRfl
namespace Go.Proofs.Ytgpggohkapdjpaa
/- THE CELL 'sum', in the pinned program and in every row, IS THE sha256 OF THE DUMP (.gsa) THAT YtgpggohkapdjpaaProg.lean LOADS. Nothing in Lean hashes anything: it is a label: what it is worth is what the hold of that sum in a sandbox is worth. -/
noncomputable def Try.pinned : Pinned := { name := "ytgpggohkapdjpaa", sum := "7a191a0f58b8288263cee6c5eb32a4115a77cd1622917b577cbaa1d9db37e7d5", checked := Try.checked }
namespace Rows
def none {H : Type} : Left H := { results := [], args := [] }

/-- 'fettlelaw13.MbrEntries': WHATEVER THE INPUT: true; the input reads as it did. -/
def mbrEntriesSpec : ChangeSpec := { name := "mbrEntries", fn := fun _ => fun
  | [d] => { results := [.lit (.bool true)], args := [d] }
  | _ => none }
def mbrEntriesRow : OpenClaim := { program := "ytgpggohkapdjpaa", sum := "7a191a0f58b8288263cee6c5eb32a4115a77cd1622917b577cbaa1d9db37e7d5", func := "fettle/fettlelaw13.MbrEntries", spec := "mbrEntries", unfollowed := true, recurses := true, apart := false }
def MbrEntriesSaid : Prop := mbrEntriesRow.holds Try.pinned (OpenSpec.ofChange mbrEntriesSpec)

/-- ITS FALSE NEIGHBOUR: 'it returns false'. Refute it at one input. -/
def mbrEntriesWrong : ChangeSpec := { name := "mbrEntries", fn := fun _ => fun
  | [d] => { results := [.lit (.bool false)], args := [d] }
  | _ => none }
def MbrEntriesWrongFalsely : Prop := mbrEntriesRow.holds Try.pinned (OpenSpec.ofChange mbrEntriesWrong)

/-- 'fettlelaw13.MbrPuts': WHATEVER THE INPUT: true; the input reads as it did. -/
def mbrPutsSpec : ChangeSpec := { name := "mbrPuts", fn := fun _ => fun
  | [d1, d2, d3] => { results := [.lit (.bool true)], args := [d1, d2, d3] }
  | _ => none }
def mbrPutsRow : OpenClaim := { program := "ytgpggohkapdjpaa", sum := "7a191a0f58b8288263cee6c5eb32a4115a77cd1622917b577cbaa1d9db37e7d5", func := "fettle/fettlelaw13.MbrPuts", spec := "mbrPuts", unfollowed := true, recurses := true, apart := false }
def MbrPutsSaid : Prop := mbrPutsRow.holds Try.pinned (OpenSpec.ofChange mbrPutsSpec)

/-- ITS FALSE NEIGHBOUR: 'it returns false'. Refute it at one input. -/
def mbrPutsWrong : ChangeSpec := { name := "mbrPuts", fn := fun _ => fun
  | [d1, d2, d3] => { results := [.lit (.bool false)], args := [d1, d2, d3] }
  | _ => none }
def MbrPutsWrongFalsely : Prop := mbrPutsRow.holds Try.pinned (OpenSpec.ofChange mbrPutsWrong)

/-- 'fettlelaw13.MbrSectors': WHATEVER THE INPUT: true; the input reads as it did. -/
def mbrSectorsSpec : ChangeSpec := { name := "mbrSectors", fn := fun _ => fun
  | [d1, d2, d3] => { results := [.lit (.bool true)], args := [d1, d2, d3] }
  | _ => none }
def mbrSectorsRow : OpenClaim := { program := "ytgpggohkapdjpaa", sum := "7a191a0f58b8288263cee6c5eb32a4115a77cd1622917b577cbaa1d9db37e7d5", func := "fettle/fettlelaw13.MbrSectors", spec := "mbrSectors", unfollowed := true, recurses := true, apart := false }
def MbrSectorsSaid : Prop := mbrSectorsRow.holds Try.pinned (OpenSpec.ofChange mbrSectorsSpec)

/-- ITS FALSE NEIGHBOUR: 'it returns false'. Refute it at one input. -/
def mbrSectorsWrong : ChangeSpec := { name := "mbrSectors", fn := fun _ => fun
  | [d1, d2, d3] => { results := [.lit (.bool false)], args := [d1, d2, d3] }
  | _ => none }
def MbrSectorsWrongFalsely : Prop := mbrSectorsRow.holds Try.pinned (OpenSpec.ofChange mbrSectorsWrong)

/-- 'fettlelaw13.MbrLoops': WHATEVER THE INPUT: true; the input reads as it did. -/
def mbrLoopsSpec : ChangeSpec := { name := "mbrLoops", fn := fun _ => fun
  | [d1, d2, d3] => { results := [.lit (.bool true)], args := [d1, d2, d3] }
  | _ => none }
def mbrLoopsRow : OpenClaim := { program := "ytgpggohkapdjpaa", sum := "7a191a0f58b8288263cee6c5eb32a4115a77cd1622917b577cbaa1d9db37e7d5", func := "fettle/fettlelaw13.MbrLoops", spec := "mbrLoops", unfollowed := true, recurses := true, apart := false }
def MbrLoopsSaid : Prop := mbrLoopsRow.holds Try.pinned (OpenSpec.ofChange mbrLoopsSpec)

/-- ITS FALSE NEIGHBOUR: 'it returns false'. Refute it at one input. -/
def mbrLoopsWrong : ChangeSpec := { name := "mbrLoops", fn := fun _ => fun
  | [d1, d2, d3] => { results := [.lit (.bool false)], args := [d1, d2, d3] }
  | _ => none }
def MbrLoopsWrongFalsely : Prop := mbrLoopsRow.holds Try.pinned (OpenSpec.ofChange mbrLoopsWrong)

/- THE SECOND FORM. 'bulk': how many values and letters a reading holds, each counted each time it is reached (what is shared counts as often as it is met; a slice's spare places count too). A statement '..UptoSaid' is the law's where the arguments, and the package variables that the reading takes, are together of bulk at most 1048576: NARROWER than '..Said'. Prove '..Said' where nothing that the law and all that it calls make is longer than what came in: it says more and counts as full. Else prove '..UptoSaid'. A law counts once. -/
mutual
def uptoBulk {H : Type} : DataW H → Nat
  | .lit (.string bytes) => bytes.length + 1
  | .lit _ => 1
  | .nil => 1
  | .ptr d => uptoBulk d + 1
  | .slice elems spare => uptoBulkAll elems + uptoBulkAll spare + 1
  | .agg parts => uptoBulkAll parts + 1
  | .iface _ d => uptoBulk d + 1
  | .map entries => uptoBulkEntries entries + 1
  | .held _ => 1
def uptoBulkAll {H : Type} : List (DataW H) → Nat
  | [] => 0
  | d :: r => uptoBulk d + uptoBulkAll r
def uptoBulkEntries {H : Type} : List (Lit × DataW H) → Nat
  | [] => 0
  | x :: r => uptoBulkEntry x + uptoBulkEntries r
def uptoBulkEntry {H : Type} : Lit × DataW H → Nat
  | (.string bytes, d) => bytes.length + uptoBulk d + 1
  | (_, d) => uptoBulk d + 1
 end
def uptoSmall : (H : Type) → List (DataW H) → Bool := fun _ ds => decide (uptoBulkAll ds ≤ 1048576)
def OpenSpec.upto (s : _root_.Go.ChangeSpec) : _root_.Go.OpenSpec := { _root_.Go.OpenSpec.ofChange s with cond := some uptoSmall }

/-- 'fettlelaw13.MbrEntries', WHERE WHAT IT READS IS OF BULK AT MOST 1048576: true; the input reads as it did. -/
def mbrEntriesUptoRow : OpenClaim := { program := "ytgpggohkapdjpaa", sum := "7a191a0f58b8288263cee6c5eb32a4115a77cd1622917b577cbaa1d9db37e7d5", func := "fettle/fettlelaw13.MbrEntries", spec := "mbrEntries", unfollowed := true, recurses := true, apart := false, narrowed := true }
def MbrEntriesUptoSaid : Prop := mbrEntriesUptoRow.holds Try.pinned (OpenSpec.upto mbrEntriesSpec)

/-- 'fettlelaw13.MbrPuts', WHERE WHAT IT READS IS OF BULK AT MOST 1048576: true; the input reads as it did. -/
def mbrPutsUptoRow : OpenClaim := { program := "ytgpggohkapdjpaa", sum := "7a191a0f58b8288263cee6c5eb32a4115a77cd1622917b577cbaa1d9db37e7d5", func := "fettle/fettlelaw13.MbrPuts", spec := "mbrPuts", unfollowed := true, recurses := true, apart := false, narrowed := true }
def MbrPutsUptoSaid : Prop := mbrPutsUptoRow.holds Try.pinned (OpenSpec.upto mbrPutsSpec)

/-- 'fettlelaw13.MbrSectors', WHERE WHAT IT READS IS OF BULK AT MOST 1048576: true; the input reads as it did. -/
def mbrSectorsUptoRow : OpenClaim := { program := "ytgpggohkapdjpaa", sum := "7a191a0f58b8288263cee6c5eb32a4115a77cd1622917b577cbaa1d9db37e7d5", func := "fettle/fettlelaw13.MbrSectors", spec := "mbrSectors", unfollowed := true, recurses := true, apart := false, narrowed := true }
def MbrSectorsUptoSaid : Prop := mbrSectorsUptoRow.holds Try.pinned (OpenSpec.upto mbrSectorsSpec)

/-- 'fettlelaw13.MbrLoops', WHERE WHAT IT READS IS OF BULK AT MOST 1048576: true; the input reads as it did. -/
def mbrLoopsUptoRow : OpenClaim := { program := "ytgpggohkapdjpaa", sum := "7a191a0f58b8288263cee6c5eb32a4115a77cd1622917b577cbaa1d9db37e7d5", func := "fettle/fettlelaw13.MbrLoops", spec := "mbrLoops", unfollowed := true, recurses := true, apart := false, narrowed := true }
def MbrLoopsUptoSaid : Prop := mbrLoopsUptoRow.holds Try.pinned (OpenSpec.upto mbrLoopsSpec)

end Rows
end Go.Proofs.Ytgpggohkapdjpaa
