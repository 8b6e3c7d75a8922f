/-
  No cell of these rows narrows 'for every input' (looked for: loops, veiled, ifaces, maps, wideKeys, modest, calm, conditions, laid).
  DERIVED. THE GIVEN ROWS OF THIS SEAT. 6 by the template 'for every input the law returns true; each argument reads behind the call as it read before'; 0 by the template 'total and deterministic' (their statements: YtiplgcnkkbndjaaTotals.lean).
  GIVEN WITH THE SEED: the statements are not yours to turn. If you find one false, say at which input.
  Laid BY PROGRAM, IN A SANDBOX (cutbox-rows.mjs): the forced cells as the released guide's own fill.sh prints them over the translation bd96c3155e795bad… (all of the seat's roots in one cut). By AI agents, Wed Nov 11 2026. No macro, syntax, notation, axiom, sorry.
-/
import Derived.Test.YtiplgcnkkbndjaaChecked
import GoSem.Claim
import GoSem.ClaimJoined
import GoSem.ClaimMapViews
import Derived.JoinedTies
import Derived.KernelRfl
namespace Go.Proofs.Ytiplgcnkkbndjaa
/- THE CELL 'sum', in the pinned program and in every row, IS THE sha256 OF THE DUMP (.gsa) THAT YtiplgcnkkbndjaaProg.lean LOADS. Nothing in Lean hashes anything: it is a label: what it is worth is what the hold of that sum in a sandbox is worth. -/
noncomputable def Try.pinned : Pinned := { name := "ytiplgcnkkbndjaa", sum := "bd96c3155e795badaa51b7442ce25cccaaadf6bee17c2d7c6930f0e74596991b", checked := Try.checked }
namespace Rows
def none {H : Type} : Left H := { results := [], args := [] }

/-- 'fettlelaw03.ExtentNorms': WHATEVER THE INPUT: true; the input reads as it did. -/
def extentNormsSpec : ChangeSpec := { name := "extentNorms", fn := fun _ => fun
  | [d] => { results := [.lit (.bool true)], args := [d] }
  | _ => none }
def extentNormsRow : OpenClaim := { program := "ytiplgcnkkbndjaa", sum := "bd96c3155e795badaa51b7442ce25cccaaadf6bee17c2d7c6930f0e74596991b", func := "fettle/fettlelaw03.ExtentNorms", spec := "extentNorms", unfollowed := true, recurses := true, apart := false }
def ExtentNormsSaid : Prop := extentNormsRow.holds Try.pinned (OpenSpec.ofChange extentNormsSpec)

/-- ITS FALSE NEIGHBOUR: 'it returns false'. Refute it at one input. -/
def extentNormsWrong : ChangeSpec := { name := "extentNorms", fn := fun _ => fun
  | [d] => { results := [.lit (.bool false)], args := [d] }
  | _ => none }
def ExtentNormsWrongFalsely : Prop := extentNormsRow.holds Try.pinned (OpenSpec.ofChange extentNormsWrong)

/-- 'fettlelaw03.ExtentPairs': WHATEVER THE INPUT: true; the input reads as it did. -/
def extentPairsSpec : ChangeSpec := { name := "extentPairs", fn := fun _ => fun
  | [d1, d2] => { results := [.lit (.bool true)], args := [d1, d2] }
  | _ => none }
def extentPairsRow : OpenClaim := { program := "ytiplgcnkkbndjaa", sum := "bd96c3155e795badaa51b7442ce25cccaaadf6bee17c2d7c6930f0e74596991b", func := "fettle/fettlelaw03.ExtentPairs", spec := "extentPairs", unfollowed := true, recurses := true, apart := false }
def ExtentPairsSaid : Prop := extentPairsRow.holds Try.pinned (OpenSpec.ofChange extentPairsSpec)

/-- ITS FALSE NEIGHBOUR: 'it returns false'. Refute it at one input. -/
def extentPairsWrong : ChangeSpec := { name := "extentPairs", fn := fun _ => fun
  | [d1, d2] => { results := [.lit (.bool false)], args := [d1, d2] }
  | _ => none }
def ExtentPairsWrongFalsely : Prop := extentPairsRow.holds Try.pinned (OpenSpec.ofChange extentPairsWrong)

/-- 'fettlelaw03.ExtentAsks': WHATEVER THE INPUT: true; the input reads as it did. -/
def extentAsksSpec : ChangeSpec := { name := "extentAsks", fn := fun _ => fun
  | [d1, d2, d3] => { results := [.lit (.bool true)], args := [d1, d2, d3] }
  | _ => none }
def extentAsksRow : OpenClaim := { program := "ytiplgcnkkbndjaa", sum := "bd96c3155e795badaa51b7442ce25cccaaadf6bee17c2d7c6930f0e74596991b", func := "fettle/fettlelaw03.ExtentAsks", spec := "extentAsks", unfollowed := true, recurses := true, apart := false }
def ExtentAsksSaid : Prop := extentAsksRow.holds Try.pinned (OpenSpec.ofChange extentAsksSpec)

/-- ITS FALSE NEIGHBOUR: 'it returns false'. Refute it at one input. -/
def extentAsksWrong : ChangeSpec := { name := "extentAsks", fn := fun _ => fun
  | [d1, d2, d3] => { results := [.lit (.bool false)], args := [d1, d2, d3] }
  | _ => none }
def ExtentAsksWrongFalsely : Prop := extentAsksRow.holds Try.pinned (OpenSpec.ofChange extentAsksWrong)

/-- 'fettlelaw03.ExtentUnits': WHATEVER THE INPUT: true; the input reads as it did. -/
def extentUnitsSpec : ChangeSpec := { name := "extentUnits", fn := fun _ => fun
  | [d1, d2, d3] => { results := [.lit (.bool true)], args := [d1, d2, d3] }
  | _ => none }
def extentUnitsRow : OpenClaim := { program := "ytiplgcnkkbndjaa", sum := "bd96c3155e795badaa51b7442ce25cccaaadf6bee17c2d7c6930f0e74596991b", func := "fettle/fettlelaw03.ExtentUnits", spec := "extentUnits", unfollowed := true, recurses := true, apart := false }
def ExtentUnitsSaid : Prop := extentUnitsRow.holds Try.pinned (OpenSpec.ofChange extentUnitsSpec)

/-- ITS FALSE NEIGHBOUR: 'it returns false'. Refute it at one input. -/
def extentUnitsWrong : ChangeSpec := { name := "extentUnits", fn := fun _ => fun
  | [d1, d2, d3] => { results := [.lit (.bool false)], args := [d1, d2, d3] }
  | _ => none }
def ExtentUnitsWrongFalsely : Prop := extentUnitsRow.holds Try.pinned (OpenSpec.ofChange extentUnitsWrong)

/-- 'fettlelaw03.ExtentWalks': WHATEVER THE INPUT: true; the input reads as it did. -/
def extentWalksSpec : ChangeSpec := { name := "extentWalks", fn := fun _ => fun
  | [d1, d2] => { results := [.lit (.bool true)], args := [d1, d2] }
  | _ => none }
def extentWalksRow : OpenClaim := { program := "ytiplgcnkkbndjaa", sum := "bd96c3155e795badaa51b7442ce25cccaaadf6bee17c2d7c6930f0e74596991b", func := "fettle/fettlelaw03.ExtentWalks", spec := "extentWalks", unfollowed := true, recurses := true, apart := false }
def ExtentWalksSaid : Prop := extentWalksRow.holds Try.pinned (OpenSpec.ofChange extentWalksSpec)

/-- ITS FALSE NEIGHBOUR: 'it returns false'. Refute it at one input. -/
def extentWalksWrong : ChangeSpec := { name := "extentWalks", fn := fun _ => fun
  | [d1, d2] => { results := [.lit (.bool false)], args := [d1, d2] }
  | _ => none }
def ExtentWalksWrongFalsely : Prop := extentWalksRow.holds Try.pinned (OpenSpec.ofChange extentWalksWrong)

/-- 'fettlelaw03.ExtentSets': WHATEVER THE INPUT: true; the input reads as it did. -/
def extentSetsSpec : ChangeSpec := { name := "extentSets", fn := fun _ => fun
  | [d1, d2, d3] => { results := [.lit (.bool true)], args := [d1, d2, d3] }
  | _ => none }
def extentSetsRow : OpenClaim := { program := "ytiplgcnkkbndjaa", sum := "bd96c3155e795badaa51b7442ce25cccaaadf6bee17c2d7c6930f0e74596991b", func := "fettle/fettlelaw03.ExtentSets", spec := "extentSets", unfollowed := true, recurses := true, apart := false }
def ExtentSetsSaid : Prop := extentSetsRow.holds Try.pinned (OpenSpec.ofChange extentSetsSpec)

/-- ITS FALSE NEIGHBOUR: 'it returns false'. Refute it at one input. -/
def extentSetsWrong : ChangeSpec := { name := "extentSets", fn := fun _ => fun
  | [d1, d2, d3] => { results := [.lit (.bool false)], args := [d1, d2, d3] }
  | _ => none }
def ExtentSetsWrongFalsely : Prop := extentSetsRow.holds Try.pinned (OpenSpec.ofChange extentSetsWrong)

/- THE SECOND FORM. 'bulk': how many values and letters a reading holds, each counted each time it is reached (what is shared counts as often as it is met; a slice's spare places count too). A statement '..UptoSaid' is the law's where the arguments, and the package variables that the reading takes, are together of bulk at most 1048576: NARROWER than '..Said'. Prove '..Said' where nothing that the law and all that it calls make is longer than what came in: it says more and counts as full. Else prove '..UptoSaid'. A law counts once. -/
mutual
def uptoBulk {H : Type} : DataW H → Nat
  | .lit (.string bytes) => bytes.length + 1
  | .lit _ => 1
  | .nil => 1
  | .ptr d => uptoBulk d + 1
  | .slice elems spare => uptoBulkAll elems + uptoBulkAll spare + 1
  | .agg parts => uptoBulkAll parts + 1
  | .iface _ d => uptoBulk d + 1
  | .map entries => uptoBulkEntries entries + 1
  | .held _ => 1
def uptoBulkAll {H : Type} : List (DataW H) → Nat
  | [] => 0
  | d :: r => uptoBulk d + uptoBulkAll r
def uptoBulkEntries {H : Type} : List (Lit × DataW H) → Nat
  | [] => 0
  | x :: r => uptoBulkEntry x + uptoBulkEntries r
def uptoBulkEntry {H : Type} : Lit × DataW H → Nat
  | (.string bytes, d) => bytes.length + uptoBulk d + 1
  | (_, d) => uptoBulk d + 1
 end
def uptoSmall : (H : Type) → List (DataW H) → Bool := fun _ ds => decide (uptoBulkAll ds ≤ 1048576)
def OpenSpec.upto (s : _root_.Go.ChangeSpec) : _root_.Go.OpenSpec := { _root_.Go.OpenSpec.ofChange s with cond := some uptoSmall }

/-- 'fettlelaw03.ExtentNorms', WHERE WHAT IT READS IS OF BULK AT MOST 1048576: true; the input reads as it did. -/
def extentNormsUptoRow : OpenClaim := { program := "ytiplgcnkkbndjaa", sum := "bd96c3155e795badaa51b7442ce25cccaaadf6bee17c2d7c6930f0e74596991b", func := "fettle/fettlelaw03.ExtentNorms", spec := "extentNorms", unfollowed := true, recurses := true, apart := false, narrowed := true }
def ExtentNormsUptoSaid : Prop := extentNormsUptoRow.holds Try.pinned (OpenSpec.upto extentNormsSpec)

/-- 'fettlelaw03.ExtentPairs', WHERE WHAT IT READS IS OF BULK AT MOST 1048576: true; the input reads as it did. -/
def extentPairsUptoRow : OpenClaim := { program := "ytiplgcnkkbndjaa", sum := "bd96c3155e795badaa51b7442ce25cccaaadf6bee17c2d7c6930f0e74596991b", func := "fettle/fettlelaw03.ExtentPairs", spec := "extentPairs", unfollowed := true, recurses := true, apart := false, narrowed := true }
def ExtentPairsUptoSaid : Prop := extentPairsUptoRow.holds Try.pinned (OpenSpec.upto extentPairsSpec)

/-- 'fettlelaw03.ExtentAsks', WHERE WHAT IT READS IS OF BULK AT MOST 1048576: true; the input reads as it did. -/
def extentAsksUptoRow : OpenClaim := { program := "ytiplgcnkkbndjaa", sum := "bd96c3155e795badaa51b7442ce25cccaaadf6bee17c2d7c6930f0e74596991b", func := "fettle/fettlelaw03.ExtentAsks", spec := "extentAsks", unfollowed := true, recurses := true, apart := false, narrowed := true }
def ExtentAsksUptoSaid : Prop := extentAsksUptoRow.holds Try.pinned (OpenSpec.upto extentAsksSpec)

/-- 'fettlelaw03.ExtentUnits', WHERE WHAT IT READS IS OF BULK AT MOST 1048576: true; the input reads as it did. -/
def extentUnitsUptoRow : OpenClaim := { program := "ytiplgcnkkbndjaa", sum := "bd96c3155e795badaa51b7442ce25cccaaadf6bee17c2d7c6930f0e74596991b", func := "fettle/fettlelaw03.ExtentUnits", spec := "extentUnits", unfollowed := true, recurses := true, apart := false, narrowed := true }
def ExtentUnitsUptoSaid : Prop := extentUnitsUptoRow.holds Try.pinned (OpenSpec.upto extentUnitsSpec)

/-- 'fettlelaw03.ExtentWalks', WHERE WHAT IT READS IS OF BULK AT MOST 1048576: true; the input reads as it did. -/
def extentWalksUptoRow : OpenClaim := { program := "ytiplgcnkkbndjaa", sum := "bd96c3155e795badaa51b7442ce25cccaaadf6bee17c2d7c6930f0e74596991b", func := "fettle/fettlelaw03.ExtentWalks", spec := "extentWalks", unfollowed := true, recurses := true, apart := false, narrowed := true }
def ExtentWalksUptoSaid : Prop := extentWalksUptoRow.holds Try.pinned (OpenSpec.upto extentWalksSpec)

/-- 'fettlelaw03.ExtentSets', WHERE WHAT IT READS IS OF BULK AT MOST 1048576: true; the input reads as it did. -/
def extentSetsUptoRow : OpenClaim := { program := "ytiplgcnkkbndjaa", sum := "bd96c3155e795badaa51b7442ce25cccaaadf6bee17c2d7c6930f0e74596991b", func := "fettle/fettlelaw03.ExtentSets", spec := "extentSets", unfollowed := true, recurses := true, apart := false, narrowed := true }
def ExtentSetsUptoSaid : Prop := extentSetsUptoRow.holds Try.pinned (OpenSpec.upto extentSetsSpec)

end Rows
end Go.Proofs.Ytiplgcnkkbndjaa
