/-
  No cell of these rows narrows 'for every input' (looked for: loops, veiled, ifaces, maps, wideKeys, modest, calm, conditions, laid).
  DERIVED. THE GIVEN ROWS OF THIS SEAT. 6 by the template 'for every input the law returns true; each argument reads behind the call as it read before'; 0 by the template 'total and deterministic' (their statements: YtgfdcgkaponlfaaTotals.lean).
  GIVEN WITH THE SEED: the statements are not yours to turn. If you find one false, say at which input.
  Laid BY PROGRAM, IN A SANDBOX (cutbox-rows.mjs): the forced cells as the released guide's own fill.sh prints them over the translation 18d29377ea260bfa… (all of the seat's roots in one cut). By AI agents, Wed Nov 11 2026. No macro, syntax, notation, axiom, sorry.
-/
import Derived.Test.YtgfdcgkaponlfaaChecked
import GoSem.Claim
import GoSem.ClaimJoined
import GoSem.ClaimMapViews
import Derived.JoinedTies
import Derived.KernelRfl
namespace Go.Proofs.Ytgfdcgkaponlfaa
/- THE CELL 'sum', in the pinned program and in every row, IS THE sha256 OF THE DUMP (.gsa) THAT YtgfdcgkaponlfaaProg.lean LOADS. Nothing in Lean hashes anything: it is a label: what it is worth is what the hold of that sum in a sandbox is worth. -/
noncomputable def Try.pinned : Pinned := { name := "ytgfdcgkaponlfaa", sum := "18d29377ea260bfa91a0645a1aded223dda7dc2e99ebd9faaa184f4f3b98734b", checked := Try.checked }
namespace Rows
def none {H : Type} : Left H := { results := [], args := [] }

/-- 'fettlelaw03.ExtentPairs': WHATEVER THE INPUT: true; the input reads as it did. -/
def extentPairsSpec : ChangeSpec := { name := "extentPairs", fn := fun _ => fun
  | [d1, d2] => { results := [.lit (.bool true)], args := [d1, d2] }
  | _ => none }
def extentPairsRow : OpenClaim := { program := "ytgfdcgkaponlfaa", sum := "18d29377ea260bfa91a0645a1aded223dda7dc2e99ebd9faaa184f4f3b98734b", func := "fettle/fettlelaw03.ExtentPairs", spec := "extentPairs", unfollowed := true, recurses := true, apart := false }
def ExtentPairsSaid : Prop := extentPairsRow.holds Try.pinned (OpenSpec.ofChange extentPairsSpec)

/-- ITS FALSE NEIGHBOUR: 'it returns false'. Refute it at one input. -/
def extentPairsWrong : ChangeSpec := { name := "extentPairs", fn := fun _ => fun
  | [d1, d2] => { results := [.lit (.bool false)], args := [d1, d2] }
  | _ => none }
def ExtentPairsWrongFalsely : Prop := extentPairsRow.holds Try.pinned (OpenSpec.ofChange extentPairsWrong)

/-- 'fettlelaw03.ExtentAsks': WHATEVER THE INPUT: true; the input reads as it did. -/
def extentAsksSpec : ChangeSpec := { name := "extentAsks", fn := fun _ => fun
  | [d1, d2, d3] => { results := [.lit (.bool true)], args := [d1, d2, d3] }
  | _ => none }
def extentAsksRow : OpenClaim := { program := "ytgfdcgkaponlfaa", sum := "18d29377ea260bfa91a0645a1aded223dda7dc2e99ebd9faaa184f4f3b98734b", func := "fettle/fettlelaw03.ExtentAsks", spec := "extentAsks", unfollowed := true, recurses := true, apart := false }
def ExtentAsksSaid : Prop := extentAsksRow.holds Try.pinned (OpenSpec.ofChange extentAsksSpec)

/-- ITS FALSE NEIGHBOUR: 'it returns false'. Refute it at one input. -/
def extentAsksWrong : ChangeSpec := { name := "extentAsks", fn := fun _ => fun
  | [d1, d2, d3] => { results := [.lit (.bool false)], args := [d1, d2, d3] }
  | _ => none }
def ExtentAsksWrongFalsely : Prop := extentAsksRow.holds Try.pinned (OpenSpec.ofChange extentAsksWrong)

/-- 'fettlelaw03.ExtentWalks': WHATEVER THE INPUT: true; the input reads as it did. -/
def extentWalksSpec : ChangeSpec := { name := "extentWalks", fn := fun _ => fun
  | [d1, d2] => { results := [.lit (.bool true)], args := [d1, d2] }
  | _ => none }
def extentWalksRow : OpenClaim := { program := "ytgfdcgkaponlfaa", sum := "18d29377ea260bfa91a0645a1aded223dda7dc2e99ebd9faaa184f4f3b98734b", func := "fettle/fettlelaw03.ExtentWalks", spec := "extentWalks", unfollowed := true, recurses := true, apart := false }
def ExtentWalksSaid : Prop := extentWalksRow.holds Try.pinned (OpenSpec.ofChange extentWalksSpec)

/-- ITS FALSE NEIGHBOUR: 'it returns false'. Refute it at one input. -/
def extentWalksWrong : ChangeSpec := { name := "extentWalks", fn := fun _ => fun
  | [d1, d2] => { results := [.lit (.bool false)], args := [d1, d2] }
  | _ => none }
def ExtentWalksWrongFalsely : Prop := extentWalksRow.holds Try.pinned (OpenSpec.ofChange extentWalksWrong)

/-- 'fettlelaw03.ExtentSets': WHATEVER THE INPUT: true; the input reads as it did. -/
def extentSetsSpec : ChangeSpec := { name := "extentSets", fn := fun _ => fun
  | [d1, d2, d3] => { results := [.lit (.bool true)], args := [d1, d2, d3] }
  | _ => none }
def extentSetsRow : OpenClaim := { program := "ytgfdcgkaponlfaa", sum := "18d29377ea260bfa91a0645a1aded223dda7dc2e99ebd9faaa184f4f3b98734b", func := "fettle/fettlelaw03.ExtentSets", spec := "extentSets", unfollowed := true, recurses := true, apart := false }
def ExtentSetsSaid : Prop := extentSetsRow.holds Try.pinned (OpenSpec.ofChange extentSetsSpec)

/-- ITS FALSE NEIGHBOUR: 'it returns false'. Refute it at one input. -/
def extentSetsWrong : ChangeSpec := { name := "extentSets", fn := fun _ => fun
  | [d1, d2, d3] => { results := [.lit (.bool false)], args := [d1, d2, d3] }
  | _ => none }
def ExtentSetsWrongFalsely : Prop := extentSetsRow.holds Try.pinned (OpenSpec.ofChange extentSetsWrong)

/-- 'fettlelaw03.ExtentKeeps': WHATEVER THE INPUT: true; the input reads as it did. -/
def extentKeepsSpec : ChangeSpec := { name := "extentKeeps", fn := fun _ => fun
  | [d1, d2] => { results := [.lit (.bool true)], args := [d1, d2] }
  | _ => none }
def extentKeepsRow : OpenClaim := { program := "ytgfdcgkaponlfaa", sum := "18d29377ea260bfa91a0645a1aded223dda7dc2e99ebd9faaa184f4f3b98734b", func := "fettle/fettlelaw03.ExtentKeeps", spec := "extentKeeps", unfollowed := true, recurses := true, apart := false }
def ExtentKeepsSaid : Prop := extentKeepsRow.holds Try.pinned (OpenSpec.ofChange extentKeepsSpec)

/-- ITS FALSE NEIGHBOUR: 'it returns false'. Refute it at one input. -/
def extentKeepsWrong : ChangeSpec := { name := "extentKeeps", fn := fun _ => fun
  | [d1, d2] => { results := [.lit (.bool false)], args := [d1, d2] }
  | _ => none }
def ExtentKeepsWrongFalsely : Prop := extentKeepsRow.holds Try.pinned (OpenSpec.ofChange extentKeepsWrong)

/-- 'fettlelaw03.ExtentHalves': WHATEVER THE INPUT: true; the input reads as it did. -/
def extentHalvesSpec : ChangeSpec := { name := "extentHalves", fn := fun _ => fun
  | [d1, d2, d3] => { results := [.lit (.bool true)], args := [d1, d2, d3] }
  | _ => none }
def extentHalvesRow : OpenClaim := { program := "ytgfdcgkaponlfaa", sum := "18d29377ea260bfa91a0645a1aded223dda7dc2e99ebd9faaa184f4f3b98734b", func := "fettle/fettlelaw03.ExtentHalves", spec := "extentHalves", unfollowed := true, recurses := true, apart := false }
def ExtentHalvesSaid : Prop := extentHalvesRow.holds Try.pinned (OpenSpec.ofChange extentHalvesSpec)

/-- ITS FALSE NEIGHBOUR: 'it returns false'. Refute it at one input. -/
def extentHalvesWrong : ChangeSpec := { name := "extentHalves", fn := fun _ => fun
  | [d1, d2, d3] => { results := [.lit (.bool false)], args := [d1, d2, d3] }
  | _ => none }
def ExtentHalvesWrongFalsely : Prop := extentHalvesRow.holds Try.pinned (OpenSpec.ofChange extentHalvesWrong)

/- THE SECOND FORM. 'bulk': how many values and letters a reading holds, each counted each time it is reached (what is shared counts as often as it is met; a slice's spare places count too). A statement '..UptoSaid' is the law's where the arguments, and the package variables that the reading takes, are together of bulk at most 1048576: NARROWER than '..Said'. Prove '..Said' where nothing that the law and all that it calls make is longer than what came in: it says more and counts as full. Else prove '..UptoSaid'. A law counts once. -/
mutual
def uptoBulk {H : Type} : DataW H → Nat
  | .lit (.string bytes) => bytes.length + 1
  | .lit _ => 1
  | .nil => 1
  | .ptr d => uptoBulk d + 1
  | .slice elems spare => uptoBulkAll elems + uptoBulkAll spare + 1
  | .agg parts => uptoBulkAll parts + 1
  | .iface _ d => uptoBulk d + 1
  | .map entries => uptoBulkEntries entries + 1
  | .held _ => 1
def uptoBulkAll {H : Type} : List (DataW H) → Nat
  | [] => 0
  | d :: r => uptoBulk d + uptoBulkAll r
def uptoBulkEntries {H : Type} : List (Lit × DataW H) → Nat
  | [] => 0
  | x :: r => uptoBulkEntry x + uptoBulkEntries r
def uptoBulkEntry {H : Type} : Lit × DataW H → Nat
  | (.string bytes, d) => bytes.length + uptoBulk d + 1
  | (_, d) => uptoBulk d + 1
 end
def uptoSmall : (H : Type) → List (DataW H) → Bool := fun _ ds => decide (uptoBulkAll ds ≤ 1048576)
def OpenSpec.upto (s : _root_.Go.ChangeSpec) : _root_.Go.OpenSpec := { _root_.Go.OpenSpec.ofChange s with cond := some uptoSmall }

/-- 'fettlelaw03.ExtentPairs', WHERE WHAT IT READS IS OF BULK AT MOST 1048576: true; the input reads as it did. -/
def extentPairsUptoRow : OpenClaim := { program := "ytgfdcgkaponlfaa", sum := "18d29377ea260bfa91a0645a1aded223dda7dc2e99ebd9faaa184f4f3b98734b", func := "fettle/fettlelaw03.ExtentPairs", spec := "extentPairs", unfollowed := true, recurses := true, apart := false, narrowed := true }
def ExtentPairsUptoSaid : Prop := extentPairsUptoRow.holds Try.pinned (OpenSpec.upto extentPairsSpec)

/-- 'fettlelaw03.ExtentAsks', WHERE WHAT IT READS IS OF BULK AT MOST 1048576: true; the input reads as it did. -/
def extentAsksUptoRow : OpenClaim := { program := "ytgfdcgkaponlfaa", sum := "18d29377ea260bfa91a0645a1aded223dda7dc2e99ebd9faaa184f4f3b98734b", func := "fettle/fettlelaw03.ExtentAsks", spec := "extentAsks", unfollowed := true, recurses := true, apart := false, narrowed := true }
def ExtentAsksUptoSaid : Prop := extentAsksUptoRow.holds Try.pinned (OpenSpec.upto extentAsksSpec)

/-- 'fettlelaw03.ExtentWalks', WHERE WHAT IT READS IS OF BULK AT MOST 1048576: true; the input reads as it did. -/
def extentWalksUptoRow : OpenClaim := { program := "ytgfdcgkaponlfaa", sum := "18d29377ea260bfa91a0645a1aded223dda7dc2e99ebd9faaa184f4f3b98734b", func := "fettle/fettlelaw03.ExtentWalks", spec := "extentWalks", unfollowed := true, recurses := true, apart := false, narrowed := true }
def ExtentWalksUptoSaid : Prop := extentWalksUptoRow.holds Try.pinned (OpenSpec.upto extentWalksSpec)

/-- 'fettlelaw03.ExtentSets', WHERE WHAT IT READS IS OF BULK AT MOST 1048576: true; the input reads as it did. -/
def extentSetsUptoRow : OpenClaim := { program := "ytgfdcgkaponlfaa", sum := "18d29377ea260bfa91a0645a1aded223dda7dc2e99ebd9faaa184f4f3b98734b", func := "fettle/fettlelaw03.ExtentSets", spec := "extentSets", unfollowed := true, recurses := true, apart := false, narrowed := true }
def ExtentSetsUptoSaid : Prop := extentSetsUptoRow.holds Try.pinned (OpenSpec.upto extentSetsSpec)

/-- 'fettlelaw03.ExtentKeeps', WHERE WHAT IT READS IS OF BULK AT MOST 1048576: true; the input reads as it did. -/
def extentKeepsUptoRow : OpenClaim := { program := "ytgfdcgkaponlfaa", sum := "18d29377ea260bfa91a0645a1aded223dda7dc2e99ebd9faaa184f4f3b98734b", func := "fettle/fettlelaw03.ExtentKeeps", spec := "extentKeeps", unfollowed := true, recurses := true, apart := false, narrowed := true }
def ExtentKeepsUptoSaid : Prop := extentKeepsUptoRow.holds Try.pinned (OpenSpec.upto extentKeepsSpec)

/-- 'fettlelaw03.ExtentHalves', WHERE WHAT IT READS IS OF BULK AT MOST 1048576: true; the input reads as it did. -/
def extentHalvesUptoRow : OpenClaim := { program := "ytgfdcgkaponlfaa", sum := "18d29377ea260bfa91a0645a1aded223dda7dc2e99ebd9faaa184f4f3b98734b", func := "fettle/fettlelaw03.ExtentHalves", spec := "extentHalves", unfollowed := true, recurses := true, apart := false, narrowed := true }
def ExtentHalvesUptoSaid : Prop := extentHalvesUptoRow.holds Try.pinned (OpenSpec.upto extentHalvesSpec)

end Rows
end Go.Proofs.Ytgfdcgkaponlfaa
