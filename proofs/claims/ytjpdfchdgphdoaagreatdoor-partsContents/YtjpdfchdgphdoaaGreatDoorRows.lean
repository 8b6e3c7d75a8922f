/-
  NARROWER THAN 'FOR EVERY INPUT', by the rows' own cells (each row's printed sentence says how): PartsWindows: laid · PartsContents: laid · PartsFinds: laid.
  DERIVED. THE GIVEN ROWS OF THIS SEAT. 3 by the template 'for every input the law returns true; each argument reads behind the call as it read before'; 0 by the template 'total and deterministic' (their statements: YtjpdfchdgphdoaaGreatDoorTotals.lean).
  GIVEN WITH THE SEED: the statements are not yours to turn. If you find one false, say at which input.
  Laid BY PROGRAM, IN A SANDBOX (cutbox-rows.mjs): the forced cells as the released guide's own fill.sh prints them over the translation 632a406ecf3dee2a… (all of the seat's roots in one cut). By AI agents, Wed Nov 11 2026. No macro, syntax, notation, axiom, sorry.
-/
import Derived.Test.YtjpdfchdgphdoaaGreatDoorChecked
import GoSem.Claim
import GoSem.ClaimJoined
import GoSem.ClaimMapViews
import Derived.JoinedTies
import Derived.KernelRfl
namespace Go.Proofs.YtjpdfchdgphdoaaGreatDoor
/- THE CELL 'sum', in the pinned program and in every row, IS THE sha256 OF THE DUMP (.gsa) THAT YtjpdfchdgphdoaaGreatDoorProg.lean LOADS. Nothing in Lean hashes anything: it is a label: what it is worth is what the hold of that sum in a sandbox is worth. -/
noncomputable def Tryz.pinned : Pinned := { name := "ytjpdfchdgphdoaagreatdoor", sum := "632a406ecf3dee2a03cf877068be8c5cea50b8a9769e3cef8e7e0399960d6d82", checked := Tryz.checked }
namespace Rows
def none {H : Type} : Left H := { results := [], args := [] }

/- WHAT THE LISTED PACKAGE-LEVEL VARIABLES READ AS WHEN THE CALL BEGINS. Each datum BY PROGRAM (the guide's laid-datum.mjs) off the statement by which the dump's own 'gosem.cut.vars' lays the variable. In a bare row this is a premise. The card (YtjpdfchdgphdoaaGreatDoorCards.lean) ties it to the program's text. -/
def laid_fettle_gpt_fixed {H : Type} : DataW H := .agg [.agg [.lit (.int .i64 8), .lit (.int .u32 65536)], .agg [.lit (.int .i64 12), .lit (.int .u32 92)], .agg [.lit (.int .i64 20), .lit (.int .u32 0)], .agg [.lit (.int .i64 84), .lit (.int .u32 128)]]

/-- 'fettlelaw15.PartsWindows': WHATEVER THE INPUT: true; the input reads as it did. -/
def partsWindowsSpec : ChangeSpec := { name := "partsWindows", fn := fun _ => fun
  | [d] => { results := [.lit (.bool true)], args := [d] }
  | _ => none }
def partsWindowsRow : OpenClaim := { program := "ytjpdfchdgphdoaagreatdoor", sum := "632a406ecf3dee2a03cf877068be8c5cea50b8a9769e3cef8e7e0399960d6d82", func := "fettle/fettlelaw15.PartsWindows", spec := "partsWindows", unfollowed := true, recurses := true, named := ["fettle/gpt.fixed"], apart := false, laid := [("fettle/gpt.fixed", laid_fettle_gpt_fixed)] }
def PartsWindowsSaid : Prop := partsWindowsRow.holds Tryz.pinned (OpenSpec.ofChange partsWindowsSpec)

/-- ITS FALSE NEIGHBOUR: 'it returns false'. Refute it at one input. -/
def partsWindowsWrong : ChangeSpec := { name := "partsWindows", fn := fun _ => fun
  | [d] => { results := [.lit (.bool false)], args := [d] }
  | _ => none }
def PartsWindowsWrongFalsely : Prop := partsWindowsRow.holds Tryz.pinned (OpenSpec.ofChange partsWindowsWrong)

/-- 'fettlelaw15.PartsContents': WHATEVER THE INPUT: true; the input reads as it did. -/
def partsContentsSpec : ChangeSpec := { name := "partsContents", fn := fun _ => fun
  | [d1, d2] => { results := [.lit (.bool true)], args := [d1, d2] }
  | _ => none }
def partsContentsRow : OpenClaim := { program := "ytjpdfchdgphdoaagreatdoor", sum := "632a406ecf3dee2a03cf877068be8c5cea50b8a9769e3cef8e7e0399960d6d82", func := "fettle/fettlelaw15.PartsContents", spec := "partsContents", unfollowed := true, recurses := true, named := ["fettle/gpt.fixed"], apart := false, laid := [("fettle/gpt.fixed", laid_fettle_gpt_fixed)] }
def PartsContentsSaid : Prop := partsContentsRow.holds Tryz.pinned (OpenSpec.ofChange partsContentsSpec)

/-- ITS FALSE NEIGHBOUR: 'it returns false'. Refute it at one input. -/
def partsContentsWrong : ChangeSpec := { name := "partsContents", fn := fun _ => fun
  | [d1, d2] => { results := [.lit (.bool false)], args := [d1, d2] }
  | _ => none }
def PartsContentsWrongFalsely : Prop := partsContentsRow.holds Tryz.pinned (OpenSpec.ofChange partsContentsWrong)

/-- 'fettlelaw15.PartsFinds': WHATEVER THE INPUT: true; the input reads as it did. -/
def partsFindsSpec : ChangeSpec := { name := "partsFinds", fn := fun _ => fun
  | [d1, d2] => { results := [.lit (.bool true)], args := [d1, d2] }
  | _ => none }
def partsFindsRow : OpenClaim := { program := "ytjpdfchdgphdoaagreatdoor", sum := "632a406ecf3dee2a03cf877068be8c5cea50b8a9769e3cef8e7e0399960d6d82", func := "fettle/fettlelaw15.PartsFinds", spec := "partsFinds", unfollowed := true, recurses := true, named := ["fettle/gpt.fixed"], apart := false, laid := [("fettle/gpt.fixed", laid_fettle_gpt_fixed)] }
def PartsFindsSaid : Prop := partsFindsRow.holds Tryz.pinned (OpenSpec.ofChange partsFindsSpec)

/-- ITS FALSE NEIGHBOUR: 'it returns false'. Refute it at one input. -/
def partsFindsWrong : ChangeSpec := { name := "partsFinds", fn := fun _ => fun
  | [d1, d2] => { results := [.lit (.bool false)], args := [d1, d2] }
  | _ => none }
def PartsFindsWrongFalsely : Prop := partsFindsRow.holds Tryz.pinned (OpenSpec.ofChange partsFindsWrong)

/- THE SECOND FORM. 'bulk': how many values and letters a reading holds, each counted each time it is reached (what is shared counts as often as it is met; a slice's spare places count too). A statement '..UptoSaid' is the law's where the arguments, and the package variables that the reading takes, are together of bulk at most 1048576: NARROWER than '..Said'. Prove '..Said' where nothing that the law and all that it calls make is longer than what came in: it says more and counts as full. Else prove '..UptoSaid'. A law counts once. -/
mutual
def uptoBulk {H : Type} : DataW H → Nat
  | .lit (.string bytes) => bytes.length + 1
  | .lit _ => 1
  | .nil => 1
  | .ptr d => uptoBulk d + 1
  | .slice elems spare => uptoBulkAll elems + uptoBulkAll spare + 1
  | .agg parts => uptoBulkAll parts + 1
  | .iface _ d => uptoBulk d + 1
  | .map entries => uptoBulkEntries entries + 1
  | .held _ => 1
def uptoBulkAll {H : Type} : List (DataW H) → Nat
  | [] => 0
  | d :: r => uptoBulk d + uptoBulkAll r
def uptoBulkEntries {H : Type} : List (Lit × DataW H) → Nat
  | [] => 0
  | x :: r => uptoBulkEntry x + uptoBulkEntries r
def uptoBulkEntry {H : Type} : Lit × DataW H → Nat
  | (.string bytes, d) => bytes.length + uptoBulk d + 1
  | (_, d) => uptoBulk d + 1
 end
def uptoSmall : (H : Type) → List (DataW H) → Bool := fun _ ds => decide (uptoBulkAll ds ≤ 1048576)
def OpenSpec.upto (s : _root_.Go.ChangeSpec) : _root_.Go.OpenSpec := { _root_.Go.OpenSpec.ofChange s with cond := some uptoSmall }

/-- 'fettlelaw15.PartsWindows', WHERE WHAT IT READS IS OF BULK AT MOST 1048576: true; the input reads as it did. -/
def partsWindowsUptoRow : OpenClaim := { program := "ytjpdfchdgphdoaagreatdoor", sum := "632a406ecf3dee2a03cf877068be8c5cea50b8a9769e3cef8e7e0399960d6d82", func := "fettle/fettlelaw15.PartsWindows", spec := "partsWindows", unfollowed := true, recurses := true, named := ["fettle/gpt.fixed"], apart := false, laid := [("fettle/gpt.fixed", laid_fettle_gpt_fixed)], narrowed := true }
def PartsWindowsUptoSaid : Prop := partsWindowsUptoRow.holds Tryz.pinned (OpenSpec.upto partsWindowsSpec)

/-- 'fettlelaw15.PartsContents', WHERE WHAT IT READS IS OF BULK AT MOST 1048576: true; the input reads as it did. -/
def partsContentsUptoRow : OpenClaim := { program := "ytjpdfchdgphdoaagreatdoor", sum := "632a406ecf3dee2a03cf877068be8c5cea50b8a9769e3cef8e7e0399960d6d82", func := "fettle/fettlelaw15.PartsContents", spec := "partsContents", unfollowed := true, recurses := true, named := ["fettle/gpt.fixed"], apart := false, laid := [("fettle/gpt.fixed", laid_fettle_gpt_fixed)], narrowed := true }
def PartsContentsUptoSaid : Prop := partsContentsUptoRow.holds Tryz.pinned (OpenSpec.upto partsContentsSpec)

/-- 'fettlelaw15.PartsFinds', WHERE WHAT IT READS IS OF BULK AT MOST 1048576: true; the input reads as it did. -/
def partsFindsUptoRow : OpenClaim := { program := "ytjpdfchdgphdoaagreatdoor", sum := "632a406ecf3dee2a03cf877068be8c5cea50b8a9769e3cef8e7e0399960d6d82", func := "fettle/fettlelaw15.PartsFinds", spec := "partsFinds", unfollowed := true, recurses := true, named := ["fettle/gpt.fixed"], apart := false, laid := [("fettle/gpt.fixed", laid_fettle_gpt_fixed)], narrowed := true }
def PartsFindsUptoSaid : Prop := partsFindsUptoRow.holds Tryz.pinned (OpenSpec.upto partsFindsSpec)

end Rows
end Go.Proofs.YtjpdfchdgphdoaaGreatDoor
