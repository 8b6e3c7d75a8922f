/-
  NARROWER THAN 'FOR EVERY INPUT', by the rows' own cells (each row's printed sentence says how): ExtBlocks: laid · ExtRows: laid · ExtMaps: laid.
  DERIVED. THE GIVEN ROWS OF THIS SEAT. 3 by the template 'for every input the law returns true; each argument reads behind the call as it read before'; 0 by the template 'total and deterministic' (their statements: YtjmajjfknmjifaaDoorTotals.lean).
  GIVEN WITH THE SEED: the statements are not yours to turn. If you find one false, say at which input.
  Laid BY PROGRAM, IN A SANDBOX (cutbox-rows.mjs): the forced cells as the released guide's own fill.sh prints them over the translation 32364cf0959ffb12… (all of the seat's roots in one cut). By AI agents, Wed Nov 11 2026. No macro, syntax, notation, axiom, sorry.
-/
import Derived.Test.YtjmajjfknmjifaaDoorChecked
import GoSem.Claim
import GoSem.ClaimJoined
import GoSem.ClaimMapViews
import Derived.JoinedTies
import Derived.KernelRfl
namespace Go.Proofs.YtjmajjfknmjifaaDoor
/- THE CELL 'sum', in the pinned program and in every row, IS THE sha256 OF THE DUMP (.gsa) THAT YtjmajjfknmjifaaDoorProg.lean LOADS. Nothing in Lean hashes anything: it is a label: what it is worth is what the hold of that sum in a sandbox is worth. -/
noncomputable def Tryd.pinned : Pinned := { name := "ytjmajjfknmjifaadoor", sum := "32364cf0959ffb12624b47d46b0ba7ac4a513486801cd7154e0cb2dfedcffc08", checked := Tryd.checked }
namespace Rows
def none {H : Type} : Left H := { results := [], args := [] }

/- WHAT THE LISTED PACKAGE-LEVEL VARIABLES READ AS WHEN THE CALL BEGINS. Each datum BY PROGRAM (the guide's laid-datum.mjs) off the statement by which the dump's own 'gosem.cut.vars' lays the variable. In a bare row this is a premise. The card (YtjmajjfknmjifaaDoorCards.lean) ties it to the program's text. -/
def laid_fettle_ext_fixed4 {H : Type} : DataW H := .agg [.agg [.lit (.int .i64 20), .lit (.int .u32 1)], .agg [.lit (.int .i64 24), .lit (.int .u32 0)], .agg [.lit (.int .i64 76), .lit (.int .u32 1)], .agg [.lit (.int .i64 100), .lit (.int .u32 0)]]

/-- 'fettlelaw18.ExtBlocks': WHATEVER THE INPUT: true; the input reads as it did. -/
def extBlocksSpec : ChangeSpec := { name := "extBlocks", fn := fun _ => fun
  | [d1, d2] => { results := [.lit (.bool true)], args := [d1, d2] }
  | _ => none }
def extBlocksRow : OpenClaim := { program := "ytjmajjfknmjifaadoor", sum := "32364cf0959ffb12624b47d46b0ba7ac4a513486801cd7154e0cb2dfedcffc08", func := "fettle/fettlelaw18.ExtBlocks", spec := "extBlocks", unfollowed := true, recurses := true, named := ["fettle/ext.fixed4"], apart := false, laid := [("fettle/ext.fixed4", laid_fettle_ext_fixed4)] }
def ExtBlocksSaid : Prop := extBlocksRow.holds Tryd.pinned (OpenSpec.ofChange extBlocksSpec)

/-- ITS FALSE NEIGHBOUR: 'it returns false'. Refute it at one input. -/
def extBlocksWrong : ChangeSpec := { name := "extBlocks", fn := fun _ => fun
  | [d1, d2] => { results := [.lit (.bool false)], args := [d1, d2] }
  | _ => none }
def ExtBlocksWrongFalsely : Prop := extBlocksRow.holds Tryd.pinned (OpenSpec.ofChange extBlocksWrong)

/-- 'fettlelaw18.ExtRows': WHATEVER THE INPUT: true; the input reads as it did. -/
def extRowsSpec : ChangeSpec := { name := "extRows", fn := fun _ => fun
  | [d1, d2, d3] => { results := [.lit (.bool true)], args := [d1, d2, d3] }
  | _ => none }
def extRowsRow : OpenClaim := { program := "ytjmajjfknmjifaadoor", sum := "32364cf0959ffb12624b47d46b0ba7ac4a513486801cd7154e0cb2dfedcffc08", func := "fettle/fettlelaw18.ExtRows", spec := "extRows", unfollowed := true, recurses := true, named := ["fettle/ext.fixed4"], apart := false, laid := [("fettle/ext.fixed4", laid_fettle_ext_fixed4)] }
def ExtRowsSaid : Prop := extRowsRow.holds Tryd.pinned (OpenSpec.ofChange extRowsSpec)

/-- ITS FALSE NEIGHBOUR: 'it returns false'. Refute it at one input. -/
def extRowsWrong : ChangeSpec := { name := "extRows", fn := fun _ => fun
  | [d1, d2, d3] => { results := [.lit (.bool false)], args := [d1, d2, d3] }
  | _ => none }
def ExtRowsWrongFalsely : Prop := extRowsRow.holds Tryd.pinned (OpenSpec.ofChange extRowsWrong)

/-- 'fettlelaw18.ExtMaps': WHATEVER THE INPUT: true; the input reads as it did. -/
def extMapsSpec : ChangeSpec := { name := "extMaps", fn := fun _ => fun
  | [d] => { results := [.lit (.bool true)], args := [d] }
  | _ => none }
def extMapsRow : OpenClaim := { program := "ytjmajjfknmjifaadoor", sum := "32364cf0959ffb12624b47d46b0ba7ac4a513486801cd7154e0cb2dfedcffc08", func := "fettle/fettlelaw18.ExtMaps", spec := "extMaps", unfollowed := true, recurses := true, named := ["fettle/ext.fixed4"], apart := false, laid := [("fettle/ext.fixed4", laid_fettle_ext_fixed4)] }
def ExtMapsSaid : Prop := extMapsRow.holds Tryd.pinned (OpenSpec.ofChange extMapsSpec)

/-- ITS FALSE NEIGHBOUR: 'it returns false'. Refute it at one input. -/
def extMapsWrong : ChangeSpec := { name := "extMaps", fn := fun _ => fun
  | [d] => { results := [.lit (.bool false)], args := [d] }
  | _ => none }
def ExtMapsWrongFalsely : Prop := extMapsRow.holds Tryd.pinned (OpenSpec.ofChange extMapsWrong)

/- THE SECOND FORM. 'bulk': how many values and letters a reading holds, each counted each time it is reached (what is shared counts as often as it is met; a slice's spare places count too). A statement '..UptoSaid' is the law's where the arguments, and the package variables that the reading takes, are together of bulk at most 1048576: NARROWER than '..Said'. Prove '..Said' where nothing that the law and all that it calls make is longer than what came in: it says more and counts as full. Else prove '..UptoSaid'. A law counts once. -/
mutual
def uptoBulk {H : Type} : DataW H → Nat
  | .lit (.string bytes) => bytes.length + 1
  | .lit _ => 1
  | .nil => 1
  | .ptr d => uptoBulk d + 1
  | .slice elems spare => uptoBulkAll elems + uptoBulkAll spare + 1
  | .agg parts => uptoBulkAll parts + 1
  | .iface _ d => uptoBulk d + 1
  | .map entries => uptoBulkEntries entries + 1
  | .held _ => 1
def uptoBulkAll {H : Type} : List (DataW H) → Nat
  | [] => 0
  | d :: r => uptoBulk d + uptoBulkAll r
def uptoBulkEntries {H : Type} : List (Lit × DataW H) → Nat
  | [] => 0
  | x :: r => uptoBulkEntry x + uptoBulkEntries r
def uptoBulkEntry {H : Type} : Lit × DataW H → Nat
  | (.string bytes, d) => bytes.length + uptoBulk d + 1
  | (_, d) => uptoBulk d + 1
 end
def uptoSmall : (H : Type) → List (DataW H) → Bool := fun _ ds => decide (uptoBulkAll ds ≤ 1048576)
def OpenSpec.upto (s : _root_.Go.ChangeSpec) : _root_.Go.OpenSpec := { _root_.Go.OpenSpec.ofChange s with cond := some uptoSmall }

/-- 'fettlelaw18.ExtBlocks', WHERE WHAT IT READS IS OF BULK AT MOST 1048576: true; the input reads as it did. -/
def extBlocksUptoRow : OpenClaim := { program := "ytjmajjfknmjifaadoor", sum := "32364cf0959ffb12624b47d46b0ba7ac4a513486801cd7154e0cb2dfedcffc08", func := "fettle/fettlelaw18.ExtBlocks", spec := "extBlocks", unfollowed := true, recurses := true, named := ["fettle/ext.fixed4"], apart := false, laid := [("fettle/ext.fixed4", laid_fettle_ext_fixed4)], narrowed := true }
def ExtBlocksUptoSaid : Prop := extBlocksUptoRow.holds Tryd.pinned (OpenSpec.upto extBlocksSpec)

/-- 'fettlelaw18.ExtRows', WHERE WHAT IT READS IS OF BULK AT MOST 1048576: true; the input reads as it did. -/
def extRowsUptoRow : OpenClaim := { program := "ytjmajjfknmjifaadoor", sum := "32364cf0959ffb12624b47d46b0ba7ac4a513486801cd7154e0cb2dfedcffc08", func := "fettle/fettlelaw18.ExtRows", spec := "extRows", unfollowed := true, recurses := true, named := ["fettle/ext.fixed4"], apart := false, laid := [("fettle/ext.fixed4", laid_fettle_ext_fixed4)], narrowed := true }
def ExtRowsUptoSaid : Prop := extRowsUptoRow.holds Tryd.pinned (OpenSpec.upto extRowsSpec)

/-- 'fettlelaw18.ExtMaps', WHERE WHAT IT READS IS OF BULK AT MOST 1048576: true; the input reads as it did. -/
def extMapsUptoRow : OpenClaim := { program := "ytjmajjfknmjifaadoor", sum := "32364cf0959ffb12624b47d46b0ba7ac4a513486801cd7154e0cb2dfedcffc08", func := "fettle/fettlelaw18.ExtMaps", spec := "extMaps", unfollowed := true, recurses := true, named := ["fettle/ext.fixed4"], apart := false, laid := [("fettle/ext.fixed4", laid_fettle_ext_fixed4)], narrowed := true }
def ExtMapsUptoSaid : Prop := extMapsUptoRow.holds Tryd.pinned (OpenSpec.upto extMapsSpec)

end Rows
end Go.Proofs.YtjmajjfknmjifaaDoor
