/-
  NARROWER THAN 'FOR EVERY INPUT', by the rows' own cells (each row's printed sentence says how): GptChecks: laid · GptParses: laid · GptBytes: laid · GptParts: laid.
  DERIVED. THE GIVEN ROWS OF THIS SEAT. 4 by the template 'for every input the law returns true; each argument reads behind the call as it read before'; 0 by the template 'total and deterministic' (their statements: YtpbnjobjjnhplaaDoorTotals.lean).
  GIVEN WITH THE SEED: the statements are not yours to turn. If you find one false, say at which input.
  Laid BY PROGRAM, IN A SANDBOX (cutbox-rows.mjs): the forced cells as the released guide's own fill.sh prints them over the translation 3a6162f90785048f… (all of the seat's roots in one cut). By AI agents, Wed Nov 11 2026. No macro, syntax, notation, axiom, sorry.
-/
import Derived.Test.YtpbnjobjjnhplaaDoorChecked
import GoSem.Claim
import GoSem.ClaimJoined
import GoSem.ClaimMapViews
import Derived.JoinedTies
import Derived.KernelRfl
namespace Go.Proofs.YtpbnjobjjnhplaaDoor
/- THE CELL 'sum', in the pinned program and in every row, IS THE sha256 OF THE DUMP (.gsa) THAT YtpbnjobjjnhplaaDoorProg.lean LOADS. Nothing in Lean hashes anything: it is a label: what it is worth is what the hold of that sum in a sandbox is worth. -/
noncomputable def Tryd.pinned : Pinned := { name := "ytpbnjobjjnhplaadoor", sum := "3a6162f90785048f45637da6f42d9bf8d711ee1e9146502c611235af346c9ef4", checked := Tryd.checked }
namespace Rows
def none {H : Type} : Left H := { results := [], args := [] }

/- WHAT THE LISTED PACKAGE-LEVEL VARIABLES READ AS WHEN THE CALL BEGINS. Each datum BY PROGRAM (the guide's laid-datum.mjs) off the statement by which the dump's own 'gosem.cut.vars' lays the variable. In a bare row this is a premise. The card (YtpbnjobjjnhplaaDoorCards.lean) ties it to the program's text. -/
def laid_fettle_gpt_fixed {H : Type} : DataW H := .agg [.agg [.lit (.int .i64 8), .lit (.int .u32 65536)], .agg [.lit (.int .i64 12), .lit (.int .u32 92)], .agg [.lit (.int .i64 20), .lit (.int .u32 0)], .agg [.lit (.int .i64 84), .lit (.int .u32 128)]]

/-- 'fettlelaw14.GptChecks': WHATEVER THE INPUT: true; the input reads as it did. -/
def gptChecksSpec : ChangeSpec := { name := "gptChecks", fn := fun _ => fun
  | [d] => { results := [.lit (.bool true)], args := [d] }
  | _ => none }
def gptChecksRow : OpenClaim := { program := "ytpbnjobjjnhplaadoor", sum := "3a6162f90785048f45637da6f42d9bf8d711ee1e9146502c611235af346c9ef4", func := "fettle/fettlelaw14.GptChecks", spec := "gptChecks", unfollowed := true, recurses := true, named := ["fettle/gpt.fixed"], apart := false, laid := [("fettle/gpt.fixed", laid_fettle_gpt_fixed)] }
def GptChecksSaid : Prop := gptChecksRow.holds Tryd.pinned (OpenSpec.ofChange gptChecksSpec)

/-- ITS FALSE NEIGHBOUR: 'it returns false'. Refute it at one input. -/
def gptChecksWrong : ChangeSpec := { name := "gptChecks", fn := fun _ => fun
  | [d] => { results := [.lit (.bool false)], args := [d] }
  | _ => none }
def GptChecksWrongFalsely : Prop := gptChecksRow.holds Tryd.pinned (OpenSpec.ofChange gptChecksWrong)

/-- 'fettlelaw14.GptParses': WHATEVER THE INPUT: true; the input reads as it did. -/
def gptParsesSpec : ChangeSpec := { name := "gptParses", fn := fun _ => fun
  | [d1, d2] => { results := [.lit (.bool true)], args := [d1, d2] }
  | _ => none }
def gptParsesRow : OpenClaim := { program := "ytpbnjobjjnhplaadoor", sum := "3a6162f90785048f45637da6f42d9bf8d711ee1e9146502c611235af346c9ef4", func := "fettle/fettlelaw14.GptParses", spec := "gptParses", unfollowed := true, recurses := true, named := ["fettle/gpt.fixed"], apart := false, laid := [("fettle/gpt.fixed", laid_fettle_gpt_fixed)] }
def GptParsesSaid : Prop := gptParsesRow.holds Tryd.pinned (OpenSpec.ofChange gptParsesSpec)

/-- ITS FALSE NEIGHBOUR: 'it returns false'. Refute it at one input. -/
def gptParsesWrong : ChangeSpec := { name := "gptParses", fn := fun _ => fun
  | [d1, d2] => { results := [.lit (.bool false)], args := [d1, d2] }
  | _ => none }
def GptParsesWrongFalsely : Prop := gptParsesRow.holds Tryd.pinned (OpenSpec.ofChange gptParsesWrong)

/-- 'fettlelaw14.GptBytes': WHATEVER THE INPUT: true; the input reads as it did. -/
def gptBytesSpec : ChangeSpec := { name := "gptBytes", fn := fun _ => fun
  | [d] => { results := [.lit (.bool true)], args := [d] }
  | _ => none }
def gptBytesRow : OpenClaim := { program := "ytpbnjobjjnhplaadoor", sum := "3a6162f90785048f45637da6f42d9bf8d711ee1e9146502c611235af346c9ef4", func := "fettle/fettlelaw14.GptBytes", spec := "gptBytes", unfollowed := true, recurses := true, named := ["fettle/gpt.fixed"], apart := false, laid := [("fettle/gpt.fixed", laid_fettle_gpt_fixed)] }
def GptBytesSaid : Prop := gptBytesRow.holds Tryd.pinned (OpenSpec.ofChange gptBytesSpec)

/-- ITS FALSE NEIGHBOUR: 'it returns false'. Refute it at one input. -/
def gptBytesWrong : ChangeSpec := { name := "gptBytes", fn := fun _ => fun
  | [d] => { results := [.lit (.bool false)], args := [d] }
  | _ => none }
def GptBytesWrongFalsely : Prop := gptBytesRow.holds Tryd.pinned (OpenSpec.ofChange gptBytesWrong)

/-- 'fettlelaw14.GptParts': WHATEVER THE INPUT: true; the input reads as it did. -/
def gptPartsSpec : ChangeSpec := { name := "gptParts", fn := fun _ => fun
  | [d] => { results := [.lit (.bool true)], args := [d] }
  | _ => none }
def gptPartsRow : OpenClaim := { program := "ytpbnjobjjnhplaadoor", sum := "3a6162f90785048f45637da6f42d9bf8d711ee1e9146502c611235af346c9ef4", func := "fettle/fettlelaw14.GptParts", spec := "gptParts", unfollowed := true, recurses := true, named := ["fettle/gpt.fixed"], apart := false, laid := [("fettle/gpt.fixed", laid_fettle_gpt_fixed)] }
def GptPartsSaid : Prop := gptPartsRow.holds Tryd.pinned (OpenSpec.ofChange gptPartsSpec)

/-- ITS FALSE NEIGHBOUR: 'it returns false'. Refute it at one input. -/
def gptPartsWrong : ChangeSpec := { name := "gptParts", fn := fun _ => fun
  | [d] => { results := [.lit (.bool false)], args := [d] }
  | _ => none }
def GptPartsWrongFalsely : Prop := gptPartsRow.holds Tryd.pinned (OpenSpec.ofChange gptPartsWrong)

/- THE SECOND FORM. 'bulk': how many values and letters a reading holds, each counted each time it is reached (what is shared counts as often as it is met; a slice's spare places count too). A statement '..UptoSaid' is the law's where the arguments, and the package variables that the reading takes, are together of bulk at most 1048576: NARROWER than '..Said'. Prove '..Said' where nothing that the law and all that it calls make is longer than what came in: it says more and counts as full. Else prove '..UptoSaid'. A law counts once. -/
mutual
def uptoBulk {H : Type} : DataW H → Nat
  | .lit (.string bytes) => bytes.length + 1
  | .lit _ => 1
  | .nil => 1
  | .ptr d => uptoBulk d + 1
  | .slice elems spare => uptoBulkAll elems + uptoBulkAll spare + 1
  | .agg parts => uptoBulkAll parts + 1
  | .iface _ d => uptoBulk d + 1
  | .map entries => uptoBulkEntries entries + 1
  | .held _ => 1
def uptoBulkAll {H : Type} : List (DataW H) → Nat
  | [] => 0
  | d :: r => uptoBulk d + uptoBulkAll r
def uptoBulkEntries {H : Type} : List (Lit × DataW H) → Nat
  | [] => 0
  | x :: r => uptoBulkEntry x + uptoBulkEntries r
def uptoBulkEntry {H : Type} : Lit × DataW H → Nat
  | (.string bytes, d) => bytes.length + uptoBulk d + 1
  | (_, d) => uptoBulk d + 1
 end
def uptoSmall : (H : Type) → List (DataW H) → Bool := fun _ ds => decide (uptoBulkAll ds ≤ 1048576)
def OpenSpec.upto (s : _root_.Go.ChangeSpec) : _root_.Go.OpenSpec := { _root_.Go.OpenSpec.ofChange s with cond := some uptoSmall }

/-- 'fettlelaw14.GptChecks', WHERE WHAT IT READS IS OF BULK AT MOST 1048576: true; the input reads as it did. -/
def gptChecksUptoRow : OpenClaim := { program := "ytpbnjobjjnhplaadoor", sum := "3a6162f90785048f45637da6f42d9bf8d711ee1e9146502c611235af346c9ef4", func := "fettle/fettlelaw14.GptChecks", spec := "gptChecks", unfollowed := true, recurses := true, named := ["fettle/gpt.fixed"], apart := false, laid := [("fettle/gpt.fixed", laid_fettle_gpt_fixed)], narrowed := true }
def GptChecksUptoSaid : Prop := gptChecksUptoRow.holds Tryd.pinned (OpenSpec.upto gptChecksSpec)

/-- 'fettlelaw14.GptParses', WHERE WHAT IT READS IS OF BULK AT MOST 1048576: true; the input reads as it did. -/
def gptParsesUptoRow : OpenClaim := { program := "ytpbnjobjjnhplaadoor", sum := "3a6162f90785048f45637da6f42d9bf8d711ee1e9146502c611235af346c9ef4", func := "fettle/fettlelaw14.GptParses", spec := "gptParses", unfollowed := true, recurses := true, named := ["fettle/gpt.fixed"], apart := false, laid := [("fettle/gpt.fixed", laid_fettle_gpt_fixed)], narrowed := true }
def GptParsesUptoSaid : Prop := gptParsesUptoRow.holds Tryd.pinned (OpenSpec.upto gptParsesSpec)

/-- 'fettlelaw14.GptBytes', WHERE WHAT IT READS IS OF BULK AT MOST 1048576: true; the input reads as it did. -/
def gptBytesUptoRow : OpenClaim := { program := "ytpbnjobjjnhplaadoor", sum := "3a6162f90785048f45637da6f42d9bf8d711ee1e9146502c611235af346c9ef4", func := "fettle/fettlelaw14.GptBytes", spec := "gptBytes", unfollowed := true, recurses := true, named := ["fettle/gpt.fixed"], apart := false, laid := [("fettle/gpt.fixed", laid_fettle_gpt_fixed)], narrowed := true }
def GptBytesUptoSaid : Prop := gptBytesUptoRow.holds Tryd.pinned (OpenSpec.upto gptBytesSpec)

/-- 'fettlelaw14.GptParts', WHERE WHAT IT READS IS OF BULK AT MOST 1048576: true; the input reads as it did. -/
def gptPartsUptoRow : OpenClaim := { program := "ytpbnjobjjnhplaadoor", sum := "3a6162f90785048f45637da6f42d9bf8d711ee1e9146502c611235af346c9ef4", func := "fettle/fettlelaw14.GptParts", spec := "gptParts", unfollowed := true, recurses := true, named := ["fettle/gpt.fixed"], apart := false, laid := [("fettle/gpt.fixed", laid_fettle_gpt_fixed)], narrowed := true }
def GptPartsUptoSaid : Prop := gptPartsUptoRow.holds Tryd.pinned (OpenSpec.upto gptPartsSpec)

end Rows
end Go.Proofs.YtpbnjobjjnhplaaDoor
