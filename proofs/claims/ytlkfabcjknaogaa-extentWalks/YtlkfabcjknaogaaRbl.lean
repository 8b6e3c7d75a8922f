/- A truth value that is handed back out of a block of its own. -/
import Derived.Test.YtlkfabcjknaogaaInw
import Derived.Laws.Rows
namespace Go.Proofs.Ytlkfabcjknaogaa.Oct
open Go.RowKit

theorem ret_bool {fn : Func} {p : Tmp} (hr : fn.results = #[.cell p 4]) (tmps : Array Value) (w : World) (B : Nat) (b : Bool) (hp : tmps.getD p undef = .pointer (some ⟨B, 0, none⟩)) (hc : Boxed w B 4 (.bool b)) :
    (results fn tmps).run Try.prog w = .ok (.bool b) w := by
  have h1 := hc.cell
  have h2 : tmps[p]?.getD undef = .pointer (some ⟨B, 0, none⟩) := by simpa using hp
  simp only [results, hr]
  go_simp
end Go.Proofs.Ytlkfabcjknaogaa.Oct
