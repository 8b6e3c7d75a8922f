/- What the calls that make new lists of bytes answer: Part, Zeros, Bytes, With of the reference; Slice and Patch of the program. -/
import Derived.Test.YtnfbhgahkajhnaaLow
import Derived.Test.YtnfbhgahkajhnaaApp
import Derived.Test.YtnfbhgahkajhnaaWr
namespace Go.Proofs.Ytnfbhgahkajhnaa.Oct
open Go.RowKit


theorem Zeros_any (n : Nat) (w : World) (hn : n ≤ 1000000) :
    Calls Try.prog 14 #[.int .i64 n] w fun e w' => ∃ v, e = .returned v ∧ Own w' w.heap.size v (List.replicate n 0) ∧ Below w.heap.size w w' := by
  have hmk := run_make_bytes w n (by omega)
  have ho := Own.made w n (by unfold maxLen; omega)
  have HO := hide ho
  clear ho
  go_enter Try.func14, Try.ntmps14
  go_wp2
  go_ret
  exact ⟨.slice (some ⟨_, 0, none⟩) n n, rfl, HO.out, (Below.refl _ _).alloc (Nat.le_refl _) _⟩




end Go.Proofs.Ytnfbhgahkajhnaa.Oct
