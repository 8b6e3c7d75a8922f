/- Has, by the reference. -/
import Derived.Test.YtgmifbknmjdemaaGreatPNor
namespace Go.Proofs.YtgmifbknmjdemaaGreat.Oct
open Go.RowKit

theorem InE.of_at {L : List (Int × Int)} {k : Nat} {x : Int} (hk : k < L.length) (h1 : (L.getD k (0, 0)).1 ≤ x) (h2 : x < (L.getD k (0, 0)).2) : InE L x := by
  refine ⟨L.getD k (0, 0), ?_, h1, h2⟩
  have e : L.getD k (0, 0) = L[k] := by simp [hk]
  rw [e]
  exact List.getElem_mem hk

end Go.Proofs.YtgmifbknmjdemaaGreat.Oct
