/- Moved: each byte, so many further. -/
import Derived.Test.YtjpdfchdgphdoaaGreatDoorPInw
import Derived.Maps.OwnIn
namespace Go.Proofs.YtjpdfchdgphdoaaGreatDoor.Oct
open Go.RowKit Go.Shelf

attribute [local go_sem] Oper.semAt_some

def movW (u : Int) (x : Int × Int) : Int × Int := (IntKind.i64.wrap (x.1 + u), IntKind.i64.wrap (x.2 + u))
def mov (u : Int) (x : Int × Int) : Int × Int := (x.1 + u, x.2 + u)

theorem mov_near {L : List (Int × Int)} (h : Near L) (u : Int) (hu : -1125899906842624 ≤ u ∧ u ≤ 1125899906842624) : L.map (movW u) = L.map (mov u) := by
  refine List.map_congr_left fun p hp => ?_
  have h1 := h p hp
  unfold movW mov
  congr 1
  · rw [IntKind.wrap_i64]; omega
  · rw [IntKind.wrap_i64]; omega

end Go.Proofs.YtjpdfchdgphdoaaGreatDoor.Oct
