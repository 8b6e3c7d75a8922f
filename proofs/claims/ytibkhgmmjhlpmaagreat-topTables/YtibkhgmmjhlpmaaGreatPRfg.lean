/- Counts within changes: a count is read. -/
import Derived.Test.YtibkhgmmjhlpmaaGreatPTorTog
import Derived.Test.YtibkhgmmjhlpmaaGreatPRdLowWrLst
import Derived.Test.YtibkhgmmjhlpmaaGreatPRfb
namespace Go.Proofs.YtibkhgmmjhlpmaaGreat.Oct
open Go.RowKit Go.Deep

/-- The count that the changes show. -/
def cntR (S : List Int) (B M : Int → List Int) (n : Nat) : Int := seeT S B M (15360 + 2 * n) + 256 * seeT S B M (15360 + 2 * n + 1)
end Go.Proofs.YtibkhgmmjhlpmaaGreat.Oct
