/- What the reference's calls In and Num answer. -/
import Derived.Test.YtfpfklekfiiijaaRd
namespace Go.Proofs.Ytfpfklekfiiijaa.Oct
open Go.RowKit

end Go.Proofs.Ytfpfklekfiiijaa.Oct
