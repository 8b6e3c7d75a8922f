/- The document's Check of a first sector, for any numbers. -/
import Derived.Test.YtcbbaoiefdbcpaaDoorPFrb
import Derived.Test.YtcbbaoiefdbcpaaDoorPFrg1
import Derived.Test.YtcbbaoiefdbcpaaDoorPFrg3
import Derived.Test.YtcbbaoiefdbcpaaDoorPFrg5
import Derived.Test.YtcbbaoiefdbcpaaDoorPFrg6
namespace Go.Proofs.YtcbbaoiefdbcpaaDoor.Oct
open Go.RowKit

theorem rchk_any (b : Bt) (w : World) :
    Calls Tryd.prog 35 #[.agg b.cs] w fun e w' => e = .returned (.int .i64 b.chk) ∧ Below w.heap.size w w' := by
  cases hf : b.form
  · have e : b.chk = 11 := by unfold Bt.chk; rw [if_pos hf]
    rw [e]
    exact rchk_bad b w hf
  · by_cases hA : b.secs ≤ b.data
    · exact rchk_w1 b w hf hA
    by_cases h1 : b.clus < 1
    · exact rchk_w2 b w hf hA h1
    by_cases h2 : 128 * b.long - 2 < b.clus
    · exact rchk_w3 b w hf hA h1 h2
    by_cases h3 : b.root < 2
    · exact rchk_w4 b w hf hA h1 h2 h3
    by_cases h4 : b.clus + 1 < b.root
    · exact rchk_w5 b w hf hA h1 h2 h3 h4
    · exact rchk_w6 b w hf hA h1 h2 h3 h4
end Go.Proofs.YtcbbaoiefdbcpaaDoor.Oct
