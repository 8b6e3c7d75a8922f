/- What a first sector says: Put, where it writes nothing. -/
import Derived.Test.YtcbbaoiefdbcpaaDoorPFbbFbc
namespace Go.Proofs.YtcbbaoiefdbcpaaDoor.Oct
open Go.RowKit

set_option maxHeartbeats 4000000 in
theorem put_off (b : Bt) (a : Option Addr) (n cap : Nat) (w : World) (h5 : n ≠ 512) :
    Calls Tryd.prog 40 #[.agg b.cs, .slice a n cap] w fun e w' => e = .returned (.int .i64 4) ∧ Below w.heap.size w w' := by
  have HB := hide ((Below.refl w.heap.size w).alloc (Nat.le_refl _) (.cells b.cs 63))
  go_enter Tryd.func40, Tryd.ntmps40
  go_wp2_with fail
  go_ret
  exact ⟨rfl, HB.out⟩

set_option maxHeartbeats 4000000 in
theorem put_no (b : Bt) (a : Option Addr) (cap : Nat) (w : World) (hk : b.chk ≠ 0) :
    Calls Tryd.prog 40 #[.agg b.cs, .slice a 512 cap] w fun e w' => e = .returned (.int .i64 b.chk) ∧ Below w.heap.size w w' := by
  obtain ⟨c0, c1, c2, c3, c4, c5, c6, c7⟩ := cells_of (Blk.new w b.cs 63)
  obtain ⟨w1, hw1⟩ : ∃ w1, w1 = w.alloc (.cells b.cs 63) := ⟨_, rfl⟩
  have HB1 := hide (show Below w.heap.size w w1 by rw [hw1]; exact (Below.refl w.heap.size w).alloc (Nat.le_refl _) (.cells b.cs 63))
  have HW1 := hide hw1
  have HCk := fun u => hide (check_any b u)
  clear hw1
  generalize b.chk = ck at *
  go_enter Tryd.func40, Tryd.ntmps40
  go_wp2_with fail
  rw [← HW1.out]
  refine (HCk _).out.mono ?_
  rintro e9 w2 ⟨rfl, h2⟩
  have HB2 := hide (HB1.out.trans (h2.mono HB1.out.size))
  clear h2 c0 c1 c2 c3 c4 c5 c6 c7
  go_wp2_with fail
  go_ret
  exact ⟨rfl, HB2.out⟩
end Go.Proofs.YtcbbaoiefdbcpaaDoor.Oct
