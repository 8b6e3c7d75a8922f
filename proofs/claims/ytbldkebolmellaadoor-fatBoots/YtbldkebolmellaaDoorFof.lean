/- The document's boot of a boot. -/
import Derived.Test.YtbldkebolmellaaDoorFrp
namespace Go.Proofs.YtbldkebolmellaaDoor.Oct
open Go.RowKit

set_option maxHeartbeats 8000000 in
set_option maxRecDepth 100000 in
theorem of_any (b : Bt) (w : World) :
    Calls Tryd.prog 9 #[.agg b.cs] w fun e w' => e = .returned (.agg b.cs) ∧ Below w.heap.size w w' := by
  obtain ⟨c0, c1, c2, c3, c4, c5, c6, c7⟩ := cells_of ((Blk.new w b.cs 23).below ((Below.refl _ _).alloc (Nat.le_refl _) (.cells #[.int .i64 0, .int .i64 0, .int .i64 0, .int .i64 0, .int .i64 0, .int .i64 0, .int .i64 0, .int .i64 0] 26)))
  have HB := hide (((Below.refl w.heap.size w).alloc (Nat.le_refl _) (.cells b.cs 23)).alloc (by simp) (.cells b.cs 26))
  have HK := hide (show Blk ((w.alloc (.cells b.cs 23)).alloc (.cells b.cs 26)) (w.heap.size + 1) b.cs 26 by have := Blk.new (w.alloc (.cells b.cs 23)) b.cs 26; simpa using this)
  go_enter Tryd.func9, Tryd.ntmps9
  go_wp2_with fail
  exact bodyPost_ret (results_cell_row rfl _ _ (w.heap.size + 1) 26 _ (0, 0) _ rfl HK.out Tryd.underlying26 rfl (by kernel_rfl)) rfl ⟨rfl, HB.out⟩
end Go.Proofs.YtbldkebolmellaaDoor.Oct
