/- What is none has nothing: the nil calls of fat. -/
import Derived.Test.YtppfoklghafjgabDoorFmd
namespace Go.Proofs.YtppfoklghafjgabDoor.Oct
open Go.RowKit

set_option maxHeartbeats 1000000 in
theorem open_nil (w : World) : Calls Tryd.prog 5 #[.nilIface] w fun e w' => e = .returned (.tuple #[.pointer none, .int .i64 2]) ∧ w' = w := by
  go_enter Tryd.func5, Tryd.ntmps5
  go_wp2_with fail
  go_ret2
  exact ⟨rfl, rfl⟩

set_option maxHeartbeats 1000000 in
theorem chain_nil (x : Int) (v : Value) (w : World) : Calls Tryd.prog 6 #[.pointer none, .int .i64 x, v] w fun e w' => e = .returned (.tuple #[.slice none 0 0, .int .i64 2]) ∧ w' = w := by
  go_enter Tryd.func6, Tryd.ntmps6
  go_wp2_with fail
  go_ret2
  exact ⟨rfl, rfl⟩

set_option maxHeartbeats 1000000 in
theorem space_nil (w : World) : Calls Tryd.prog 8 #[.pointer none] w fun e w' => e = .returned (.slice none 0 0) ∧ w' = w := by
  go_enter Tryd.func8, Tryd.ntmps8
  go_wp2_with fail
  go_ret
  exact ⟨rfl, rfl⟩

set_option maxHeartbeats 1000000 in
theorem runs_nil (v : Value) (x : Int) (w : World) : Calls Tryd.prog 9 #[.pointer none, v, .int .i64 x] w fun e w' => e = .returned (.slice none 0 0) ∧ w' = w := by
  go_enter Tryd.func9, Tryd.ntmps9
  go_wp2_with fail
  go_ret
  exact ⟨rfl, rfl⟩
end Go.Proofs.YtppfoklghafjgabDoor.Oct
