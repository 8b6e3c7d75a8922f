/- Counts that there are none of (a nil Refs), and New: what the calls answer. -/
import Derived.Test.YtidmhpcjppailaaRfb
import Derived.Test.YtidmhpcjppailaaHdc
namespace Go.Proofs.Ytidmhpcjppailaa.Oct
open Go.RowKit

theorem nilr_has (n : Int) (w : World) : Calls Try.prog 29 #[.pointer none, .int .i64 n] w fun e w' => e = .returned (.int .i64 2) ∧ w' = w := by
  go_enter Try.func29, Try.ntmps29
  go_wp2_with fail
  go_ret
  exact ⟨rfl, rfl⟩

theorem nilr_get (n : Int) (w : World) : Calls Try.prog 13 #[.pointer none, .int .i64 n] w fun e w' => e = .returned (.tuple #[.int .i64 0, .int .i64 2]) ∧ w' = w := by
  have HN := fun u => hide (nilr_has n u)
  go_enter Try.func13, Try.ntmps13
  go_wp2_with fail
  refine ((HN _).out).mono ?_
  rintro e9 w9 ⟨rfl, h9⟩
  subst h9
  go_wp2_with fail
  go_ret2
  exact ⟨rfl, rfl⟩

theorem nilr_set (n k : Int) (w : World) : Calls Try.prog 17 #[.pointer none, .int .i64 n, .int .i64 k] w fun e w' => e = .returned (.int .i64 2) ∧ w' = w := by
  have HN := fun u => hide (nilr_has n u)
  go_enter Try.func17, Try.ntmps17
  go_wp2_with fail
  refine ((HN _).out).mono ?_
  rintro e9 w9 ⟨rfl, h9⟩
  subst h9
  go_wp2_with fail
  go_ret
  exact ⟨rfl, rfl⟩

theorem nilr_add (n k : Int) (w : World) : Calls Try.prog 15 #[.pointer none, .int .i64 n, .int .i64 k] w fun e w' => e = .returned (.tuple #[.int .i64 0, .int .i64 2]) ∧ w' = w := by
  have HN := fun u => hide (nilr_get n u)
  go_enter Try.func15, Try.ntmps15
  go_wp2_with fail
  refine ((HN _).out).mono ?_
  rintro e9 w9 ⟨rfl, h9⟩
  subst h9
  go_wp2_with fail
  go_ret2
  exact ⟨rfl, rfl⟩

theorem nilr_all (w : World) : Calls Try.prog 11 #[.pointer none] w fun e w' => e = .returned (.tuple #[.slice none 0 0, .int .i64 2]) ∧ w' = w := by
  go_enter Try.func11, Try.ntmps11
  go_wp2_with fail
  go_ret2
  exact ⟨rfl, rfl⟩

theorem nilr_ends (w : World) : Calls Try.prog 12 #[.pointer none] w fun e w' => e = .returned (.tuple #[.int .i64 0, .int .i64 0, .int .i64 2]) ∧ w' = w := by
  have HN := fun u => hide (nilr_all u)
  go_enter Try.func12, Try.ntmps12
  go_wp2_with fail
  refine ((HN _).out).mono ?_
  rintro e9 w9 ⟨rfl, h9⟩
  subst h9
  go_wp2_with fail
  go_ret3
  exact ⟨rfl, rfl⟩

theorem nilr_alloc (w : World) : Calls Try.prog 14 #[.pointer none] w fun e w' => e = .returned (.tuple #[.int .i64 0, .int .i64 2]) ∧ w' = w := by
  have HN := fun u => hide (nilr_ends u)
  go_enter Try.func14, Try.ntmps14
  go_wp2_with fail
  refine ((HN _).out).mono ?_
  rintro e9 w9 ⟨rfl, h9⟩
  subst h9
  go_wp2_with fail
  go_ret2
  exact ⟨rfl, rfl⟩
end Go.Proofs.Ytidmhpcjppailaa.Oct
