/- Counts that there are none of (a nil Refs), and New: what the calls answer. -/
import Derived.Test.YtnfbhgahkajhnaaRfb
import Derived.Test.YtnfbhgahkajhnaaHdc
namespace Go.Proofs.Ytnfbhgahkajhnaa.Oct
open Go.RowKit

theorem nilr_has (n : Int) (w : World) : Calls Try.prog 28 #[.pointer none, .int .i64 n] w fun e w' => e = .returned (.int .i64 2) ∧ w' = w := by
  go_enter Try.func28, Try.ntmps28
  go_wp2_with fail
  go_ret
  exact ⟨rfl, rfl⟩

theorem nilr_get (n : Int) (w : World) : Calls Try.prog 13 #[.pointer none, .int .i64 n] w fun e w' => e = .returned (.tuple #[.int .i64 0, .int .i64 2]) ∧ w' = w := by
  have HN := fun u => hide (nilr_has n u)
  go_enter Try.func13, Try.ntmps13
  go_wp2_with fail
  refine ((HN _).out).mono ?_
  rintro e9 w9 ⟨rfl, h9⟩
  subst h9
  go_wp2_with fail
  go_ret2
  exact ⟨rfl, rfl⟩

theorem nilr_set (n k : Int) (w : World) : Calls Try.prog 23 #[.pointer none, .int .i64 n, .int .i64 k] w fun e w' => e = .returned (.int .i64 2) ∧ w' = w := by
  have HN := fun u => hide (nilr_has n u)
  go_enter Try.func23, Try.ntmps23
  go_wp2_with fail
  refine ((HN _).out).mono ?_
  rintro e9 w9 ⟨rfl, h9⟩
  subst h9
  go_wp2_with fail
  go_ret
  exact ⟨rfl, rfl⟩

theorem nilr_add (n k : Int) (w : World) : Calls Try.prog 24 #[.pointer none, .int .i64 n, .int .i64 k] w fun e w' => e = .returned (.tuple #[.int .i64 0, .int .i64 2]) ∧ w' = w := by
  have HN := fun u => hide (nilr_get n u)
  go_enter Try.func24, Try.ntmps24
  go_wp2_with fail
  refine ((HN _).out).mono ?_
  rintro e9 w9 ⟨rfl, h9⟩
  subst h9
  go_wp2_with fail
  go_ret2
  exact ⟨rfl, rfl⟩

theorem nilr_all (w : World) : Calls Try.prog 10 #[.pointer none] w fun e w' => e = .returned (.tuple #[.slice none 0 0, .int .i64 2]) ∧ w' = w := by
  go_enter Try.func10, Try.ntmps10
  go_wp2_with fail
  go_ret2
  exact ⟨rfl, rfl⟩

theorem nilr_ends (w : World) : Calls Try.prog 11 #[.pointer none] w fun e w' => e = .returned (.tuple #[.int .i64 0, .int .i64 0, .int .i64 2]) ∧ w' = w := by
  have HN := fun u => hide (nilr_all u)
  go_enter Try.func11, Try.ntmps11
  go_wp2_with fail
  refine ((HN _).out).mono ?_
  rintro e9 w9 ⟨rfl, h9⟩
  subst h9
  go_wp2_with fail
  go_ret3
  exact ⟨rfl, rfl⟩

theorem nilr_alloc (w : World) : Calls Try.prog 12 #[.pointer none] w fun e w' => e = .returned (.tuple #[.int .i64 0, .int .i64 2]) ∧ w' = w := by
  have HN := fun u => hide (nilr_ends u)
  go_enter Try.func12, Try.ntmps12
  go_wp2_with fail
  refine ((HN _).out).mono ?_
  rintro e9 w9 ⟨rfl, h9⟩
  subst h9
  go_wp2_with fail
  go_ret2
  exact ⟨rfl, rfl⟩
end Go.Proofs.Ytnfbhgahkajhnaa.Oct
