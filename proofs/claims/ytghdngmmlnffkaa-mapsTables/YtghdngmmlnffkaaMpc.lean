/- The example that holds at every input. -/
import Derived.Test.YtghdngmmlnffkaaMpg
namespace Go.Proofs.Ytghdngmmlnffkaa.Oct
open Go.RowKit

theorem coded1 : encN 2 3 false = 768 ∧ okE 2 3 false = true := by decide
theorem coded2 : decK 2 = 0 ∧ decC 2 = 0 ∧ decO 2 = false ∧ okV 2 = false := by decide
theorem coded3 : decK 9223372036854776576 = 2 ∧ decC 9223372036854776576 = 3 ∧ decO 9223372036854776576 = true ∧ okV 9223372036854776576 = true := by decide

set_option maxHeartbeats 4000000 in
theorem coded_any (w : World) : Calls Try.prog 6 #[] w fun e w' => e = .returned (.bool true) ∧ Below w.heap.size w w' := by
  have HE : ∀ u, Hid (Calls Try.prog 19 #[.agg #[.int .i64 2, .int .i64 3, .bool false]] u fun e w' => e = .returned (.tuple #[.int .u64 768, .int .i64 0]) ∧ Below u.heap.size u w') := fun u => hide (by have := encode_any 2 3 false u; rw [coded1.1, coded1.2] at this; exact this)
  have HF : ∀ u, Hid (Calls Try.prog 20 #[.int .u64 2] u fun e w' => e = .returned (.tuple #[.agg #[.int .i64 0, .int .i64 0, .bool false], .int .i64 11]) ∧ Below u.heap.size u w') := fun u => hide (by have := decode_any 2 u (by omega) (by omega); rw [coded2.1, coded2.2.1, coded2.2.2.1, coded2.2.2.2] at this; exact this)
  have HG : ∀ u, Hid (Calls Try.prog 20 #[.int .u64 9223372036854776576] u fun e w' => e = .returned (.tuple #[.agg #[.int .i64 2, .int .i64 3, .bool true], .int .i64 0]) ∧ Below u.heap.size u w') := fun u => hide (by have := decode_any 9223372036854776576 u (by omega) (by omega); rw [coded3.1, coded3.2.1, coded3.2.2.1, coded3.2.2.2] at this; exact this)
  have hq := fun u => eql_E u 2 3 true 2 3 true
  have hg := fun u op p q => guard_E u op p q #[.int .i64 2, .int .i64 3, .bool true] #[.int .i64 2, .int .i64 3, .bool true]
  go_enter Try.func6, Try.ntmps6
  go_wp2_with fail
  refine ((HE _).out).mono ?_
  rintro e9 w2 ⟨rfl, HB⟩
  have HB := hide HB
  go_wp2_with fail
  refine ((HF _).out).mono ?_
  rintro e9 w3 ⟨rfl, hb3⟩
  have HB := hide (HB.out.trans (hb3.mono HB.out.size))
  have HB := hide (HB.out.alloc HB.out.size (.cells #[.int .i64 0, .int .i64 0, .bool false] 43))
  clear hb3
  go_wp2_with fail
  generalize w3.alloc (.cells #[.int .i64 0, .int .i64 0, .bool false] 43) = w4 at *
  refine ((HG _).out).mono ?_
  rintro e9 w5 ⟨rfl, hb5⟩
  have HB := hide (HB.out.trans (hb5.mono HB.out.size))
  have HB := hide (HB.out.alloc HB.out.size (.cells #[.int .i64 2, .int .i64 3, .bool true] 43))
  clear hb5
  go_wp2_with fail
  go_ret
  exact ⟨rfl, HB.out⟩
end Go.Proofs.Ytghdngmmlnffkaa.Oct
