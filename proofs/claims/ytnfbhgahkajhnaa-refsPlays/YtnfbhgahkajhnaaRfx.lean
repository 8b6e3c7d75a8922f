/- Counts within changes: what may not be. -/
import Derived.Test.YtnfbhgahkajhnaaRfb
namespace Go.Proofs.Ytnfbhgahkajhnaa.Oct
open Go.RowKit

theorem rfs_get_no (w : World) (A T H : Nat) (hA : Rfs w A T H) (n : Int) (hn : ¬ (0 ≤ n ∧ n < H)) :
    Calls Try.prog 13 #[.pointer (some ⟨A, 0, none⟩), .int .i64 n] w fun e w' => e = .returned (.tuple #[.int .i64 0, .int .i64 4]) ∧ Below w.heap.size w w' := by
  have HHs := hide (rfs_has w A T H hA n)
  have e0 : hasR H n = 4 := if_neg hn
  rw [e0] at HHs
  clear hA e0 hn
  go_enter Try.func13, Try.ntmps13
  go_wp2_with fail
  refine HHs.out.mono ?_
  rintro e9 w2 ⟨rfl, hb2⟩
  have HB2 := hide hb2
  clear hb2
  go_wp2_with fail
  go_ret2
  exact ⟨rfl, HB2.out⟩

theorem rfs_set_no (w : World) (A T H : Nat) (hA : Rfs w A T H) (n v : Int) (hn : ¬ (0 ≤ n ∧ n < H)) :
    Calls Try.prog 23 #[.pointer (some ⟨A, 0, none⟩), .int .i64 n, .int .i64 v] w fun e w' => e = .returned (.int .i64 4) ∧ Below w.heap.size w w' := by
  have HHs := hide (rfs_has w A T H hA n)
  have e0 : hasR H n = 4 := if_neg hn
  rw [e0] at HHs
  clear hA e0 hn
  go_enter Try.func23, Try.ntmps23
  go_wp2_with fail
  refine HHs.out.mono ?_
  rintro e9 w2 ⟨rfl, hb2⟩
  have HB2 := hide hb2
  clear hb2
  go_wp2_with fail
  go_ret
  exact ⟨rfl, HB2.out⟩

theorem rfs_set_big (w : World) (A T H : Nat) (hA : Rfs w A T H) (n v : Int) (hn : 0 ≤ n ∧ n < H) (hv : ¬ (0 ≤ v ∧ v ≤ 65535)) :
    Calls Try.prog 23 #[.pointer (some ⟨A, 0, none⟩), .int .i64 n, .int .i64 v] w fun e w' => e = .returned (.int .i64 20) ∧ Below w.heap.size w w' := by
  have HHs := hide (rfs_has w A T H hA n)
  have e0 : hasR H n = 0 := if_pos hn
  rw [e0] at HHs
  clear hA e0 hn
  by_cases h0 : v < 0
  · have hd0 : decide (v < 0) = true := by simp; omega
    clear hv
    go_enter Try.func23, Try.ntmps23
    go_wp2_with fail
    refine HHs.out.mono ?_
    rintro e9 w2 ⟨rfl, hb2⟩
    have HB2 := hide hb2
    clear hb2
    go_wp2_with fail
    go_ret
    exact ⟨rfl, HB2.out⟩
  · have hd0 : decide (v < 0) = false := by simp; omega
    have hd1 : decide (65535 < v) = true := by simp; omega
    have h1 : 65535 < v := by omega
    clear hv
    go_enter Try.func23, Try.ntmps23
    go_wp2_with fail
    refine HHs.out.mono ?_
    rintro e9 w2 ⟨rfl, hb2⟩
    have HB2 := hide hb2
    clear hb2
    go_wp2_with fail
    go_ret
    exact ⟨rfl, HB2.out⟩
end Go.Proofs.Ytnfbhgahkajhnaa.Oct
