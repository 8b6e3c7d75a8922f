/- Counts within changes (refs): what the calls answer, at a header of 9 bits. -/
import Derived.Test.YtibkhgmmjhlpmaaGreatPHdp
namespace Go.Proofs.YtibkhgmmjhlpmaaGreat.Oct
open Go.RowKit

/-- The counts' fields lie in block A. -/
def Rfs (w : World) (A T H : Nat) : Prop := w.heap[A]? = some (.cells #[.int .i64 9, .int .i64 32768, .int .i64 (H : Int), .int .i64 29, .bool false, .pointer (some ⟨T, 0, none⟩)] 100 (0, 0))

theorem Rfs.lt {w : World} {A T H : Nat} (h : Rfs w A T H) : A < w.heap.size := (Array.getElem?_eq_some_iff.1 h).1
theorem Rfs.below {w w' : World} {A T H : Nat} (h : Rfs w A T H) (hb : Below w.heap.size w w') : Rfs w' A T H := (hb.block A h.lt).trans h
theorem Rfs.drew {w : World} {A T H : Nat} (h : Rfs w A T H) : Rfs w.drew A T H := h
theorem Rfs.cell {w : World} {A T H : Nat} (h : Rfs w A T H) : w.cell? ⟨A, 0, none⟩ = some (.int .i64 9) ∧ w.cell? ⟨A, 1, none⟩ = some (.int .i64 32768) ∧ w.cell? ⟨A, 2, none⟩ = some (.int .i64 (H : Int)) ∧ w.cell? ⟨A, 3, none⟩ = some (.int .i64 29) ∧ w.cell? ⟨A, 4, none⟩ = some (.bool false) ∧ w.cell? ⟨A, 5, none⟩ = some (.pointer (some ⟨T, 0, none⟩)) := by
  unfold Rfs at h
  simp [World.cell?, h]

/-- Is there such a count? -/
def hasR (H : Nat) (n : Int) : Int := if 0 ≤ n ∧ n < H then 0 else 4

set_option maxHeartbeats 1000000 in
theorem rfs_has (w : World) (A T H : Nat) (h : Rfs w A T H) (n : Int) : Calls Tryz.prog 59 #[.pointer (some ⟨A, 0, none⟩), .int .i64 n] w fun e w' => e = .returned (.int .i64 (hasR H n)) ∧ Below w.heap.size w w' := by
  have HB := hide (Below.refl w.heap.size w)
  obtain ⟨c0, c1, c2, c3, c4, c5⟩ := h.cell
  clear h
  by_cases h0 : n < 0
  · have e : hasR H n = 4 := if_neg (by omega)
    rw [e]
    clear e
    go_enter Tryz.func59, Tryz.ntmps59
    go_wp2_with fail
    go_ret
    exact ⟨rfl, by first | exact HB.out | exact HB.out.drew | exact ⟨HB.out.os, HB.out.tape, HB.out.output, HB.out.size, HB.out.block⟩⟩
  by_cases h1 : (H : Int) ≤ n
  · have e : hasR H n = 4 := if_neg (by omega)
    rw [e]
    clear e
    go_enter Tryz.func59, Tryz.ntmps59
    go_wp2_with fail
    go_ret
    exact ⟨rfl, by first | exact HB.out | exact HB.out.drew | exact ⟨HB.out.os, HB.out.tape, HB.out.output, HB.out.size, HB.out.block⟩⟩
  · have e : hasR H n = 0 := if_pos (by omega)
    rw [e]
    clear e
    go_enter Tryz.func59, Tryz.ntmps59
    go_wp2_with fail
    go_ret
    exact ⟨rfl, by first | exact HB.out | exact HB.out.drew | exact ⟨HB.out.os, HB.out.tape, HB.out.output, HB.out.size, HB.out.block⟩⟩

theorem refsAt9 (H : Nat) (w : World) : Calls Tryz.prog 6 #[.agg #[.int .i64 9, .int .i64 32768, .int .i64 (H : Int), .int .i64 29, .bool false]] w fun e w' => ∃ z, e = .returned (.agg #[.int .i64 15360, .int .i64 z]) ∧ Below w.heap.size w w' := by
  refine (RefsAt_any 9 32768 H 29 false w).mono ?_
  rintro e9 w2 ⟨rfl, hb⟩
  have this : Hd.at_ ⟨9, 32768, (H : Int), 29, false⟩ 2 * clN 9 = 15360 := by
    simp [Hd.at_, Hd.jour, clN, cutN]
  rw [this]
  exact ⟨_, rfl, hb⟩

set_option maxRecDepth 100000 in
set_option maxHeartbeats 2000000 in
theorem rfs_at (w : World) (A T H : Nat) (h : Rfs w A T H) (n : Int) (hn : 0 ≤ n ∧ n < 130) : Calls Tryz.prog 48 #[.pointer (some ⟨A, 0, none⟩), .int .i64 n] w fun e w' => e = .returned (.int .i64 (15360 + 2 * n)) ∧ Below w.heap.size w w' := by
  have HC := fun u => hide (refsAt9 H u)
  obtain ⟨c0, c1, c2, c3, c4, c5⟩ := h.cell
  have hfl : ∀ z u, (Instr.field 31 (.agg #[.int .i64 15360, .int .i64 z]) 0).run Tryz.prog u = .ok (.int .i64 15360) u := fun _ _ => by kernel_rfl
  clear h
  go_enter Tryz.func48, Tryz.ntmps48
  go_wp2_with fail
  refine ((HC _).out).mono ?_
  rintro e9 w2 ⟨z, rfl, hb2⟩
  have HB2 := hide hb2
  clear hb2
  go_wp2_with fail
  go_ret
  exact ⟨rfl, HB2.out⟩
end Go.Proofs.YtibkhgmmjhlpmaaGreat.Oct
