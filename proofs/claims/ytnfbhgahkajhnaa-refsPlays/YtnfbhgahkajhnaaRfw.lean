/- refs.New. -/
import Derived.Test.YtnfbhgahkajhnaaRfn
namespace Go.Proofs.Ytnfbhgahkajhnaa.Oct
open Go.RowKit

theorem heap_new9 (w : World) (o : Obj) : (w.alloc o).heap[w.heap.size]? = some o := by
  show (w.heap.push o)[w.heap.size]? = some o
  exact Array.getElem?_push_size

theorem rnew_nil (b s o j : Int) (k : Bool) (w : World) : Calls Try.prog 7 #[.agg #[.int .i64 b, .int .i64 s, .int .i64 o, .int .i64 j, .bool k], .pointer none] w fun e w' => e = .returned (.tuple #[.pointer none, .int .i64 2]) ∧ Below w.heap.size w w' := by
  have HB := hide ((Below.refl w.heap.size w).alloc (Nat.le_refl _) (.cells #[.int .i64 b, .int .i64 s, .int .i64 o, .int .i64 j, .bool k] 25))
  go_enter Try.func7, Try.ntmps7
  go_wp2_with fail
  go_ret2
  exact ⟨rfl, by first | exact HB.out | exact Below.refl _ _⟩

theorem rnew_any (b s o j : Int) (k : Bool) (T : Nat) (w : World) : Calls Try.prog 7 #[.agg #[.int .i64 b, .int .i64 s, .int .i64 o, .int .i64 j, .bool k], .pointer (some ⟨T, 0, none⟩)] w fun e w' =>
    (Hd.check ⟨b, s, o, j, k⟩ ≠ 0 ∧ e = .returned (.tuple #[.pointer none, .int .i64 (Hd.check ⟨b, s, o, j, k⟩)]) ∧ Below w.heap.size w w') ∨
    (Hd.check ⟨b, s, o, j, k⟩ = 0 ∧ ∃ A, e = .returned (.tuple #[.pointer (some ⟨A, 0, none⟩), .int .i64 0]) ∧ w.heap.size ≤ A ∧ w'.heap[A]? = some (.cells #[.int .i64 b, .int .i64 s, .int .i64 o, .int .i64 j, .bool k, .pointer (some ⟨T, 0, none⟩)] 64 (0, 0)) ∧ Below w.heap.size w w') := by
  have HC := fun u => hide (check_any b s o j k u)
  obtain ⟨c, hc⟩ : ∃ c, Hd.check ⟨b, s, o, j, k⟩ = c := ⟨_, rfl⟩
  rw [hc] at HC ⊢
  clear hc
  go_enter Try.func7, Try.ntmps7
  go_wp2_with fail
  refine ((HC _).out).mono ?_
  rintro e9 w2 ⟨rfl, hb2⟩
  have hx : w2.heap[w.heap.size]? = some (.cells #[.int .i64 b, .int .i64 s, .int .i64 o, .int .i64 j, .bool k] 25 (0, 0)) := (hb2.block _ (by simp)).trans (heap_new9 w _)
  have x0 : w2.cell? ⟨w.heap.size, 0, none⟩ = some (.int .i64 b) := by simp [World.cell?, hx]
  have x1 : w2.cell? ⟨w.heap.size, 1, none⟩ = some (.int .i64 s) := by simp [World.cell?, hx]
  have x2 : w2.cell? ⟨w.heap.size, 2, none⟩ = some (.int .i64 o) := by simp [World.cell?, hx]
  have x3 : w2.cell? ⟨w.heap.size, 3, none⟩ = some (.int .i64 j) := by simp [World.cell?, hx]
  have x4 : w2.cell? ⟨w.heap.size, 4, none⟩ = some (.bool k) := by simp [World.cell?, hx]
  have HB2 : Hid (Below w.heap.size w w2) := hide (((Below.refl w.heap.size w).alloc (Nat.le_refl _) (.cells #[.int .i64 b, .int .i64 s, .int .i64 o, .int .i64 j, .bool k] 25)).trans (hb2.mono (by simp)))
  clear hb2 hx
  by_cases h0 : c = 0
  · subst h0
    go_wp2_with fail
    go_ret2
    exact ⟨_, rfl, HB2.out.size, heap_new9 _ _, HB2.out.alloc HB2.out.size _⟩
  · go_wp2_with fail
    go_ret2
    exact Or.inl ⟨h0, rfl, HB2.out⟩
end Go.Proofs.Ytnfbhgahkajhnaa.Oct
