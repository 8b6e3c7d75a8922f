/- refs.New. -/
import Derived.Test.YtibkhgmmjhlpmaaGreatPRfb
import Derived.Test.YtibkhgmmjhlpmaaGreatPHdc
namespace Go.Proofs.YtibkhgmmjhlpmaaGreat.Oct
open Go.RowKit

theorem nilr_has (n : Int) (w : World) : Calls Tryz.prog 59 #[.pointer none, .int .i64 n] w fun e w' => e = .returned (.int .i64 2) ∧ w' = w := by
  go_enter Tryz.func59, Tryz.ntmps59
  go_wp2_with fail
  go_ret
  exact ⟨rfl, rfl⟩

theorem nilr_set (n k : Int) (w : World) : Calls Tryz.prog 34 #[.pointer none, .int .i64 n, .int .i64 k] w fun e w' => e = .returned (.int .i64 2) ∧ w' = w := by
  have HN := fun u => hide (nilr_has n u)
  go_enter Tryz.func34, Tryz.ntmps34
  go_wp2_with fail
  refine ((HN _).out).mono ?_
  rintro e9 w9 ⟨rfl, h9⟩
  subst h9
  go_wp2_with fail
  go_ret
  exact ⟨rfl, rfl⟩

theorem nilr_all (w : World) : Calls Tryz.prog 16 #[.pointer none] w fun e w' => e = .returned (.tuple #[.slice none 0 0, .int .i64 2]) ∧ w' = w := by
  go_enter Tryz.func16, Tryz.ntmps16
  go_wp2_with fail
  go_ret2
  exact ⟨rfl, rfl⟩

theorem nilr_ends (w : World) : Calls Tryz.prog 33 #[.pointer none] w fun e w' => e = .returned (.tuple #[.int .i64 0, .int .i64 0, .int .i64 2]) ∧ w' = w := by
  have HN := fun u => hide (nilr_all u)
  go_enter Tryz.func33, Tryz.ntmps33
  go_wp2_with fail
  refine ((HN _).out).mono ?_
  rintro e9 w9 ⟨rfl, h9⟩
  subst h9
  go_wp2_with fail
  go_ret3
  exact ⟨rfl, rfl⟩

theorem nilr_alloc (w : World) : Calls Tryz.prog 11 #[.pointer none] w fun e w' => e = .returned (.tuple #[.int .i64 0, .int .i64 2]) ∧ w' = w := by
  have HN := fun u => hide (nilr_ends u)
  go_enter Tryz.func11, Tryz.ntmps11
  go_wp2_with fail
  refine ((HN _).out).mono ?_
  rintro e9 w9 ⟨rfl, h9⟩
  subst h9
  go_wp2_with fail
  go_ret2
  exact ⟨rfl, rfl⟩
end Go.Proofs.YtibkhgmmjhlpmaaGreat.Oct

namespace Go.Proofs.YtibkhgmmjhlpmaaGreat.Oct
open Go.RowKit

theorem heap_new9 (w : World) (o : Obj) : (w.alloc o).heap[w.heap.size]? = some o := by
  show (w.heap.push o)[w.heap.size]? = some o
  exact Array.getElem?_push_size

theorem rnew_nil (b s o j : Int) (k : Bool) (w : World) : Calls Tryz.prog 29 #[.agg #[.int .i64 b, .int .i64 s, .int .i64 o, .int .i64 j, .bool k], .pointer none] w fun e w' => e = .returned (.tuple #[.pointer none, .int .i64 2]) ∧ Below w.heap.size w w' := by
  have HB := hide ((Below.refl w.heap.size w).alloc (Nat.le_refl _) (.cells #[.int .i64 b, .int .i64 s, .int .i64 o, .int .i64 j, .bool k] 25))
  go_enter Tryz.func29, Tryz.ntmps29
  go_wp2_with fail
  go_ret2
  exact ⟨rfl, by first | exact HB.out | exact Below.refl _ _⟩

theorem rnew_any (b s o j : Int) (k : Bool) (T : Nat) (w : World) : Calls Tryz.prog 29 #[.agg #[.int .i64 b, .int .i64 s, .int .i64 o, .int .i64 j, .bool k], .pointer (some ⟨T, 0, none⟩)] w fun e w' =>
    (Hd.check ⟨b, s, o, j, k⟩ ≠ 0 ∧ e = .returned (.tuple #[.pointer none, .int .i64 (Hd.check ⟨b, s, o, j, k⟩)]) ∧ Below w.heap.size w w') ∨
    (Hd.check ⟨b, s, o, j, k⟩ = 0 ∧ ∃ A, e = .returned (.tuple #[.pointer (some ⟨A, 0, none⟩), .int .i64 0]) ∧ w.heap.size ≤ A ∧ w'.heap[A]? = some (.cells #[.int .i64 b, .int .i64 s, .int .i64 o, .int .i64 j, .bool k, .pointer (some ⟨T, 0, none⟩)] 100 (0, 0)) ∧ Below w.heap.size w w') := by
  have HC := fun u => hide (check_any b s o j k u)
  obtain ⟨c, hc⟩ : ∃ c, Hd.check ⟨b, s, o, j, k⟩ = c := ⟨_, rfl⟩
  rw [hc] at HC ⊢
  clear hc
  go_enter Tryz.func29, Tryz.ntmps29
  go_wp2_with fail
  refine ((HC _).out).mono ?_
  rintro e9 w2 ⟨rfl, hb2⟩
  have hx : w2.heap[w.heap.size]? = some (.cells #[.int .i64 b, .int .i64 s, .int .i64 o, .int .i64 j, .bool k] 25 (0, 0)) := (hb2.block _ (by simp)).trans (heap_new9 w _)
  have x0 : w2.cell? ⟨w.heap.size, 0, none⟩ = some (.int .i64 b) := by simp [World.cell?, hx]
  have x1 : w2.cell? ⟨w.heap.size, 1, none⟩ = some (.int .i64 s) := by simp [World.cell?, hx]
  have x2 : w2.cell? ⟨w.heap.size, 2, none⟩ = some (.int .i64 o) := by simp [World.cell?, hx]
  have x3 : w2.cell? ⟨w.heap.size, 3, none⟩ = some (.int .i64 j) := by simp [World.cell?, hx]
  have x4 : w2.cell? ⟨w.heap.size, 4, none⟩ = some (.bool k) := by simp [World.cell?, hx]
  have HB2 : Hid (Below w.heap.size w w2) := hide (((Below.refl w.heap.size w).alloc (Nat.le_refl _) (.cells #[.int .i64 b, .int .i64 s, .int .i64 o, .int .i64 j, .bool k] 25)).trans (hb2.mono (by simp)))
  clear hb2 hx
  by_cases h0 : c = 0
  · subst h0
    go_wp2_with fail
    go_ret2
    exact ⟨_, rfl, HB2.out.size, heap_new9 _ _, HB2.out.alloc HB2.out.size _⟩
  · go_wp2_with fail
    go_ret2
    exact Or.inl ⟨h0, rfl, HB2.out⟩
end Go.Proofs.YtibkhgmmjhlpmaaGreat.Oct
