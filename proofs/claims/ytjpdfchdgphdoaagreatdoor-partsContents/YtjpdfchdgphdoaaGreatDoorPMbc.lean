/- A sector's entries: what the program answers. -/
import Derived.Test.YtjpdfchdgphdoaaGreatDoorPMbb
import Derived.Test.YtjpdfchdgphdoaaGreatDoorPRd
import Derived.Test.YtjpdfchdgphdoaaGreatDoorPJbk
import Derived.BigQuiet
namespace Go.Proofs.YtjpdfchdgphdoaaGreatDoor.Oct
open Go.RowKit

/-- What entry answers. -/
def entR (m : List Int) : Value := if okM m 0 = true then .tuple #[.agg #[.int .i64 (entM m 0).1, .int .i64 (entM m 0).2.1, .int .i64 (entM m 0).2.2], .int .i64 0] else .tuple #[.agg #[.int .i64 0, .int .i64 0, .int .i64 0], .int .i64 11]

set_option maxHeartbeats 4000000 in
set_option maxRecDepth 100000 in
theorem entry_any (b off cap : Nat) (m : List Int) (w : World) (hm : m.length = 16) (hby : Byts m) (hl : Lies w (some ⟨b, off, none⟩) m) :
    Calls Tryz.prog 101 #[.slice (some ⟨b, off, none⟩) 16 cap] w fun e w' => e = .returned (entR m) ∧ Below w.heap.size w w' := by
  have HL := hide hl
  have HU : ∀ (p : Nat) (u : World), p + 4 ≤ 16 → Below w.heap.size w u → Hid (Calls Tryz.prog 110 #[.slice (some ⟨b, off, none⟩) 16 cap, .int .i64 (p : Int)] u fun e w' => e = .returned (.tuple #[.int .u32 (num m p 4), .bool true]) ∧ w' = u) := fun p u hp hu => hide (by
    have := U32_any (some ⟨b, off, none⟩) cap m (p : Int) u (by rw [hm]; unfold maxLen; omega) hby (HL.out.below hu) (by omega) (by omega)
    rw [thereB_yes (by omega) (by omega) (by omega), numAt_yes (by omega), hm] at this
    exact this)
  have hc : ∀ u, Below w.heap.size w u → ∀ k, k < 16 → u.cell? ⟨b, off + k, none⟩ = some (.int .u8 (m.getD k 0)) := fun u hu k hk => by
    rcases HL.out.below hu with h | ⟨b', off', e, _, h⟩
    · rw [h] at hm; simp at hm
    · cases e; exact h k (by omega)
  have n8 := num4 m hby 8
  have n12 := num4 m hby 12
  have HU8 := fun u hu => HU 8 u (by omega) hu
  have HU12 := fun u hu => HU 12 u (by omega) hu
  have b4 := hby 4
  have b0 := hby 0
  have HR : Hid (entR m = if (decide (m.getD 0 0 = 0) || decide (m.getD 0 0 = 128)) && (decide (m.getD 4 0 = 0) == decide (num m 12 4 = 0)) then .tuple #[.agg #[.int .i64 (m.getD 4 0), .int .i64 (num m 8 4), .int .i64 (num m 12 4)], .int .i64 0] else .tuple #[.agg #[.int .i64 0, .int .i64 0, .int .i64 0], .int .i64 11]) := hide rfl
  generalize num m 8 4 = x8 at *
  generalize num m 12 4 = x12 at *
  obtain ⟨w1, hw1⟩ : ∃ w1, w1 = w.alloc (.cells #[.int .i64 0, .int .i64 0, .int .i64 0] 128) := ⟨_, rfl⟩
  have hb1 : Below w.heap.size w w1 := by rw [hw1]; exact (Below.refl _ _).alloc (Nat.le_refl _) _
  have hx1 : Blk w1 w.heap.size #[.int .i64 0, .int .i64 0, .int .i64 0] 128 := by rw [hw1]; exact Blk.new _ _ _
  have hs1 : w1.heap.size = w.heap.size + 1 := by rw [hw1]; simp
  have q0 := hc w1 hb1 0 (by omega)
  have q4 := hc w1 hb1 4 (by omega)
  have HC := hide hc
  obtain ⟨y4, h4⟩ : ∃ x, x = m.getD 4 0 := ⟨_, rfl⟩
  obtain ⟨y0, h0⟩ : ∃ x, x = m.getD 0 0 := ⟨_, rfl⟩
  rw [← h4] at q4 b4 HR
  rw [← h0] at q0 HR b0
  rw [Nat.add_zero] at q0
  have HB2 := hide (hb1.alloc (by omega) (.cells #[.int .i64 y4, .int .i64 x8, .int .i64 x12] 128))
  have r0 := HC.out _ HB2.out 0 (by omega)
  rw [← h0, Nat.add_zero] at r0
  have c0 := hx1.cell 0 _ rfl
  have c1 := hx1.cell 1 _ rfl
  have c2 := hx1.cell 2 _ rfl
  have f0 := hx1.frozen 0
  have f1 := hx1.frozen 1
  have f2 := hx1.frozen 2
  have HX1 := hide hx1
  have HX2 := hide (hx1.below ((Below.refl _ _).alloc (Nat.le_refl _) (.cells #[.int .i64 y4, .int .i64 x8, .int .i64 x12] 128)))
  have HN2 := hide (Blk.new w1 #[.int .i64 y4, .int .i64 x8, .int .i64 x12] 128)
  rw [hs1] at HN2
  have HW1 := hide hw1
  have HS1 := hide hs1
  have HB1 := hide hb1
  clear hc HU hby hl h4 h0 hw1 hx1 hb1
  have e0 := HN2.out.cell 0 _ rfl
  have e1 := HN2.out.cell 1 _ rfl
  have e2 := HN2.out.cell 2 _ rfl
  have hw8 : IntKind.i64.wrap x8 = x8 := by rw [IntKind.wrap_i64]; omega
  have hw12 : IntKind.i64.wrap x12 = x12 := by rw [IntKind.wrap_i64]; omega
  have hw4 : IntKind.i64.wrap y4 = y4 := by rw [IntKind.wrap_i64]; omega
  go_enter Tryz.func101, Tryz.ntmps101
  go_wp2_with fail
  rw [← HW1.out]
  refine ((HU8 _ HB1.out).out).mono ?_
  rintro e9 w2 ⟨rfl, h2⟩
  subst h2
  go_wp2_with fail
  refine ((HU12 _ HB1.out).out).mono ?_
  rintro e9 w2 ⟨rfl, h2⟩
  subst h2
  have h3 : y0 = 0 ∨ y0 = 128 ∨ (¬ y0 = 0 ∧ ¬ y0 = 128) := by omega
  have h2 : (y4 = 0 ∨ ¬ y4 = 0) ∧ (x12 = 0 ∨ ¬ x12 = 0) := by omega
  obtain ⟨h4, h12⟩ := h2
  rcases h3 with h0 | h0 | ⟨h0, h0'⟩
  · subst h0
    rcases h4 with h4 | h4
    · subst h4
      rcases h12 with h12 | h12
      · subst h12
        go_wp2_with fail
        refine bodyPost_ret (ret_agg rfl _ _ w.heap.size #[.int .i64 0, .int .i64 x8, .int .i64 0] _ rfl rfl (run_loadVar_row _ w.heap.size 128 128 _ (0, 0) _ ((((HX1.out.set 0 _).set 1 _).set 2 _).below ((Below.refl _ _).alloc (Nat.le_refl _) _)) Tryz.underlying128 rfl (by kernel_rfl))) rfl ?_
        refine ⟨by rw [HR.out]; simp [*], ((((HB1.out.setCell (by simp) _).setCell (by simp) _).setCell (by simp) _).alloc (by have := HS1.out; simp [World.setCell]; omega) _)⟩
      · have hb12 : (x12 == 0) = false := by simpa using h12
        go_wp2_with fail
        refine bodyPost_ret (ret_agg rfl _ _ w.heap.size #[.int .i64 0, .int .i64 0, .int .i64 0] _ rfl rfl (run_loadVar_row _ w.heap.size 128 128 _ (0, 0) _ ((((HX1.out.set 0 _).set 1 _).set 2 _).below ((Below.refl _ _).alloc (Nat.le_refl _) _)) Tryz.underlying128 rfl (by kernel_rfl))) rfl ?_
        refine ⟨by rw [HR.out]; simp [*], ((((HB1.out.setCell (by simp) _).setCell (by simp) _).setCell (by simp) _).alloc (by have := HS1.out; simp [World.setCell]; omega) _)⟩
    · have hb4 : (y4 == 0) = false := by simpa using h4
      rcases h12 with h12 | h12
      · subst h12
        go_wp2_with fail
        refine bodyPost_ret (ret_agg rfl _ _ w.heap.size #[.int .i64 0, .int .i64 0, .int .i64 0] _ rfl rfl (run_loadVar_row _ w.heap.size 128 128 _ (0, 0) _ ((((HX1.out.set 0 _).set 1 _).set 2 _).below ((Below.refl _ _).alloc (Nat.le_refl _) _)) Tryz.underlying128 rfl (by kernel_rfl))) rfl ?_
        refine ⟨by rw [HR.out]; simp [*], ((((HB1.out.setCell (by simp) _).setCell (by simp) _).setCell (by simp) _).alloc (by have := HS1.out; simp [World.setCell]; omega) _)⟩
      · have hb12 : (x12 == 0) = false := by simpa using h12
        go_wp2_with fail
        refine bodyPost_ret (ret_agg rfl _ _ w.heap.size #[.int .i64 y4, .int .i64 x8, .int .i64 x12] _ rfl rfl (run_loadVar_row _ w.heap.size 128 128 _ (0, 0) _ ((((HX1.out.set 0 _).set 1 _).set 2 _).below ((Below.refl _ _).alloc (Nat.le_refl _) _)) Tryz.underlying128 rfl (by kernel_rfl))) rfl ?_
        refine ⟨by rw [HR.out]; simp [*], ((((HB1.out.setCell (by simp) _).setCell (by simp) _).setCell (by simp) _).alloc (by have := HS1.out; simp [World.setCell]; omega) _)⟩
  · subst h0
    rcases h4 with h4 | h4
    · subst h4
      rcases h12 with h12 | h12
      · subst h12
        go_wp2_with fail
        refine bodyPost_ret (ret_agg rfl _ _ w.heap.size #[.int .i64 0, .int .i64 x8, .int .i64 0] _ rfl rfl (run_loadVar_row _ w.heap.size 128 128 _ (0, 0) _ ((((HX1.out.set 0 _).set 1 _).set 2 _).below ((Below.refl _ _).alloc (Nat.le_refl _) _)) Tryz.underlying128 rfl (by kernel_rfl))) rfl ?_
        refine ⟨by rw [HR.out]; simp [*], ((((HB1.out.setCell (by simp) _).setCell (by simp) _).setCell (by simp) _).alloc (by have := HS1.out; simp [World.setCell]; omega) _)⟩
      · have hb12 : (x12 == 0) = false := by simpa using h12
        go_wp2_with fail
        refine bodyPost_ret (ret_agg rfl _ _ w.heap.size #[.int .i64 0, .int .i64 0, .int .i64 0] _ rfl rfl (run_loadVar_row _ w.heap.size 128 128 _ (0, 0) _ ((((HX1.out.set 0 _).set 1 _).set 2 _).below ((Below.refl _ _).alloc (Nat.le_refl _) _)) Tryz.underlying128 rfl (by kernel_rfl))) rfl ?_
        refine ⟨by rw [HR.out]; simp [*], ((((HB1.out.setCell (by simp) _).setCell (by simp) _).setCell (by simp) _).alloc (by have := HS1.out; simp [World.setCell]; omega) _)⟩
    · have hb4 : (y4 == 0) = false := by simpa using h4
      rcases h12 with h12 | h12
      · subst h12
        go_wp2_with fail
        refine bodyPost_ret (ret_agg rfl _ _ w.heap.size #[.int .i64 0, .int .i64 0, .int .i64 0] _ rfl rfl (run_loadVar_row _ w.heap.size 128 128 _ (0, 0) _ ((((HX1.out.set 0 _).set 1 _).set 2 _).below ((Below.refl _ _).alloc (Nat.le_refl _) _)) Tryz.underlying128 rfl (by kernel_rfl))) rfl ?_
        refine ⟨by rw [HR.out]; simp [*], ((((HB1.out.setCell (by simp) _).setCell (by simp) _).setCell (by simp) _).alloc (by have := HS1.out; simp [World.setCell]; omega) _)⟩
      · have hb12 : (x12 == 0) = false := by simpa using h12
        go_wp2_with fail
        refine bodyPost_ret (ret_agg rfl _ _ w.heap.size #[.int .i64 y4, .int .i64 x8, .int .i64 x12] _ rfl rfl (run_loadVar_row _ w.heap.size 128 128 _ (0, 0) _ ((((HX1.out.set 0 _).set 1 _).set 2 _).below ((Below.refl _ _).alloc (Nat.le_refl _) _)) Tryz.underlying128 rfl (by kernel_rfl))) rfl ?_
        refine ⟨by rw [HR.out]; simp [*], ((((HB1.out.setCell (by simp) _).setCell (by simp) _).setCell (by simp) _).alloc (by have := HS1.out; simp [World.setCell]; omega) _)⟩
  · have hb0 : (y0 != 0) = true := by simpa using h0
    have hb0' : (y0 != 128) = true := by simpa using h0'
    go_wp2_with fail
    refine bodyPost_ret (ret_agg rfl _ _ w.heap.size #[.int .i64 0, .int .i64 0, .int .i64 0] _ rfl rfl (run_loadVar_row _ w.heap.size 128 128 _ (0, 0) _ ((((HX1.out.set 0 _).set 1 _).set 2 _).below ((Below.refl _ _).alloc (Nat.le_refl _) _)) Tryz.underlying128 rfl (by kernel_rfl))) rfl ?_
    refine ⟨by rw [HR.out]; simp [*], ((((HB1.out.setCell (by simp) _).setCell (by simp) _).setCell (by simp) _).alloc (by have := HS1.out; simp [World.setCell]; omega) _)⟩
end Go.Proofs.YtjpdfchdgphdoaaGreatDoor.Oct
