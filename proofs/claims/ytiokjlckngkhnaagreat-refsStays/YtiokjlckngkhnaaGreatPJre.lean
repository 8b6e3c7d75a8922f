/- The sign: as a sector, and out of one. -/
import Derived.Test.YtiokjlckngkhnaaGreatPJbkJrcJrd
import Derived.Test.YtiokjlckngkhnaaGreatPMore
namespace Go.Proofs.YtiokjlckngkhnaaGreat.Oct
open Go.RowKit Go.Deep

/-- A sign's first bytes; the sector. -/
def sgn5 (n c m s : Int) : List Int := (((leB 826954822 4 ++ leB n 8) ++ leB c 4) ++ leB m 4) ++ leB s 4
def sgn6 (n c m s : Int) : List Int := sgn5 n c m s ++ leB (moreC 0 (sgn5 n c m s) : Int) 4
def secL (n c m s : Int) : List Int := sgn6 n c m s ++ List.replicate (512 - (sgn6 n c m s).length) 0

theorem sgn5_len (n c m s : Int) : (sgn5 n c m s).length = 24 := by simp [sgn5, leB_length]
theorem sgn6_len (n c m s : Int) : (sgn6 n c m s).length = 28 := by simp [sgn6, sgn5_len, leB_length]
theorem secL_len (n c m s : Int) : (secL n c m s).length = 512 := by
  unfold secL
  rw [rep_length _ 512 (by rw [sgn6_len]; omega)]
theorem sgn5_byts (n c m s : Int) : Byts (sgn5 n c m s) := ((((leB_byts _ _).append (leB_byts _ _)).append (leB_byts _ _)).append (leB_byts _ _)).append (leB_byts _ _)
theorem Byts.reps (k : Nat) : Byts (List.replicate k 0) := fun i => by
  rw [List.getD_eq_getElem?_getD, List.getElem?_replicate]
  split <;> simp
theorem secL_byts (n c m s : Int) : Byts (secL n c m s) := ((sgn5_byts n c m s).append (leB_byts _ _)).append (Byts.reps _)

theorem put32_row (B g : Nat) (X : List Int) (v p : Int) (u : World) (h : Own u B (.slice (some ⟨g, 0, none⟩) 512 512) (X ++ List.replicate (512 - X.length) 0)) (hX : X.length + 4 ≤ 512) (hp : p = X.length) :
    Calls Tryz.prog 80 #[.slice (some ⟨g, 0, none⟩) 512 512, .int .i64 p, .int .u32 v] u fun e w' => e = .returned (.bool true) ∧ Own w' B (.slice (some ⟨g, 0, none⟩) 512 512) ((X ++ leB v 4) ++ List.replicate (512 - (X ++ leB v 4).length) 0) ∧ u.grownBy w' (some g) := by
  have hl : (X ++ List.replicate (512 - X.length) (0 : Int)).length = 512 := rep_length X 512 (by omega)
  have := Put32_yes B g 512 (X ++ List.replicate (512 - X.length) 0) X.length v u (by rw [hl]; unfold maxLen; omega) (by rw [hl]; omega) (by rw [hl]; exact h)
  rw [hl, enc_step2 X 512 _ (by omega)] at this
  rw [hp]
  exact this

theorem put64_row (B g : Nat) (X : List Int) (v p : Int) (u : World) (h : Own u B (.slice (some ⟨g, 0, none⟩) 512 512) (X ++ List.replicate (512 - X.length) 0)) (hX : X.length + 8 ≤ 512) (hp : p = X.length) :
    Calls Tryz.prog 79 #[.slice (some ⟨g, 0, none⟩) 512 512, .int .i64 p, .int .u64 v] u fun e w' => e = .returned (.bool true) ∧ Own w' B (.slice (some ⟨g, 0, none⟩) 512 512) ((X ++ leB v 8) ++ List.replicate (512 - (X ++ leB v 8).length) 0) ∧ u.grownBy w' (some g) := by
  have hl : (X ++ List.replicate (512 - X.length) (0 : Int)).length = 512 := rep_length X 512 (by omega)
  have := Put64_yes B g 512 (X ++ List.replicate (512 - X.length) 0) X.length v u (by rw [hl]; unfold maxLen; omega) (by rw [hl]; omega) (by rw [hl]; exact h)
  rw [hl, enc_step1 X 512 _ (by omega)] at this
  rw [hp]
  exact this

set_option maxRecDepth 100000 in
set_option maxHeartbeats 8000000 in
theorem sector_any (n c m s : Int) (w : World) :
    Calls Tryz.prog 62 #[.agg #[.int .u64 n, .int .u32 c, .int .u32 m, .int .u32 s]] w fun e w' => ∃ g, e = .returned (.slice (some ⟨g, 0, none⟩) 512 512) ∧ Own w' w.heap.size (.slice (some ⟨g, 0, none⟩) 512 512) (secL n c m s) ∧ Below w.heap.size w w' := by
  obtain ⟨T, hT⟩ : ∃ T, T = 512 := ⟨_, rfl⟩
  have HT := hide hT
  have hbx := Blk.new w #[.int .u64 n, .int .u32 c, .int .u32 m, .int .u32 s] 108
  have hb1 : Below w.heap.size w (w.alloc (.cells #[.int .u64 n, .int .u32 c, .int .u32 m, .int .u32 s] 108)) := (Below.refl _ _).alloc (Nat.le_refl _) _
  have hs1 : (w.alloc (.cells #[.int .u64 n, .int .u32 c, .int .u32 m, .int .u32 s] 108)).heap.size = w.heap.size + 1 := by simp
  go_enter Tryz.func62, Tryz.ntmps62
  have HBx := hide hbx
  have HB1 := hide hb1
  have HX : ∀ u, Blk u w.heap.size #[.int .u64 n, .int .u32 c, .int .u32 m, .int .u32 s] 108 → Hid (u.cell? ⟨w.heap.size, 0, none⟩ = some (.int .u64 n) ∧ u.cell? ⟨w.heap.size, 1, none⟩ = some (.int .u32 c) ∧ u.cell? ⟨w.heap.size, 2, none⟩ = some (.int .u32 m) ∧ u.cell? ⟨w.heap.size, 3, none⟩ = some (.int .u32 s)) := fun u h => hide ⟨h.cell 0 _ rfl, h.cell 1 _ rfl, h.cell 2 _ rfl, h.cell 3 _ rfl⟩
  have hmk : (Instr.makeSlice 35 (.int .i64 512) (.int .i64 512)).run Tryz.prog (w.alloc (.cells #[.int .u64 n, .int .u32 c, .int .u32 m, .int .u32 s] 108)) = .ok (.slice (some ⟨w.heap.size + 1, 0, none⟩) 512 512) ((w.alloc (.cells #[.int .u64 n, .int .u32 c, .int .u32 m, .int .u32 s] 108)).alloc (.cells (madeCells #[.int .u8 0] T) 5)) := by
    have := run_make_bytes (w.alloc (.cells #[.int .u64 n, .int .u32 c, .int .u32 m, .int .u32 s] 108)) T (by omega)
    rw [hs1] at this
    rw [hT] at this ⊢
    exact this
  have HO2 : Hid (Own ((w.alloc (.cells #[.int .u64 n, .int .u32 c, .int .u32 m, .int .u32 s] 108)).alloc (.cells (madeCells #[.int .u8 0] T) 5)) w.heap.size (.slice (some ⟨w.heap.size + 1, 0, none⟩) T T) ([] ++ List.replicate (T - ([] : List Int).length) 0)) := hide (by
    have := (Own.made (w.alloc (.cells #[.int .u64 n, .int .u32 c, .int .u32 m, .int .u32 s] 108)) T (by unfold maxLen; omega)).mono (B' := w.heap.size) (by omega)
    rw [hs1] at this
    simpa using this)
  have HX2 := hide (hbx.below (((Below.refl _ _).alloc (Nat.le_refl _) (.cells (madeCells #[.int .u8 0] T) 5)) : Below (w.alloc (.cells #[.int .u64 n, .int .u32 c, .int .u32 m, .int .u32 s] 108)).heap.size (w.alloc (.cells #[.int .u64 n, .int .u32 c, .int .u32 m, .int .u32 s] 108)) _))
  have HB2 := hide (hb1.alloc hb1.size (.cells (madeCells #[.int .u8 0] T) 5))
  clear hbx hb1 hs1 HBx HB1
  generalize (w.alloc (.cells #[.int .u64 n, .int .u32 c, .int .u32 m, .int .u32 s] 108)).alloc (.cells (madeCells #[.int .u8 0] T) 5) = w2 at *
  clear hT
  rw [HT.out] at HO2
  go_wp2_with fail
  have hl0 : ([] : List Int).length = 0 := rfl
  refine (put32_row w.heap.size (w.heap.size + 1) ([] : List Int) 826954822 0 _ HO2.out (by rw [hl0]; omega) (by rw [hl0]; rfl)).mono ?_
  rintro e9 w3 ⟨rfl, ho3, hg3⟩
  have HO3 := hide ho3
  have HX3 : Hid (Blk w3 w.heap.size #[.int .u64 n, .int .u32 c, .int .u32 m, .int .u32 s] 108) := hide (HX2.out.chg (Chg.of_grown hg3) (by simp))
  have HB3 := hide (HB2.out.grown hg3 HB2.out.size (by intro j hj; simp at hj; omega))
  obtain ⟨x0, x1, x2, x3⟩ := (HX w3 HX3.out).out
  clear ho3 hg3
  go_wp2_with fail
  clear x0 x1 x2 x3
  have hl1 : ([] ++ leB 826954822 4).length = 4 := by simp [leB_length]
  refine (put64_row w.heap.size (w.heap.size + 1) ([] ++ leB 826954822 4) n 4 _ HO3.out (by rw [hl1]; omega) (by rw [hl1]; rfl)).mono ?_
  rintro e9 w4 ⟨rfl, ho4, hg4⟩
  have HO4 := hide ho4
  have HX4 : Hid (Blk w4 w.heap.size #[.int .u64 n, .int .u32 c, .int .u32 m, .int .u32 s] 108) := hide (HX3.out.chg (Chg.of_grown hg4) (by simp))
  have HB4 := hide (HB3.out.grown hg4 HB3.out.size (by intro j hj; simp at hj; omega))
  obtain ⟨x0, x1, x2, x3⟩ := (HX w4 HX4.out).out
  clear ho4 hg4
  go_wp2_with fail
  clear x0 x1 x2 x3
  have hl2 : (([] ++ leB 826954822 4) ++ leB n 8).length = 12 := by simp [leB_length]
  refine (put32_row w.heap.size (w.heap.size + 1) (([] ++ leB 826954822 4) ++ leB n 8) c 12 _ HO4.out (by rw [hl2]; omega) (by rw [hl2]; rfl)).mono ?_
  rintro e9 w5 ⟨rfl, ho5, hg5⟩
  have HO5 := hide ho5
  have HX5 : Hid (Blk w5 w.heap.size #[.int .u64 n, .int .u32 c, .int .u32 m, .int .u32 s] 108) := hide (HX4.out.chg (Chg.of_grown hg5) (by simp))
  have HB5 := hide (HB4.out.grown hg5 HB4.out.size (by intro j hj; simp at hj; omega))
  obtain ⟨x0, x1, x2, x3⟩ := (HX w5 HX5.out).out
  clear ho5 hg5
  go_wp2_with fail
  clear x0 x1 x2 x3
  have hl3 : ((([] ++ leB 826954822 4) ++ leB n 8) ++ leB c 4).length = 16 := by simp [leB_length]
  refine (put32_row w.heap.size (w.heap.size + 1) ((([] ++ leB 826954822 4) ++ leB n 8) ++ leB c 4) m 16 _ HO5.out (by rw [hl3]; omega) (by rw [hl3]; rfl)).mono ?_
  rintro e9 w6 ⟨rfl, ho6, hg6⟩
  have HO6 := hide ho6
  have HX6 : Hid (Blk w6 w.heap.size #[.int .u64 n, .int .u32 c, .int .u32 m, .int .u32 s] 108) := hide (HX5.out.chg (Chg.of_grown hg6) (by simp))
  have HB6 := hide (HB5.out.grown hg6 HB5.out.size (by intro j hj; simp at hj; omega))
  obtain ⟨x0, x1, x2, x3⟩ := (HX w6 HX6.out).out
  clear ho6 hg6
  go_wp2_with fail
  clear x0 x1 x2 x3
  have hl4 : (((([] ++ leB 826954822 4) ++ leB n 8) ++ leB c 4) ++ leB m 4).length = 20 := by simp [leB_length]
  refine (put32_row w.heap.size (w.heap.size + 1) (((([] ++ leB 826954822 4) ++ leB n 8) ++ leB c 4) ++ leB m 4) s 20 _ HO6.out (by rw [hl4]; omega) (by rw [hl4]; rfl)).mono ?_
  rintro e9 w7 ⟨rfl, ho7, hg7⟩
  have HO7 := hide ho7
  have HX7 : Hid (Blk w7 w.heap.size #[.int .u64 n, .int .u32 c, .int .u32 m, .int .u32 s] 108) := hide (HX6.out.chg (Chg.of_grown hg7) (by simp))
  have HB7 := hide (HB6.out.grown hg7 HB6.out.size (by intro j hj; simp at hj; omega))
  obtain ⟨x0, x1, x2, x3⟩ := (HX w7 HX7.out).out
  clear ho7 hg7
  go_wp2_with fail
  clear x0 x1 x2 x3
  have e5 : ((((([] ++ leB 826954822 4) ++ leB n 8) ++ leB c 4) ++ leB m 4) ++ leB s 4) = sgn5 n c m s := rfl
  rw [e5] at HO7
  have hl24 := sgn5_len n c m s
  have hsl : Sl w7 (some ⟨w.heap.size + 1, 0, none⟩) 512 (sgn5 n c m s) := by
    obtain ⟨a9, c9, e9, hL9, _⟩ := HO7.out.form
    simp only [Value.slice.injEq] at e9
    obtain ⟨rfl, -, -⟩ := e9
    have h2 := Lies.of_part hL9 0 24
    have h3 : ((sgn5 n c m s ++ List.replicate (512 - (sgn5 n c m s).length) 0).drop 0).take 24 = sgn5 n c m s := by
      rw [List.drop_zero, List.take_left' hl24]
    rw [h3] at h2
    exact ⟨by rw [hl24]; omega, by unfold maxLen; omega, fun h => (by cases h), h2⟩
  refine (Sum_one' (some ⟨w.heap.size + 1, 0, none⟩) 24 512 (sgn5 n c m s) w7 w7.heap.size rfl hl24.symm (by rw [hl24]; unfold maxLen; omega) (sgn5_byts n c m s) hsl).mono ?_
  rintro e9 w8 ⟨rfl, hb8⟩
  have HO8 := hide (HO7.out.below hb8)
  have HB8 := hide (HB7.out.trans (hb8.mono HB7.out.size))
  clear hb8 hsl
  go_wp2_with fail
  refine (put32_row w.heap.size (w.heap.size + 1) (sgn5 n c m s) (moreC 0 (sgn5 n c m s) : Int) 24 _ HO8.out (by rw [hl24]; omega) (by rw [hl24]; rfl)).mono ?_
  rintro e9 w9 ⟨rfl, ho9, hg9⟩
  have HO9 := hide ho9
  have HB9 := hide (HB8.out.grown hg9 HB8.out.size (by intro j hj; simp at hj; omega))
  clear ho9 hg9
  go_wp2_with fail
  go_ret
  exact ⟨w.heap.size + 1, rfl, HO9.out, HB9.out⟩

/-- Is a sector a sign? Its four numbers are where they stand. -/
def isSgn (l : List Int) : Prop := l = secL (num l 4 8) (num l 12 4) (num l 16 4) (num l 20 4)
end Go.Proofs.YtiokjlckngkhnaaGreat.Oct
