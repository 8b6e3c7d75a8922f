/- The sign: as a sector, and out of one. -/
import Derived.Test.YtibkhgmmjhlpmaaGreatPJrcJrd
import Derived.Test.YtibkhgmmjhlpmaaGreatPCrcOpenPtsMore
namespace Go.Proofs.YtibkhgmmjhlpmaaGreat.Oct
open Go.RowKit Go.Deep

/-- A sign's first bytes; the sector. -/
def sgn5 (n c m s : Int) : List Int := (((leB 826954822 4 ++ leB n 8) ++ leB c 4) ++ leB m 4) ++ leB s 4
def sgn6 (n c m s : Int) : List Int := sgn5 n c m s ++ leB (moreC 0 (sgn5 n c m s) : Int) 4
def secL (n c m s : Int) : List Int := sgn6 n c m s ++ List.replicate (512 - (sgn6 n c m s).length) 0

theorem sgn5_len (n c m s : Int) : (sgn5 n c m s).length = 24 := by simp [sgn5, leB_length]
theorem sgn6_len (n c m s : Int) : (sgn6 n c m s).length = 28 := by simp [sgn6, sgn5_len, leB_length]
theorem secL_len (n c m s : Int) : (secL n c m s).length = 512 := by
  unfold secL
  rw [rep_length _ 512 (by rw [sgn6_len]; omega)]
theorem sgn5_byts (n c m s : Int) : Byts (sgn5 n c m s) := ((((leB_byts _ _).append (leB_byts _ _)).append (leB_byts _ _)).append (leB_byts _ _)).append (leB_byts _ _)
theorem Byts.reps (k : Nat) : Byts (List.replicate k 0) := fun i => by
  rw [List.getD_eq_getElem?_getD, List.getElem?_replicate]
  split <;> simp
theorem secL_byts (n c m s : Int) : Byts (secL n c m s) := ((sgn5_byts n c m s).append (leB_byts _ _)).append (Byts.reps _)

theorem put32_row (B g : Nat) (X : List Int) (v p : Int) (u : World) (h : Own u B (.slice (some ⟨g, 0, none⟩) 512 512) (X ++ List.replicate (512 - X.length) 0)) (hX : X.length + 4 ≤ 512) (hp : p = X.length) :
    Calls Tryz.prog 94 #[.slice (some ⟨g, 0, none⟩) 512 512, .int .i64 p, .int .u32 v] u fun e w' => e = .returned (.bool true) ∧ Own w' B (.slice (some ⟨g, 0, none⟩) 512 512) ((X ++ leB v 4) ++ List.replicate (512 - (X ++ leB v 4).length) 0) ∧ u.grownBy w' (some g) := by
  have hl : (X ++ List.replicate (512 - X.length) (0 : Int)).length = 512 := rep_length X 512 (by omega)
  have := Put32_yes B g 512 (X ++ List.replicate (512 - X.length) 0) X.length v u (by rw [hl]; unfold maxLen; omega) (by rw [hl]; omega) (by rw [hl]; exact h)
  rw [hl, enc_step2 X 512 _ (by omega)] at this
  rw [hp]
  exact this

theorem put64_row (B g : Nat) (X : List Int) (v p : Int) (u : World) (h : Own u B (.slice (some ⟨g, 0, none⟩) 512 512) (X ++ List.replicate (512 - X.length) 0)) (hX : X.length + 8 ≤ 512) (hp : p = X.length) :
    Calls Tryz.prog 62 #[.slice (some ⟨g, 0, none⟩) 512 512, .int .i64 p, .int .u64 v] u fun e w' => e = .returned (.bool true) ∧ Own w' B (.slice (some ⟨g, 0, none⟩) 512 512) ((X ++ leB v 8) ++ List.replicate (512 - (X ++ leB v 8).length) 0) ∧ u.grownBy w' (some g) := by
  have hl : (X ++ List.replicate (512 - X.length) (0 : Int)).length = 512 := rep_length X 512 (by omega)
  have := Put64_yes B g 512 (X ++ List.replicate (512 - X.length) 0) X.length v u (by rw [hl]; unfold maxLen; omega) (by rw [hl]; omega) (by rw [hl]; exact h)
  rw [hl, enc_step1 X 512 _ (by omega)] at this
  rw [hp]
  exact this

set_option maxRecDepth 100000 in
set_option maxHeartbeats 8000000 in
theorem sector_any (n c m s : Int) (w : World) :
    Calls Tryz.prog 77 #[.agg #[.int .u64 n, .int .u32 c, .int .u32 m, .int .u32 s]] w fun e w' => ∃ g, e = .returned (.slice (some ⟨g, 0, none⟩) 512 512) ∧ Own w' w.heap.size (.slice (some ⟨g, 0, none⟩) 512 512) (secL n c m s) ∧ Below w.heap.size w w' := by
  obtain ⟨T, hT⟩ : ∃ T, T = 512 := ⟨_, rfl⟩
  have HT := hide hT
  have hbx := Blk.new w #[.int .u64 n, .int .u32 c, .int .u32 m, .int .u32 s] 133
  have hb1 : Below w.heap.size w (w.alloc (.cells #[.int .u64 n, .int .u32 c, .int .u32 m, .int .u32 s] 133)) := (Below.refl _ _).alloc (Nat.le_refl _) _
  have hs1 : (w.alloc (.cells #[.int .u64 n, .int .u32 c, .int .u32 m, .int .u32 s] 133)).heap.size = w.heap.size + 1 := by simp
  go_enter Tryz.func77, Tryz.ntmps77
  have HBx := hide hbx
  have HB1 := hide hb1
  have HX : ∀ u, Blk u w.heap.size #[.int .u64 n, .int .u32 c, .int .u32 m, .int .u32 s] 133 → Hid (u.cell? ⟨w.heap.size, 0, none⟩ = some (.int .u64 n) ∧ u.cell? ⟨w.heap.size, 1, none⟩ = some (.int .u32 c) ∧ u.cell? ⟨w.heap.size, 2, none⟩ = some (.int .u32 m) ∧ u.cell? ⟨w.heap.size, 3, none⟩ = some (.int .u32 s)) := fun u h => hide ⟨h.cell 0 _ rfl, h.cell 1 _ rfl, h.cell 2 _ rfl, h.cell 3 _ rfl⟩
  have hmk : (Instr.makeSlice 29 (.int .i64 512) (.int .i64 512)).run Tryz.prog (w.alloc (.cells #[.int .u64 n, .int .u32 c, .int .u32 m, .int .u32 s] 133)) = .ok (.slice (some ⟨w.heap.size + 1, 0, none⟩) 512 512) ((w.alloc (.cells #[.int .u64 n, .int .u32 c, .int .u32 m, .int .u32 s] 133)).alloc (.cells (madeCells #[.int .u8 0] T) 5)) := by
    have := run_make_bytes (w.alloc (.cells #[.int .u64 n, .int .u32 c, .int .u32 m, .int .u32 s] 133)) T (by omega)
    rw [hs1] at this
    rw [hT] at this ⊢
    exact this
  have HO2 : Hid (Own ((w.alloc (.cells #[.int .u64 n, .int .u32 c, .int .u32 m, .int .u32 s] 133)).alloc (.cells (madeCells #[.int .u8 0] T) 5)) w.heap.size (.slice (some ⟨w.heap.size + 1, 0, none⟩) T T) ([] ++ List.replicate (T - ([] : List Int).length) 0)) := hide (by
    have := (Own.made (w.alloc (.cells #[.int .u64 n, .int .u32 c, .int .u32 m, .int .u32 s] 133)) T (by unfold maxLen; omega)).mono (B' := w.heap.size) (by omega)
    rw [hs1] at this
    simpa using this)
  have HX2 := hide (hbx.below (((Below.refl _ _).alloc (Nat.le_refl _) (.cells (madeCells #[.int .u8 0] T) 5)) : Below (w.alloc (.cells #[.int .u64 n, .int .u32 c, .int .u32 m, .int .u32 s] 133)).heap.size (w.alloc (.cells #[.int .u64 n, .int .u32 c, .int .u32 m, .int .u32 s] 133)) _))
  have HB2 := hide (hb1.alloc hb1.size (.cells (madeCells #[.int .u8 0] T) 5))
  clear hbx hb1 hs1 HBx HB1
  generalize (w.alloc (.cells #[.int .u64 n, .int .u32 c, .int .u32 m, .int .u32 s] 133)).alloc (.cells (madeCells #[.int .u8 0] T) 5) = w2 at *
  clear hT
  rw [HT.out] at HO2
  go_wp2_with fail
  have hl0 : ([] : List Int).length = 0 := rfl
  refine (put32_row w.heap.size (w.heap.size + 1) ([] : List Int) 826954822 0 _ HO2.out (by rw [hl0]; omega) (by rw [hl0]; rfl)).mono ?_
  rintro e9 w3 ⟨rfl, ho3, hg3⟩
  have HO3 := hide ho3
  have HX3 : Hid (Blk w3 w.heap.size #[.int .u64 n, .int .u32 c, .int .u32 m, .int .u32 s] 133) := hide (HX2.out.chg (Chg.of_grown hg3) (by simp))
  have HB3 := hide (HB2.out.grown hg3 HB2.out.size (by intro j hj; simp at hj; omega))
  obtain ⟨x0, x1, x2, x3⟩ := (HX w3 HX3.out).out
  clear ho3 hg3
  go_wp2_with fail
  clear x0 x1 x2 x3
  have hl1 : ([] ++ leB 826954822 4).length = 4 := by simp [leB_length]
  refine (put64_row w.heap.size (w.heap.size + 1) ([] ++ leB 826954822 4) n 4 _ HO3.out (by rw [hl1]; omega) (by rw [hl1]; rfl)).mono ?_
  rintro e9 w4 ⟨rfl, ho4, hg4⟩
  have HO4 := hide ho4
  have HX4 : Hid (Blk w4 w.heap.size #[.int .u64 n, .int .u32 c, .int .u32 m, .int .u32 s] 133) := hide (HX3.out.chg (Chg.of_grown hg4) (by simp))
  have HB4 := hide (HB3.out.grown hg4 HB3.out.size (by intro j hj; simp at hj; omega))
  obtain ⟨x0, x1, x2, x3⟩ := (HX w4 HX4.out).out
  clear ho4 hg4
  go_wp2_with fail
  clear x0 x1 x2 x3
  have hl2 : (([] ++ leB 826954822 4) ++ leB n 8).length = 12 := by simp [leB_length]
  refine (put32_row w.heap.size (w.heap.size + 1) (([] ++ leB 826954822 4) ++ leB n 8) c 12 _ HO4.out (by rw [hl2]; omega) (by rw [hl2]; rfl)).mono ?_
  rintro e9 w5 ⟨rfl, ho5, hg5⟩
  have HO5 := hide ho5
  have HX5 : Hid (Blk w5 w.heap.size #[.int .u64 n, .int .u32 c, .int .u32 m, .int .u32 s] 133) := hide (HX4.out.chg (Chg.of_grown hg5) (by simp))
  have HB5 := hide (HB4.out.grown hg5 HB4.out.size (by intro j hj; simp at hj; omega))
  obtain ⟨x0, x1, x2, x3⟩ := (HX w5 HX5.out).out
  clear ho5 hg5
  go_wp2_with fail
  clear x0 x1 x2 x3
  have hl3 : ((([] ++ leB 826954822 4) ++ leB n 8) ++ leB c 4).length = 16 := by simp [leB_length]
  refine (put32_row w.heap.size (w.heap.size + 1) ((([] ++ leB 826954822 4) ++ leB n 8) ++ leB c 4) m 16 _ HO5.out (by rw [hl3]; omega) (by rw [hl3]; rfl)).mono ?_
  rintro e9 w6 ⟨rfl, ho6, hg6⟩
  have HO6 := hide ho6
  have HX6 : Hid (Blk w6 w.heap.size #[.int .u64 n, .int .u32 c, .int .u32 m, .int .u32 s] 133) := hide (HX5.out.chg (Chg.of_grown hg6) (by simp))
  have HB6 := hide (HB5.out.grown hg6 HB5.out.size (by intro j hj; simp at hj; omega))
  obtain ⟨x0, x1, x2, x3⟩ := (HX w6 HX6.out).out
  clear ho6 hg6
  go_wp2_with fail
  clear x0 x1 x2 x3
  have hl4 : (((([] ++ leB 826954822 4) ++ leB n 8) ++ leB c 4) ++ leB m 4).length = 20 := by simp [leB_length]
  refine (put32_row w.heap.size (w.heap.size + 1) (((([] ++ leB 826954822 4) ++ leB n 8) ++ leB c 4) ++ leB m 4) s 20 _ HO6.out (by rw [hl4]; omega) (by rw [hl4]; rfl)).mono ?_
  rintro e9 w7 ⟨rfl, ho7, hg7⟩
  have HO7 := hide ho7
  have HX7 : Hid (Blk w7 w.heap.size #[.int .u64 n, .int .u32 c, .int .u32 m, .int .u32 s] 133) := hide (HX6.out.chg (Chg.of_grown hg7) (by simp))
  have HB7 := hide (HB6.out.grown hg7 HB6.out.size (by intro j hj; simp at hj; omega))
  obtain ⟨x0, x1, x2, x3⟩ := (HX w7 HX7.out).out
  clear ho7 hg7
  go_wp2_with fail
  clear x0 x1 x2 x3
  have e5 : ((((([] ++ leB 826954822 4) ++ leB n 8) ++ leB c 4) ++ leB m 4) ++ leB s 4) = sgn5 n c m s := rfl
  rw [e5] at HO7
  have hl24 := sgn5_len n c m s
  have hsl : Sl w7 (some ⟨w.heap.size + 1, 0, none⟩) 512 (sgn5 n c m s) := by
    obtain ⟨a9, c9, e9, hL9, _⟩ := HO7.out.form
    simp only [Value.slice.injEq] at e9
    obtain ⟨rfl, -, -⟩ := e9
    have h2 := Lies.of_part hL9 0 24
    have h3 : ((sgn5 n c m s ++ List.replicate (512 - (sgn5 n c m s).length) 0).drop 0).take 24 = sgn5 n c m s := by
      rw [List.drop_zero, List.take_left' hl24]
    rw [h3] at h2
    exact ⟨by rw [hl24]; omega, by unfold maxLen; omega, fun h => (by cases h), h2⟩
  refine (Sum_one' (some ⟨w.heap.size + 1, 0, none⟩) 24 512 (sgn5 n c m s) w7 w7.heap.size rfl hl24.symm (by rw [hl24]; unfold maxLen; omega) (sgn5_byts n c m s) hsl).mono ?_
  rintro e9 w8 ⟨rfl, hb8⟩
  have HO8 := hide (HO7.out.below hb8)
  have HB8 := hide (HB7.out.trans (hb8.mono HB7.out.size))
  clear hb8 hsl
  go_wp2_with fail
  refine (put32_row w.heap.size (w.heap.size + 1) (sgn5 n c m s) (moreC 0 (sgn5 n c m s) : Int) 24 _ HO8.out (by rw [hl24]; omega) (by rw [hl24]; rfl)).mono ?_
  rintro e9 w9 ⟨rfl, ho9, hg9⟩
  have HO9 := hide ho9
  have HB9 := hide (HB8.out.grown hg9 HB8.out.size (by intro j hj; simp at hj; omega))
  clear ho9 hg9
  go_wp2_with fail
  go_ret
  exact ⟨w.heap.size + 1, rfl, HO9.out, HB9.out⟩

theorem Equal_any (a a' : Option Addr) (cap cap' : Nat) (l l' : List Int) (w : World) (hl : Lies w a l) (hl' : Lies w a' l') (hb : Byts l) (hb' : Byts l') :
    Calls Tryz.prog 98 #[.slice a l.length cap, .slice a' l'.length cap'] w fun e w' => e = .returned (.bool (decide (l = l'))) ∧ w' = w := by
  have h1 := run_text (P := Tryz.prog) (dst := 9) Tryz.underlying29 Tryz.underlying5 Tryz.underlying9 w a l cap hl
  have h2 := run_text (P := Tryz.prog) (dst := 9) Tryz.underlying29 Tryz.underlying5 Tryz.underlying9 w a' l' cap' hl'
  go_enter Tryz.func98, Tryz.ntmps98
  go_wp2
  go_ret
  refine ⟨?_, rfl⟩
  rw [← beq_text hb hb']
  rfl

/-- Is a sector a sign? Its four numbers are where they stand. -/
def isSgn (l : List Int) : Prop := l = secL (num l 4 8) (num l 12 4) (num l 16 4) (num l 20 4)

set_option maxRecDepth 100000 in
set_option maxHeartbeats 8000000 in
theorem signIn_any (a : Option Addr) (cap : Nat) (l : List Int) (w : World) (hlen : l.length = 512) (hb : Byts l) (hs : Lies w a l) :
    Calls Tryz.prog 82 #[.slice a 512 cap] w fun e w' => Below w.heap.size w w' ∧
      ((¬ isSgn l ∧ e = .returned (.tuple #[.agg #[.int .u64 0, .int .u32 0, .int .u32 0, .int .u32 0], .bool false])) ∨
       (isSgn l ∧ e = .returned (.tuple #[.agg #[.int .u64 (num l 4 8), .int .u32 (num l 12 4), .int .u32 (num l 16 4), .int .u32 (num l 20 4)], .bool true]))) := by
  have HS := hide hs
  have HBy := hide hb
  have HU8 : ∀ u, Lies u a l → Hid (Calls Tryz.prog 85 #[.slice a 512 cap, .int .i64 4] u fun e w' => e = .returned (.tuple #[.int .u64 (num l 4 8), .bool true]) ∧ w' = u) := fun u hu => hide (by
    have := U64_any a cap l ((4 : Nat) : Int) u (by rw [hlen]; unfold maxLen; omega) hb hu (by omega) (by omega)
    rw [numAt_yes (by omega), hlen, show thereB 512 ((4 : Nat) : Int) 8 = true from thereB_yes (by omega) (by omega) (by omega)] at this
    exact this)
  have HU4 : ∀ (p : Nat), p + 4 ≤ 512 → ∀ u, Lies u a l → Hid (Calls Tryz.prog 97 #[.slice a 512 cap, .int .i64 p] u fun e w' => e = .returned (.tuple #[.int .u32 (num l p 4), .bool true]) ∧ w' = u) := fun p hp u hu => hide (by
    have := U32_any a cap l (p : Int) u (by rw [hlen]; unfold maxLen; omega) hb hu (by omega) (by omega)
    rw [numAt_yes (by omega), hlen, show thereB 512 (p : Int) 4 = true from thereB_yes (by omega) (by omega) (by omega)] at this
    exact this)
  have HIs : Hid (isSgn l ↔ l = secL (num l 4 8) (num l 12 4) (num l 16 4) (num l 20 4)) := hide Iff.rfl
  have U1 := HU4 12 (by omega)
  have U2 := HU4 16 (by omega)
  have U3 := HU4 20 (by omega)
  clear HU4
  obtain ⟨x1, hx1⟩ : ∃ x1, num l 4 8 = x1 := ⟨_, rfl⟩
  obtain ⟨x2, hx2⟩ : ∃ x2, num l 12 4 = x2 := ⟨_, rfl⟩
  obtain ⟨x3, hx3⟩ : ∃ x3, num l 16 4 = x3 := ⟨_, rfl⟩
  obtain ⟨x4, hx4⟩ : ∃ x4, num l 20 4 = x4 := ⟨_, rfl⟩
  rw [hx1] at HU8 ⊢
  rw [hx2] at U1 ⊢
  rw [hx3] at U2 ⊢
  rw [hx4] at U3 ⊢
  rw [hx1, hx2, hx3, hx4] at HIs
  have HSe := fun u => hide (sector_any x1 x2 x3 x4 u)
  have HEq : ∀ u g, Lies u a l → Lies u (some ⟨g, 0, none⟩) (secL x1 x2 x3 x4) → Hid (Calls Tryz.prog 98 #[.slice a 512 cap, .slice (some ⟨g, 0, none⟩) 512 512] u fun e w' => e = .returned (.bool (decide (l = secL x1 x2 x3 x4))) ∧ w' = u) := fun u g h1 h2 => hide (by
    have := Equal_any a (some ⟨g, 0, none⟩) cap 512 l (secL x1 x2 x3 x4) u h1 h2 hb (secL_byts x1 x2 x3 x4)
    rw [hlen, secL_len] at this
    exact this)
  clear hb hs hx1 hx2 hx3 hx4
  have hb2 : Below w.heap.size w ((w.alloc (.cells #[.int .u64 0, .int .u32 0, .int .u32 0, .int .u32 0] 133)).alloc (.cells #[.int .u64 0, .int .u32 0, .int .u32 0, .int .u32 0] 133)) := ((Below.refl w.heap.size w).alloc (Nat.le_refl _) _).alloc (by simp) _
  have HR2 := hide ((Blk.new w #[.int .u64 0, .int .u32 0, .int .u32 0, .int .u32 0] 133).below (((Below.refl _ _).alloc (Nat.le_refl _) (.cells #[.int .u64 0, .int .u32 0, .int .u32 0, .int .u32 0] 133)) : Below _ _ _))
  have hq2 := Blk.new (w.alloc (.cells #[.int .u64 0, .int .u32 0, .int .u32 0, .int .u32 0] 133)) #[.int .u64 0, .int .u32 0, .int .u32 0, .int .u32 0] 133
  rw [show (w.alloc (.cells #[.int .u64 0, .int .u32 0, .int .u32 0, .int .u32 0] 133)).heap.size = w.heap.size + 1 by simp] at hq2
  have HQ2 := hide hq2
  have HB2 := hide hb2
  clear hq2 hb2
  go_enter Tryz.func82, Tryz.ntmps82
  go_wp2_with fail
  generalize (w.alloc (.cells #[.int .u64 0, .int .u32 0, .int .u32 0, .int .u32 0] 133)).alloc (.cells #[.int .u64 0, .int .u32 0, .int .u32 0, .int .u32 0] 133) = w2 at *
  refine ((HU8 _ (HS.out.below HB2.out)).out).mono ?_
  rintro e9 w9 ⟨rfl, h9⟩
  rw [h9]
  clear h9 w9
  have c0 := HQ2.out.cell 0 _ rfl
  have f0 := HQ2.out.frozen 0
  have HQ3 : Hid (Blk (w2.setCell ⟨w.heap.size + 1, 0, none⟩ (.int .u64 x1)) (w.heap.size + 1) #[.int .u64 x1, .int .u32 0, .int .u32 0, .int .u32 0] 133) := hide (HQ2.out.set 0 _)
  have HR3 := hide (HR2.out.other (show w.heap.size ≠ w.heap.size + 1 by omega) 0 (.int .u64 x1))
  have HB3 := hide (HB2.out.setCell (p := ⟨w.heap.size + 1, 0, none⟩) (by simp) (.int .u64 x1))
  go_wp2_with fail
  clear c0 f0
  generalize w2.setCell ⟨w.heap.size + 1, 0, none⟩ (.int .u64 x1) = w3 at *
  refine ((U1 _ (HS.out.below HB3.out)).out).mono ?_
  rintro e9 w9 ⟨rfl, h9⟩
  rw [h9]
  clear h9 w9
  have c1 := HQ3.out.cell 1 _ rfl
  have f1 := HQ3.out.frozen 1
  have HQ4 : Hid (Blk (w3.setCell ⟨w.heap.size + 1, 1, none⟩ (.int .u32 x2)) (w.heap.size + 1) #[.int .u64 x1, .int .u32 x2, .int .u32 0, .int .u32 0] 133) := hide (HQ3.out.set 1 _)
  have HR4 := hide (HR3.out.other (show w.heap.size ≠ w.heap.size + 1 by omega) 1 (.int .u32 x2))
  have HB4 := hide (HB3.out.setCell (p := ⟨w.heap.size + 1, 1, none⟩) (by simp) (.int .u32 x2))
  go_wp2_with fail
  clear c1 f1
  generalize w3.setCell ⟨w.heap.size + 1, 1, none⟩ (.int .u32 x2) = w4 at *
  refine ((U2 _ (HS.out.below HB4.out)).out).mono ?_
  rintro e9 w9 ⟨rfl, h9⟩
  rw [h9]
  clear h9 w9
  have c2 := HQ4.out.cell 2 _ rfl
  have f2 := HQ4.out.frozen 2
  have HQ5 : Hid (Blk (w4.setCell ⟨w.heap.size + 1, 2, none⟩ (.int .u32 x3)) (w.heap.size + 1) #[.int .u64 x1, .int .u32 x2, .int .u32 x3, .int .u32 0] 133) := hide (HQ4.out.set 2 _)
  have HR5 := hide (HR4.out.other (show w.heap.size ≠ w.heap.size + 1 by omega) 2 (.int .u32 x3))
  have HB5 := hide (HB4.out.setCell (p := ⟨w.heap.size + 1, 2, none⟩) (by simp) (.int .u32 x3))
  go_wp2_with fail
  clear c2 f2
  generalize w4.setCell ⟨w.heap.size + 1, 2, none⟩ (.int .u32 x3) = w5 at *
  refine ((U3 _ (HS.out.below HB5.out)).out).mono ?_
  rintro e9 w9 ⟨rfl, h9⟩
  rw [h9]
  clear h9 w9
  have c3 := HQ5.out.cell 3 _ rfl
  have d0 := HQ5.out.cell 0 _ rfl
  have d1 := HQ5.out.cell 1 _ rfl
  have d2 := HQ5.out.cell 2 _ rfl
  have f3 := HQ5.out.frozen 3
  have HQ6 : Hid (Blk (w5.setCell ⟨w.heap.size + 1, 3, none⟩ (.int .u32 x4)) (w.heap.size + 1) #[.int .u64 x1, .int .u32 x2, .int .u32 x3, .int .u32 x4] 133) := hide (HQ5.out.set 3 _)
  have HR6 := hide (HR5.out.other (show w.heap.size ≠ w.heap.size + 1 by omega) 3 (.int .u32 x4))
  have HB6 := hide (HB5.out.setCell (p := ⟨w.heap.size + 1, 3, none⟩) (by simp) (.int .u32 x4))
  go_wp2_with fail
  clear c3 f3 d0 d1 d2
  generalize w5.setCell ⟨w.heap.size + 1, 3, none⟩ (.int .u32 x4) = w6 at *
  refine ((HSe _).out).mono ?_
  rintro e9 w7 ⟨g, rfl, ho7, hb7⟩
  have hl7 : Lies w7 (some ⟨g, 0, none⟩) (secL x1 x2 x3 x4) := by
    obtain ⟨a9, c9, e9, hL9, _⟩ := ho7.form
    simp only [Value.slice.injEq] at e9
    obtain ⟨rfl, -, -⟩ := e9
    exact hL9
  have HB7 := hide (HB6.out.trans (hb7.mono HB6.out.size))
  have HR7 := hide (HR6.out.below hb7)
  have HQ7 := hide (HQ6.out.below hb7)
  have HE7 := hide ((HEq w7 g (HS.out.below HB7.out) hl7).out)
  clear ho7 hb7 hl7
  go_wp2_with fail
  refine HE7.out.mono ?_
  rintro e9 w9 ⟨rfl, h9⟩
  rw [h9]
  clear h9 w9
  have c0 := HR7.out.cell 0 _ rfl
  have c1 := HR7.out.cell 1 _ rfl
  have c2 := HR7.out.cell 2 _ rfl
  have c3 := HR7.out.cell 3 _ rfl
  have f0 := HR7.out.frozen 0
  have f1 := HR7.out.frozen 1
  have f2 := HR7.out.frozen 2
  have f3 := HR7.out.frozen 3
  have d0 := HQ7.out.cell 0 _ rfl
  have d1 := HQ7.out.cell 1 _ rfl
  have d2 := HQ7.out.cell 2 _ rfl
  have d3 := HQ7.out.cell 3 _ rfl
  by_cases heq : l = secL x1 x2 x3 x4
  · have hde : decide (l = secL x1 x2 x3 x4) = true := decide_eq_true heq
    rw [hde]
    have HEq9 := hide heq
    clear heq hde
    go_wp2_with fail
    refine bodyPost_ret (ret_agg rfl _ _ w.heap.size #[.int .u64 x1, .int .u32 x2, .int .u32 x3, .int .u32 x4] _ rfl rfl (run_loadVar_row _ w.heap.size 133 133 _ (0, 0) _ ((((HR7.out.set 0 _).set 1 _).set 2 _).set 3 _) Tryz.underlying133 rfl (by kernel_rfl))) rfl ?_
    refine ⟨(((HB7.out.setCell (p := ⟨w.heap.size, 0, none⟩) (Nat.le_refl _) _).setCell (p := ⟨w.heap.size, 1, none⟩) (Nat.le_refl _) _).setCell (p := ⟨w.heap.size, 2, none⟩) (Nat.le_refl _) _).setCell (p := ⟨w.heap.size, 3, none⟩) (Nat.le_refl _) _, Or.inr ⟨HIs.out.2 HEq9.out, rfl⟩⟩
  · have hde : decide (l = secL x1 x2 x3 x4) = false := decide_eq_false heq
    rw [hde]
    have HEq9 := hide heq
    clear heq hde
    go_wp2_with fail
    refine bodyPost_ret (ret_agg rfl _ _ w.heap.size #[.int .u64 0, .int .u32 0, .int .u32 0, .int .u32 0] _ rfl rfl (run_loadVar_row _ w.heap.size 133 133 _ (0, 0) _ ((((HR7.out.set 0 _).set 1 _).set 2 _).set 3 _) Tryz.underlying133 rfl (by kernel_rfl))) rfl ?_
    refine ⟨(((HB7.out.setCell (p := ⟨w.heap.size, 0, none⟩) (Nat.le_refl _) _).setCell (p := ⟨w.heap.size, 1, none⟩) (Nat.le_refl _) _).setCell (p := ⟨w.heap.size, 2, none⟩) (Nat.le_refl _) _).setCell (p := ⟨w.heap.size, 3, none⟩) (Nat.le_refl _) _, Or.inl ⟨fun h => HEq9.out (HIs.out.1 h), rfl⟩⟩
end Go.Proofs.YtibkhgmmjhlpmaaGreat.Oct
