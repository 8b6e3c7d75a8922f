/- What a super says is written into a part of a row. -/
import Derived.Test.YtjmajjfknmjifaaDoorPEva
import Derived.Test.YtjmajjfknmjifaaDoorPEyg
import Derived.Test.YtjmajjfknmjifaaDoorPEyc
import Derived.Test.YtjmajjfknmjifaaDoorPAppChg
namespace Go.Proofs.YtjmajjfknmjifaaDoor.Oct
open Go.RowKit

/-- Bytes with the first numbers that are the same in all supers. -/
def f4P (l : List Int) (off : Nat) : Nat → List Int
  | 0 => l
  | 1 => putN l (off + 20) 1 4
  | 2 => putN (putN l (off + 20) 1 4) (off + 24) 0 4
  | 3 => putN (putN (putN l (off + 20) 1 4) (off + 24) 0 4) (off + 76) 1 4
  | _ => putN (putN (putN (putN l (off + 20) 1 4) (off + 24) 0 4) (off + 76) 1 4) (off + 100) 0 4

theorem f4P_len (l : List Int) (off k : Nat) : (f4P l off k).length = l.length := by
  unfold f4P
  split <;> simp only [putN_length]
/-- Bytes with what a super says; the first so many of its numbers. -/
def spP (s : Sp) (l : List Int) (off : Nat) : Nat → List Int
  | 0 => f4P l off 4
  | 1 => putN (spP s l off 0) (off + 0) s.ino 4
  | 2 => putN (spP s l off 1) (off + 4) s.blo 4
  | 3 => putN (spP s l off 2) (off + 12) s.fbl 4
  | 4 => putN (spP s l off 3) (off + 16) s.fin 4
  | 5 => putN (spP s l off 4) (off + 32) s.per 4
  | 6 => putN (spP s l off 5) (off + 36) s.per 4
  | 7 => putN (spP s l off 6) (off + 40) s.each 4
  | 8 => putN (spP s l off 7) (off + 56) 61267 2
  | 9 => putN (spP s l off 8) (off + 84) s.first 4
  | 10 => putN (spP s l off 9) (off + 88) 128 2
  | 11 => putN (spP s l off 10) (off + 96) (if s.ty = true then 2 else 0) 4
  | _ + 12 => []

theorem spP_len (s : Sp) (l : List Int) (off : Nat) : ∀ k, k ≤ 11 → (spP s l off k).length = l.length
  | 0, _ => by unfold spP; exact f4P_len _ _ _
  | 1, _ => by rw [spP, putN_length]; exact spP_len s l off 0 (by omega)
  | 2, _ => by rw [spP, putN_length]; exact spP_len s l off 1 (by omega)
  | 3, _ => by rw [spP, putN_length]; exact spP_len s l off 2 (by omega)
  | 4, _ => by rw [spP, putN_length]; exact spP_len s l off 3 (by omega)
  | 5, _ => by rw [spP, putN_length]; exact spP_len s l off 4 (by omega)
  | 6, _ => by rw [spP, putN_length]; exact spP_len s l off 5 (by omega)
  | 7, _ => by rw [spP, putN_length]; exact spP_len s l off 6 (by omega)
  | 8, _ => by rw [spP, putN_length]; exact spP_len s l off 7 (by omega)
  | 9, _ => by rw [spP, putN_length]; exact spP_len s l off 8 (by omega)
  | 10, _ => by rw [spP, putN_length]; exact spP_len s l off 9 (by omega)
  | 11, _ => by rw [spP, putN_length]; exact spP_len s l off 10 (by omega)
  | n + 12, h => by omega

/-- All of them. -/
def spB (s : Sp) (l : List Int) (off : Nat) : List Int := spP s l off 11

theorem Sp.chk_says {s : Sp} (h : s.chk = 0) : s.sized = true ∧ s.grp ≤ 32 ∧ s.counted = true := by
  unfold Sp.chk at h
  split at h
  · exact absurd h (by decide)
  rename_i h1
  split at h
  · exact absurd h (by decide)
  rename_i h2
  split at h
  · exact absurd h (by decide)
  rename_i h3
  exact ⟨by simpa using h1, by omega, by simpa using h3⟩

theorem Sp.nums {s : Sp} (h : s.chk = 0) : (0 ≤ s.ino ∧ s.ino ≤ 262144) ∧ (8 ≤ s.blo ∧ s.blo ≤ 16384) ∧ (0 ≤ s.fbl ∧ s.fbl ≤ 16384) ∧ (0 ≤ s.fin ∧ s.fin ≤ 262144) ∧ (64 ≤ s.per ∧ s.per ≤ 8192) ∧ (8 ≤ s.each ∧ s.each ≤ 8192) ∧ (3 ≤ s.first ∧ s.first ≤ 8192) := by
  obtain ⟨h1, h2, h3⟩ := Sp.chk_says h
  have hs := Sp.sized_says h1
  have hg := Sp.grp_in h1
  simp [Sp.counted, winE] at h3
  have h4 : s.grp * s.each ≤ 32 * 8192 := Int.mul_le_mul (by omega) (by omega) (by omega) (by omega)
  have h5 : 0 ≤ s.grp * s.each := Int.mul_nonneg (by omega) (by omega)
  omega

set_option maxHeartbeats 16000000 in
set_option maxRecDepth 100000 in
theorem spput_yes (s : Sp) (B g cap0 off cap : Nat) (l : List Int) (w : World) (hV : VarX w) (hl : l.length ≤ 100000000) (hoff : off + 1024 ≤ l.length) (hB : B ≤ w.heap.size) (hg1 : 0 < g) (hk : s.chk = 0) (hown : Own w B (.slice (some ⟨g, 0, none⟩) l.length cap0) l) :
    Calls Tryd.prog 12 #[.agg s.cs, .slice (some ⟨g, off, none⟩) 1024 cap] w fun e w' => e = .returned (.int .i64 0) ∧ Own w' B (.slice (some ⟨g, 0, none⟩) l.length cap0) (spB s l off) ∧ Chg (fun k => some k = some g) w w' := by
  obtain ⟨w1, hw1⟩ : ∃ w1, w1 = w.alloc (.cells s.cs 23) := ⟨_, rfl⟩
  have hc0 := cells_sp (Blk.new w s.cs 23)
  have hb1 : Below w.heap.size w w1 := by rw [hw1]; exact (Below.refl w.heap.size w).alloc (Nat.le_refl _) _
  have HI := hide (show Blk w1 w.heap.size s.cs 23 by rw [hw1]; exact Blk.new w s.cs 23)
  have HW1 := hide hw1
  have HB1 := hide hb1
  have HO1 := hide (hown.below hb1)
  have HV1 := hide (hV.below hb1)
  have HCk := fun u => hide (chk_any s u)
  rw [hk] at HCk
  have hnu := Sp.nums hk
  have HH := hide (And.intro hl (And.intro hoff (And.intro hB hg1)))
  have hgw := (World.ownsRow.lt hown g rfl).2
  have v0 : IntKind.u32.wrap s.ino = s.ino := by rw [IntKind.wrap_u32]; omega
  have v1 : IntKind.u32.wrap s.blo = s.blo := by rw [IntKind.wrap_u32]; omega
  have v2 : IntKind.u32.wrap s.fbl = s.fbl := by rw [IntKind.wrap_u32]; omega
  have v3 : IntKind.u32.wrap s.fin = s.fin := by rw [IntKind.wrap_u32]; omega
  have v4 : IntKind.u32.wrap s.per = s.per := by rw [IntKind.wrap_u32]; omega
  have v5 : IntKind.u32.wrap s.each = s.each := by rw [IntKind.wrap_u32]; omega
  have v6 : IntKind.u32.wrap s.first = s.first := by rw [IntKind.wrap_u32]; omega
  have i0 := fun u => (ix_f4 u).1
  have i1 := fun u => (ix_f4 u).2.1
  have i2 := fun u => (ix_f4 u).2.2.1
  have i3 := fun u => (ix_f4 u).2.2.2
  obtain ⟨N, hN⟩ : ∃ N, N = l.length := ⟨_, rfl⟩
  have HN := hide hN
  rw [← hN] at HO1 hown ⊢
  clear hown hV hb1 hw1 hl hoff hk hB hg1 hN hnu
  obtain ⟨c0, c1, c2, c3, c4, c5, c6, c7⟩ := hc0
  go_enter Tryd.func12, Tryd.ntmps12
  go_wp2_with fail
  rw [← HW1.out]
  clear c0 c1 c2 c3 c4 c5 c6 c7
  refine (HCk _).out.mono ?_
  rintro e9 w2 ⟨rfl, h2⟩
  have HI2 := hide (HI.out.below h2)
  have HO2 := hide (HO1.out.below h2)
  have HV2 := hide (HV1.out.below h2)
  have HB2 := hide (HB1.out.trans (h2.mono HB1.out.size))
  clear h2
  obtain ⟨s0, s1, s2, s3, s4, s5, s6, s7⟩ := HV2.out.all
  go_wp2_with fail
  clear s0 s1 s2 s3 s4 s5 s6 s7
  have HCg := hide (Chg.of_below (X := (fun k => some k = some g)) HB2.out)
  go_loopw [18] (fun i wr => ∃ j : Nat, j ≤ 4 ∧ i = .int .i64 (j : Int) ∧ Own wr B (.slice (some ⟨g, 0, none⟩) N cap0) (f4P l off j) ∧ Blk wr w.heap.size s.cs 23 ∧ Chg (fun k => some k = some g) w wr) (fun i _ => 4 - (intOf i).toNat)
  case atStart => exact ⟨0, by omega, rfl, HO2.out, HI2.out, HCg.out⟩
  case round =>
    obtain ⟨j, hj, rfl, ho, hk, hc⟩ := hrel
    have HO := hide ho
    have HKr := hide hk
    have HC := hide hc
    clear ho hk hc
    obtain rfl | rfl | rfl | rfl | rfl : j = 0 ∨ j = 1 ∨ j = 2 ∨ j = 3 ∨ j = 4 := by omega
    · skip
      have HL := hide (show (f4P l off 0).length = N by rw [f4P_len]; exact HN.out.symm)
      have hx4 := Blk.new wr #[.int .i64 20, .int .u32 1] 85
      have x0 : (wr.alloc (.cells #[.int .i64 20, .int .u32 1] 85)).cell? ⟨wr.heap.size, 0, none⟩ = some (.int .i64 20) := hx4.cell 0 _ rfl
      have x1 : (wr.alloc (.cells #[.int .i64 20, .int .u32 1] 85)).cell? ⟨wr.heap.size, 1, none⟩ = some (.int .u32 1) := hx4.cell 1 _ rfl
      have hb4 : Below wr.heap.size wr (wr.alloc (.cells #[.int .i64 20, .int .u32 1] 85)) := (Below.refl _ _).alloc (Nat.le_refl _) _
      have HPu := hide (Put32_sub B g cap0 (f4P l off 0) off 1024 cap 20 1 (wr.alloc (.cells #[.int .i64 20, .int .u32 1] 85)) (by rw [HL.out, HN.out]; have := HH.out.1; unfold maxLen; omega) (by rw [HL.out, HN.out]; exact HH.out.2.1) (by omega) (by rw [HL.out]; exact HO.out.below hb4))
      rw [HL.out] at HPu
      have HC4 := hide (HC.out.alloc (.cells #[.int .i64 20, .int .u32 1] 85))
      have HK4 := hide (HKr.out.below hb4)
      clear hx4 hb4
      go_wp2_with fail
      refine HPu.out.mono ?_
      rintro e9 w5 ⟨rfl, ho5, hg5⟩
      have HO5 := hide ho5
      have HC5 := hide (HC4.out.trans (Chg.of_grown hg5))
      have HK5 := hide (HK4.out.chg (Chg.of_grown hg5) (fun e => by have := Option.some.inj e; omega))
      clear ho5 hg5
      go_wp2_with fail
      go_roundw
      case rel => exact ⟨1, by omega, by go_num, HO5.out, HK5.out, HC5.out⟩
      case measure => simp [intOf]
    · skip
      have HL := hide (show (f4P l off 1).length = N by rw [f4P_len]; exact HN.out.symm)
      have hx4 := Blk.new wr #[.int .i64 24, .int .u32 0] 85
      have x0 : (wr.alloc (.cells #[.int .i64 24, .int .u32 0] 85)).cell? ⟨wr.heap.size, 0, none⟩ = some (.int .i64 24) := hx4.cell 0 _ rfl
      have x1 : (wr.alloc (.cells #[.int .i64 24, .int .u32 0] 85)).cell? ⟨wr.heap.size, 1, none⟩ = some (.int .u32 0) := hx4.cell 1 _ rfl
      have hb4 : Below wr.heap.size wr (wr.alloc (.cells #[.int .i64 24, .int .u32 0] 85)) := (Below.refl _ _).alloc (Nat.le_refl _) _
      have HPu := hide (Put32_sub B g cap0 (f4P l off 1) off 1024 cap 24 0 (wr.alloc (.cells #[.int .i64 24, .int .u32 0] 85)) (by rw [HL.out, HN.out]; have := HH.out.1; unfold maxLen; omega) (by rw [HL.out, HN.out]; exact HH.out.2.1) (by omega) (by rw [HL.out]; exact HO.out.below hb4))
      rw [HL.out] at HPu
      have HC4 := hide (HC.out.alloc (.cells #[.int .i64 24, .int .u32 0] 85))
      have HK4 := hide (HKr.out.below hb4)
      clear hx4 hb4
      go_wp2_with fail
      refine HPu.out.mono ?_
      rintro e9 w5 ⟨rfl, ho5, hg5⟩
      have HO5 := hide ho5
      have HC5 := hide (HC4.out.trans (Chg.of_grown hg5))
      have HK5 := hide (HK4.out.chg (Chg.of_grown hg5) (fun e => by have := Option.some.inj e; omega))
      clear ho5 hg5
      go_wp2_with fail
      go_roundw
      case rel => exact ⟨2, by omega, by go_num, HO5.out, HK5.out, HC5.out⟩
      case measure => simp [intOf]
    · skip
      have HL := hide (show (f4P l off 2).length = N by rw [f4P_len]; exact HN.out.symm)
      have hx4 := Blk.new wr #[.int .i64 76, .int .u32 1] 85
      have x0 : (wr.alloc (.cells #[.int .i64 76, .int .u32 1] 85)).cell? ⟨wr.heap.size, 0, none⟩ = some (.int .i64 76) := hx4.cell 0 _ rfl
      have x1 : (wr.alloc (.cells #[.int .i64 76, .int .u32 1] 85)).cell? ⟨wr.heap.size, 1, none⟩ = some (.int .u32 1) := hx4.cell 1 _ rfl
      have hb4 : Below wr.heap.size wr (wr.alloc (.cells #[.int .i64 76, .int .u32 1] 85)) := (Below.refl _ _).alloc (Nat.le_refl _) _
      have HPu := hide (Put32_sub B g cap0 (f4P l off 2) off 1024 cap 76 1 (wr.alloc (.cells #[.int .i64 76, .int .u32 1] 85)) (by rw [HL.out, HN.out]; have := HH.out.1; unfold maxLen; omega) (by rw [HL.out, HN.out]; exact HH.out.2.1) (by omega) (by rw [HL.out]; exact HO.out.below hb4))
      rw [HL.out] at HPu
      have HC4 := hide (HC.out.alloc (.cells #[.int .i64 76, .int .u32 1] 85))
      have HK4 := hide (HKr.out.below hb4)
      clear hx4 hb4
      go_wp2_with fail
      refine HPu.out.mono ?_
      rintro e9 w5 ⟨rfl, ho5, hg5⟩
      have HO5 := hide ho5
      have HC5 := hide (HC4.out.trans (Chg.of_grown hg5))
      have HK5 := hide (HK4.out.chg (Chg.of_grown hg5) (fun e => by have := Option.some.inj e; omega))
      clear ho5 hg5
      go_wp2_with fail
      go_roundw
      case rel => exact ⟨3, by omega, by go_num, HO5.out, HK5.out, HC5.out⟩
      case measure => simp [intOf]
    · skip
      have HL := hide (show (f4P l off 3).length = N by rw [f4P_len]; exact HN.out.symm)
      have hx4 := Blk.new wr #[.int .i64 100, .int .u32 0] 85
      have x0 : (wr.alloc (.cells #[.int .i64 100, .int .u32 0] 85)).cell? ⟨wr.heap.size, 0, none⟩ = some (.int .i64 100) := hx4.cell 0 _ rfl
      have x1 : (wr.alloc (.cells #[.int .i64 100, .int .u32 0] 85)).cell? ⟨wr.heap.size, 1, none⟩ = some (.int .u32 0) := hx4.cell 1 _ rfl
      have hb4 : Below wr.heap.size wr (wr.alloc (.cells #[.int .i64 100, .int .u32 0] 85)) := (Below.refl _ _).alloc (Nat.le_refl _) _
      have HPu := hide (Put32_sub B g cap0 (f4P l off 3) off 1024 cap 100 0 (wr.alloc (.cells #[.int .i64 100, .int .u32 0] 85)) (by rw [HL.out, HN.out]; have := HH.out.1; unfold maxLen; omega) (by rw [HL.out, HN.out]; exact HH.out.2.1) (by omega) (by rw [HL.out]; exact HO.out.below hb4))
      rw [HL.out] at HPu
      have HC4 := hide (HC.out.alloc (.cells #[.int .i64 100, .int .u32 0] 85))
      have HK4 := hide (HKr.out.below hb4)
      clear hx4 hb4
      go_wp2_with fail
      refine HPu.out.mono ?_
      rintro e9 w5 ⟨rfl, ho5, hg5⟩
      have HO5 := hide ho5
      have HC5 := hide (HC4.out.trans (Chg.of_grown hg5))
      have HK5 := hide (HK4.out.chg (Chg.of_grown hg5) (fun e => by have := Option.some.inj e; omega))
      clear ho5 hg5
      go_wp2_with fail
      go_roundw
      case rel => exact ⟨4, by omega, by go_num, HO5.out, HK5.out, HC5.out⟩
      case measure => simp [intOf]
    · skip
      have HO0 := hide (show Own wr B (.slice (some ⟨g, 0, none⟩) N cap0) (spP s l off 0) by rw [spP]; exact HO.out)
      have HK0 := hide HKr.out
      have HC0 := hide HC.out
      have HL0 := hide (show (spP s l off 0).length = N by rw [spP_len _ _ _ _ (by omega)]; exact HN.out.symm)
      clear HO HKr HC i0 i1 i2 i3
      have d0 := HK0.out.cell 0 _ rfl
      have HPu := hide (Put32_sub B g cap0 (spP s l off 0) off 1024 cap 0 s.ino wr (by rw [HL0.out, HN.out]; have := HH.out.1; unfold maxLen; omega) (by rw [HL0.out, HN.out]; exact HH.out.2.1) (by omega) (by rw [HL0.out]; exact HO0.out))
      rw [HL0.out] at HPu
      go_wp2_with fail
      refine HPu.out.mono ?_
      rintro e9 y0 ⟨rfl, ho5, hg5⟩
      have HO1 := hide (show Own y0 B (.slice (some ⟨g, 0, none⟩) N cap0) (spP s l off 1) by rw [spP]; exact ho5)
      have HC1 := hide (HC0.out.trans (Chg.of_grown hg5))
      have HK1 := hide (HK0.out.chg (Chg.of_grown hg5) (fun e => by have := Option.some.inj e; omega))
      have HL1 := hide (show (spP s l off 1).length = N by rw [spP_len _ _ _ _ (by omega)]; exact HN.out.symm)
      clear ho5 hg5 HPu HO0 HC0 HK0 HL0 d0
      have d1 := HK1.out.cell 1 _ rfl
      have HPu := hide (Put32_sub B g cap0 (spP s l off 1) off 1024 cap 4 s.blo y0 (by rw [HL1.out, HN.out]; have := HH.out.1; unfold maxLen; omega) (by rw [HL1.out, HN.out]; exact HH.out.2.1) (by omega) (by rw [HL1.out]; exact HO1.out))
      rw [HL1.out] at HPu
      go_wp2_with fail
      refine HPu.out.mono ?_
      rintro e9 y1 ⟨rfl, ho5, hg5⟩
      have HO2 := hide (show Own y1 B (.slice (some ⟨g, 0, none⟩) N cap0) (spP s l off 2) by rw [spP]; exact ho5)
      have HC2 := hide (HC1.out.trans (Chg.of_grown hg5))
      have HK2 := hide (HK1.out.chg (Chg.of_grown hg5) (fun e => by have := Option.some.inj e; omega))
      have HL2 := hide (show (spP s l off 2).length = N by rw [spP_len _ _ _ _ (by omega)]; exact HN.out.symm)
      clear ho5 hg5 HPu HO1 HC1 HK1 HL1 d1
      have d2 := HK2.out.cell 2 _ rfl
      have HPu := hide (Put32_sub B g cap0 (spP s l off 2) off 1024 cap 12 s.fbl y1 (by rw [HL2.out, HN.out]; have := HH.out.1; unfold maxLen; omega) (by rw [HL2.out, HN.out]; exact HH.out.2.1) (by omega) (by rw [HL2.out]; exact HO2.out))
      rw [HL2.out] at HPu
      go_wp2_with fail
      refine HPu.out.mono ?_
      rintro e9 y2 ⟨rfl, ho5, hg5⟩
      have HO3 := hide (show Own y2 B (.slice (some ⟨g, 0, none⟩) N cap0) (spP s l off 3) by rw [spP]; exact ho5)
      have HC3 := hide (HC2.out.trans (Chg.of_grown hg5))
      have HK3 := hide (HK2.out.chg (Chg.of_grown hg5) (fun e => by have := Option.some.inj e; omega))
      have HL3 := hide (show (spP s l off 3).length = N by rw [spP_len _ _ _ _ (by omega)]; exact HN.out.symm)
      clear ho5 hg5 HPu HO2 HC2 HK2 HL2 d2
      have d3 := HK3.out.cell 3 _ rfl
      have HPu := hide (Put32_sub B g cap0 (spP s l off 3) off 1024 cap 16 s.fin y2 (by rw [HL3.out, HN.out]; have := HH.out.1; unfold maxLen; omega) (by rw [HL3.out, HN.out]; exact HH.out.2.1) (by omega) (by rw [HL3.out]; exact HO3.out))
      rw [HL3.out] at HPu
      go_wp2_with fail
      refine HPu.out.mono ?_
      rintro e9 y3 ⟨rfl, ho5, hg5⟩
      have HO4 := hide (show Own y3 B (.slice (some ⟨g, 0, none⟩) N cap0) (spP s l off 4) by rw [spP]; exact ho5)
      have HC4 := hide (HC3.out.trans (Chg.of_grown hg5))
      have HK4 := hide (HK3.out.chg (Chg.of_grown hg5) (fun e => by have := Option.some.inj e; omega))
      have HL4 := hide (show (spP s l off 4).length = N by rw [spP_len _ _ _ _ (by omega)]; exact HN.out.symm)
      clear ho5 hg5 HPu HO3 HC3 HK3 HL3 d3
      have d4 := HK4.out.cell 4 _ rfl
      have HPu := hide (Put32_sub B g cap0 (spP s l off 4) off 1024 cap 32 s.per y3 (by rw [HL4.out, HN.out]; have := HH.out.1; unfold maxLen; omega) (by rw [HL4.out, HN.out]; exact HH.out.2.1) (by omega) (by rw [HL4.out]; exact HO4.out))
      rw [HL4.out] at HPu
      go_wp2_with fail
      refine HPu.out.mono ?_
      rintro e9 y4 ⟨rfl, ho5, hg5⟩
      have HO5 := hide (show Own y4 B (.slice (some ⟨g, 0, none⟩) N cap0) (spP s l off 5) by rw [spP]; exact ho5)
      have HC5 := hide (HC4.out.trans (Chg.of_grown hg5))
      have HK5 := hide (HK4.out.chg (Chg.of_grown hg5) (fun e => by have := Option.some.inj e; omega))
      have HL5 := hide (show (spP s l off 5).length = N by rw [spP_len _ _ _ _ (by omega)]; exact HN.out.symm)
      clear ho5 hg5 HPu HO4 HC4 HK4 HL4 d4
      have d4 := HK5.out.cell 4 _ rfl
      have HPu := hide (Put32_sub B g cap0 (spP s l off 5) off 1024 cap 36 s.per y4 (by rw [HL5.out, HN.out]; have := HH.out.1; unfold maxLen; omega) (by rw [HL5.out, HN.out]; exact HH.out.2.1) (by omega) (by rw [HL5.out]; exact HO5.out))
      rw [HL5.out] at HPu
      go_wp2_with fail
      refine HPu.out.mono ?_
      rintro e9 y5 ⟨rfl, ho5, hg5⟩
      have HO6 := hide (show Own y5 B (.slice (some ⟨g, 0, none⟩) N cap0) (spP s l off 6) by rw [spP]; exact ho5)
      have HC6 := hide (HC5.out.trans (Chg.of_grown hg5))
      have HK6 := hide (HK5.out.chg (Chg.of_grown hg5) (fun e => by have := Option.some.inj e; omega))
      have HL6 := hide (show (spP s l off 6).length = N by rw [spP_len _ _ _ _ (by omega)]; exact HN.out.symm)
      clear ho5 hg5 HPu HO5 HC5 HK5 HL5 d4
      have d5 := HK6.out.cell 5 _ rfl
      have HPu := hide (Put32_sub B g cap0 (spP s l off 6) off 1024 cap 40 s.each y5 (by rw [HL6.out, HN.out]; have := HH.out.1; unfold maxLen; omega) (by rw [HL6.out, HN.out]; exact HH.out.2.1) (by omega) (by rw [HL6.out]; exact HO6.out))
      rw [HL6.out] at HPu
      go_wp2_with fail
      refine HPu.out.mono ?_
      rintro e9 y6 ⟨rfl, ho5, hg5⟩
      have HO7 := hide (show Own y6 B (.slice (some ⟨g, 0, none⟩) N cap0) (spP s l off 7) by rw [spP]; exact ho5)
      have HC7 := hide (HC6.out.trans (Chg.of_grown hg5))
      have HK7 := hide (HK6.out.chg (Chg.of_grown hg5) (fun e => by have := Option.some.inj e; omega))
      have HL7 := hide (show (spP s l off 7).length = N by rw [spP_len _ _ _ _ (by omega)]; exact HN.out.symm)
      clear ho5 hg5 HPu HO6 HC6 HK6 HL6 d5
      have HPu := hide (Put16_sub B g cap0 (spP s l off 7) off 1024 cap 56 61267 y6 (by rw [HL7.out, HN.out]; have := HH.out.1; unfold maxLen; omega) (by rw [HL7.out, HN.out]; exact HH.out.2.1) (by omega) (by rw [HL7.out]; exact HO7.out))
      rw [HL7.out] at HPu
      go_wp2_with fail
      refine HPu.out.mono ?_
      rintro e9 y7 ⟨rfl, ho5, hg5⟩
      have HO8 := hide (show Own y7 B (.slice (some ⟨g, 0, none⟩) N cap0) (spP s l off 8) by rw [spP]; exact ho5)
      have HC8 := hide (HC7.out.trans (Chg.of_grown hg5))
      have HK8 := hide (HK7.out.chg (Chg.of_grown hg5) (fun e => by have := Option.some.inj e; omega))
      have HL8 := hide (show (spP s l off 8).length = N by rw [spP_len _ _ _ _ (by omega)]; exact HN.out.symm)
      clear ho5 hg5 HPu HO7 HC7 HK7 HL7
      have d6 := HK8.out.cell 6 _ rfl
      have HPu := hide (Put32_sub B g cap0 (spP s l off 8) off 1024 cap 84 s.first y7 (by rw [HL8.out, HN.out]; have := HH.out.1; unfold maxLen; omega) (by rw [HL8.out, HN.out]; exact HH.out.2.1) (by omega) (by rw [HL8.out]; exact HO8.out))
      rw [HL8.out] at HPu
      go_wp2_with fail
      refine HPu.out.mono ?_
      rintro e9 y8 ⟨rfl, ho5, hg5⟩
      have HO9 := hide (show Own y8 B (.slice (some ⟨g, 0, none⟩) N cap0) (spP s l off 9) by rw [spP]; exact ho5)
      have HC9 := hide (HC8.out.trans (Chg.of_grown hg5))
      have HK9 := hide (HK8.out.chg (Chg.of_grown hg5) (fun e => by have := Option.some.inj e; omega))
      have HL9 := hide (show (spP s l off 9).length = N by rw [spP_len _ _ _ _ (by omega)]; exact HN.out.symm)
      clear ho5 hg5 HPu HO8 HC8 HK8 HL8 d6
      have HPu := hide (Put16_sub B g cap0 (spP s l off 9) off 1024 cap 88 128 y8 (by rw [HL9.out, HN.out]; have := HH.out.1; unfold maxLen; omega) (by rw [HL9.out, HN.out]; exact HH.out.2.1) (by omega) (by rw [HL9.out]; exact HO9.out))
      rw [HL9.out] at HPu
      go_wp2_with fail
      refine HPu.out.mono ?_
      rintro e9 y9 ⟨rfl, ho5, hg5⟩
      have HO10 := hide (show Own y9 B (.slice (some ⟨g, 0, none⟩) N cap0) (spP s l off 10) by rw [spP]; exact ho5)
      have HC10 := hide (HC9.out.trans (Chg.of_grown hg5))
      have HK10 := hide (HK9.out.chg (Chg.of_grown hg5) (fun e => by have := Option.some.inj e; omega))
      have HL10 := hide (show (spP s l off 10).length = N by rw [spP_len _ _ _ _ (by omega)]; exact HN.out.symm)
      clear ho5 hg5 HPu HO9 HC9 HK9 HL9
      have d7 := HK10.out.cell 7 _ rfl
      cases hty : s.ty
      · have d7' : y9.cell? ⟨w.heap.size, 7, none⟩ = some (.bool false) := by rw [← hty]; exact d7
        have HTy := hide (show (if s.ty = true then (2 : Int) else 0) = 0 by rw [hty]; rfl)
        have HPu := hide (Put32_sub B g cap0 (spP s l off 10) off 1024 cap 96 0 y9 (by rw [HL10.out, HN.out]; have := HH.out.1; unfold maxLen; omega) (by rw [HL10.out, HN.out]; exact HH.out.2.1) (by omega) (by rw [HL10.out]; exact HO10.out))
        rw [HL10.out] at HPu
        clear d7 hty
        go_wp2_with fail
        refine HPu.out.mono ?_
        rintro e9 y10 ⟨rfl, ho5, hg5⟩
        have HOf := hide (show Own y10 B (.slice (some ⟨g, 0, none⟩) N cap0) (spB s l off) by unfold spB; rw [spP, HTy.out]; exact ho5)
        have HCf := hide (HC10.out.trans (Chg.of_grown hg5))
        clear ho5 hg5 HPu
        go_wp2_with fail
        go_ret
        exact ⟨rfl, HOf.out, HCf.out⟩
      · have d7' : y9.cell? ⟨w.heap.size, 7, none⟩ = some (.bool true) := by rw [← hty]; exact d7
        have HTy := hide (show (if s.ty = true then (2 : Int) else 0) = 2 by rw [hty]; rfl)
        have HPu := hide (Put32_sub B g cap0 (spP s l off 10) off 1024 cap 96 2 y9 (by rw [HL10.out, HN.out]; have := HH.out.1; unfold maxLen; omega) (by rw [HL10.out, HN.out]; exact HH.out.2.1) (by omega) (by rw [HL10.out]; exact HO10.out))
        rw [HL10.out] at HPu
        clear d7 hty
        go_wp2_with fail
        refine HPu.out.mono ?_
        rintro e9 y10 ⟨rfl, ho5, hg5⟩
        have HOf := hide (show Own y10 B (.slice (some ⟨g, 0, none⟩) N cap0) (spB s l off) by unfold spB; rw [spP, HTy.out]; exact ho5)
        have HCf := hide (HC10.out.trans (Chg.of_grown hg5))
        clear ho5 hg5 HPu
        go_wp2_with fail
        go_ret
        exact ⟨rfl, HOf.out, HCf.out⟩
end Go.Proofs.YtjmajjfknmjifaaDoor.Oct
