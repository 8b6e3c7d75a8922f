/- What a first sector says: Check. -/
import Derived.Test.YtcbbaoiefdbcpaaDoorPFba
namespace Go.Proofs.YtcbbaoiefdbcpaaDoor.Oct
open Go.RowKit

/-- May each field be what it is? -/
def Bt.form (b : Bt) : Bool := (((((((b.each == 1 || b.each == 2 || b.each == 4 || b.each == 8) && witN 1 2 b.tabs) && witN 1 32768 b.secs) && witN 1 b.secs b.long) && witN 2 64 b.ahead) && witN 1 (b.ahead - 1) b.info) && witN 0 (b.ahead - 1) b.copy) && b.copy != b.info

set_option maxHeartbeats 8000000 in
theorem formed_any (b : Bt) (w : World) :
    Calls Tryd.prog 64 #[.agg b.cs] w fun e w' => e = .returned (.bool b.form) ∧ Below w.heap.size w w' := by
  obtain ⟨c0, c1, c2, c3, c4, c5, c6, c7⟩ := cells_of (Blk.new w b.cs 63)
  have HB := hide ((Below.refl w.heap.size w).alloc (Nat.le_refl _) (.cells b.cs 63))
  have HWi := fun x y n u => hide (within_any x y n u)
  by_cases he : (b.each == 1 || b.each == 2 || b.each == 4 || b.each == 8) = true
  · have HE := hide he
    have hcs : (b.each == 1) = true ∨ ((b.each == 1) = false ∧ (b.each == 2) = true) ∨ ((b.each == 1) = false ∧ (b.each == 2) = false ∧ (b.each == 4) = true) ∨ ((b.each == 1) = false ∧ (b.each == 2) = false ∧ (b.each == 4) = false ∧ (b.each == 8) = true) := by
      revert he
      cases (b.each == 1) <;> cases (b.each == 2) <;> cases (b.each == 4) <;> cases (b.each == 8) <;> simp
    clear he
    rcases hcs with f1 | ⟨f1, f2⟩ | ⟨f1, f2, f4⟩ | ⟨f1, f2, f4, f8⟩
    all_goals
      go_enter Tryd.func64, Tryd.ntmps64
      go_wp2_with fail
      refine (HWi _ _ _ _).out.mono ?_
      rintro e9 w2 ⟨rfl, h2⟩
      rw [h2]
      clear h2
      cases g0 : witN 1 2 b.tabs
      · have G0 := hide g0
        clear g0
        go_wp2_with fail
        go_ret
        exact ⟨by rw [show b.form = false by unfold Bt.form; rw [HE.out, G0.out]; rfl]; rfl, HB.out⟩
      have G0 := hide g0
      clear g0
      go_wp2_with fail
      refine (HWi _ _ _ _).out.mono ?_
      rintro e9 w3 ⟨rfl, h2⟩
      rw [h2]
      clear h2
      cases g1 : witN 1 32768 b.secs
      · have G1 := hide g1
        clear g1
        go_wp2_with fail
        go_ret
        exact ⟨by rw [show b.form = false by unfold Bt.form; rw [HE.out, G0.out, G1.out]; rfl]; rfl, HB.out⟩
      have G1 := hide g1
      clear g1
      go_wp2_with fail
      refine (HWi _ _ _ _).out.mono ?_
      rintro e9 w4 ⟨rfl, h2⟩
      rw [h2]
      clear h2
      cases g2 : witN 1 b.secs b.long
      · have G2 := hide g2
        clear g2
        go_wp2_with fail
        go_ret
        exact ⟨by rw [show b.form = false by unfold Bt.form; rw [HE.out, G0.out, G1.out, G2.out]; rfl]; rfl, HB.out⟩
      have G2 := hide g2
      clear g2
      go_wp2_with fail
      refine (HWi _ _ _ _).out.mono ?_
      rintro e9 w5 ⟨rfl, h2⟩
      rw [h2]
      clear h2
      cases g3 : witN 2 64 b.ahead
      · have G3 := hide g3
        clear g3
        go_wp2_with fail
        go_ret
        exact ⟨by rw [show b.form = false by unfold Bt.form; rw [HE.out, G0.out, G1.out, G2.out, G3.out]; rfl]; rfl, HB.out⟩
      have G3 := hide g3
      clear g3
      have hwr : IntKind.i64.wrap (b.ahead - 1) = b.ahead - 1 := by have := G3.out; simp [witN] at this; rw [IntKind.wrap_i64]; omega
      go_wp2_with fail
      refine (HWi _ _ _ _).out.mono ?_
      rintro e9 w6 ⟨rfl, h2⟩
      rw [h2]
      clear h2
      cases g4 : witN 1 (b.ahead - 1) b.info
      · have G4 := hide g4
        clear g4
        go_wp2_with fail
        go_ret
        exact ⟨by rw [show b.form = false by unfold Bt.form; rw [HE.out, G0.out, G1.out, G2.out, G3.out, G4.out]; rfl]; rfl, HB.out⟩
      have G4 := hide g4
      clear g4
      go_wp2_with fail
      refine (HWi _ _ _ _).out.mono ?_
      rintro e9 w7 ⟨rfl, h2⟩
      rw [h2]
      clear h2
      cases g5 : witN 0 (b.ahead - 1) b.copy
      · have G5 := hide g5
        clear g5
        go_wp2_with fail
        go_ret
        exact ⟨by rw [show b.form = false by unfold Bt.form; rw [HE.out, G0.out, G1.out, G2.out, G3.out, G4.out, G5.out]; rfl]; rfl, HB.out⟩
      have G5 := hide g5
      clear g5
      go_wp2_with fail
      go_ret
      exact ⟨by rw [show b.form = (b.copy != b.info) by unfold Bt.form; rw [HE.out, G0.out, G1.out, G2.out, G3.out, G4.out, G5.out]; rfl]; rfl, HB.out⟩
  · have e0 : b.form = false := by unfold Bt.form; simp only [Bool.not_eq_true] at he; rw [he]; rfl
    rw [e0]
    simp only [Bool.or_eq_true, beq_iff_eq, not_or] at he
    obtain ⟨⟨⟨e1, e2⟩, e4⟩, e8⟩ := he
    have f1 : (b.each == 1) = false := by simpa using e1
    have f2 : (b.each == 2) = false := by simpa using e2
    have f4 : (b.each == 4) = false := by simpa using e4
    have f8 : (b.each == 8) = false := by simpa using e8
    clear e0
    go_enter Tryd.func64, Tryd.ntmps64
    go_wp2_with fail
    go_ret
    exact ⟨rfl, HB.out⟩
end Go.Proofs.YtcbbaoiefdbcpaaDoor.Oct

namespace Go.Proofs.YtcbbaoiefdbcpaaDoor.Oct
open Go.RowKit

/-- Is it one? -/
def Bt.chk (b : Bt) : Int := if b.form = false then 11 else if b.clus < 1 then 4 else if 128 * b.long - 2 < b.clus then 20 else if witN 2 (b.clus + 2 - 1) b.root = false then 4 else 0

/-- What formed says, in numbers. -/
theorem Bt.form_says {b : Bt} (h : b.form = true) : 1 ≤ b.each ∧ b.each ≤ 8 ∧ 1 ≤ b.tabs ∧ b.tabs ≤ 2 ∧ 1 ≤ b.secs ∧ b.secs ≤ 32768 ∧ 1 ≤ b.long ∧ b.long ≤ b.secs ∧ 2 ≤ b.ahead ∧ b.ahead ≤ 64 ∧ 1 ≤ b.info ∧ b.info ≤ b.ahead - 1 ∧ 0 ≤ b.copy ∧ b.copy ≤ b.ahead - 1 ∧ b.copy ≠ b.info := by
  simp [Bt.form, witN] at h
  omega

theorem Bt.form_near {b : Bt} (h : b.form = true) : b.near ∧ 1 ≤ b.tabs * b.long ∧ b.tabs * b.long ≤ 65536 := by
  obtain ⟨h0, h1, h2, h3, h4, h5, h6, h7, h8, h9, _⟩ := b.form_says h
  have ht : b.tabs = 1 ∨ b.tabs = 2 := by omega
  unfold Bt.near
  rcases ht with e | e <;> rw [e] <;> omega

theorem Bt.clus_says {b : Bt} (h : b.form = true) : 0 ≤ b.clus ∧ b.clus ≤ 32768 := by
  obtain ⟨h0, h1, h2, h3, h4, h5, h6, h7, h8, h9, _⟩ := b.form_says h
  have hn := b.form_near h
  unfold Bt.clus Bt.data
  obtain ⟨x, hx⟩ : ∃ x, x = max (b.secs - (b.ahead + b.tabs * b.long)) 0 := ⟨_, rfl⟩
  obtain ⟨y, hy⟩ : ∃ y, y = max b.each 1 := ⟨_, rfl⟩
  rw [← hx, ← hy]
  have h1 : 0 ≤ x / y := Int.ediv_nonneg (by omega) (by omega)
  have h2 : x / y ≤ x := Int.ediv_le_self _ (by omega)
  omega

set_option maxHeartbeats 8000000 in
theorem check_any (b : Bt) (w : World) :
    Calls Tryd.prog 54 #[.agg b.cs] w fun e w' => e = .returned (.int .i64 b.chk) ∧ Below w.heap.size w w' := by
  obtain ⟨w1, hw1⟩ : ∃ w1, w1 = w.alloc (.cells b.cs 63) := ⟨_, rfl⟩
  have HW1 := hide hw1
  have HB := hide (show Below w.heap.size w w1 by rw [hw1]; exact (Below.refl w.heap.size w).alloc (Nat.le_refl _) (.cells b.cs 63))
  have HI := hide (show Blk w1 w.heap.size b.cs 63 by rw [hw1]; exact Blk.new w b.cs 63)
  have hc0 := cells_of (Blk.new w b.cs 63)
  have HFo := fun u => hide (formed_any b u)
  have HWi := fun x y n u => hide (within_any x y n u)
  clear hw1
  cases hf : b.form
  · have e0 : b.chk = 11 := by unfold Bt.chk; rw [if_pos hf]
    have HE := hide e0
    clear e0
    obtain ⟨c0, c1, c2, c3, c4, c5, c6, c7⟩ := hc0
    go_enter Tryd.func54, Tryd.ntmps54
    go_wp2_with fail
    rw [← HW1.out]
    refine (HFo _).out.mono ?_
    rintro e9 w2 ⟨rfl, h2⟩
    rw [hf]
    have HB2 := hide (HB.out.trans (h2.mono HB.out.size))
    clear h2
    go_wp2_with fail
    go_ret
    exact ⟨by rw [HE.out]; rfl, HB2.out⟩
  have HCl := fun u => hide (clus_any b u (Bt.form_near hf).1)
  have hcs := Bt.clus_says hf
  have hfs := Bt.form_says hf
  have hm : IntKind.i64.wrap (128 * b.long) = 128 * b.long := by rw [IntKind.wrap_i64]; omega
  have hm2 : IntKind.i64.wrap (128 * b.long - 2) = 128 * b.long - 2 := by rw [IntKind.wrap_i64]; omega
  have hm3 : IntKind.i64.wrap (b.clus + 2) = b.clus + 2 := by rw [IntKind.wrap_i64]; omega
  have hm4 : IntKind.i64.wrap (b.clus + 2 - 1) = b.clus + 2 - 1 := by rw [IntKind.wrap_i64]; omega
  have HE := hide (show b.chk = if b.clus < 1 then 4 else if 128 * b.long - 2 < b.clus then 20 else if witN 2 (b.clus + 2 - 1) b.root = false then 4 else 0 by unfold Bt.chk; rw [if_neg (by rw [hf]; simp)])
  clear hcs hfs
  generalize b.chk = ck at *
  by_cases h1 : b.clus < 1
  · have HE1 := hide (show ck = 4 by rw [HE.out, if_pos h1])
    obtain ⟨c0, c1, c2, c3, c4, c5, c6, c7⟩ := hc0
    go_enter Tryd.func54, Tryd.ntmps54
    go_wp2_with fail
    rw [← HW1.out]
    clear c0 c1 c2 c3 c4 c5 c6 c7
    refine (HFo _).out.mono ?_
    rintro e9 w2 ⟨rfl, h2⟩
    rw [hf]
    have HI2 := hide (HI.out.below h2)
    have HB2 := hide (HB.out.trans (h2.mono HB.out.size))
    clear h2
    obtain ⟨c0, c1, c2, c3, c4, c5, c6, c7⟩ := cells_of HI2.out
    go_wp2_with fail
    refine (HCl _).out.mono ?_
    rintro e9 w3 ⟨rfl, h3⟩
    have HB3 := hide (HB2.out.trans (h3.mono HB2.out.size))
    clear h3
    go_wp2_with fail
    go_ret
    exact ⟨by rw [HE1.out]; rfl, HB3.out⟩
  by_cases h2 : 128 * b.long - 2 < b.clus
  · have HE1 := hide (show ck = 20 by rw [HE.out, if_neg h1, if_pos h2])
    obtain ⟨c0, c1, c2, c3, c4, c5, c6, c7⟩ := hc0
    go_enter Tryd.func54, Tryd.ntmps54
    go_wp2_with fail
    rw [← HW1.out]
    clear c0 c1 c2 c3 c4 c5 c6 c7
    refine (HFo _).out.mono ?_
    rintro e9 w2 ⟨rfl, h2⟩
    rw [hf]
    have HI2 := hide (HI.out.below h2)
    have HB2 := hide (HB.out.trans (h2.mono HB.out.size))
    clear h2
    obtain ⟨c0, c1, c2, c3, c4, c5, c6, c7⟩ := cells_of HI2.out
    go_wp2_with fail
    refine (HCl _).out.mono ?_
    rintro e9 w3 ⟨rfl, h3⟩
    have HI := hide (HI2.out.below h3).drew
    have HB := hide (HB2.out.trans (h3.mono HB2.out.size)).drew
    have HI3 := hide (HI2.out.below h3)
    clear h3 c0 c1 c2 c3 c4 c5 c6 c7 HI2 HB2
    go_wp2_with fail
    obtain ⟨c0, c1, c2, c3, c4, c5, c6, c7⟩ := cells_of HI3.out
    go_region_held3 (fun u => u.cell? ⟨w.heap.size, 0, none⟩ = some (.int .i64 b.each) ∧ u.cell? ⟨w.heap.size, 1, none⟩ = some (.int .i64 b.ahead) ∧ u.cell? ⟨w.heap.size, 2, none⟩ = some (.int .i64 b.tabs) ∧ u.cell? ⟨w.heap.size, 3, none⟩ = some (.int .i64 b.secs) ∧ u.cell? ⟨w.heap.size, 4, none⟩ = some (.int .i64 b.long) ∧ u.cell? ⟨w.heap.size, 5, none⟩ = some (.int .i64 b.root) ∧ u.cell? ⟨w.heap.size, 6, none⟩ = some (.int .i64 b.info) ∧ u.cell? ⟨w.heap.size, 7, none⟩ = some (.int .i64 b.copy)) (first | go_keep | exact cells_of HI.out) (first | (go_at_call 20; refine ((HCl _).out).mono ?_; rintro e9 w8 ⟨rfl, hb8⟩; have HI := hide (HI.out.below hb8); have HB := hide (HB.out.trans (hb8.mono HB.out.size)); clear hb8))
    all_goals
      go_wp2_with fail
      go_ret
      exact ⟨by rw [HE1.out]; rfl, HB.out⟩
  cases hw : witN 2 (b.clus + 2 - 1) b.root
  · have HE1 := hide (show ck = 4 by rw [HE.out, if_neg h1, if_neg h2, if_pos hw])
    obtain ⟨c0, c1, c2, c3, c4, c5, c6, c7⟩ := hc0
    go_enter Tryd.func54, Tryd.ntmps54
    go_wp2_with fail
    rw [← HW1.out]
    clear c0 c1 c2 c3 c4 c5 c6 c7
    refine (HFo _).out.mono ?_
    rintro e9 w2 ⟨rfl, h2⟩
    rw [hf]
    have HI2 := hide (HI.out.below h2)
    have HB2 := hide (HB.out.trans (h2.mono HB.out.size))
    clear h2
    obtain ⟨c0, c1, c2, c3, c4, c5, c6, c7⟩ := cells_of HI2.out
    go_wp2_with fail
    refine (HCl _).out.mono ?_
    rintro e9 w3 ⟨rfl, h3⟩
    have HI := hide (HI2.out.below h3).drew
    have HB := hide (HB2.out.trans (h3.mono HB2.out.size)).drew
    have HI3 := hide (HI2.out.below h3)
    clear h3 c0 c1 c2 c3 c4 c5 c6 c7 HI2 HB2
    go_wp2_with fail
    obtain ⟨c0, c1, c2, c3, c4, c5, c6, c7⟩ := cells_of HI3.out
    go_region_held3 (fun u => u.cell? ⟨w.heap.size, 0, none⟩ = some (.int .i64 b.each) ∧ u.cell? ⟨w.heap.size, 1, none⟩ = some (.int .i64 b.ahead) ∧ u.cell? ⟨w.heap.size, 2, none⟩ = some (.int .i64 b.tabs) ∧ u.cell? ⟨w.heap.size, 3, none⟩ = some (.int .i64 b.secs) ∧ u.cell? ⟨w.heap.size, 4, none⟩ = some (.int .i64 b.long) ∧ u.cell? ⟨w.heap.size, 5, none⟩ = some (.int .i64 b.root) ∧ u.cell? ⟨w.heap.size, 6, none⟩ = some (.int .i64 b.info) ∧ u.cell? ⟨w.heap.size, 7, none⟩ = some (.int .i64 b.copy)) (first | go_keep | exact cells_of HI.out) (first | (go_at_call 20; refine ((HCl _).out).mono ?_; rintro e9 w8 ⟨rfl, hb8⟩; have HI := hide (HI.out.below hb8); have HB := hide (HB.out.trans (hb8.mono HB.out.size)); clear hb8))
    all_goals
      go_wp2_with fail
      have HI9 := hide HI.out
      have HI := hide HI.out.drew
      have HB := hide HB.out.drew
      obtain ⟨d0, d1, d2, d3, d4, d5, d6, d7⟩ := cells_of HI9.out
      go_region_held3 (fun u => u.cell? ⟨w.heap.size, 0, none⟩ = some (.int .i64 b.each) ∧ u.cell? ⟨w.heap.size, 1, none⟩ = some (.int .i64 b.ahead) ∧ u.cell? ⟨w.heap.size, 2, none⟩ = some (.int .i64 b.tabs) ∧ u.cell? ⟨w.heap.size, 3, none⟩ = some (.int .i64 b.secs) ∧ u.cell? ⟨w.heap.size, 4, none⟩ = some (.int .i64 b.long) ∧ u.cell? ⟨w.heap.size, 5, none⟩ = some (.int .i64 b.root) ∧ u.cell? ⟨w.heap.size, 6, none⟩ = some (.int .i64 b.info) ∧ u.cell? ⟨w.heap.size, 7, none⟩ = some (.int .i64 b.copy)) (first | go_keep | exact cells_of HI.out) (first | (go_at_call 20; refine ((HCl _).out).mono ?_; rintro e9 w8 ⟨rfl, hb8⟩; have HI := hide (HI.out.below hb8); have HB := hide (HB.out.trans (hb8.mono HB.out.size)); clear hb8) | (go_at_call 39; refine ((HWi _ _ _ _).out).mono ?_; rintro e9 w9 ⟨rfl, h9⟩; rw [h9, hw]; clear h9))
      all_goals
        go_wp2_with fail
        go_ret
        exact ⟨by rw [HE1.out]; rfl, HB.out⟩
  · have HE1 := hide (show ck = 0 by rw [HE.out, if_neg h1, if_neg h2, if_neg (by rw [hw]; simp)])
    obtain ⟨c0, c1, c2, c3, c4, c5, c6, c7⟩ := hc0
    go_enter Tryd.func54, Tryd.ntmps54
    go_wp2_with fail
    rw [← HW1.out]
    clear c0 c1 c2 c3 c4 c5 c6 c7
    refine (HFo _).out.mono ?_
    rintro e9 w2 ⟨rfl, h2⟩
    rw [hf]
    have HI2 := hide (HI.out.below h2)
    have HB2 := hide (HB.out.trans (h2.mono HB.out.size))
    clear h2
    obtain ⟨c0, c1, c2, c3, c4, c5, c6, c7⟩ := cells_of HI2.out
    go_wp2_with fail
    refine (HCl _).out.mono ?_
    rintro e9 w3 ⟨rfl, h3⟩
    have HI := hide (HI2.out.below h3).drew
    have HB := hide (HB2.out.trans (h3.mono HB2.out.size)).drew
    have HI3 := hide (HI2.out.below h3)
    clear h3 c0 c1 c2 c3 c4 c5 c6 c7 HI2 HB2
    go_wp2_with fail
    obtain ⟨c0, c1, c2, c3, c4, c5, c6, c7⟩ := cells_of HI3.out
    go_region_held3 (fun u => u.cell? ⟨w.heap.size, 0, none⟩ = some (.int .i64 b.each) ∧ u.cell? ⟨w.heap.size, 1, none⟩ = some (.int .i64 b.ahead) ∧ u.cell? ⟨w.heap.size, 2, none⟩ = some (.int .i64 b.tabs) ∧ u.cell? ⟨w.heap.size, 3, none⟩ = some (.int .i64 b.secs) ∧ u.cell? ⟨w.heap.size, 4, none⟩ = some (.int .i64 b.long) ∧ u.cell? ⟨w.heap.size, 5, none⟩ = some (.int .i64 b.root) ∧ u.cell? ⟨w.heap.size, 6, none⟩ = some (.int .i64 b.info) ∧ u.cell? ⟨w.heap.size, 7, none⟩ = some (.int .i64 b.copy)) (first | go_keep | exact cells_of HI.out) (first | (go_at_call 20; refine ((HCl _).out).mono ?_; rintro e9 w8 ⟨rfl, hb8⟩; have HI := hide (HI.out.below hb8); have HB := hide (HB.out.trans (hb8.mono HB.out.size)); clear hb8))
    all_goals
      go_wp2_with fail
      have HI9 := hide HI.out
      have HI := hide HI.out.drew
      have HB := hide HB.out.drew
      obtain ⟨d0, d1, d2, d3, d4, d5, d6, d7⟩ := cells_of HI9.out
      go_region_held3 (fun u => u.cell? ⟨w.heap.size, 0, none⟩ = some (.int .i64 b.each) ∧ u.cell? ⟨w.heap.size, 1, none⟩ = some (.int .i64 b.ahead) ∧ u.cell? ⟨w.heap.size, 2, none⟩ = some (.int .i64 b.tabs) ∧ u.cell? ⟨w.heap.size, 3, none⟩ = some (.int .i64 b.secs) ∧ u.cell? ⟨w.heap.size, 4, none⟩ = some (.int .i64 b.long) ∧ u.cell? ⟨w.heap.size, 5, none⟩ = some (.int .i64 b.root) ∧ u.cell? ⟨w.heap.size, 6, none⟩ = some (.int .i64 b.info) ∧ u.cell? ⟨w.heap.size, 7, none⟩ = some (.int .i64 b.copy)) (first | go_keep | exact cells_of HI.out) (first | (go_at_call 20; refine ((HCl _).out).mono ?_; rintro e9 w8 ⟨rfl, hb8⟩; have HI := hide (HI.out.below hb8); have HB := hide (HB.out.trans (hb8.mono HB.out.size)); clear hb8) | (go_at_call 39; refine ((HWi _ _ _ _).out).mono ?_; rintro e9 w9 ⟨rfl, h9⟩; rw [h9, hw]; clear h9))
      all_goals
        go_wp2_with fail
        go_ret
        exact ⟨by rw [HE1.out]; rfl, HB.out⟩
end Go.Proofs.YtcbbaoiefdbcpaaDoor.Oct
