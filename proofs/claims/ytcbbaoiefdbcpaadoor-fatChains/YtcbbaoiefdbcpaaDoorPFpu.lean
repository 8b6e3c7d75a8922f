/- What a first sector says: Put. -/
import Derived.Lib.SlBytesConst
import Derived.Test.YtcbbaoiefdbcpaaDoorPFbbFbc
import Derived.Test.YtcbbaoiefdbcpaaDoorPLst
namespace Go.Proofs.YtcbbaoiefdbcpaaDoor.Oct
open Go.RowKit

theorem Vars.fx {w : World} (h : Vars w) : w.cell? ⟨0, 0, none⟩ = some (.int .i64 11) ∧ w.cell? ⟨0, 1, none⟩ = some (.int .u16 512) ∧ w.cell? ⟨0, 2, none⟩ = some (.int .i64 17) ∧ w.cell? ⟨0, 3, none⟩ = some (.int .u16 0) ∧ w.cell? ⟨0, 4, none⟩ = some (.int .i64 19) ∧ w.cell? ⟨0, 5, none⟩ = some (.int .u16 0) ∧ w.cell? ⟨0, 6, none⟩ = some (.int .i64 22) ∧ w.cell? ⟨0, 7, none⟩ = some (.int .u16 0) ∧ w.cell? ⟨0, 8, none⟩ = some (.int .i64 40) ∧ w.cell? ⟨0, 9, none⟩ = some (.int .u16 0) ∧ w.cell? ⟨0, 10, none⟩ = some (.int .i64 42) ∧ w.cell? ⟨0, 11, none⟩ = some (.int .u16 0) :=
  ⟨(h.2 0 (by omega)).1, (h.2 0 (by omega)).2, (h.2 1 (by omega)).1, (h.2 1 (by omega)).2, (h.2 2 (by omega)).1, (h.2 2 (by omega)).2, (h.2 3 (by omega)).1, (h.2 3 (by omega)).2, (h.2 4 (by omega)).1, (h.2 4 (by omega)).2, (h.2 5 (by omega)).1, (h.2 5 (by omega)).2⟩

/-- Bytes with the first numbers that are the same in all first sectors. -/
def fxP (l : List Int) : Nat → List Int
  | 0 => l
  | 1 => putN l 11 512 2
  | 2 => putN (putN l 11 512 2) 17 0 2
  | 3 => putN (putN (putN l 11 512 2) 17 0 2) 19 0 2
  | 4 => putN (putN (putN (putN l 11 512 2) 17 0 2) 19 0 2) 22 0 2
  | 5 => putN (putN (putN (putN (putN l 11 512 2) 17 0 2) 19 0 2) 22 0 2) 40 0 2
  | _ => putN (putN (putN (putN (putN (putN l 11 512 2) 17 0 2) 19 0 2) 22 0 2) 40 0 2) 42 0 2

theorem fxP_len (l : List Int) (k : Nat) : (fxP l k).length = l.length := by
  unfold fxP
  split <;> simp only [putN_length]

theorem ix_fx (u : World) : (Instr.index 112 (.agg #[.int .i64 11, .int .u16 512, .int .i64 17, .int .u16 0, .int .i64 19, .int .u16 0, .int .i64 22, .int .u16 0, .int .i64 40, .int .u16 0, .int .i64 42, .int .u16 0]) (.int .i64 0)).run Tryd.prog u = .ok (.agg #[.int .i64 11, .int .u16 512]) u ∧ (Instr.index 112 (.agg #[.int .i64 11, .int .u16 512, .int .i64 17, .int .u16 0, .int .i64 19, .int .u16 0, .int .i64 22, .int .u16 0, .int .i64 40, .int .u16 0, .int .i64 42, .int .u16 0]) (.int .i64 1)).run Tryd.prog u = .ok (.agg #[.int .i64 17, .int .u16 0]) u ∧ (Instr.index 112 (.agg #[.int .i64 11, .int .u16 512, .int .i64 17, .int .u16 0, .int .i64 19, .int .u16 0, .int .i64 22, .int .u16 0, .int .i64 40, .int .u16 0, .int .i64 42, .int .u16 0]) (.int .i64 2)).run Tryd.prog u = .ok (.agg #[.int .i64 19, .int .u16 0]) u ∧ (Instr.index 112 (.agg #[.int .i64 11, .int .u16 512, .int .i64 17, .int .u16 0, .int .i64 19, .int .u16 0, .int .i64 22, .int .u16 0, .int .i64 40, .int .u16 0, .int .i64 42, .int .u16 0]) (.int .i64 3)).run Tryd.prog u = .ok (.agg #[.int .i64 22, .int .u16 0]) u ∧ (Instr.index 112 (.agg #[.int .i64 11, .int .u16 512, .int .i64 17, .int .u16 0, .int .i64 19, .int .u16 0, .int .i64 22, .int .u16 0, .int .i64 40, .int .u16 0, .int .i64 42, .int .u16 0]) (.int .i64 4)).run Tryd.prog u = .ok (.agg #[.int .i64 40, .int .u16 0]) u ∧ (Instr.index 112 (.agg #[.int .i64 11, .int .u16 512, .int .i64 17, .int .u16 0, .int .i64 19, .int .u16 0, .int .i64 22, .int .u16 0, .int .i64 40, .int .u16 0, .int .i64 42, .int .u16 0]) (.int .i64 5)).run Tryd.prog u = .ok (.agg #[.int .i64 42, .int .u16 0]) u := ⟨by kernel_rfl, by kernel_rfl, by kernel_rfl, by kernel_rfl, by kernel_rfl, by kernel_rfl⟩

/-- Bytes with what a first sector says. -/
def putB (b : Bt) (l : List Int) : List Int := putN (over (putN (putN (putN (putN (putN (putN (((fxP l 6).set 13 b.each).set 16 b.tabs) 14 b.ahead 2) 32 b.secs 4) 36 b.long 4) 44 b.root 4) 48 b.info 2) 50 b.copy 2) 82 [70, 65, 84, 51, 50, 32, 32, 32]) 510 43605 2

/-- The name of a first sector. -/
def nmB : List Int := [70, 65, 84, 51, 50, 32, 32, 32]

theorem lies_nm (w : World) : Lies (w.alloc (.cells #[.int .u8 70, .int .u8 65, .int .u8 84, .int .u8 51, .int .u8 50, .int .u8 32, .int .u8 32, .int .u8 32] 5 (8, 9))) (some ⟨w.heap.size, 0, none⟩) nmB := by
  have h1 : Lies (w.alloc (.cells (nmB.map (Value.int .u8)).toArray 5 (8, 9))) (some ⟨w.heap.size, 0, none⟩) nmB := by
    refine Lies.mk fun k hk => ?_
    have h := heap_alloc_new w (.cells (nmB.map (Value.int .u8)).toArray 5 (8, 9))
    unfold World.cell?
    simp only [h]
    simp [hk]
  exact h1

set_option maxHeartbeats 8000000 in
set_option maxRecDepth 100000 in
theorem put_yes (b : Bt) (B g cap : Nat) (l : List Int) (w : World) (hV : Vars w) (h5 : l.length = 512) (hB : B ≤ w.heap.size) (hg1 : 1 < g) (hk : b.chk = 0) (hown : Own w B (.slice (some ⟨g, 0, none⟩) 512 cap) l) :
    Calls Tryd.prog 40 #[.agg b.cs, .slice (some ⟨g, 0, none⟩) 512 cap] w fun e w' => e = .returned (.int .i64 0) ∧ Own w' B (.slice (some ⟨g, 0, none⟩) 512 cap) (putB b l) ∧ Chg (fun k => some k = some g) w w' := by
  have hc0 := cells_of (Blk.new w b.cs 63)
  obtain ⟨w1, hw1⟩ : ∃ w1, w1 = w.alloc (.cells b.cs 63) := ⟨_, rfl⟩
  have hb1 : Below w.heap.size w w1 := by rw [hw1]; exact (Below.refl w.heap.size w).alloc (Nat.le_refl _) (.cells b.cs 63)
  have HI := hide (show Blk w1 w.heap.size b.cs 63 by rw [hw1]; exact Blk.new w b.cs 63)
  have HW1 := hide hw1
  have HB1 := hide hb1
  have HO1 := hide (hown.below hb1)
  have HV1 := hide (hV.below hb1)
  have HCk := fun u => hide (check_any b u)
  rw [hk] at HCk
  have HH := hide (And.intro h5 (And.intro hB hg1))
  have HK := hide hk
  have hgw := (World.ownsRow.lt hown g rfl).2
  have i0 := fun u => (ix_fx u).1
  have i1 := fun u => (ix_fx u).2.1
  have i2 := fun u => (ix_fx u).2.2.1
  have i3 := fun u => (ix_fx u).2.2.2.1
  have i4 := fun u => (ix_fx u).2.2.2.2.1
  have i5 := fun u => (ix_fx u).2.2.2.2.2
  clear hown hV hb1 hw1 h5 hk hB hg1
  obtain ⟨c0, c1, c2, c3, c4, c5, c6, c7⟩ := hc0
  go_enter Tryd.func40, Tryd.ntmps40
  go_wp2_with fail
  rw [← HW1.out]
  clear c0 c1 c2 c3 c4 c5 c6 c7
  refine (HCk _).out.mono ?_
  rintro e9 w2 ⟨rfl, h2⟩
  have HI2 := hide (HI.out.below h2)
  have HO2 := hide (HO1.out.below h2)
  have HV2 := hide (HV1.out.below h2)
  have HB2 := hide (HB1.out.trans (h2.mono HB1.out.size))
  clear h2
  obtain ⟨s0, s1, s2, s3, s4, s5, s6, s7, s8, s9, s10, s11⟩ := HV2.out.fx
  go_wp2_with fail
  clear s0 s1 s2 s3 s4 s5 s6 s7 s8 s9 s10 s11
  have HCg := hide (Chg.of_below (X := (fun k => some k = some g)) HB2.out)
  go_loopw [17] (fun i wr => ∃ j : Nat, j ≤ 6 ∧ i = .int .i64 (j : Int) ∧ Own wr B (.slice (some ⟨g, 0, none⟩) 512 cap) (fxP l j) ∧ Blk wr w.heap.size b.cs 63 ∧ Chg (fun k => some k = some g) w wr) (fun i _ => 6 - (intOf i).toNat)
  case atStart => exact ⟨0, by omega, rfl, HO2.out, HI2.out, HCg.out⟩
  case round =>
    obtain ⟨j, hj, rfl, ho, hk, hc⟩ := hrel
    have HO := hide ho
    have HKr := hide hk
    have HC := hide hc
    have HL := hide (show (fxP l j).length = 512 by rw [fxP_len]; exact HH.out.1)
    clear ho hk hc
    obtain rfl | rfl | rfl | rfl | rfl | rfl | rfl : j = 0 ∨ j = 1 ∨ j = 2 ∨ j = 3 ∨ j = 4 ∨ j = 5 ∨ j = 6 := by omega
    · skip
      have hx4 := Blk.new wr #[.int .i64 11, .int .u16 512] 111
      have x0 : (wr.alloc (.cells #[.int .i64 11, .int .u16 512] 111)).cell? ⟨wr.heap.size, 0, none⟩ = some (.int .i64 11) := hx4.cell 0 _ rfl
      have x1 : (wr.alloc (.cells #[.int .i64 11, .int .u16 512] 111)).cell? ⟨wr.heap.size, 1, none⟩ = some (.int .u16 512) := hx4.cell 1 _ rfl
      have hb4 : Below wr.heap.size wr (wr.alloc (.cells #[.int .i64 11, .int .u16 512] 111)) := (Below.refl _ _).alloc (Nat.le_refl _) _
      have HPu := hide (Put16_yes B g cap (fxP l 0) 11 512 (wr.alloc (.cells #[.int .i64 11, .int .u16 512] 111)) (by rw [HL.out]; unfold maxLen; omega) (by rw [HL.out]; omega) (by rw [HL.out]; exact HO.out.below hb4))
      rw [HL.out] at HPu
      have HC4 := hide (HC.out.alloc (.cells #[.int .i64 11, .int .u16 512] 111))
      have HK4 := hide (HKr.out.below hb4)
      clear hx4 hb4
      go_wp2_with fail
      refine HPu.out.mono ?_
      rintro e9 w5 ⟨rfl, ho5, hg5⟩
      have HO5 := hide ho5
      have HC5 := hide (HC4.out.trans (Chg.of_grown hg5))
      have HK5 := hide (HK4.out.chg (Chg.of_grown hg5) (fun e => by have := Option.some.inj e; omega))
      clear ho5 hg5
      go_wp2_with fail
      go_roundw
      case rel => exact ⟨1, by omega, by go_num, HO5.out, HK5.out, HC5.out⟩
      case measure => simp [intOf]
    · skip
      have hx4 := Blk.new wr #[.int .i64 17, .int .u16 0] 111
      have x0 : (wr.alloc (.cells #[.int .i64 17, .int .u16 0] 111)).cell? ⟨wr.heap.size, 0, none⟩ = some (.int .i64 17) := hx4.cell 0 _ rfl
      have x1 : (wr.alloc (.cells #[.int .i64 17, .int .u16 0] 111)).cell? ⟨wr.heap.size, 1, none⟩ = some (.int .u16 0) := hx4.cell 1 _ rfl
      have hb4 : Below wr.heap.size wr (wr.alloc (.cells #[.int .i64 17, .int .u16 0] 111)) := (Below.refl _ _).alloc (Nat.le_refl _) _
      have HPu := hide (Put16_yes B g cap (fxP l 1) 17 0 (wr.alloc (.cells #[.int .i64 17, .int .u16 0] 111)) (by rw [HL.out]; unfold maxLen; omega) (by rw [HL.out]; omega) (by rw [HL.out]; exact HO.out.below hb4))
      rw [HL.out] at HPu
      have HC4 := hide (HC.out.alloc (.cells #[.int .i64 17, .int .u16 0] 111))
      have HK4 := hide (HKr.out.below hb4)
      clear hx4 hb4
      go_wp2_with fail
      refine HPu.out.mono ?_
      rintro e9 w5 ⟨rfl, ho5, hg5⟩
      have HO5 := hide ho5
      have HC5 := hide (HC4.out.trans (Chg.of_grown hg5))
      have HK5 := hide (HK4.out.chg (Chg.of_grown hg5) (fun e => by have := Option.some.inj e; omega))
      clear ho5 hg5
      go_wp2_with fail
      go_roundw
      case rel => exact ⟨2, by omega, by go_num, HO5.out, HK5.out, HC5.out⟩
      case measure => simp [intOf]
    · skip
      have hx4 := Blk.new wr #[.int .i64 19, .int .u16 0] 111
      have x0 : (wr.alloc (.cells #[.int .i64 19, .int .u16 0] 111)).cell? ⟨wr.heap.size, 0, none⟩ = some (.int .i64 19) := hx4.cell 0 _ rfl
      have x1 : (wr.alloc (.cells #[.int .i64 19, .int .u16 0] 111)).cell? ⟨wr.heap.size, 1, none⟩ = some (.int .u16 0) := hx4.cell 1 _ rfl
      have hb4 : Below wr.heap.size wr (wr.alloc (.cells #[.int .i64 19, .int .u16 0] 111)) := (Below.refl _ _).alloc (Nat.le_refl _) _
      have HPu := hide (Put16_yes B g cap (fxP l 2) 19 0 (wr.alloc (.cells #[.int .i64 19, .int .u16 0] 111)) (by rw [HL.out]; unfold maxLen; omega) (by rw [HL.out]; omega) (by rw [HL.out]; exact HO.out.below hb4))
      rw [HL.out] at HPu
      have HC4 := hide (HC.out.alloc (.cells #[.int .i64 19, .int .u16 0] 111))
      have HK4 := hide (HKr.out.below hb4)
      clear hx4 hb4
      go_wp2_with fail
      refine HPu.out.mono ?_
      rintro e9 w5 ⟨rfl, ho5, hg5⟩
      have HO5 := hide ho5
      have HC5 := hide (HC4.out.trans (Chg.of_grown hg5))
      have HK5 := hide (HK4.out.chg (Chg.of_grown hg5) (fun e => by have := Option.some.inj e; omega))
      clear ho5 hg5
      go_wp2_with fail
      go_roundw
      case rel => exact ⟨3, by omega, by go_num, HO5.out, HK5.out, HC5.out⟩
      case measure => simp [intOf]
    · skip
      have hx4 := Blk.new wr #[.int .i64 22, .int .u16 0] 111
      have x0 : (wr.alloc (.cells #[.int .i64 22, .int .u16 0] 111)).cell? ⟨wr.heap.size, 0, none⟩ = some (.int .i64 22) := hx4.cell 0 _ rfl
      have x1 : (wr.alloc (.cells #[.int .i64 22, .int .u16 0] 111)).cell? ⟨wr.heap.size, 1, none⟩ = some (.int .u16 0) := hx4.cell 1 _ rfl
      have hb4 : Below wr.heap.size wr (wr.alloc (.cells #[.int .i64 22, .int .u16 0] 111)) := (Below.refl _ _).alloc (Nat.le_refl _) _
      have HPu := hide (Put16_yes B g cap (fxP l 3) 22 0 (wr.alloc (.cells #[.int .i64 22, .int .u16 0] 111)) (by rw [HL.out]; unfold maxLen; omega) (by rw [HL.out]; omega) (by rw [HL.out]; exact HO.out.below hb4))
      rw [HL.out] at HPu
      have HC4 := hide (HC.out.alloc (.cells #[.int .i64 22, .int .u16 0] 111))
      have HK4 := hide (HKr.out.below hb4)
      clear hx4 hb4
      go_wp2_with fail
      refine HPu.out.mono ?_
      rintro e9 w5 ⟨rfl, ho5, hg5⟩
      have HO5 := hide ho5
      have HC5 := hide (HC4.out.trans (Chg.of_grown hg5))
      have HK5 := hide (HK4.out.chg (Chg.of_grown hg5) (fun e => by have := Option.some.inj e; omega))
      clear ho5 hg5
      go_wp2_with fail
      go_roundw
      case rel => exact ⟨4, by omega, by go_num, HO5.out, HK5.out, HC5.out⟩
      case measure => simp [intOf]
    · skip
      have hx4 := Blk.new wr #[.int .i64 40, .int .u16 0] 111
      have x0 : (wr.alloc (.cells #[.int .i64 40, .int .u16 0] 111)).cell? ⟨wr.heap.size, 0, none⟩ = some (.int .i64 40) := hx4.cell 0 _ rfl
      have x1 : (wr.alloc (.cells #[.int .i64 40, .int .u16 0] 111)).cell? ⟨wr.heap.size, 1, none⟩ = some (.int .u16 0) := hx4.cell 1 _ rfl
      have hb4 : Below wr.heap.size wr (wr.alloc (.cells #[.int .i64 40, .int .u16 0] 111)) := (Below.refl _ _).alloc (Nat.le_refl _) _
      have HPu := hide (Put16_yes B g cap (fxP l 4) 40 0 (wr.alloc (.cells #[.int .i64 40, .int .u16 0] 111)) (by rw [HL.out]; unfold maxLen; omega) (by rw [HL.out]; omega) (by rw [HL.out]; exact HO.out.below hb4))
      rw [HL.out] at HPu
      have HC4 := hide (HC.out.alloc (.cells #[.int .i64 40, .int .u16 0] 111))
      have HK4 := hide (HKr.out.below hb4)
      clear hx4 hb4
      go_wp2_with fail
      refine HPu.out.mono ?_
      rintro e9 w5 ⟨rfl, ho5, hg5⟩
      have HO5 := hide ho5
      have HC5 := hide (HC4.out.trans (Chg.of_grown hg5))
      have HK5 := hide (HK4.out.chg (Chg.of_grown hg5) (fun e => by have := Option.some.inj e; omega))
      clear ho5 hg5
      go_wp2_with fail
      go_roundw
      case rel => exact ⟨5, by omega, by go_num, HO5.out, HK5.out, HC5.out⟩
      case measure => simp [intOf]
    · skip
      have hx4 := Blk.new wr #[.int .i64 42, .int .u16 0] 111
      have x0 : (wr.alloc (.cells #[.int .i64 42, .int .u16 0] 111)).cell? ⟨wr.heap.size, 0, none⟩ = some (.int .i64 42) := hx4.cell 0 _ rfl
      have x1 : (wr.alloc (.cells #[.int .i64 42, .int .u16 0] 111)).cell? ⟨wr.heap.size, 1, none⟩ = some (.int .u16 0) := hx4.cell 1 _ rfl
      have hb4 : Below wr.heap.size wr (wr.alloc (.cells #[.int .i64 42, .int .u16 0] 111)) := (Below.refl _ _).alloc (Nat.le_refl _) _
      have HPu := hide (Put16_yes B g cap (fxP l 5) 42 0 (wr.alloc (.cells #[.int .i64 42, .int .u16 0] 111)) (by rw [HL.out]; unfold maxLen; omega) (by rw [HL.out]; omega) (by rw [HL.out]; exact HO.out.below hb4))
      rw [HL.out] at HPu
      have HC4 := hide (HC.out.alloc (.cells #[.int .i64 42, .int .u16 0] 111))
      have HK4 := hide (HKr.out.below hb4)
      clear hx4 hb4
      go_wp2_with fail
      refine HPu.out.mono ?_
      rintro e9 w5 ⟨rfl, ho5, hg5⟩
      have HO5 := hide ho5
      have HC5 := hide (HC4.out.trans (Chg.of_grown hg5))
      have HK5 := hide (HK4.out.chg (Chg.of_grown hg5) (fun e => by have := Option.some.inj e; omega))
      clear ho5 hg5
      go_wp2_with fail
      go_roundw
      case rel => exact ⟨6, by omega, by go_num, HO5.out, HK5.out, HC5.out⟩
      case measure => simp [intOf]
    · skip
      have hfo : b.form = true := by
        cases hf : b.form
        · have := HK.out; unfold Bt.chk at this; rw [if_pos hf] at this; exact absurd this (by decide)
        · rfl
      obtain ⟨q0, q1, q2, q3, q4, q5, q6, q7, q8, q9, q10, q11, q12, q13, _⟩ := Bt.form_says hfo
      have hro : 0 ≤ b.root ∧ b.root ≤ 40000 := by
        have hcl := Bt.clus_says hfo
        have hr := HK.out
        unfold Bt.chk at hr
        rw [if_neg (by rw [hfo]; simp)] at hr
        split at hr
        · omega
        split at hr
        · omega
        split at hr
        · omega
        rename_i hw
        simp [witN] at hw
        omega
      have u_each : IntKind.u8.wrap b.each = b.each := by simp [IntKind.wrap, IntKind.signed, IntKind.bits]; omega
      have u_tabs : IntKind.u8.wrap b.tabs = b.tabs := by simp [IntKind.wrap, IntKind.signed, IntKind.bits]; omega
      have u_ahead : IntKind.u16.wrap b.ahead = b.ahead := by simp [IntKind.wrap, IntKind.signed, IntKind.bits]; omega
      have u_secs : IntKind.u32.wrap b.secs = b.secs := by simp [IntKind.wrap, IntKind.signed, IntKind.bits]; omega
      have u_long : IntKind.u32.wrap b.long = b.long := by simp [IntKind.wrap, IntKind.signed, IntKind.bits]; omega
      have u_root : IntKind.u32.wrap b.root = b.root := by simp [IntKind.wrap, IntKind.signed, IntKind.bits]; omega
      have u_info : IntKind.u16.wrap b.info = b.info := by simp [IntKind.wrap, IntKind.signed, IntKind.bits]; omega
      have u_copy : IntKind.u16.wrap b.copy = b.copy := by simp [IntKind.wrap, IntKind.signed, IntKind.bits]; omega
      obtain ⟨c0, c1, c2, c3, c4, c5, c6, c7⟩ := cells_of HKr.out
      have k13 := HO.out.cell HL.out.symm 13 (by omega)
      have k16 := HO.out.cell HL.out.symm 16 (by omega)
      have z13 := HO.out.free HL.out.symm 13
      have z16 := HO.out.free HL.out.symm 16
      clear q0 q1 q2 q3 q4 q5 q6 q7 q8 q9 q10 q11 q12 q13 hro hfo
      go_wp2_with fail
      go_region
      obtain ⟨L, hL⟩ : ∃ L, L = ((fxP l 6).set 13 b.each).set 16 b.tabs := ⟨_, rfl⟩
      obtain ⟨w6, hw6⟩ : ∃ w6, w6 = ((wr.setCell ⟨g, 13, none⟩ (.int .u8 b.each)).setCell ⟨g, 16, none⟩ (.int .u8 b.tabs)).drew := ⟨_, rfl⟩
      have hs1 := HO.out.set HL.out.symm 13 b.each
      have hs2 := hs1.1.set (by rw [List.length_set]; exact HL.out.symm) 16 b.tabs
      have hcg : Chg (fun k => some k = some g) wr w6 := by rw [hw6]; exact ((Chg.of_grown hs1.2).trans (Chg.of_grown hs2.2)).drew
      have HO6 := hide (show Own w6 B (.slice (some ⟨g, 0, none⟩) 512 cap) L by rw [hw6, hL]; exact hs2.1.drew)
      have HC6 := hide (HC.out.trans hcg)
      have HK6 := hide (HKr.out.chg hcg (fun e => by have := Option.some.inj e; omega))
      have HL6 := hide (show L.length = 512 by rw [hL, List.length_set, List.length_set]; exact HL.out)
      have HZ6 := hide hL
      rw [← hw6]
      clear hs1 hs2 hcg hL hw6 c0 c1 c2 c3 c4 c5 c6 c7 k13 k16 z13 z16 u_each u_tabs
      obtain ⟨c0, c1, c2, c3, c4, c5, c6, c7⟩ := cells_of HK6.out
      have HPu := hide (Put16_yes B g cap (L) 14 b.ahead w6 (by rw [HL6.out]; unfold maxLen; omega) (by rw [HL6.out]; omega) (by rw [HL6.out]; exact HO6.out))
      rw [HL6.out] at HPu
      go_wp2_with fail
      clear c0 c1 c2 c3 c4 c5 c6 c7
      refine HPu.out.mono ?_
      rintro e9 w7 ⟨rfl, ho, hg⟩
      have HO7 := hide ho
      have HC7 := hide (HC6.out.trans (Chg.of_grown hg))
      have HK7 := hide (HK6.out.chg (Chg.of_grown hg) (fun e => by have := Option.some.inj e; omega))
      have HL7 := hide (show (putN (L) 14 b.ahead 2).length = 512 by rw [putN_length]; exact HL6.out)
      clear ho hg HPu HO6 HC6 HK6
      obtain ⟨c0, c1, c2, c3, c4, c5, c6, c7⟩ := cells_of HK7.out
      have HPu := hide (Put32_yes B g cap (putN L 14 b.ahead 2) 32 b.secs w7 (by rw [HL7.out]; unfold maxLen; omega) (by rw [HL7.out]; omega) (by rw [HL7.out]; exact HO7.out))
      rw [HL7.out] at HPu
      go_wp2_with fail
      clear c0 c1 c2 c3 c4 c5 c6 c7
      refine HPu.out.mono ?_
      rintro e9 w8 ⟨rfl, ho, hg⟩
      have HO8 := hide ho
      have HC8 := hide (HC7.out.trans (Chg.of_grown hg))
      have HK8 := hide (HK7.out.chg (Chg.of_grown hg) (fun e => by have := Option.some.inj e; omega))
      have HL8 := hide (show (putN (putN L 14 b.ahead 2) 32 b.secs 4).length = 512 by rw [putN_length]; exact HL7.out)
      clear ho hg HPu HO7 HC7 HK7
      obtain ⟨c0, c1, c2, c3, c4, c5, c6, c7⟩ := cells_of HK8.out
      have HPu := hide (Put32_yes B g cap (putN (putN L 14 b.ahead 2) 32 b.secs 4) 36 b.long w8 (by rw [HL8.out]; unfold maxLen; omega) (by rw [HL8.out]; omega) (by rw [HL8.out]; exact HO8.out))
      rw [HL8.out] at HPu
      go_wp2_with fail
      clear c0 c1 c2 c3 c4 c5 c6 c7
      refine HPu.out.mono ?_
      rintro e9 w9 ⟨rfl, ho, hg⟩
      have HO9 := hide ho
      have HC9 := hide (HC8.out.trans (Chg.of_grown hg))
      have HK9 := hide (HK8.out.chg (Chg.of_grown hg) (fun e => by have := Option.some.inj e; omega))
      have HL9 := hide (show (putN (putN (putN L 14 b.ahead 2) 32 b.secs 4) 36 b.long 4).length = 512 by rw [putN_length]; exact HL8.out)
      clear ho hg HPu HO8 HC8 HK8
      obtain ⟨c0, c1, c2, c3, c4, c5, c6, c7⟩ := cells_of HK9.out
      have HPu := hide (Put32_yes B g cap (putN (putN (putN L 14 b.ahead 2) 32 b.secs 4) 36 b.long 4) 44 b.root w9 (by rw [HL9.out]; unfold maxLen; omega) (by rw [HL9.out]; omega) (by rw [HL9.out]; exact HO9.out))
      rw [HL9.out] at HPu
      go_wp2_with fail
      clear c0 c1 c2 c3 c4 c5 c6 c7
      refine HPu.out.mono ?_
      rintro e9 w10 ⟨rfl, ho, hg⟩
      have HO10 := hide ho
      have HC10 := hide (HC9.out.trans (Chg.of_grown hg))
      have HK10 := hide (HK9.out.chg (Chg.of_grown hg) (fun e => by have := Option.some.inj e; omega))
      have HL10 := hide (show (putN (putN (putN (putN L 14 b.ahead 2) 32 b.secs 4) 36 b.long 4) 44 b.root 4).length = 512 by rw [putN_length]; exact HL9.out)
      clear ho hg HPu HO9 HC9 HK9
      obtain ⟨c0, c1, c2, c3, c4, c5, c6, c7⟩ := cells_of HK10.out
      have HPu := hide (Put16_yes B g cap (putN (putN (putN (putN L 14 b.ahead 2) 32 b.secs 4) 36 b.long 4) 44 b.root 4) 48 b.info w10 (by rw [HL10.out]; unfold maxLen; omega) (by rw [HL10.out]; omega) (by rw [HL10.out]; exact HO10.out))
      rw [HL10.out] at HPu
      go_wp2_with fail
      clear c0 c1 c2 c3 c4 c5 c6 c7
      refine HPu.out.mono ?_
      rintro e9 w11 ⟨rfl, ho, hg⟩
      have HO11 := hide ho
      have HC11 := hide (HC10.out.trans (Chg.of_grown hg))
      have HK11 := hide (HK10.out.chg (Chg.of_grown hg) (fun e => by have := Option.some.inj e; omega))
      have HL11 := hide (show (putN (putN (putN (putN (putN L 14 b.ahead 2) 32 b.secs 4) 36 b.long 4) 44 b.root 4) 48 b.info 2).length = 512 by rw [putN_length]; exact HL10.out)
      clear ho hg HPu HO10 HC10 HK10
      obtain ⟨c0, c1, c2, c3, c4, c5, c6, c7⟩ := cells_of HK11.out
      have HPu := hide (Put16_yes B g cap (putN (putN (putN (putN (putN L 14 b.ahead 2) 32 b.secs 4) 36 b.long 4) 44 b.root 4) 48 b.info 2) 50 b.copy w11 (by rw [HL11.out]; unfold maxLen; omega) (by rw [HL11.out]; omega) (by rw [HL11.out]; exact HO11.out))
      rw [HL11.out] at HPu
      go_wp2_with fail
      clear c0 c1 c2 c3 c4 c5 c6 c7
      refine HPu.out.mono ?_
      rintro e9 w12 ⟨rfl, ho, hg⟩
      have HO12 := hide ho
      have HC12 := hide (HC11.out.trans (Chg.of_grown hg))
      have HK12 := hide (HK11.out.chg (Chg.of_grown hg) (fun e => by have := Option.some.inj e; omega))
      have HL12 := hide (show (putN (putN (putN (putN (putN (putN L 14 b.ahead 2) 32 b.secs 4) 36 b.long 4) 44 b.root 4) 48 b.info 2) 50 b.copy 2).length = 512 by rw [putN_length]; exact HL11.out)
      clear ho hg HPu HO11 HC11 HK11
      obtain ⟨w13, hw13⟩ : ∃ w13, w13 = (w12.alloc (.cells #[.int .u8 70, .int .u8 65, .int .u8 84, .int .u8 51, .int .u8 50, .int .u8 32, .int .u8 32, .int .u8 32] 5 (8, 9))) := ⟨_, rfl⟩
      have hb13 : Below w12.heap.size w12 w13 := by rw [hw13]; exact (Below.refl _ _).alloc (Nat.le_refl _) _
      have hn13 := lies_nm w12
      rw [← hw13] at hn13
      have hcv := Go.Lib.run_convert_bytes_const w12 26 5 #[.int .u8 70, .int .u8 65, .int .u8 84, .int .u8 51, .int .u8 50, .int .u8 32, .int .u8 32, .int .u8 32] 8 8 Tryd.underlying26 Tryd.underlying5
      have hcap : 512 ≤ cap := by have hq := HO12.out.form; obtain ⟨a9, c9, e9, _, _, h9, _⟩ := hq; have h8 := HL12.out; injection e9 with e1 e2 e3; omega
      obtain ⟨M, hM⟩ : ∃ M, M = putN (putN (putN (putN (putN (putN L 14 b.ahead 2) 32 b.secs 4) 36 b.long 4) 44 b.root 4) 48 b.info 2) 50 b.copy 2 := ⟨_, rfl⟩
      rw [← hM] at HO12 HL12
      have HPa := hide (Patch_some B g cap M (some ⟨w12.heap.size, 0, none⟩) 8 nmB 82 w13 (by rw [HL12.out]; omega) (by rw [HL12.out]; exact hcap) (by simp [nmB]) (by rw [HL12.out]; decide) (by rw [HL12.out]; exact HO12.out.below hb13) hn13)
      rw [HL12.out] at HPa
      have HC13 := hide (HC12.out.trans (Chg.of_below hb13))
      have HM := hide hM
      have HW13 := hide hw13
      clear hb13 hn13 hM hw13
      go_wp2_with fail
      rw [← HW13.out]
      refine HPa.out.mono ?_
      rintro e9 w14 ⟨rfl, ho, hg⟩
      have HC14 := hide (HC13.out.trans (Chg.of_grown hg))
      have HL14 := hide (show (over M 82 nmB).length = 512 by rw [over_length (by rw [HL12.out]; decide)]; exact HL12.out)
      have HPu := hide (Put16_yes B g cap (over M 82 nmB) 510 43605 w14 (by rw [HL14.out]; unfold maxLen; omega) (by rw [HL14.out]; omega) (by rw [HL14.out]; exact ho))
      rw [HL14.out] at HPu
      clear ho hg
      go_wp2_with fail
      refine HPu.out.mono ?_
      rintro e9 w15 ⟨rfl, ho, hg⟩
      have HC15 := hide (HC14.out.trans (Chg.of_grown hg))
      have HO15 := hide ho
      clear ho hg
      go_wp2_with fail
      go_ret
      refine ⟨rfl, ?_, HC15.out⟩
      have hz : putB b l = putN (over M 82 nmB) 510 43605 2 := by unfold putB; rw [← HZ6.out, ← HM.out]; rfl
      rw [hz]
      exact HO15.out
end Go.Proofs.YtcbbaoiefdbcpaaDoor.Oct
