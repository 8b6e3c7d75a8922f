/- The sector with the counts: PutCounts. -/
import Derived.Test.YtcbbaoiefdbcpaaDoorPFva
import Derived.Test.YtcbbaoiefdbcpaaDoorPWr
import Derived.Test.YtcbbaoiefdbcpaaDoorPRdLow
import Derived.Test.YtcbbaoiefdbcpaaDoorPFmrJbkFrd
namespace Go.Proofs.YtcbbaoiefdbcpaaDoor.Oct
open Go.RowKit

theorem Vars.below {w w' : World} (h : Vars w) (hb : Below w.heap.size w w') : Vars w' :=
  ⟨fun i hi => ⟨(hb.cell (p := ⟨1, i * 2, none⟩) (lt_of_cell (h.1 i hi).1)).trans (h.1 i hi).1, (hb.cell (p := ⟨1, i * 2 + 1, none⟩) (lt_of_cell (h.1 i hi).1)).trans (h.1 i hi).2⟩,
   fun i hi => ⟨(hb.cell (p := ⟨0, i * 2, none⟩) (lt_of_cell (h.2 i hi).1)).trans (h.2 i hi).1, (hb.cell (p := ⟨0, i * 2 + 1, none⟩) (lt_of_cell (h.2 i hi).1)).trans (h.2 i hi).2⟩⟩

theorem Vars.sg {w : World} (h : Vars w) : w.cell? ⟨1, 0, none⟩ = some (.int .i64 0) ∧ w.cell? ⟨1, 1, none⟩ = some (.int .u32 1096897106) ∧ w.cell? ⟨1, 2, none⟩ = some (.int .i64 484) ∧ w.cell? ⟨1, 3, none⟩ = some (.int .u32 1631679090) ∧ w.cell? ⟨1, 4, none⟩ = some (.int .i64 508) ∧ w.cell? ⟨1, 5, none⟩ = some (.int .u32 2857697280) :=
  ⟨(h.1 0 (by omega)).1, (h.1 0 (by omega)).2, (h.1 1 (by omega)).1, (h.1 1 (by omega)).2, (h.1 2 (by omega)).1, (h.1 2 (by omega)).2⟩

/-- Is a number one from the least to the most? -/
def witN (a b n : Int) : Bool := decide (a ≤ n) && decide (n ≤ b)

set_option maxHeartbeats 1000000 in
theorem within_any (a b n : Int) (w : World) : Calls Tryd.prog 39 #[.int .i64 a, .int .i64 b, .int .i64 n] w fun e w' => e = .returned (.bool (witN a b n)) ∧ w' = w := by
  unfold witN
  by_cases h : a ≤ n
  · by_cases h2 : n ≤ b
    · rw [decide_eq_true h, decide_eq_true h2]
      go_enter Tryd.func39, Tryd.ntmps39
      go_wp2_with fail
      go_ret
      exact ⟨rfl, rfl⟩
    · rw [decide_eq_true h, decide_eq_false h2]
      go_enter Tryd.func39, Tryd.ntmps39
      go_wp2_with fail
      go_ret
      exact ⟨rfl, rfl⟩
  · rw [decide_eq_false h]
    go_enter Tryd.func39, Tryd.ntmps39
    go_wp2_with fail
    go_ret
    exact ⟨rfl, rfl⟩

/-- Noughts with the first signs. -/
def sgP : Nat → List Int
  | 0 => List.replicate 512 0
  | 1 => putN (List.replicate 512 0) 0 1096897106 4
  | 2 => putN (putN (List.replicate 512 0) 0 1096897106 4) 484 1631679090 4
  | _ => putN (putN (putN (List.replicate 512 0) 0 1096897106 4) 484 1631679090 4) 508 2857697280 4

theorem sgP_len (k : Nat) : (sgP k).length = 512 := by
  unfold sgP
  split <;> simp only [putN_length, List.length_replicate]

theorem ix_sg (u : World) : (Instr.index 116 (.agg #[.int .i64 0, .int .u32 1096897106, .int .i64 484, .int .u32 1631679090, .int .i64 508, .int .u32 2857697280]) (.int .i64 0)).run Tryd.prog u = .ok (.agg #[.int .i64 0, .int .u32 1096897106]) u ∧ (Instr.index 116 (.agg #[.int .i64 0, .int .u32 1096897106, .int .i64 484, .int .u32 1631679090, .int .i64 508, .int .u32 2857697280]) (.int .i64 1)).run Tryd.prog u = .ok (.agg #[.int .i64 484, .int .u32 1631679090]) u ∧ (Instr.index 116 (.agg #[.int .i64 0, .int .u32 1096897106, .int .i64 484, .int .u32 1631679090, .int .i64 508, .int .u32 2857697280]) (.int .i64 2)).run Tryd.prog u = .ok (.agg #[.int .i64 508, .int .u32 2857697280]) u := ⟨by kernel_rfl, by kernel_rfl, by kernel_rfl⟩

/-- The sector that says two counts. -/
def cntP (f x : Int) : List Int := putN (putN (sgP 3) 488 f 4) 492 x 4

set_option maxHeartbeats 8000000 in
set_option maxRecDepth 100000 in
theorem putc_any (f x : Int) (w : World) (hV : Vars w) :
    Calls Tryd.prog 41 #[.agg #[.int .i64 f, .int .i64 x]] w fun e w' => (if witN 0 4294967295 f && witN 0 4294967295 x then ∃ v, e = .returned (.tuple #[v, .int .i64 0]) ∧ Own w' w.heap.size v (cntP f x) else e = .returned (.tuple #[.slice none 0 0, .int .i64 4])) ∧ Below w.heap.size w w' := by
  obtain ⟨w1, hw1⟩ : ∃ w1, w1 = w.alloc (.cells #[.int .i64 f, .int .i64 x] 66) := ⟨_, rfl⟩
  have hb1 : Below w.heap.size w w1 := by rw [hw1]; exact (Below.refl _ _).alloc (Nat.le_refl _) _
  have hk1 : Blk w1 w.heap.size #[.int .i64 f, .int .i64 x] 66 := by rw [hw1]; exact Blk.new _ _ _
  have c0 : w1.cell? ⟨w.heap.size, 0, none⟩ = some (.int .i64 f) := hk1.cell 0 _ rfl
  have c1 : w1.cell? ⟨w.heap.size, 1, none⟩ = some (.int .i64 x) := hk1.cell 1 _ rfl
  have d0 : (w.alloc (.cells #[.int .i64 f, .int .i64 x] 66)).cell? ⟨w.heap.size, 0, none⟩ = some (.int .i64 f) := by rw [← hw1]; exact c0
  have HWi := fun n u => hide (within_any 0 4294967295 n u)
  have HW1 := hide hw1
  have HB1 := hide hb1
  have HK1 := hide hk1
  have HV := hide (hV.below hb1)
  clear hw1 hb1 hk1 hV
  cases hwf : witN 0 4294967295 f
  · go_enter Tryd.func41, Tryd.ntmps41
    go_wp2_with fail
    rw [← HW1.out]
    refine (HWi _ _).out.mono ?_
    rintro e9 w2 ⟨rfl, h2⟩
    rw [h2, hwf]
    clear h2
    go_wp2_with fail
    go_ret2
    exact ⟨by simp, HB1.out⟩
  cases hwx : witN 0 4294967295 x
  · go_enter Tryd.func41, Tryd.ntmps41
    go_wp2_with fail
    rw [← HW1.out]
    refine (HWi _ _).out.mono ?_
    rintro e9 w2 ⟨rfl, h2⟩
    rw [h2, hwf]
    clear h2
    go_wp2_with fail
    refine (HWi _ _).out.mono ?_
    rintro e9 w2 ⟨rfl, h2⟩
    rw [h2, hwx]
    clear h2
    go_wp2_with fail
    go_ret2
    exact ⟨by simp, HB1.out⟩
  have hf2 : 0 ≤ f ∧ f ≤ 4294967295 := by simpa [witN] using hwf
  have hx2 : 0 ≤ x ∧ x ≤ 4294967295 := by simpa [witN] using hwx
  have hmk := run_make_bytes w1 512 (by omega)
  have ho2 := Own.made w1 512 (by unfold maxLen; omega)
  obtain ⟨w2, hw2⟩ : ∃ w2, w2 = w1.alloc (.cells (madeCells #[.int .u8 0] 512) 5) := ⟨_, rfl⟩
  rw [← hw2] at hmk ho2
  have hb2 : Below w1.heap.size w1 w2 := by rw [hw2]; exact (Below.refl _ _).alloc (Nat.le_refl _) _
  have hmk2 : (Instr.makeSlice 26 (.int .i64 512) (.int .i64 512)).run Tryd.prog w1 = .ok (.slice (some ⟨w1.heap.size, 0, none⟩) 512 512) w2 := hmk
  have HV2 := hide (HV.out.below hb2)
  obtain ⟨s0, s1, s2, s3, s4, s5⟩ := HV2.out.sg
  have i0 := fun u => (ix_sg u).1
  have i1 := fun u => (ix_sg u).2.1
  have i2 := fun u => (ix_sg u).2.2
  have HK2 := hide (HK1.out.below hb2)
  have HO2 := hide ho2
  have HB2 := hide hb2
  have HF := hide (And.intro hf2 hx2)
  clear hmk ho2 hb2 hw2 hf2 hx2 HV
  go_enter Tryd.func41, Tryd.ntmps41
  go_wp2_with fail
  rw [← HW1.out]
  refine (HWi _ _).out.mono ?_
  rintro e9 w3 ⟨rfl, h3⟩
  rw [h3, hwf]
  clear h3
  go_wp2_with fail
  refine (HWi _ _).out.mono ?_
  rintro e9 w3 ⟨rfl, h3⟩
  rw [h3, hwx]
  clear h3 hwf hwx
  go_wp2_with fail
  go_loopw [19] (fun i wr => ∃ j : Nat, j ≤ 3 ∧ i = .int .i64 (j : Int) ∧ Own wr w1.heap.size (.slice (some ⟨w1.heap.size, 0, none⟩) 512 512) (sgP j) ∧ Below w1.heap.size w1 wr) (fun i _ => 3 - (intOf i).toNat)
  case atStart => exact ⟨0, by omega, rfl, HO2.out, HB2.out⟩
  case round =>
    obtain ⟨j, hj, rfl, ho, hbr⟩ := hrel
    have HO := hide ho
    have HBr := hide hbr
    clear ho hbr
    obtain rfl | rfl | rfl | rfl : j = 0 ∨ j = 1 ∨ j = 2 ∨ j = 3 := by omega
    · skip
      have HPu := hide (Put32_yes w1.heap.size w1.heap.size 512 (sgP 0) 0 1096897106 (wr.alloc (.cells #[.int .i64 0, .int .u32 1096897106] 115)) (by rw [sgP_len]; unfold maxLen; omega) (by rw [sgP_len]; omega) (by rw [sgP_len]; exact HO.out.below ((Below.refl _ _).alloc (Nat.le_refl _) _)))
      rw [sgP_len] at HPu
      have hx4 := Blk.new wr #[.int .i64 0, .int .u32 1096897106] 115
      have x0 : (wr.alloc (.cells #[.int .i64 0, .int .u32 1096897106] 115)).cell? ⟨wr.heap.size, 0, none⟩ = some (.int .i64 0) := hx4.cell 0 _ rfl
      have x1 : (wr.alloc (.cells #[.int .i64 0, .int .u32 1096897106] 115)).cell? ⟨wr.heap.size, 1, none⟩ = some (.int .u32 1096897106) := hx4.cell 1 _ rfl
      have HB4 := hide (HBr.out.alloc HBr.out.size (.cells #[.int .i64 0, .int .u32 1096897106] 115))
      clear hx4
      go_wp2_with fail
      refine HPu.out.mono ?_
      rintro e9 w5 ⟨rfl, ho5, hg5⟩
      have HO5 := hide ho5
      have HB5 := hide (HB4.out.trans (Chg.below w1.heap.size (Chg.of_grown hg5) HB4.out.size (fun i hi e => by cases e; omega)))
      clear ho5 hg5
      go_wp2_with fail
      go_roundw
      case rel => exact ⟨1, by omega, by go_num, HO5.out, HB5.out⟩
      case measure => simp [intOf]
    · skip
      have HPu := hide (Put32_yes w1.heap.size w1.heap.size 512 (sgP 1) 484 1631679090 (wr.alloc (.cells #[.int .i64 484, .int .u32 1631679090] 115)) (by rw [sgP_len]; unfold maxLen; omega) (by rw [sgP_len]; omega) (by rw [sgP_len]; exact HO.out.below ((Below.refl _ _).alloc (Nat.le_refl _) _)))
      rw [sgP_len] at HPu
      have hx4 := Blk.new wr #[.int .i64 484, .int .u32 1631679090] 115
      have x0 : (wr.alloc (.cells #[.int .i64 484, .int .u32 1631679090] 115)).cell? ⟨wr.heap.size, 0, none⟩ = some (.int .i64 484) := hx4.cell 0 _ rfl
      have x1 : (wr.alloc (.cells #[.int .i64 484, .int .u32 1631679090] 115)).cell? ⟨wr.heap.size, 1, none⟩ = some (.int .u32 1631679090) := hx4.cell 1 _ rfl
      have HB4 := hide (HBr.out.alloc HBr.out.size (.cells #[.int .i64 484, .int .u32 1631679090] 115))
      clear hx4
      go_wp2_with fail
      refine HPu.out.mono ?_
      rintro e9 w5 ⟨rfl, ho5, hg5⟩
      have HO5 := hide ho5
      have HB5 := hide (HB4.out.trans (Chg.below w1.heap.size (Chg.of_grown hg5) HB4.out.size (fun i hi e => by cases e; omega)))
      clear ho5 hg5
      go_wp2_with fail
      go_roundw
      case rel => exact ⟨2, by omega, by go_num, HO5.out, HB5.out⟩
      case measure => simp [intOf]
    · skip
      have HPu := hide (Put32_yes w1.heap.size w1.heap.size 512 (sgP 2) 508 2857697280 (wr.alloc (.cells #[.int .i64 508, .int .u32 2857697280] 115)) (by rw [sgP_len]; unfold maxLen; omega) (by rw [sgP_len]; omega) (by rw [sgP_len]; exact HO.out.below ((Below.refl _ _).alloc (Nat.le_refl _) _)))
      rw [sgP_len] at HPu
      have hx4 := Blk.new wr #[.int .i64 508, .int .u32 2857697280] 115
      have x0 : (wr.alloc (.cells #[.int .i64 508, .int .u32 2857697280] 115)).cell? ⟨wr.heap.size, 0, none⟩ = some (.int .i64 508) := hx4.cell 0 _ rfl
      have x1 : (wr.alloc (.cells #[.int .i64 508, .int .u32 2857697280] 115)).cell? ⟨wr.heap.size, 1, none⟩ = some (.int .u32 2857697280) := hx4.cell 1 _ rfl
      have HB4 := hide (HBr.out.alloc HBr.out.size (.cells #[.int .i64 508, .int .u32 2857697280] 115))
      clear hx4
      go_wp2_with fail
      refine HPu.out.mono ?_
      rintro e9 w5 ⟨rfl, ho5, hg5⟩
      have HO5 := hide ho5
      have HB5 := hide (HB4.out.trans (Chg.below w1.heap.size (Chg.of_grown hg5) HB4.out.size (fun i hi e => by cases e; omega)))
      clear ho5 hg5
      go_wp2_with fail
      go_roundw
      case rel => exact ⟨3, by omega, by go_num, HO5.out, HB5.out⟩
      case measure => simp [intOf]
    · have hk5 := (HK1.out).below HBr.out
      have y0 : wr.cell? ⟨w.heap.size, 0, none⟩ = some (.int .i64 f) := hk5.cell 0 _ rfl
      have hf3 := HF.out
      have hu1 : IntKind.u32.wrap f = f := by simp [IntKind.wrap, IntKind.signed, IntKind.bits]; omega
      have hu2 : IntKind.u32.wrap x = x := by simp [IntKind.wrap, IntKind.signed, IntKind.bits]; omega
      have HPu := hide (Put32_yes w1.heap.size w1.heap.size 512 (sgP 3) 488 f wr (by rw [sgP_len]; unfold maxLen; omega) (by rw [sgP_len]; omega) (by rw [sgP_len]; exact HO.out))
      rw [sgP_len] at HPu
      have HK5 := hide hk5
      clear hk5 hf3
      go_wp2_with fail
      refine HPu.out.mono ?_
      rintro e9 w5 ⟨rfl, ho5, hg5⟩
      have hl5 : (putN (sgP 3) 488 f 4).length = 512 := by rw [putN_length, sgP_len]
      have hne : w.heap.size ≠ w1.heap.size := by have := HK1.out.lt; omega
      have hk6 := HK5.out.chg (Chg.of_grown hg5) (fun e => hne (Option.some.inj e))
      have y1 : w5.cell? ⟨w.heap.size, 1, none⟩ = some (.int .i64 x) := hk6.cell 1 _ rfl
      have HPv := hide (Put32_yes w1.heap.size w1.heap.size 512 (putN (sgP 3) 488 f 4) 492 x w5 (by rw [hl5]; unfold maxLen; omega) (by rw [hl5]; omega) (by rw [hl5]; exact ho5))
      rw [hl5] at HPv
      have HB5 := hide (HBr.out.trans (Chg.below w1.heap.size (Chg.of_grown hg5) HBr.out.size (fun i hi e => by cases e; omega)))
      clear ho5 hg5 hk6 hl5 hne
      go_wp2_with fail
      refine HPv.out.mono ?_
      rintro e9 w6 ⟨rfl, ho6, hg6⟩
      have HO6 := hide ho6
      have HB6 := hide (HB5.out.trans (Chg.below w1.heap.size (Chg.of_grown hg6) HB5.out.size (fun i hi e => by cases e; omega)))
      clear ho6 hg6
      go_wp2_with fail
      go_ret2
      refine ⟨?_, HB1.out.trans (HB6.out.mono HB1.out.size)⟩
      exact ⟨_, rfl, HO6.out.mono HB1.out.size⟩
end Go.Proofs.YtcbbaoiefdbcpaaDoor.Oct
