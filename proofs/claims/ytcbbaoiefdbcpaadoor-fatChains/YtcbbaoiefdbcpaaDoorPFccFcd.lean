/- The sector with the counts: ParseCounts. -/
import Derived.Test.YtcbbaoiefdbcpaaDoorPFcb
import Derived.Test.YtcbbaoiefdbcpaaDoorPRdLow
namespace Go.Proofs.YtcbbaoiefdbcpaaDoor.Oct
open Go.RowKit

theorem num32_lt (l : List Int) (p : Nat) (hb : Byts l) : 0 ≤ num l p 4 ∧ num l p 4 ≤ 4294967295 := by
  have := num_lt l p hb 4
  simp at this
  omega

set_option maxHeartbeats 1000000 in
theorem get16_any (a : Option Addr) (cap : Nat) (l : List Int) (p : Nat) (w : World) (hlen : l.length ≤ maxLen) (hb : Byts l) (hl : Lies w a l) (hp : p + 2 ≤ l.length) :
    Calls Tryd.prog 59 #[.slice a l.length cap, .int .i64 (p : Int)] w fun e w' => e = .returned (.int .i64 (num l p 2)) ∧ w' = w := by
  unfold maxLen at hlen
  have h := U16_any a cap l (p : Int) w (by unfold maxLen; omega) hb hl (by omega) (by omega)
  rw [numAt_yes hp, thereB_yes (by omega) (by omega) (by omega)] at h
  have hn := num_lt l p hb 2
  simp at hn
  have hw : IntKind.i64.wrap (num l p 2) = num l p 2 := by rw [IntKind.wrap_i64]; omega
  have HU := hide h
  obtain ⟨n, hnn⟩ : ∃ n, n = l.length := ⟨_, rfl⟩
  rw [← hnn] at HU ⊢
  clear h hl hb hlen hp hnn
  generalize num l p 2 = v at *
  go_enter Tryd.func59, Tryd.ntmps59
  go_wp2_with fail
  refine HU.out.mono ?_
  rintro e9 w9 ⟨rfl, h9⟩
  rw [h9]
  clear h9
  go_wp2_with fail
  go_ret
  exact ⟨by go_num, rfl⟩

set_option maxHeartbeats 1000000 in
theorem get32_any (a : Option Addr) (cap : Nat) (l : List Int) (p : Nat) (w : World) (hlen : l.length ≤ maxLen) (hb : Byts l) (hl : Lies w a l) (hp : p + 4 ≤ l.length) :
    Calls Tryd.prog 61 #[.slice a l.length cap, .int .i64 (p : Int)] w fun e w' => e = .returned (.int .i64 (num l p 4)) ∧ w' = w := by
  unfold maxLen at hlen
  have h := U32_any a cap l (p : Int) w (by unfold maxLen; omega) hb hl (by omega) (by omega)
  rw [numAt_yes hp, thereB_yes (by omega) (by omega) (by omega)] at h
  have hn := num_lt l p hb 4
  simp at hn
  have hw : IntKind.i64.wrap (num l p 4) = num l p 4 := by rw [IntKind.wrap_i64]; omega
  have HU := hide h
  obtain ⟨n, hnn⟩ : ∃ n, n = l.length := ⟨_, rfl⟩
  rw [← hnn] at HU ⊢
  clear h hl hb hlen hp hnn
  generalize num l p 4 = v at *
  go_enter Tryd.func61, Tryd.ntmps61
  go_wp2_with fail
  refine HU.out.mono ?_
  rintro e9 w9 ⟨rfl, h9⟩
  rw [h9]
  clear h9
  go_wp2_with fail
  go_ret
  exact ⟨by go_num, rfl⟩

/-- What ParseCounts answers: an error, the two counts. -/
def parC (s : List Int) : Int × Int × Int :=
  if s.length = 512 then (if num s 0 4 = 1096897106 ∧ num s 484 4 = 1631679090 ∧ num s 508 4 = 2857697280 then (num s 488 4, num s 492 4, 0) else (0, 0, 10)) else (0, 0, 4)
end Go.Proofs.YtcbbaoiefdbcpaaDoor.Oct

namespace Go.Proofs.YtcbbaoiefdbcpaaDoor.Oct
open Go.RowKit

/-- A result of two counts and a number: the counts lie in a block. -/
theorem ret_cnt {fn : Func} {p u : Tmp} (hr : fn.results = #[.cell p 66, .tmp u]) (tmps : Array Value) (w : World) (R : Nat) (f x : Int) (z : Value)
    (hp : tmps.getD p undef = .pointer (some ⟨R, 0, none⟩)) (hz : tmps.getD u undef = z) (hs : Blk w R #[.int .i64 f, .int .i64 x] 66) :
    (results fn tmps).run Tryd.prog w = .ok (.tuple #[.agg #[.int .i64 f, .int .i64 x], z]) w := by
  rw [results_cell_tmp hr, hp, hz]
  simp only [asAddr, Sem.run_pure, Result.andThen_ok]
  rw [run_loadVar_row w R 66 66 _ (0, 0) _ hs Tryd.underlying66 rfl (by kernel_rfl)]
  rfl

theorem U32_at (a : Option Addr) (cap : Nat) (l : List Int) (p : Nat) (w : World) (hlen : l.length ≤ maxLen) (hb : Byts l) (hl : Lies w a l) (hp : p + 4 ≤ l.length) :
    Calls Tryd.prog 49 #[.slice a l.length cap, .int .i64 (p : Int)] w fun e w' => e = .returned (.tuple #[.int .u32 (num l p 4), .bool true]) ∧ w' = w := by
  unfold maxLen at hlen
  have h := U32_any a cap l (p : Int) w (by unfold maxLen; omega) hb hl (by omega) (by omega)
  rw [numAt_yes hp, thereB_yes (by omega) (by omega) (by omega)] at h
  exact h

set_option maxHeartbeats 8000000 in
set_option maxRecDepth 100000 in
theorem parc_any (a : Option Addr) (cap : Nat) (l : List Int) (w : World) (hlen : l.length ≤ maxLen) (hb : Byts l) (hl : Lies w a l) (hV : Vars w) :
    Calls Tryd.prog 48 #[.slice a l.length cap] w fun e w' => e = .returned (.tuple #[.agg #[.int .i64 (parC l).1, .int .i64 (parC l).2.1], .int .i64 (parC l).2.2]) ∧ Below w.heap.size w w' := by
  unfold maxLen at hlen
  obtain ⟨n, hn⟩ : ∃ n, n = l.length := ⟨_, rfl⟩
  obtain ⟨w1, hw1⟩ : ∃ w1, w1 = w.alloc (.cells #[.int .i64 0, .int .i64 0] 66) := ⟨_, rfl⟩
  have hb1 : Below w.heap.size w w1 := by rw [hw1]; exact (Below.refl _ _).alloc (Nat.le_refl _) _
  have hk1 : Blk w1 w.heap.size #[.int .i64 0, .int .i64 0] 66 := by rw [hw1]; exact Blk.new _ _ _
  by_cases h5 : l.length = 512
  · have hl1 : Lies w1 a l := hl.below hb1
    have HV := hide (hV.below hb1)
    have g32 := fun (p : Nat) (hp : p + 4 ≤ l.length) (u : World) (hu : Lies u a l) => hide (get32_any a cap l p u (by unfold maxLen; omega) hb hu hp)
    have u32 := fun (p : Nat) (hp : p + 4 ≤ l.length) (u : World) (hu : Lies u a l) => hide (U32_at a cap l p u (by unfold maxLen; omega) hb hu hp)
    rw [h5] at g32 u32 ⊢
    have HG0 := g32 488 (by omega)
    have HG1 := g32 492 (by omega)
    have HU0 := u32 0 (by omega)
    have HU1 := u32 484 (by omega)
    have HU2 := u32 508 (by omega)
    have HE := hide (show parC l = if num l 0 4 = 1096897106 ∧ num l 484 4 = 1631679090 ∧ num l 508 4 = 2857697280 then (num l 488 4, num l 492 4, 0) else (0, 0, 10) from if_pos h5)
    have HL := hide hl1
    have HW1 := hide hw1
    have HB1 := hide hb1
    have HK1 := hide hk1
    clear g32 u32 hn n hlen hb hl hl1 hV hw1 hb1 hk1 h5
    obtain ⟨pc, hpc⟩ : ∃ pc, pc = parC l := ⟨_, rfl⟩
    rw [← hpc] at HE ⊢
    clear hpc
    generalize num l 0 4 = v0 at *
    generalize num l 484 4 = v1 at *
    generalize num l 508 4 = v2 at *
    generalize num l 488 4 = f at *
    generalize num l 492 4 = x at *
    obtain ⟨s0, s1, s2, s3, s4, s5⟩ := HV.out.sg
    have t0 : (w.alloc (.cells #[.int .i64 0, .int .i64 0] 66)).cell? ⟨1, 0, none⟩ = some (.int .i64 0) := by rw [← HW1.out]; exact s0
    have t1 : (w.alloc (.cells #[.int .i64 0, .int .i64 0] 66)).cell? ⟨1, 1, none⟩ = some (.int .u32 1096897106) := by rw [← HW1.out]; exact s1
    have t2 : (w.alloc (.cells #[.int .i64 0, .int .i64 0] 66)).cell? ⟨1, 2, none⟩ = some (.int .i64 484) := by rw [← HW1.out]; exact s2
    have t3 : (w.alloc (.cells #[.int .i64 0, .int .i64 0] 66)).cell? ⟨1, 3, none⟩ = some (.int .u32 1631679090) := by rw [← HW1.out]; exact s3
    have t4 : (w.alloc (.cells #[.int .i64 0, .int .i64 0] 66)).cell? ⟨1, 4, none⟩ = some (.int .i64 508) := by rw [← HW1.out]; exact s4
    have t5 : (w.alloc (.cells #[.int .i64 0, .int .i64 0] 66)).cell? ⟨1, 5, none⟩ = some (.int .u32 2857697280) := by rw [← HW1.out]; exact s5
    have i0 := fun u => (ix_sg u).1
    have i1 := fun u => (ix_sg u).2.1
    have i2 := fun u => (ix_sg u).2.2
    go_enter Tryd.func48, Tryd.ntmps48
    go_wp2_with fail
    rw [← HW1.out]
    clear t0 t1 t2 t3 t4 t5 s0 s1 s2 s3 s4 s5
    go_loopw [13] (fun i wr => ∃ j : Nat, j ≤ 3 ∧ i = .int .i64 (j : Int) ∧ Blk wr w.heap.size #[.int .i64 0, .int .i64 0] 66 ∧ Below w1.heap.size w1 wr ∧ (0 < j → v0 = 1096897106) ∧ (1 < j → v1 = 1631679090) ∧ (2 < j → v2 = 2857697280)) (fun i _ => 3 - (intOf i).toNat)
    case atStart => exact ⟨0, by omega, rfl, HK1.out, Below.refl _ _, fun h => by omega, fun h => by omega, fun h => by omega⟩
    case round =>
      obtain ⟨j, hj, rfl, hk, hbr, q0, q1, q2⟩ := hrel
      have HK := hide hk
      have HBr := hide hbr
      have HLr := hide (HL.out.below hbr)
      clear hk hbr
      obtain rfl | rfl | rfl | rfl : j = 0 ∨ j = 1 ∨ j = 2 ∨ j = 3 := by omega
      · skip
        have hx4 := Blk.new wr #[.int .i64 0, .int .u32 1096897106] 115
        have x0 : (wr.alloc (.cells #[.int .i64 0, .int .u32 1096897106] 115)).cell? ⟨wr.heap.size, 0, none⟩ = some (.int .i64 0) := hx4.cell 0 _ rfl
        have x1 : (wr.alloc (.cells #[.int .i64 0, .int .u32 1096897106] 115)).cell? ⟨wr.heap.size, 1, none⟩ = some (.int .u32 1096897106) := hx4.cell 1 _ rfl
        have hb4 : Below wr.heap.size wr (wr.alloc (.cells #[.int .i64 0, .int .u32 1096897106] 115)) := (Below.refl _ _).alloc (Nat.le_refl _) _
        have HC := HU0 _ (HLr.out.below hb4)
        have HK4 := hide (HK.out.below hb4)
        have HB4 := hide (HBr.out.trans (hb4.mono HBr.out.size))
        clear hx4 hb4
        have Q := hide (And.intro q0 (And.intro q1 q2))
        clear q0 q1 q2
        go_wp2_with fail
        refine HC.out.mono ?_
        rintro e9 w5 ⟨rfl, h5⟩
        rw [h5]
        clear h5
        by_cases hv : v0 = 1096897106
        · rw [hv]
          go_wp2_with fail
          go_roundw
          case rel => exact ⟨1, by omega, by go_num, HK4.out, HB4.out, fun _ => hv, fun h => by omega, fun h => by omega⟩
          case measure => simp [intOf]
        · have e0 : pc = (0, 0, 10) := by rw [HE.out, if_neg (fun c => hv c.1)]
          have HP := hide e0
          have z0 := HK4.out.cell 0 _ rfl
          have z1 := HK4.out.cell 1 _ rfl
          have f0 := HK4.out.frozen 0
          have f1 := HK4.out.frozen 1
          clear e0
          go_wp2_with fail
          refine bodyPost_ret (ret_cnt rfl _ _ w.heap.size 0 0 _ rfl rfl ((HK4.out.set 0 (.int .i64 0)).set 1 (.int .i64 0))) rfl ⟨by rw [HP.out]; rfl, ?_⟩
          exact ((HB1.out.trans (HB4.out.mono HB1.out.size)).setCell (p := ⟨w.heap.size, 0, none⟩) (Nat.le_refl _) _).setCell (p := ⟨w.heap.size, 1, none⟩) (Nat.le_refl _) _
      · skip
        have hx4 := Blk.new wr #[.int .i64 484, .int .u32 1631679090] 115
        have x0 : (wr.alloc (.cells #[.int .i64 484, .int .u32 1631679090] 115)).cell? ⟨wr.heap.size, 0, none⟩ = some (.int .i64 484) := hx4.cell 0 _ rfl
        have x1 : (wr.alloc (.cells #[.int .i64 484, .int .u32 1631679090] 115)).cell? ⟨wr.heap.size, 1, none⟩ = some (.int .u32 1631679090) := hx4.cell 1 _ rfl
        have hb4 : Below wr.heap.size wr (wr.alloc (.cells #[.int .i64 484, .int .u32 1631679090] 115)) := (Below.refl _ _).alloc (Nat.le_refl _) _
        have HC := HU1 _ (HLr.out.below hb4)
        have HK4 := hide (HK.out.below hb4)
        have HB4 := hide (HBr.out.trans (hb4.mono HBr.out.size))
        clear hx4 hb4
        have Q := hide (And.intro q0 (And.intro q1 q2))
        clear q0 q1 q2
        go_wp2_with fail
        refine HC.out.mono ?_
        rintro e9 w5 ⟨rfl, h5⟩
        rw [h5]
        clear h5
        by_cases hv : v1 = 1631679090
        · rw [hv]
          go_wp2_with fail
          go_roundw
          case rel => exact ⟨2, by omega, by go_num, HK4.out, HB4.out, fun _ => Q.out.1 (by omega), fun _ => hv, fun h => by omega⟩
          case measure => simp [intOf]
        · have e0 : pc = (0, 0, 10) := by rw [HE.out, if_neg (fun c => hv c.2.1)]
          have HP := hide e0
          have z0 := HK4.out.cell 0 _ rfl
          have z1 := HK4.out.cell 1 _ rfl
          have f0 := HK4.out.frozen 0
          have f1 := HK4.out.frozen 1
          clear e0
          go_wp2_with fail
          refine bodyPost_ret (ret_cnt rfl _ _ w.heap.size 0 0 _ rfl rfl ((HK4.out.set 0 (.int .i64 0)).set 1 (.int .i64 0))) rfl ⟨by rw [HP.out]; rfl, ?_⟩
          exact ((HB1.out.trans (HB4.out.mono HB1.out.size)).setCell (p := ⟨w.heap.size, 0, none⟩) (Nat.le_refl _) _).setCell (p := ⟨w.heap.size, 1, none⟩) (Nat.le_refl _) _
      · skip
        have hx4 := Blk.new wr #[.int .i64 508, .int .u32 2857697280] 115
        have x0 : (wr.alloc (.cells #[.int .i64 508, .int .u32 2857697280] 115)).cell? ⟨wr.heap.size, 0, none⟩ = some (.int .i64 508) := hx4.cell 0 _ rfl
        have x1 : (wr.alloc (.cells #[.int .i64 508, .int .u32 2857697280] 115)).cell? ⟨wr.heap.size, 1, none⟩ = some (.int .u32 2857697280) := hx4.cell 1 _ rfl
        have hb4 : Below wr.heap.size wr (wr.alloc (.cells #[.int .i64 508, .int .u32 2857697280] 115)) := (Below.refl _ _).alloc (Nat.le_refl _) _
        have HC := HU2 _ (HLr.out.below hb4)
        have HK4 := hide (HK.out.below hb4)
        have HB4 := hide (HBr.out.trans (hb4.mono HBr.out.size))
        clear hx4 hb4
        have Q := hide (And.intro q0 (And.intro q1 q2))
        clear q0 q1 q2
        go_wp2_with fail
        refine HC.out.mono ?_
        rintro e9 w5 ⟨rfl, h5⟩
        rw [h5]
        clear h5
        by_cases hv : v2 = 2857697280
        · rw [hv]
          go_wp2_with fail
          go_roundw
          case rel => exact ⟨3, by omega, by go_num, HK4.out, HB4.out, fun _ => Q.out.1 (by omega), fun _ => Q.out.2.1 (by omega), fun _ => hv⟩
          case measure => simp [intOf]
        · have e0 : pc = (0, 0, 10) := by rw [HE.out, if_neg (fun c => hv c.2.2)]
          have HP := hide e0
          have z0 := HK4.out.cell 0 _ rfl
          have z1 := HK4.out.cell 1 _ rfl
          have f0 := HK4.out.frozen 0
          have f1 := HK4.out.frozen 1
          clear e0
          go_wp2_with fail
          refine bodyPost_ret (ret_cnt rfl _ _ w.heap.size 0 0 _ rfl rfl ((HK4.out.set 0 (.int .i64 0)).set 1 (.int .i64 0))) rfl ⟨by rw [HP.out]; rfl, ?_⟩
          exact ((HB1.out.trans (HB4.out.mono HB1.out.size)).setCell (p := ⟨w.heap.size, 0, none⟩) (Nat.le_refl _) _).setCell (p := ⟨w.heap.size, 1, none⟩) (Nat.le_refl _) _
      · have e0 : pc = (f, x, 0) := by rw [HE.out, if_pos ⟨q0 (by omega), q1 (by omega), q2 (by omega)⟩]
        have HP := hide e0
        have z0 := HK.out.cell 0 _ rfl
        have z1 := HK.out.cell 1 _ rfl
        have f0 := HK.out.frozen 0
        have f1 := HK.out.frozen 1
        have HG0' := HG0 wr HLr.out
        have HG1' := HG1 wr HLr.out
        clear e0 q0 q1 q2
        go_wp2_with fail
        refine HG0'.out.mono ?_
        rintro e9 w5 ⟨rfl, h5⟩
        rw [h5]
        clear h5
        go_wp2_with fail
        refine HG1'.out.mono ?_
        rintro e9 w5 ⟨rfl, h5⟩
        rw [h5]
        clear h5
        go_wp2_with fail
        refine bodyPost_ret (ret_cnt rfl _ _ w.heap.size f x _ rfl rfl ((HK.out.set 0 (.int .i64 f)).set 1 (.int .i64 x))) rfl ⟨by rw [HP.out]; rfl, ?_⟩
        exact ((HB1.out.trans (HBr.out.mono HB1.out.size)).setCell (p := ⟨w.heap.size, 0, none⟩) (Nat.le_refl _) _).setCell (p := ⟨w.heap.size, 1, none⟩) (Nat.le_refl _) _
  · have e0 : parC l = (0, 0, 4) := by unfold parC; rw [if_neg h5]
    rw [e0, ← hn]
    rw [← hn] at h5 hlen
    rw [hw1] at hk1 hb1
    have HK1 := hide hk1
    have HB1 := hide hb1
    clear hn hV hl hb e0 hk1 hb1 hw1
    go_enter Tryd.func48, Tryd.ntmps48
    go_wp2_with fail
    exact bodyPost_ret (ret_cnt rfl _ _ w.heap.size 0 0 _ rfl rfl HK1.out) rfl ⟨rfl, HB1.out⟩
end Go.Proofs.YtcbbaoiefdbcpaaDoor.Oct
