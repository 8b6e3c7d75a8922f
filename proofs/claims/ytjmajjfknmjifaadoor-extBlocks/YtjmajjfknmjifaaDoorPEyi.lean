/- What a block says: Parse. -/
import Derived.Test.YtjmajjfknmjifaaDoorPEyh
import Derived.Test.YtjmajjfknmjifaaDoorPRdWr
import Derived.BigQuiet
namespace Go.Proofs.YtjmajjfknmjifaaDoor.Oct
open Go.RowKit

/-- What the bytes of a block say. -/
def spOf (l : List Int) : Sp := ⟨num l 0 4, num l 4 4, num l 12 4, num l 16 4, num l 32 4, num l 40 4, num l 84 4, num l 96 4 == 2⟩

/-- What Parse answers: a super, an error. -/
def parE (l : List Int) : Sp × Int :=
  if l.length = 1024 then (if num l 56 2 = 61267 then (if num l 20 4 = 1 ∧ num l 24 4 = 0 ∧ num l 76 4 = 1 ∧ num l 100 4 = 0 then (if num l 88 2 = 128 ∧ (num l 96 4 = 0 ∨ num l 96 4 = 2) then (if (spOf l).chk = 0 then (spOf l, 0) else (Sp.z, (spOf l).chk)) else (Sp.z, 11)) else (Sp.z, 11)) else (Sp.z, 10)) else (Sp.z, 4)

theorem ret_sp {fn : Func} {p u : Tmp} (hr : fn.results = #[.cell p 23, .tmp u]) (tmps : Array Value) (w : World) (R : Nat) (s : Sp) (z : Value)
    (hp : tmps.getD p undef = .pointer (some ⟨R, 0, none⟩)) (hz : tmps.getD u undef = z) (hs : Blk w R s.cs 23) :
    (results fn tmps).run Tryd.prog w = .ok (.tuple #[.agg s.cs, z]) w := by
  rw [results_cell_tmp hr, hp, hz]
  simp only [asAddr, Sem.run_pure, Result.andThen_ok]
  rw [run_loadVar_row w R 23 23 _ (0, 0) _ hs Tryd.underlying23 rfl (by kernel_rfl)]
  rfl

theorem blk8e {u : World} {R : Nat} {t : TypeId} {x0 x1 x2 x3 x4 x5 x6 x7 : Value} (h : Blk u R #[x0, x1, x2, x3, x4, x5, x6, x7] t) (v0 v1 v2 v3 v4 v5 v6 v7 : Value) :
    Blk ((((((((u.setCell ⟨R, 0, none⟩ v0).setCell ⟨R, 1, none⟩ v1).setCell ⟨R, 2, none⟩ v2).setCell ⟨R, 3, none⟩ v3).setCell ⟨R, 4, none⟩ v4).setCell ⟨R, 5, none⟩ v5).setCell ⟨R, 6, none⟩ v6).setCell ⟨R, 7, none⟩ v7) R #[v0, v1, v2, v3, v4, v5, v6, v7] t := by
  have h0 : Blk (u.setCell ⟨R, 0, none⟩ v0) R #[v0, x1, x2, x3, x4, x5, x6, x7] t := h.set 0 v0
  have h1 : Blk ((u.setCell ⟨R, 0, none⟩ v0).setCell ⟨R, 1, none⟩ v1) R #[v0, v1, x2, x3, x4, x5, x6, x7] t := h0.set 1 v1
  have h2 : Blk (((u.setCell ⟨R, 0, none⟩ v0).setCell ⟨R, 1, none⟩ v1).setCell ⟨R, 2, none⟩ v2) R #[v0, v1, v2, x3, x4, x5, x6, x7] t := h1.set 2 v2
  have h3 : Blk ((((u.setCell ⟨R, 0, none⟩ v0).setCell ⟨R, 1, none⟩ v1).setCell ⟨R, 2, none⟩ v2).setCell ⟨R, 3, none⟩ v3) R #[v0, v1, v2, v3, x4, x5, x6, x7] t := h2.set 3 v3
  have h4 : Blk (((((u.setCell ⟨R, 0, none⟩ v0).setCell ⟨R, 1, none⟩ v1).setCell ⟨R, 2, none⟩ v2).setCell ⟨R, 3, none⟩ v3).setCell ⟨R, 4, none⟩ v4) R #[v0, v1, v2, v3, v4, x5, x6, x7] t := h3.set 4 v4
  have h5 : Blk ((((((u.setCell ⟨R, 0, none⟩ v0).setCell ⟨R, 1, none⟩ v1).setCell ⟨R, 2, none⟩ v2).setCell ⟨R, 3, none⟩ v3).setCell ⟨R, 4, none⟩ v4).setCell ⟨R, 5, none⟩ v5) R #[v0, v1, v2, v3, v4, v5, x6, x7] t := h4.set 5 v5
  have h6 : Blk (((((((u.setCell ⟨R, 0, none⟩ v0).setCell ⟨R, 1, none⟩ v1).setCell ⟨R, 2, none⟩ v2).setCell ⟨R, 3, none⟩ v3).setCell ⟨R, 4, none⟩ v4).setCell ⟨R, 5, none⟩ v5).setCell ⟨R, 6, none⟩ v6) R #[v0, v1, v2, v3, v4, v5, v6, x7] t := h5.set 6 v6
  have h7 : Blk ((((((((u.setCell ⟨R, 0, none⟩ v0).setCell ⟨R, 1, none⟩ v1).setCell ⟨R, 2, none⟩ v2).setCell ⟨R, 3, none⟩ v3).setCell ⟨R, 4, none⟩ v4).setCell ⟨R, 5, none⟩ v5).setCell ⟨R, 6, none⟩ v6).setCell ⟨R, 7, none⟩ v7) R #[v0, v1, v2, v3, v4, v5, v6, v7] t := h6.set 7 v7
  exact h7

theorem below8e {n R : Nat} {w u : World} (h : Below n w u) (hR : n ≤ R) (v0 v1 v2 v3 v4 v5 v6 v7 : Value) :
    Below n w ((((((((u.setCell ⟨R, 0, none⟩ v0).setCell ⟨R, 1, none⟩ v1).setCell ⟨R, 2, none⟩ v2).setCell ⟨R, 3, none⟩ v3).setCell ⟨R, 4, none⟩ v4).setCell ⟨R, 5, none⟩ v5).setCell ⟨R, 6, none⟩ v6).setCell ⟨R, 7, none⟩ v7) :=
  (((((((h.setCell (p := ⟨R, 0, none⟩) hR v0).setCell (p := ⟨R, 1, none⟩) hR v1).setCell (p := ⟨R, 2, none⟩) hR v2).setCell (p := ⟨R, 3, none⟩) hR v3).setCell (p := ⟨R, 4, none⟩) hR v4).setCell (p := ⟨R, 5, none⟩) hR v5).setCell (p := ⟨R, 6, none⟩) hR v6).setCell (p := ⟨R, 7, none⟩) hR v7

theorem U16_atE (a : Option Addr) (cap : Nat) (l : List Int) (p : Nat) (w : World) (hlen : l.length ≤ maxLen) (hb : Byts l) (hl : Lies w a l) (hp : p + 2 ≤ l.length) :
    Calls Tryd.prog 60 #[.slice a l.length cap, .int .i64 (p : Int)] w fun e w' => e = .returned (.tuple #[.int .u16 (num l p 2), .bool true]) ∧ w' = w := by
  unfold maxLen at hlen
  have h := U16_any a cap l (p : Int) w (by unfold maxLen; omega) hb hl (by omega) (by omega)
  rw [numAt_yes hp, thereB_yes (by omega) (by omega) (by omega)] at h
  exact h

set_option maxHeartbeats 2000000 in
theorem eget16_any (a : Option Addr) (cap : Nat) (l : List Int) (p : Nat) (w : World) (hlen : l.length ≤ maxLen) (hb : Byts l) (hl : Lies w a l) (hp : p + 2 ≤ l.length) :
    Calls Tryd.prog 33 #[.slice a l.length cap, .int .i64 (p : Int)] w fun e w' => e = .returned (.int .i64 (num l p 2)) ∧ w' = w := by
  have HU := hide (U16_atE a cap l p w hlen hb hl hp)
  have hn := num_lt l p hb 2
  have hn2 : 0 ≤ num l p 2 ∧ num l p 2 < 4294967296 := by constructor <;> omega
  obtain ⟨x, hx⟩ : ∃ x, x = num l p 2 := ⟨_, rfl⟩
  rw [← hx] at HU hn2 ⊢
  have hw : IntKind.i64.wrap x = x := by rw [IntKind.wrap_i64]; omega
  obtain ⟨n, hnn⟩ : ∃ n, n = l.length := ⟨_, rfl⟩
  rw [← hnn] at HU ⊢
  obtain ⟨q, hq⟩ : ∃ q : Int, q = (p : Int) := ⟨_, rfl⟩
  rw [← hq] at HU ⊢
  clear hlen hb hl hp hn hn2 hx hnn hq
  go_enter Tryd.func33, Tryd.ntmps33
  go_wp2_with fail
  refine HU.out.mono ?_
  rintro e9 w2 ⟨rfl, h2⟩
  rw [h2]
  clear h2
  go_wp2_with fail
  go_ret
  exact ⟨rfl, rfl⟩


theorem U32_atE (a : Option Addr) (cap : Nat) (l : List Int) (p : Nat) (w : World) (hlen : l.length ≤ maxLen) (hb : Byts l) (hl : Lies w a l) (hp : p + 4 ≤ l.length) :
    Calls Tryd.prog 34 #[.slice a l.length cap, .int .i64 (p : Int)] w fun e w' => e = .returned (.tuple #[.int .u32 (num l p 4), .bool true]) ∧ w' = w := by
  unfold maxLen at hlen
  have h := U32_any a cap l (p : Int) w (by unfold maxLen; omega) hb hl (by omega) (by omega)
  rw [numAt_yes hp, thereB_yes (by omega) (by omega) (by omega)] at h
  exact h

set_option maxHeartbeats 2000000 in
theorem eget32_any (a : Option Addr) (cap : Nat) (l : List Int) (p : Nat) (w : World) (hlen : l.length ≤ maxLen) (hb : Byts l) (hl : Lies w a l) (hp : p + 4 ≤ l.length) :
    Calls Tryd.prog 35 #[.slice a l.length cap, .int .i64 (p : Int)] w fun e w' => e = .returned (.int .i64 (num l p 4)) ∧ w' = w := by
  have HU := hide (U32_atE a cap l p w hlen hb hl hp)
  have hn := num_lt l p hb 4
  have hn2 : 0 ≤ num l p 4 ∧ num l p 4 < 4294967296 := by constructor <;> omega
  obtain ⟨x, hx⟩ : ∃ x, x = num l p 4 := ⟨_, rfl⟩
  rw [← hx] at HU hn2 ⊢
  have hw : IntKind.i64.wrap x = x := by rw [IntKind.wrap_i64]; omega
  obtain ⟨n, hnn⟩ : ∃ n, n = l.length := ⟨_, rfl⟩
  rw [← hnn] at HU ⊢
  obtain ⟨q, hq⟩ : ∃ q : Int, q = (p : Int) := ⟨_, rfl⟩
  rw [← hq] at HU ⊢
  clear hlen hb hl hp hn hn2 hx hnn hq
  go_enter Tryd.func35, Tryd.ntmps35
  go_wp2_with fail
  refine HU.out.mono ?_
  rintro e9 w2 ⟨rfl, h2⟩
  rw [h2]
  clear h2
  go_wp2_with fail
  go_ret
  exact ⟨rfl, rfl⟩

set_option maxHeartbeats 16000000 in
set_option maxRecDepth 100000 in
theorem eparse_any (a : Option Addr) (cap : Nat) (l : List Int) (w : World) (hlen : l.length ≤ maxLen) (hb : Byts l) (hl : Lies w a l) (hV : VarX w) :
    Calls Tryd.prog 8 #[.slice a l.length cap] w fun e w' => e = .returned (.tuple #[.agg (parE l).1.cs, .int .i64 (parE l).2]) ∧ Below w.heap.size w w' := by
  unfold maxLen at hlen
  obtain ⟨n, hn⟩ : ∃ n, n = l.length := ⟨_, rfl⟩
  obtain ⟨w1, hw1⟩ : ∃ w1, w1 = w.alloc (.cells #[.int .i64 0, .int .i64 0, .int .i64 0, .int .i64 0, .int .i64 0, .int .i64 0, .int .i64 0, .bool false] 23) := ⟨_, rfl⟩
  have hb1 : Below w.heap.size w w1 := by rw [hw1]; exact (Below.refl _ _).alloc (Nat.le_refl _) _
  have hk1 : Blk w1 w.heap.size #[.int .i64 0, .int .i64 0, .int .i64 0, .int .i64 0, .int .i64 0, .int .i64 0, .int .i64 0, .bool false] 23 := by rw [hw1]; exact Blk.new _ _ _
  by_cases h5 : l.length = 1024
  · have hl1 : Lies w1 a l := hl.below hb1
    have HV := hide (hV.below hb1)
    have g16 := fun (p : Nat) (hp : p + 2 ≤ l.length) (u : World) (hu : Lies u a l) => hide (eget16_any a cap l p u (by unfold maxLen; omega) hb hu hp)
    have g32 := fun (p : Nat) (hp : p + 4 ≤ l.length) (u : World) (hu : Lies u a l) => hide (eget32_any a cap l p u (by unfold maxLen; omega) hb hu hp)
    have u32a := fun (p : Nat) (hp : p + 4 ≤ l.length) (u : World) (hu : Lies u a l) => hide (U32_atE a cap l p u (by unfold maxLen; omega) hb hu hp)
    rw [h5] at g16 g32 u32a ⊢
    have HG56 := g16 56 (by omega)
    push_cast at HG56
    have HG88 := g16 88 (by omega)
    push_cast at HG88
    have HG0 := g32 0 (by omega)
    push_cast at HG0
    have HG4 := g32 4 (by omega)
    push_cast at HG4
    have HG12 := g32 12 (by omega)
    push_cast at HG12
    have HG16 := g32 16 (by omega)
    push_cast at HG16
    have HG32 := g32 32 (by omega)
    push_cast at HG32
    have HG40 := g32 40 (by omega)
    push_cast at HG40
    have HG84 := g32 84 (by omega)
    push_cast at HG84
    have HG96 := g32 96 (by omega)
    push_cast at HG96
    have HU20 := u32a 20 (by omega)
    push_cast at HU20
    have HU24 := u32a 24 (by omega)
    push_cast at HU24
    have HU76 := u32a 76 (by omega)
    push_cast at HU76
    have HU100 := u32a 100 (by omega)
    push_cast at HU100
    have HE := hide (show parE l = (if num l 56 2 = 61267 then (if num l 20 4 = 1 ∧ num l 24 4 = 0 ∧ num l 76 4 = 1 ∧ num l 100 4 = 0 then (if num l 88 2 = 128 ∧ (num l 96 4 = 0 ∨ num l 96 4 = 2) then (if (spOf l).chk = 0 then (spOf l, 0) else (Sp.z, (spOf l).chk)) else (Sp.z, 11)) else (Sp.z, 11)) else (Sp.z, 10)) from if_pos h5)
    have HL := hide hl1
    have HW1 := hide hw1
    have HB1 := hide hb1
    have HK1 := hide hk1
    unfold spOf at HE
    clear g16 g32 u32a hn n hlen hb hl hl1 hV hw1 hb1 hk1 h5
    obtain ⟨pc, hpc⟩ : ∃ pc, pc = parE l := ⟨_, rfl⟩
    rw [← hpc] at HE ⊢
    clear hpc
    generalize num l 56 2 = v56 at *
    generalize num l 88 2 = v88 at *
    generalize num l 0 4 = v0 at *
    generalize num l 4 4 = v4 at *
    generalize num l 12 4 = v12 at *
    generalize num l 16 4 = v16 at *
    generalize num l 32 4 = v32 at *
    generalize num l 40 4 = v40 at *
    generalize num l 84 4 = v84 at *
    generalize num l 96 4 = v96 at *
    generalize num l 20 4 = v20 at *
    generalize num l 24 4 = v24 at *
    generalize num l 76 4 = v76 at *
    generalize num l 100 4 = v100 at *
    obtain ⟨s0, s1, s2, s3, s4, s5, s6, s7⟩ := HV.out.all
    have i0 := fun u => (ix_f4 u).1
    have i1 := fun u => (ix_f4 u).2.1
    have i2 := fun u => (ix_f4 u).2.2.1
    have i3 := fun u => (ix_f4 u).2.2.2
    go_enter Tryd.func8, Tryd.ntmps8
    go_wp2_with fail
    rw [← HW1.out]
    refine (HG56 _ HL.out).out.mono ?_
    rintro e9 w2 ⟨rfl, h2⟩
    rw [h2]
    clear h2
    by_cases hv : v56 = 61267
    · have HE2 := hide (show pc = (if v20 = 1 ∧ v24 = 0 ∧ v76 = 1 ∧ v100 = 0 then (if v88 = 128 ∧ (v96 = 0 ∨ v96 = 2) then (if (Sp.mk v0 v4 v12 v16 v32 v40 v84 (v96 == 2)).chk = 0 then (Sp.mk v0 v4 v12 v16 v32 v40 v84 (v96 == 2), 0) else (Sp.z, (Sp.mk v0 v4 v12 v16 v32 v40 v84 (v96 == 2)).chk)) else (Sp.z, 11)) else (Sp.z, 11)) by rw [HE.out, if_pos hv])
      rw [hv]
      clear hv HE
      go_wp2_with fail
      clear s0 s1 s2 s3 s4 s5 s6 s7
      go_loopw [20] (fun i wr => ∃ j : Nat, j ≤ 4 ∧ i = .int .i64 (j : Int) ∧ Blk wr w.heap.size #[.int .i64 0, .int .i64 0, .int .i64 0, .int .i64 0, .int .i64 0, .int .i64 0, .int .i64 0, .bool false] 23 ∧ Below w1.heap.size w1 wr ∧ (0 < j → v20 = 1) ∧ (1 < j → v24 = 0) ∧ (2 < j → v76 = 1) ∧ (3 < j → v100 = 0)) (fun i _ => 4 - (intOf i).toNat)
      case atStart => exact ⟨0, by omega, rfl, HK1.out, Below.refl _ _, fun h => by omega, fun h => by omega, fun h => by omega, fun h => by omega⟩
      case round =>
        obtain ⟨j, hj, rfl, hk, hbr, q0, q1, q2, q3⟩ := hrel
        have HK := hide hk
        have HBr := hide hbr
        have HLr := hide (HL.out.below hbr)
        have Q := hide (And.intro q0 (And.intro q1 (And.intro q2 q3)))
        clear hk hbr q0 q1 q2 q3
        obtain rfl | rfl | rfl | rfl | rfl : j = 0 ∨ j = 1 ∨ j = 2 ∨ j = 3 ∨ j = 4 := by omega
        · skip
          have hx4 := Blk.new wr #[.int .i64 20, .int .u32 1] 85
          have y0 : (wr.alloc (.cells #[.int .i64 20, .int .u32 1] 85)).cell? ⟨wr.heap.size, 0, none⟩ = some (.int .i64 20) := hx4.cell 0 _ rfl
          have y1 : (wr.alloc (.cells #[.int .i64 20, .int .u32 1] 85)).cell? ⟨wr.heap.size, 1, none⟩ = some (.int .u32 1) := hx4.cell 1 _ rfl
          have hb4 : Below wr.heap.size wr (wr.alloc (.cells #[.int .i64 20, .int .u32 1] 85)) := (Below.refl _ _).alloc (Nat.le_refl _) _
          have HC4 := HU20 _ (HLr.out.below hb4)
          have HK4 := hide (HK.out.below hb4)
          have HB4 := hide (HBr.out.trans (hb4.mono HBr.out.size))
          clear hx4 hb4
          go_wp2_with fail
          refine HC4.out.mono ?_
          rintro e9 w5 ⟨rfl, h5⟩
          rw [h5]
          clear h5
          by_cases hv : v20 = 1
          · rw [hv]
            go_wp2_with fail
            go_roundw
            case rel => exact ⟨1, by omega, by go_num, HK4.out, HB4.out, fun _ => hv, fun h => by omega, fun h => by omega, fun h => by omega⟩
            case measure => simp [intOf]
          · have HP := hide (show pc = (Sp.z, 11) by rw [HE2.out, if_neg (fun c => hv c.1)])
            have z0 := HK4.out.cell 0 _ rfl
            have z1 := HK4.out.cell 1 _ rfl
            have z2 := HK4.out.cell 2 _ rfl
            have z3 := HK4.out.cell 3 _ rfl
            have z4 := HK4.out.cell 4 _ rfl
            have z5 := HK4.out.cell 5 _ rfl
            have z6 := HK4.out.cell 6 _ rfl
            have z7 := HK4.out.cell 7 _ rfl
            have f0 := HK4.out.frozen 0
            have f1 := HK4.out.frozen 1
            have f2 := HK4.out.frozen 2
            have f3 := HK4.out.frozen 3
            have f4 := HK4.out.frozen 4
            have f5 := HK4.out.frozen 5
            have f6 := HK4.out.frozen 6
            have f7 := HK4.out.frozen 7
            go_wp2_with fail
            obtain ⟨w9, hw9⟩ : ∃ w9, w9 = (((((((((wr.alloc (.cells #[.int .i64 20, .int .u32 1] 85)).setCell ⟨w.heap.size, 0, none⟩ (.int .i64 0)).setCell ⟨w.heap.size, 1, none⟩ (.int .i64 0)).setCell ⟨w.heap.size, 2, none⟩ (.int .i64 0)).setCell ⟨w.heap.size, 3, none⟩ (.int .i64 0)).setCell ⟨w.heap.size, 4, none⟩ (.int .i64 0)).setCell ⟨w.heap.size, 5, none⟩ (.int .i64 0)).setCell ⟨w.heap.size, 6, none⟩ (.int .i64 0)).setCell ⟨w.heap.size, 7, none⟩ (.bool false)) := ⟨_, rfl⟩
            have hk9 : Blk w9 w.heap.size (Sp.z).cs 23 := by rw [hw9]; exact blk8e HK4.out (.int .i64 0) (.int .i64 0) (.int .i64 0) (.int .i64 0) (.int .i64 0) (.int .i64 0) (.int .i64 0) (.bool false)
            have hb9 : Below w.heap.size w w9 := by rw [hw9]; exact below8e (HB1.out.trans (HB4.out.mono HB1.out.size)) (Nat.le_refl _) (.int .i64 0) (.int .i64 0) (.int .i64 0) (.int .i64 0) (.int .i64 0) (.int .i64 0) (.int .i64 0) (.bool false)
            rw [← hw9]
            exact bodyPost_ret (ret_sp rfl _ _ w.heap.size (Sp.z) _ rfl rfl hk9) rfl ⟨by rw [HP.out]; rfl, hb9⟩
        · skip
          have hx4 := Blk.new wr #[.int .i64 24, .int .u32 0] 85
          have y0 : (wr.alloc (.cells #[.int .i64 24, .int .u32 0] 85)).cell? ⟨wr.heap.size, 0, none⟩ = some (.int .i64 24) := hx4.cell 0 _ rfl
          have y1 : (wr.alloc (.cells #[.int .i64 24, .int .u32 0] 85)).cell? ⟨wr.heap.size, 1, none⟩ = some (.int .u32 0) := hx4.cell 1 _ rfl
          have hb4 : Below wr.heap.size wr (wr.alloc (.cells #[.int .i64 24, .int .u32 0] 85)) := (Below.refl _ _).alloc (Nat.le_refl _) _
          have HC4 := HU24 _ (HLr.out.below hb4)
          have HK4 := hide (HK.out.below hb4)
          have HB4 := hide (HBr.out.trans (hb4.mono HBr.out.size))
          clear hx4 hb4
          go_wp2_with fail
          refine HC4.out.mono ?_
          rintro e9 w5 ⟨rfl, h5⟩
          rw [h5]
          clear h5
          by_cases hv : v24 = 0
          · rw [hv]
            go_wp2_with fail
            go_roundw
            case rel => exact ⟨2, by omega, by go_num, HK4.out, HB4.out, fun _ => Q.out.1 (by omega), fun _ => hv, fun h => by omega, fun h => by omega⟩
            case measure => simp [intOf]
          · have HP := hide (show pc = (Sp.z, 11) by rw [HE2.out, if_neg (fun c => hv c.2.1)])
            have z0 := HK4.out.cell 0 _ rfl
            have z1 := HK4.out.cell 1 _ rfl
            have z2 := HK4.out.cell 2 _ rfl
            have z3 := HK4.out.cell 3 _ rfl
            have z4 := HK4.out.cell 4 _ rfl
            have z5 := HK4.out.cell 5 _ rfl
            have z6 := HK4.out.cell 6 _ rfl
            have z7 := HK4.out.cell 7 _ rfl
            have f0 := HK4.out.frozen 0
            have f1 := HK4.out.frozen 1
            have f2 := HK4.out.frozen 2
            have f3 := HK4.out.frozen 3
            have f4 := HK4.out.frozen 4
            have f5 := HK4.out.frozen 5
            have f6 := HK4.out.frozen 6
            have f7 := HK4.out.frozen 7
            go_wp2_with fail
            obtain ⟨w9, hw9⟩ : ∃ w9, w9 = (((((((((wr.alloc (.cells #[.int .i64 24, .int .u32 0] 85)).setCell ⟨w.heap.size, 0, none⟩ (.int .i64 0)).setCell ⟨w.heap.size, 1, none⟩ (.int .i64 0)).setCell ⟨w.heap.size, 2, none⟩ (.int .i64 0)).setCell ⟨w.heap.size, 3, none⟩ (.int .i64 0)).setCell ⟨w.heap.size, 4, none⟩ (.int .i64 0)).setCell ⟨w.heap.size, 5, none⟩ (.int .i64 0)).setCell ⟨w.heap.size, 6, none⟩ (.int .i64 0)).setCell ⟨w.heap.size, 7, none⟩ (.bool false)) := ⟨_, rfl⟩
            have hk9 : Blk w9 w.heap.size (Sp.z).cs 23 := by rw [hw9]; exact blk8e HK4.out (.int .i64 0) (.int .i64 0) (.int .i64 0) (.int .i64 0) (.int .i64 0) (.int .i64 0) (.int .i64 0) (.bool false)
            have hb9 : Below w.heap.size w w9 := by rw [hw9]; exact below8e (HB1.out.trans (HB4.out.mono HB1.out.size)) (Nat.le_refl _) (.int .i64 0) (.int .i64 0) (.int .i64 0) (.int .i64 0) (.int .i64 0) (.int .i64 0) (.int .i64 0) (.bool false)
            rw [← hw9]
            exact bodyPost_ret (ret_sp rfl _ _ w.heap.size (Sp.z) _ rfl rfl hk9) rfl ⟨by rw [HP.out]; rfl, hb9⟩
        · skip
          have hx4 := Blk.new wr #[.int .i64 76, .int .u32 1] 85
          have y0 : (wr.alloc (.cells #[.int .i64 76, .int .u32 1] 85)).cell? ⟨wr.heap.size, 0, none⟩ = some (.int .i64 76) := hx4.cell 0 _ rfl
          have y1 : (wr.alloc (.cells #[.int .i64 76, .int .u32 1] 85)).cell? ⟨wr.heap.size, 1, none⟩ = some (.int .u32 1) := hx4.cell 1 _ rfl
          have hb4 : Below wr.heap.size wr (wr.alloc (.cells #[.int .i64 76, .int .u32 1] 85)) := (Below.refl _ _).alloc (Nat.le_refl _) _
          have HC4 := HU76 _ (HLr.out.below hb4)
          have HK4 := hide (HK.out.below hb4)
          have HB4 := hide (HBr.out.trans (hb4.mono HBr.out.size))
          clear hx4 hb4
          go_wp2_with fail
          refine HC4.out.mono ?_
          rintro e9 w5 ⟨rfl, h5⟩
          rw [h5]
          clear h5
          by_cases hv : v76 = 1
          · rw [hv]
            go_wp2_with fail
            go_roundw
            case rel => exact ⟨3, by omega, by go_num, HK4.out, HB4.out, fun _ => Q.out.1 (by omega), fun _ => Q.out.2.1 (by omega), fun _ => hv, fun h => by omega⟩
            case measure => simp [intOf]
          · have HP := hide (show pc = (Sp.z, 11) by rw [HE2.out, if_neg (fun c => hv c.2.2.1)])
            have z0 := HK4.out.cell 0 _ rfl
            have z1 := HK4.out.cell 1 _ rfl
            have z2 := HK4.out.cell 2 _ rfl
            have z3 := HK4.out.cell 3 _ rfl
            have z4 := HK4.out.cell 4 _ rfl
            have z5 := HK4.out.cell 5 _ rfl
            have z6 := HK4.out.cell 6 _ rfl
            have z7 := HK4.out.cell 7 _ rfl
            have f0 := HK4.out.frozen 0
            have f1 := HK4.out.frozen 1
            have f2 := HK4.out.frozen 2
            have f3 := HK4.out.frozen 3
            have f4 := HK4.out.frozen 4
            have f5 := HK4.out.frozen 5
            have f6 := HK4.out.frozen 6
            have f7 := HK4.out.frozen 7
            go_wp2_with fail
            obtain ⟨w9, hw9⟩ : ∃ w9, w9 = (((((((((wr.alloc (.cells #[.int .i64 76, .int .u32 1] 85)).setCell ⟨w.heap.size, 0, none⟩ (.int .i64 0)).setCell ⟨w.heap.size, 1, none⟩ (.int .i64 0)).setCell ⟨w.heap.size, 2, none⟩ (.int .i64 0)).setCell ⟨w.heap.size, 3, none⟩ (.int .i64 0)).setCell ⟨w.heap.size, 4, none⟩ (.int .i64 0)).setCell ⟨w.heap.size, 5, none⟩ (.int .i64 0)).setCell ⟨w.heap.size, 6, none⟩ (.int .i64 0)).setCell ⟨w.heap.size, 7, none⟩ (.bool false)) := ⟨_, rfl⟩
            have hk9 : Blk w9 w.heap.size (Sp.z).cs 23 := by rw [hw9]; exact blk8e HK4.out (.int .i64 0) (.int .i64 0) (.int .i64 0) (.int .i64 0) (.int .i64 0) (.int .i64 0) (.int .i64 0) (.bool false)
            have hb9 : Below w.heap.size w w9 := by rw [hw9]; exact below8e (HB1.out.trans (HB4.out.mono HB1.out.size)) (Nat.le_refl _) (.int .i64 0) (.int .i64 0) (.int .i64 0) (.int .i64 0) (.int .i64 0) (.int .i64 0) (.int .i64 0) (.bool false)
            rw [← hw9]
            exact bodyPost_ret (ret_sp rfl _ _ w.heap.size (Sp.z) _ rfl rfl hk9) rfl ⟨by rw [HP.out]; rfl, hb9⟩
        · skip
          have hx4 := Blk.new wr #[.int .i64 100, .int .u32 0] 85
          have y0 : (wr.alloc (.cells #[.int .i64 100, .int .u32 0] 85)).cell? ⟨wr.heap.size, 0, none⟩ = some (.int .i64 100) := hx4.cell 0 _ rfl
          have y1 : (wr.alloc (.cells #[.int .i64 100, .int .u32 0] 85)).cell? ⟨wr.heap.size, 1, none⟩ = some (.int .u32 0) := hx4.cell 1 _ rfl
          have hb4 : Below wr.heap.size wr (wr.alloc (.cells #[.int .i64 100, .int .u32 0] 85)) := (Below.refl _ _).alloc (Nat.le_refl _) _
          have HC4 := HU100 _ (HLr.out.below hb4)
          have HK4 := hide (HK.out.below hb4)
          have HB4 := hide (HBr.out.trans (hb4.mono HBr.out.size))
          clear hx4 hb4
          go_wp2_with fail
          refine HC4.out.mono ?_
          rintro e9 w5 ⟨rfl, h5⟩
          rw [h5]
          clear h5
          by_cases hv : v100 = 0
          · rw [hv]
            go_wp2_with fail
            go_roundw
            case rel => exact ⟨4, by omega, by go_num, HK4.out, HB4.out, fun _ => Q.out.1 (by omega), fun _ => Q.out.2.1 (by omega), fun _ => Q.out.2.2.1 (by omega), fun _ => hv⟩
            case measure => simp [intOf]
          · have HP := hide (show pc = (Sp.z, 11) by rw [HE2.out, if_neg (fun c => hv c.2.2.2)])
            have z0 := HK4.out.cell 0 _ rfl
            have z1 := HK4.out.cell 1 _ rfl
            have z2 := HK4.out.cell 2 _ rfl
            have z3 := HK4.out.cell 3 _ rfl
            have z4 := HK4.out.cell 4 _ rfl
            have z5 := HK4.out.cell 5 _ rfl
            have z6 := HK4.out.cell 6 _ rfl
            have z7 := HK4.out.cell 7 _ rfl
            have f0 := HK4.out.frozen 0
            have f1 := HK4.out.frozen 1
            have f2 := HK4.out.frozen 2
            have f3 := HK4.out.frozen 3
            have f4 := HK4.out.frozen 4
            have f5 := HK4.out.frozen 5
            have f6 := HK4.out.frozen 6
            have f7 := HK4.out.frozen 7
            go_wp2_with fail
            obtain ⟨w9, hw9⟩ : ∃ w9, w9 = (((((((((wr.alloc (.cells #[.int .i64 100, .int .u32 0] 85)).setCell ⟨w.heap.size, 0, none⟩ (.int .i64 0)).setCell ⟨w.heap.size, 1, none⟩ (.int .i64 0)).setCell ⟨w.heap.size, 2, none⟩ (.int .i64 0)).setCell ⟨w.heap.size, 3, none⟩ (.int .i64 0)).setCell ⟨w.heap.size, 4, none⟩ (.int .i64 0)).setCell ⟨w.heap.size, 5, none⟩ (.int .i64 0)).setCell ⟨w.heap.size, 6, none⟩ (.int .i64 0)).setCell ⟨w.heap.size, 7, none⟩ (.bool false)) := ⟨_, rfl⟩
            have hk9 : Blk w9 w.heap.size (Sp.z).cs 23 := by rw [hw9]; exact blk8e HK4.out (.int .i64 0) (.int .i64 0) (.int .i64 0) (.int .i64 0) (.int .i64 0) (.int .i64 0) (.int .i64 0) (.bool false)
            have hb9 : Below w.heap.size w w9 := by rw [hw9]; exact below8e (HB1.out.trans (HB4.out.mono HB1.out.size)) (Nat.le_refl _) (.int .i64 0) (.int .i64 0) (.int .i64 0) (.int .i64 0) (.int .i64 0) (.int .i64 0) (.int .i64 0) (.bool false)
            rw [← hw9]
            exact bodyPost_ret (ret_sp rfl _ _ w.heap.size (Sp.z) _ rfl rfl hk9) rfl ⟨by rw [HP.out]; rfl, hb9⟩
        · skip
          have HE3 := hide (show pc = (if v88 = 128 ∧ (v96 = 0 ∨ v96 = 2) then (if (Sp.mk v0 v4 v12 v16 v32 v40 v84 (v96 == 2)).chk = 0 then (Sp.mk v0 v4 v12 v16 v32 v40 v84 (v96 == 2), 0) else (Sp.z, (Sp.mk v0 v4 v12 v16 v32 v40 v84 (v96 == 2)).chk)) else (Sp.z, 11)) by rw [HE2.out, if_pos ⟨Q.out.1 (by omega), Q.out.2.1 (by omega), Q.out.2.2.1 (by omega), Q.out.2.2.2 (by omega)⟩])
          have HBw := hide (HB1.out.trans (HBr.out.mono HB1.out.size))
          clear HE2 Q i0 i1 i2 i3
          go_wp2_with fail
          refine (HG96 _ HLr.out).out.mono ?_
          rintro e9 w2 ⟨rfl, h2⟩
          rw [h2]
          clear h2
          go_wp2_with fail
          refine (HG88 _ HLr.out).out.mono ?_
          rintro e9 w2 ⟨rfl, h2⟩
          rw [h2]
          clear h2
          by_cases hg : v88 = 128 ∧ (v96 = 0 ∨ v96 = 2)
          rotate_left
          · have HP := hide (show pc = (Sp.z, 11) by rw [HE3.out, if_neg hg])
            have z0 := HK.out.cell 0 _ rfl
            have z1 := HK.out.cell 1 _ rfl
            have z2 := HK.out.cell 2 _ rfl
            have z3 := HK.out.cell 3 _ rfl
            have z4 := HK.out.cell 4 _ rfl
            have z5 := HK.out.cell 5 _ rfl
            have z6 := HK.out.cell 6 _ rfl
            have z7 := HK.out.cell 7 _ rfl
            have f0 := HK.out.frozen 0
            have f1 := HK.out.frozen 1
            have f2 := HK.out.frozen 2
            have f3 := HK.out.frozen 3
            have f4 := HK.out.frozen 4
            have f5 := HK.out.frozen 5
            have f6 := HK.out.frozen 6
            have f7 := HK.out.frozen 7
            by_cases h88 : v88 = 128
            · have h0 : (v96 != 0) = true := by simp; intro e; exact hg ⟨h88, Or.inl e⟩
              have h2 : (v96 != 2) = true := by simp; intro e; exact hg ⟨h88, Or.inr e⟩
              rw [h88]
              clear hg h88
              go_wp2_with fail
              obtain ⟨w9, hw9⟩ : ∃ w9, w9 = ((((((((wr.setCell ⟨w.heap.size, 0, none⟩ (.int .i64 0)).setCell ⟨w.heap.size, 1, none⟩ (.int .i64 0)).setCell ⟨w.heap.size, 2, none⟩ (.int .i64 0)).setCell ⟨w.heap.size, 3, none⟩ (.int .i64 0)).setCell ⟨w.heap.size, 4, none⟩ (.int .i64 0)).setCell ⟨w.heap.size, 5, none⟩ (.int .i64 0)).setCell ⟨w.heap.size, 6, none⟩ (.int .i64 0)).setCell ⟨w.heap.size, 7, none⟩ (.bool false)) := ⟨_, rfl⟩
              have hk9 : Blk w9 w.heap.size (Sp.z).cs 23 := by rw [hw9]; exact blk8e HK.out (.int .i64 0) (.int .i64 0) (.int .i64 0) (.int .i64 0) (.int .i64 0) (.int .i64 0) (.int .i64 0) (.bool false)
              have hb9 : Below w.heap.size w w9 := by rw [hw9]; exact below8e HBw.out (Nat.le_refl _) (.int .i64 0) (.int .i64 0) (.int .i64 0) (.int .i64 0) (.int .i64 0) (.int .i64 0) (.int .i64 0) (.bool false)
              rw [← hw9]
              exact bodyPost_ret (ret_sp rfl _ _ w.heap.size (Sp.z) _ rfl rfl hk9) rfl ⟨by rw [HP.out]; rfl, hb9⟩
            · have h0 : (v88 != 128) = true := by simpa using h88
              clear hg h88
              go_wp2_with fail
              obtain ⟨w9, hw9⟩ : ∃ w9, w9 = ((((((((wr.setCell ⟨w.heap.size, 0, none⟩ (.int .i64 0)).setCell ⟨w.heap.size, 1, none⟩ (.int .i64 0)).setCell ⟨w.heap.size, 2, none⟩ (.int .i64 0)).setCell ⟨w.heap.size, 3, none⟩ (.int .i64 0)).setCell ⟨w.heap.size, 4, none⟩ (.int .i64 0)).setCell ⟨w.heap.size, 5, none⟩ (.int .i64 0)).setCell ⟨w.heap.size, 6, none⟩ (.int .i64 0)).setCell ⟨w.heap.size, 7, none⟩ (.bool false)) := ⟨_, rfl⟩
              have hk9 : Blk w9 w.heap.size (Sp.z).cs 23 := by rw [hw9]; exact blk8e HK.out (.int .i64 0) (.int .i64 0) (.int .i64 0) (.int .i64 0) (.int .i64 0) (.int .i64 0) (.int .i64 0) (.bool false)
              have hb9 : Below w.heap.size w w9 := by rw [hw9]; exact below8e HBw.out (Nat.le_refl _) (.int .i64 0) (.int .i64 0) (.int .i64 0) (.int .i64 0) (.int .i64 0) (.int .i64 0) (.int .i64 0) (.bool false)
              rw [← hw9]
              exact bodyPost_ret (ret_sp rfl _ _ w.heap.size (Sp.z) _ rfl rfl hk9) rfl ⟨by rw [HP.out]; rfl, hb9⟩
          obtain ⟨h88, h96⟩ := hg
          have HE4 := hide (show pc = (if (Sp.mk v0 v4 v12 v16 v32 v40 v84 (v96 == 2)).chk = 0 then (Sp.mk v0 v4 v12 v16 v32 v40 v84 (v96 == 2), 0) else (Sp.z, (Sp.mk v0 v4 v12 v16 v32 v40 v84 (v96 == 2)).chk)) by rw [HE3.out, if_pos ⟨h88, h96⟩])
          obtain ⟨ck, hck⟩ : ∃ ck, ck = (Sp.mk v0 v4 v12 v16 v32 v40 v84 (v96 == 2)).chk := ⟨_, rfl⟩
          obtain ⟨ty, hty⟩ : ∃ ty, ty = (v96 == 2) := ⟨_, rfl⟩
          rw [← hty] at hck HE4
          have HCk : ∀ u, Hid (Calls Tryd.prog 36 #[.agg #[.int .i64 v0, .int .i64 v4, .int .i64 v12, .int .i64 v16, .int .i64 v32, .int .i64 v40, .int .i64 v84, .bool ty]] u fun e w' => e = .returned (.int .i64 ck) ∧ Below u.heap.size u w') := fun u => hide (by rw [hck]; exact chk_any (Sp.mk v0 v4 v12 v16 v32 v40 v84 ty) u)
          rw [← hck] at HE4
          have HTy := hide hty
          have hbq : (v96 == 2) = ty := hty.symm
          rw [h88]
          clear hck hty h88
          have hz : (v96 != 0) = false ∨ ((v96 != 0) = true ∧ (v96 != 2) = false) := by
            rcases h96 with e | e <;> subst e
            · exact Or.inl rfl
            · exact Or.inr ⟨rfl, rfl⟩
          clear h96 HE3
          rcases hz with hz0 | ⟨hz0, hz2⟩
          all_goals
            go_wp2_with fail
            refine (HG0 _ HLr.out).out.mono ?_
            rintro e9 w2 ⟨rfl, h2⟩
            rw [h2]
            clear h2
            go_wp2_with fail
            refine (HG4 _ HLr.out).out.mono ?_
            rintro e9 w2 ⟨rfl, h2⟩
            rw [h2]
            clear h2
            go_wp2_with fail
            refine (HG12 _ HLr.out).out.mono ?_
            rintro e9 w2 ⟨rfl, h2⟩
            rw [h2]
            clear h2
            go_wp2_with fail
            refine (HG16 _ HLr.out).out.mono ?_
            rintro e9 w2 ⟨rfl, h2⟩
            rw [h2]
            clear h2
            go_wp2_with fail
            refine (HG32 _ HLr.out).out.mono ?_
            rintro e9 w2 ⟨rfl, h2⟩
            rw [h2]
            clear h2
            go_wp2_with fail
            refine (HG40 _ HLr.out).out.mono ?_
            rintro e9 w2 ⟨rfl, h2⟩
            rw [h2]
            clear h2
            go_wp2_with fail
            refine (HG84 _ HLr.out).out.mono ?_
            rintro e9 w2 ⟨rfl, h2⟩
            rw [h2]
            clear h2
            obtain ⟨w3, hw3⟩ : ∃ w3, w3 = wr.alloc (.cells #[.int .i64 v0, .int .i64 v4, .int .i64 v12, .int .i64 v16, .int .i64 v32, .int .i64 v40, .int .i64 v84, .bool ty] 23) := ⟨_, rfl⟩
            have hnb : Blk w3 wr.heap.size #[.int .i64 v0, .int .i64 v4, .int .i64 v12, .int .i64 v16, .int .i64 v32, .int .i64 v40, .int .i64 v84, .bool ty] 23 := by rw [hw3]; exact Blk.new _ _ _
            have hb3 : Below wr.heap.size wr w3 := by rw [hw3]; exact (Below.refl _ _).alloc (Nat.le_refl _) _
            have HK3 := hide (HK.out.below hb3)
            have HB3 := hide (HBw.out.trans (hb3.mono HBw.out.size))
            have HN3 := hide hnb
            have HW3 := hide hw3
            have d0 := hnb.cell 0 _ rfl
            have d1 := hnb.cell 1 _ rfl
            have d2 := hnb.cell 2 _ rfl
            have d3 := hnb.cell 3 _ rfl
            have d4 := hnb.cell 4 _ rfl
            have d5 := hnb.cell 5 _ rfl
            have d6 := hnb.cell 6 _ rfl
            have d7 := hnb.cell 7 _ rfl
            rw [hw3] at d0 d1 d2 d3 d4 d5 d6 d7
            clear hw3 hnb hb3
            go_wp2_with fail
            rw [← HW3.out]
            clear d0 d1 d2 d3 d4 d5 d6 d7
            refine (HCk _).out.mono ?_
            rintro e9 w4 ⟨rfl, h4⟩
            have HN4 := hide (HN3.out.below h4)
            have HK4 := hide (HK3.out.below h4)
            have HB4 := hide (HB3.out.trans (h4.mono HB3.out.size))
            clear h4
            have z0 := HK4.out.cell 0 _ rfl
            have z1 := HK4.out.cell 1 _ rfl
            have z2 := HK4.out.cell 2 _ rfl
            have z3 := HK4.out.cell 3 _ rfl
            have z4 := HK4.out.cell 4 _ rfl
            have z5 := HK4.out.cell 5 _ rfl
            have z6 := HK4.out.cell 6 _ rfl
            have z7 := HK4.out.cell 7 _ rfl
            have f0 := HK4.out.frozen 0
            have f1 := HK4.out.frozen 1
            have f2 := HK4.out.frozen 2
            have f3 := HK4.out.frozen 3
            have f4 := HK4.out.frozen 4
            have f5 := HK4.out.frozen 5
            have f6 := HK4.out.frozen 6
            have f7 := HK4.out.frozen 7
            by_cases hk : ck = 0
            · have HP := hide (show pc = ((Sp.mk v0 v4 v12 v16 v32 v40 v84 ty), 0) by rw [HE4.out, if_pos hk])
              have d0 := HN4.out.cell 0 _ rfl
              have d1 := HN4.out.cell 1 _ rfl
              have d2 := HN4.out.cell 2 _ rfl
              have d3 := HN4.out.cell 3 _ rfl
              have d4 := HN4.out.cell 4 _ rfl
              have d5 := HN4.out.cell 5 _ rfl
              have d6 := HN4.out.cell 6 _ rfl
              have d7 := HN4.out.cell 7 _ rfl
              rw [hk]
              go_wp2_with fail
              obtain ⟨w9, hw9⟩ : ∃ w9, w9 = ((((((((w4.setCell ⟨w.heap.size, 0, none⟩ (.int .i64 v0)).setCell ⟨w.heap.size, 1, none⟩ (.int .i64 v4)).setCell ⟨w.heap.size, 2, none⟩ (.int .i64 v12)).setCell ⟨w.heap.size, 3, none⟩ (.int .i64 v16)).setCell ⟨w.heap.size, 4, none⟩ (.int .i64 v32)).setCell ⟨w.heap.size, 5, none⟩ (.int .i64 v40)).setCell ⟨w.heap.size, 6, none⟩ (.int .i64 v84)).setCell ⟨w.heap.size, 7, none⟩ (.bool ty)) := ⟨_, rfl⟩
              have hk9 : Blk w9 w.heap.size (Sp.mk v0 v4 v12 v16 v32 v40 v84 ty).cs 23 := by rw [hw9]; exact blk8e HK4.out (.int .i64 v0) (.int .i64 v4) (.int .i64 v12) (.int .i64 v16) (.int .i64 v32) (.int .i64 v40) (.int .i64 v84) (.bool ty)
              have hb9 : Below w.heap.size w w9 := by rw [hw9]; exact below8e HB4.out (Nat.le_refl _) (.int .i64 v0) (.int .i64 v4) (.int .i64 v12) (.int .i64 v16) (.int .i64 v32) (.int .i64 v40) (.int .i64 v84) (.bool ty)
              rw [← hw9]
              exact bodyPost_ret (ret_sp rfl _ _ w.heap.size (Sp.mk v0 v4 v12 v16 v32 v40 v84 ty) _ rfl rfl hk9) rfl ⟨by rw [HP.out]; rfl, hb9⟩
            · have HP := hide (show pc = (Sp.z, ck) by rw [HE4.out, if_neg hk])
              go_wp2_with fail
              obtain ⟨w9, hw9⟩ : ∃ w9, w9 = ((((((((w4.setCell ⟨w.heap.size, 0, none⟩ (.int .i64 0)).setCell ⟨w.heap.size, 1, none⟩ (.int .i64 0)).setCell ⟨w.heap.size, 2, none⟩ (.int .i64 0)).setCell ⟨w.heap.size, 3, none⟩ (.int .i64 0)).setCell ⟨w.heap.size, 4, none⟩ (.int .i64 0)).setCell ⟨w.heap.size, 5, none⟩ (.int .i64 0)).setCell ⟨w.heap.size, 6, none⟩ (.int .i64 0)).setCell ⟨w.heap.size, 7, none⟩ (.bool false)) := ⟨_, rfl⟩
              have hk9 : Blk w9 w.heap.size (Sp.z).cs 23 := by rw [hw9]; exact blk8e HK4.out (.int .i64 0) (.int .i64 0) (.int .i64 0) (.int .i64 0) (.int .i64 0) (.int .i64 0) (.int .i64 0) (.bool false)
              have hb9 : Below w.heap.size w w9 := by rw [hw9]; exact below8e HB4.out (Nat.le_refl _) (.int .i64 0) (.int .i64 0) (.int .i64 0) (.int .i64 0) (.int .i64 0) (.int .i64 0) (.int .i64 0) (.bool false)
              rw [← hw9]
              exact bodyPost_ret (ret_sp rfl _ _ w.heap.size (Sp.z) _ rfl rfl hk9) rfl ⟨by rw [HP.out]; rfl, hb9⟩
    · have HP := hide (show pc = (Sp.z, 10) by rw [HE.out, if_neg hv])
      have z0 := HK1.out.cell 0 _ rfl
      have z1 := HK1.out.cell 1 _ rfl
      have z2 := HK1.out.cell 2 _ rfl
      have z3 := HK1.out.cell 3 _ rfl
      have z4 := HK1.out.cell 4 _ rfl
      have z5 := HK1.out.cell 5 _ rfl
      have z6 := HK1.out.cell 6 _ rfl
      have z7 := HK1.out.cell 7 _ rfl
      have f0 := HK1.out.frozen 0
      have f1 := HK1.out.frozen 1
      have f2 := HK1.out.frozen 2
      have f3 := HK1.out.frozen 3
      have f4 := HK1.out.frozen 4
      have f5 := HK1.out.frozen 5
      have f6 := HK1.out.frozen 6
      have f7 := HK1.out.frozen 7
      go_wp2_with fail
      obtain ⟨w9, hw9⟩ : ∃ w9, w9 = ((((((((w1.setCell ⟨w.heap.size, 0, none⟩ (.int .i64 0)).setCell ⟨w.heap.size, 1, none⟩ (.int .i64 0)).setCell ⟨w.heap.size, 2, none⟩ (.int .i64 0)).setCell ⟨w.heap.size, 3, none⟩ (.int .i64 0)).setCell ⟨w.heap.size, 4, none⟩ (.int .i64 0)).setCell ⟨w.heap.size, 5, none⟩ (.int .i64 0)).setCell ⟨w.heap.size, 6, none⟩ (.int .i64 0)).setCell ⟨w.heap.size, 7, none⟩ (.bool false)) := ⟨_, rfl⟩
      have hk9 : Blk w9 w.heap.size (Sp.z).cs 23 := by rw [hw9]; exact blk8e HK1.out (.int .i64 0) (.int .i64 0) (.int .i64 0) (.int .i64 0) (.int .i64 0) (.int .i64 0) (.int .i64 0) (.bool false)
      have hb9 : Below w.heap.size w w9 := by rw [hw9]; exact below8e HB1.out (Nat.le_refl _) (.int .i64 0) (.int .i64 0) (.int .i64 0) (.int .i64 0) (.int .i64 0) (.int .i64 0) (.int .i64 0) (.bool false)
      rw [← hw9]
      exact bodyPost_ret (ret_sp rfl _ _ w.heap.size (Sp.z) _ rfl rfl hk9) rfl ⟨by rw [HP.out]; rfl, hb9⟩
  · have e0 : parE l = (Sp.z, 4) := by unfold parE; rw [if_neg h5]
    rw [e0, ← hn]
    rw [← hn] at h5 hlen
    rw [hw1] at hk1 hb1
    have HK1 := hide hk1
    have HB1 := hide hb1
    clear hn hV hl hb e0 hk1 hb1 hw1
    go_enter Tryd.func8, Tryd.ntmps8
    go_wp2_with fail
    exact bodyPost_ret (ret_sp rfl _ _ w.heap.size Sp.z _ rfl rfl HK1.out) rfl ⟨rfl, HB1.out⟩
end Go.Proofs.YtjmajjfknmjifaaDoor.Oct
