/- What a first sector says: Parse. -/
import Derived.Test.YtcbbaoiefdbcpaaDoorPFpu
import Derived.Test.YtcbbaoiefdbcpaaDoorPFccFcd
namespace Go.Proofs.YtcbbaoiefdbcpaaDoor.Oct
open Go.RowKit

/-- Nothing. -/
def bt0 : Bt := ⟨0, 0, 0, 0, 0, 0, 0, 0⟩

/-- What the bytes of a first sector say. -/
def btOf (s : List Int) : Bt := ⟨s.getD 13 0, num s 14 2, s.getD 16 0, num s 32 4, num s 36 4, num s 44 4, num s 48 2, num s 50 2⟩

/-- What Parse answers: a boot, an error. -/
def parB (s : List Int) : Bt × Int :=
  if s.length = 512 then (if (s.drop 82).take 8 = nmB ∧ num s 510 2 = 43605 then (if num s 11 2 = 512 ∧ num s 17 2 = 0 ∧ num s 19 2 = 0 ∧ num s 22 2 = 0 ∧ num s 40 2 = 0 ∧ num s 42 2 = 0 then (if (btOf s).chk = 0 then (btOf s, 0) else (bt0, (btOf s).chk)) else (bt0, 11)) else (bt0, 10)) else (bt0, 4)

theorem ret_bt {fn : Func} {p u : Tmp} (hr : fn.results = #[.cell p 63, .tmp u]) (tmps : Array Value) (w : World) (R : Nat) (b : Bt) (z : Value)
    (hp : tmps.getD p undef = .pointer (some ⟨R, 0, none⟩)) (hz : tmps.getD u undef = z) (hs : Blk w R b.cs 63) :
    (results fn tmps).run Tryd.prog w = .ok (.tuple #[.agg b.cs, z]) w := by
  rw [results_cell_tmp hr, hp, hz]
  simp only [asAddr, Sem.run_pure, Result.andThen_ok]
  rw [run_loadVar_row w R 63 63 _ (0, 0) _ hs Tryd.underlying63 rfl (by kernel_rfl)]
  rfl

theorem blk8 {u : World} {R : Nat} {t : TypeId} {x0 x1 x2 x3 x4 x5 x6 x7 : Value} (h : Blk u R #[x0, x1, x2, x3, x4, x5, x6, x7] t) (v0 v1 v2 v3 v4 v5 v6 v7 : Value) :
    Blk ((((((((u.setCell ⟨R, 0, none⟩ v0).setCell ⟨R, 1, none⟩ v1).setCell ⟨R, 2, none⟩ v2).setCell ⟨R, 3, none⟩ v3).setCell ⟨R, 4, none⟩ v4).setCell ⟨R, 5, none⟩ v5).setCell ⟨R, 6, none⟩ v6).setCell ⟨R, 7, none⟩ v7) R #[v0, v1, v2, v3, v4, v5, v6, v7] t := by
  have h0 : Blk (u.setCell ⟨R, 0, none⟩ v0) R #[v0, x1, x2, x3, x4, x5, x6, x7] t := h.set 0 v0
  have h1 : Blk ((u.setCell ⟨R, 0, none⟩ v0).setCell ⟨R, 1, none⟩ v1) R #[v0, v1, x2, x3, x4, x5, x6, x7] t := h0.set 1 v1
  have h2 : Blk (((u.setCell ⟨R, 0, none⟩ v0).setCell ⟨R, 1, none⟩ v1).setCell ⟨R, 2, none⟩ v2) R #[v0, v1, v2, x3, x4, x5, x6, x7] t := h1.set 2 v2
  have h3 : Blk ((((u.setCell ⟨R, 0, none⟩ v0).setCell ⟨R, 1, none⟩ v1).setCell ⟨R, 2, none⟩ v2).setCell ⟨R, 3, none⟩ v3) R #[v0, v1, v2, v3, x4, x5, x6, x7] t := h2.set 3 v3
  have h4 : Blk (((((u.setCell ⟨R, 0, none⟩ v0).setCell ⟨R, 1, none⟩ v1).setCell ⟨R, 2, none⟩ v2).setCell ⟨R, 3, none⟩ v3).setCell ⟨R, 4, none⟩ v4) R #[v0, v1, v2, v3, v4, x5, x6, x7] t := h3.set 4 v4
  have h5 : Blk ((((((u.setCell ⟨R, 0, none⟩ v0).setCell ⟨R, 1, none⟩ v1).setCell ⟨R, 2, none⟩ v2).setCell ⟨R, 3, none⟩ v3).setCell ⟨R, 4, none⟩ v4).setCell ⟨R, 5, none⟩ v5) R #[v0, v1, v2, v3, v4, v5, x6, x7] t := h4.set 5 v5
  have h6 : Blk (((((((u.setCell ⟨R, 0, none⟩ v0).setCell ⟨R, 1, none⟩ v1).setCell ⟨R, 2, none⟩ v2).setCell ⟨R, 3, none⟩ v3).setCell ⟨R, 4, none⟩ v4).setCell ⟨R, 5, none⟩ v5).setCell ⟨R, 6, none⟩ v6) R #[v0, v1, v2, v3, v4, v5, v6, x7] t := h5.set 6 v6
  have h7 : Blk ((((((((u.setCell ⟨R, 0, none⟩ v0).setCell ⟨R, 1, none⟩ v1).setCell ⟨R, 2, none⟩ v2).setCell ⟨R, 3, none⟩ v3).setCell ⟨R, 4, none⟩ v4).setCell ⟨R, 5, none⟩ v5).setCell ⟨R, 6, none⟩ v6).setCell ⟨R, 7, none⟩ v7) R #[v0, v1, v2, v3, v4, v5, v6, v7] t := h6.set 7 v7
  exact h7

theorem below8 {n R : Nat} {w u : World} (h : Below n w u) (hR : n ≤ R) (v0 v1 v2 v3 v4 v5 v6 v7 : Value) :
    Below n w ((((((((u.setCell ⟨R, 0, none⟩ v0).setCell ⟨R, 1, none⟩ v1).setCell ⟨R, 2, none⟩ v2).setCell ⟨R, 3, none⟩ v3).setCell ⟨R, 4, none⟩ v4).setCell ⟨R, 5, none⟩ v5).setCell ⟨R, 6, none⟩ v6).setCell ⟨R, 7, none⟩ v7) :=
  (((((((h.setCell (p := ⟨R, 0, none⟩) hR v0).setCell (p := ⟨R, 1, none⟩) hR v1).setCell (p := ⟨R, 2, none⟩) hR v2).setCell (p := ⟨R, 3, none⟩) hR v3).setCell (p := ⟨R, 4, none⟩) hR v4).setCell (p := ⟨R, 5, none⟩) hR v5).setCell (p := ⟨R, 6, none⟩) hR v6).setCell (p := ⟨R, 7, none⟩) hR v7

theorem U16_at (a : Option Addr) (cap : Nat) (l : List Int) (p : Nat) (w : World) (hlen : l.length ≤ maxLen) (hb : Byts l) (hl : Lies w a l) (hp : p + 2 ≤ l.length) :
    Calls Tryd.prog 60 #[.slice a l.length cap, .int .i64 (p : Int)] w fun e w' => e = .returned (.tuple #[.int .u16 (num l p 2), .bool true]) ∧ w' = w := by
  unfold maxLen at hlen
  have h := U16_any a cap l (p : Int) w (by unfold maxLen; omega) hb hl (by omega) (by omega)
  rw [numAt_yes hp, thereB_yes (by omega) (by omega) (by omega)] at h
  exact h

theorem nm_text : (ba nmB).toList = [70, 65, 84, 51, 50, 32, 32, 32] := by rw [ByteArray.toList_eq]; rfl

set_option maxHeartbeats 16000000 in
set_option maxRecDepth 100000 in
theorem parse_any (a : Option Addr) (cap : Nat) (l : List Int) (w : World) (hlen : l.length ≤ maxLen) (hcap : l.length ≤ cap) (hb : Byts l) (hl : Lies w a l) (hV : Vars w) :
    Calls Tryd.prog 46 #[.slice a l.length cap] w fun e w' => e = .returned (.tuple #[.agg (parB l).1.cs, .int .i64 (parB l).2]) ∧ Below w.heap.size w w' := by
  unfold maxLen at hlen
  obtain ⟨n, hn⟩ : ∃ n, n = l.length := ⟨_, rfl⟩
  obtain ⟨w1, hw1⟩ : ∃ w1, w1 = w.alloc (.cells #[.int .i64 0, .int .i64 0, .int .i64 0, .int .i64 0, .int .i64 0, .int .i64 0, .int .i64 0, .int .i64 0] 63) := ⟨_, rfl⟩
  have hb1 : Below w.heap.size w w1 := by rw [hw1]; exact (Below.refl _ _).alloc (Nat.le_refl _) _
  have hk1 : Blk w1 w.heap.size #[.int .i64 0, .int .i64 0, .int .i64 0, .int .i64 0, .int .i64 0, .int .i64 0, .int .i64 0, .int .i64 0] 63 := by rw [hw1]; exact Blk.new _ _ _
  by_cases h5 : l.length = 512
  · obtain ⟨b0, off, rfl, _⟩ : ∃ b0 off, a = some ⟨b0, off, none⟩ ∧ True := by
      rcases hl with h | ⟨b0, off, h, _⟩
      · rw [h] at h5; simp at h5
      · exact ⟨b0, off, h, trivial⟩
    have hl1 : Lies w1 (some ⟨b0, off, none⟩) l := hl.below hb1
    have hcellA : ∀ u, Lies u (some ⟨b0, off, none⟩) l → u.cell? ⟨b0, off + 13, none⟩ = some (.int .u8 (l.getD 13 0)) ∧ u.cell? ⟨b0, off + 16, none⟩ = some (.int .u8 (l.getD 16 0)) := by
      intro u hu
      rcases hu with h | ⟨b9, o9, h9, hc⟩
      · rw [h] at h5; simp at h5
      · cases h9
        exact ⟨hc.2 13 (by omega), hc.2 16 (by omega)⟩
    have htx := run_text (P := Tryd.prog) (dst := 9) Tryd.underlying26 Tryd.underlying5 Tryd.underlying9 w1 (some ⟨b0, off + 82, none⟩) ((l.drop 82).take 8) (cap - 82) (hl1.of_part 82 8)
    have htl : ((l.drop 82).take 8).length = 8 := by simp; omega
    rw [htl] at htx
    have hnq : ((ba ((l.drop 82).take 8)).toList == (ba nmB).toList) = decide ((l.drop 82).take 8 = nmB) := beq_text ((hb.drop 82).take 8) (by intro k; match k with | 0 => simp [nmB] | 1 => simp [nmB] | 2 => simp [nmB] | 3 => simp [nmB] | 4 => simp [nmB] | 5 => simp [nmB] | 6 => simp [nmB] | 7 => simp [nmB] | k + 8 => simp [nmB])
    have u13 : IntKind.i64.wrap (l.getD 13 0) = l.getD 13 0 := by have := hb 13; rw [IntKind.wrap_i64]; omega
    have u16 : IntKind.i64.wrap (l.getD 16 0) = l.getD 16 0 := by have := hb 16; rw [IntKind.wrap_i64]; omega
    have HV := hide (hV.below hb1)
    have g16 := fun (p : Nat) (hp : p + 2 ≤ l.length) (u : World) (hu : Lies u (some ⟨b0, off, none⟩) l) => hide (get16_any (some ⟨b0, off, none⟩) cap l p u (by unfold maxLen; omega) hb hu hp)
    have g32 := fun (p : Nat) (hp : p + 4 ≤ l.length) (u : World) (hu : Lies u (some ⟨b0, off, none⟩) l) => hide (get32_any (some ⟨b0, off, none⟩) cap l p u (by unfold maxLen; omega) hb hu hp)
    have u16a := fun (p : Nat) (hp : p + 2 ≤ l.length) (u : World) (hu : Lies u (some ⟨b0, off, none⟩) l) => hide (U16_at (some ⟨b0, off, none⟩) cap l p u (by unfold maxLen; omega) hb hu hp)
    rw [h5] at g16 g32 u16a ⊢
    have HG510 := g16 510 (by omega)
    push_cast at HG510
    have HG14 := g16 14 (by omega)
    push_cast at HG14
    have HG48 := g16 48 (by omega)
    push_cast at HG48
    have HG50 := g16 50 (by omega)
    push_cast at HG50
    have HG32 := g32 32 (by omega)
    push_cast at HG32
    have HG36 := g32 36 (by omega)
    push_cast at HG36
    have HG44 := g32 44 (by omega)
    push_cast at HG44
    have HU11 := u16a 11 (by omega)
    have HU17 := u16a 17 (by omega)
    have HU19 := u16a 19 (by omega)
    have HU22 := u16a 22 (by omega)
    have HU40 := u16a 40 (by omega)
    have HU42 := u16a 42 (by omega)
    have HE := hide (show parB l = (if (l.drop 82).take 8 = nmB ∧ num l 510 2 = 43605 then (if num l 11 2 = 512 ∧ num l 17 2 = 0 ∧ num l 19 2 = 0 ∧ num l 22 2 = 0 ∧ num l 40 2 = 0 ∧ num l 42 2 = 0 then (if (btOf l).chk = 0 then (btOf l, 0) else (bt0, (btOf l).chk)) else (bt0, 11)) else (bt0, 10)) from if_pos h5)
    have HCA := hide hcellA
    have HL := hide hl1
    have HW1 := hide hw1
    have HB1 := hide hb1
    have HK1 := hide hk1
    have hcp : 512 ≤ cap := by omega
    unfold btOf at HE
    clear g16 g32 u16a hn n hlen hb hl hl1 hV hw1 hb1 hk1 h5 hcellA htl
    obtain ⟨pc, hpc⟩ : ∃ pc, pc = parB l := ⟨_, rfl⟩
    rw [← hpc] at HE ⊢
    clear hpc
    obtain ⟨nm, hnm⟩ : ∃ nm, nm = (l.drop 82).take 8 := ⟨_, rfl⟩
    rw [← hnm] at HE htx hnq
    clear hnm
    generalize num l 510 2 = v510 at *
    generalize num l 14 2 = v14 at *
    generalize num l 48 2 = v48 at *
    generalize num l 50 2 = v50 at *
    generalize num l 11 2 = v11 at *
    generalize num l 17 2 = v17 at *
    generalize num l 19 2 = v19 at *
    generalize num l 22 2 = v22 at *
    generalize num l 40 2 = v40 at *
    generalize num l 42 2 = v42 at *
    generalize num l 32 4 = v32 at *
    generalize num l 36 4 = v36 at *
    generalize num l 44 4 = v44 at *
    generalize l.getD 13 0 = x13 at *
    generalize l.getD 16 0 = x16 at *
    obtain ⟨s0, s1, s2, s3, s4, s5, s6, s7, s8, s9, s10, s11⟩ := HV.out.fx
    have i0 := fun u => (ix_fx u).1
    have i1 := fun u => (ix_fx u).2.1
    have i2 := fun u => (ix_fx u).2.2.1
    have i3 := fun u => (ix_fx u).2.2.2.1
    have i4 := fun u => (ix_fx u).2.2.2.2.1
    have i5 := fun u => (ix_fx u).2.2.2.2.2

    have c0 := HK1.out.cell 0 _ rfl
    have c1 := HK1.out.cell 1 _ rfl
    have c2 := HK1.out.cell 2 _ rfl
    have c3 := HK1.out.cell 3 _ rfl
    have c4 := HK1.out.cell 4 _ rfl
    have c5 := HK1.out.cell 5 _ rfl
    have c6 := HK1.out.cell 6 _ rfl
    have c7 := HK1.out.cell 7 _ rfl
    have f0 := HK1.out.frozen 0
    have f1 := HK1.out.frozen 1
    have f2 := HK1.out.frozen 2
    have f3 := HK1.out.frozen 3
    have f4 := HK1.out.frozen 4
    have f5 := HK1.out.frozen 5
    have f6 := HK1.out.frozen 6
    have f7 := HK1.out.frozen 7
    have hts : ∀ m : List Int, ((ba m).toList == [70, 65, 84, 51, 50, 32, 32, 32]) = ((ba m).toList == (ba nmB).toList) := fun m => by rw [nm_text]
    rw [← hts] at hnq
    clear hts
    rw [HW1.out] at htx
    have HC := hide (And.intro c0 (And.intro c1 (And.intro c2 (And.intro c3 (And.intro c4 (And.intro c5 (And.intro c6 c7)))))))
    rw [HW1.out] at c0 c1 c2 c3 c4 c5 c6 c7 f0 f1 f2 f3 f4 f5 f6 f7
    by_cases hq : nm = nmB
    · rw [decide_eq_true hq] at hnq
      have HQ := hide hq
      clear hq c0 c1 c2 c3 c4 c5 c6 c7 f0 f1 f2 f3 f4 f5 f6 f7
      go_enter Tryd.func46, Tryd.ntmps46
      go_wp2_with fail
      rw [← HW1.out]
      clear htx
      refine (HG510 _ HL.out).out.mono ?_
      rintro e9 w2 ⟨rfl, h2⟩
      rw [h2]
      clear h2
      by_cases hv : v510 = 43605
      · have HE2 := hide (show pc = if v11 = 512 ∧ v17 = 0 ∧ v19 = 0 ∧ v22 = 0 ∧ v40 = 0 ∧ v42 = 0 then (if (Bt.mk x13 v14 x16 v32 v36 v44 v48 v50).chk = 0 then (⟨x13, v14, x16, v32, v36, v44, v48, v50⟩, 0) else (bt0, (Bt.mk x13 v14 x16 v32 v36 v44 v48 v50).chk)) else (bt0, 11) by rw [HE.out, if_pos ⟨HQ.out, hv⟩])
        rw [hv]
        clear hv HE hnq
        go_wp2_with fail
        clear s0 s1 s2 s3 s4 s5 s6 s7 s8 s9 s10 s11
        go_loopw [25] (fun i wr => ∃ j : Nat, j ≤ 6 ∧ i = .int .i64 (j : Int) ∧ Blk wr w.heap.size #[.int .i64 0, .int .i64 0, .int .i64 0, .int .i64 0, .int .i64 0, .int .i64 0, .int .i64 0, .int .i64 0] 63 ∧ Below w1.heap.size w1 wr ∧ (0 < j → v11 = 512) ∧ (1 < j → v17 = 0) ∧ (2 < j → v19 = 0) ∧ (3 < j → v22 = 0) ∧ (4 < j → v40 = 0) ∧ (5 < j → v42 = 0)) (fun i _ => 6 - (intOf i).toNat)
        case atStart => exact ⟨0, by omega, rfl, HK1.out, Below.refl _ _, fun h => by omega, fun h => by omega, fun h => by omega, fun h => by omega, fun h => by omega, fun h => by omega⟩
        case round =>
          obtain ⟨j, hj, rfl, hk, hbr, q0, q1, q2, q3, q4, q5⟩ := hrel
          have HK := hide hk
          have HBr := hide hbr
          have HLr := hide (HL.out.below hbr)
          have Q := hide (And.intro q0 (And.intro q1 (And.intro q2 (And.intro q3 (And.intro q4 q5)))))
          clear hk hbr q0 q1 q2 q3 q4 q5
          obtain rfl | rfl | rfl | rfl | rfl | rfl | rfl : j = 0 ∨ j = 1 ∨ j = 2 ∨ j = 3 ∨ j = 4 ∨ j = 5 ∨ j = 6 := by omega
          · skip
            have hx4 := Blk.new wr #[.int .i64 11, .int .u16 512] 111
            have y0 : (wr.alloc (.cells #[.int .i64 11, .int .u16 512] 111)).cell? ⟨wr.heap.size, 0, none⟩ = some (.int .i64 11) := hx4.cell 0 _ rfl
            have y1 : (wr.alloc (.cells #[.int .i64 11, .int .u16 512] 111)).cell? ⟨wr.heap.size, 1, none⟩ = some (.int .u16 512) := hx4.cell 1 _ rfl
            have hb4 : Below wr.heap.size wr (wr.alloc (.cells #[.int .i64 11, .int .u16 512] 111)) := (Below.refl _ _).alloc (Nat.le_refl _) _
            have HC4 := HU11 _ (HLr.out.below hb4)
            have HK4 := hide (HK.out.below hb4)
            have HB4 := hide (HBr.out.trans (hb4.mono HBr.out.size))
            clear hx4 hb4
            go_wp2_with fail
            refine HC4.out.mono ?_
            rintro e9 w5 ⟨rfl, h5⟩
            rw [h5]
            clear h5
            by_cases hv : v11 = 512
            · rw [hv]
              go_wp2_with fail
              go_roundw
              case rel => exact ⟨1, by omega, by go_num, HK4.out, HB4.out, fun _ => hv, fun h => by omega, fun h => by omega, fun h => by omega, fun h => by omega, fun h => by omega⟩
              case measure => simp [intOf]
            · have HP := hide (show pc = (bt0, 11) by rw [HE2.out, if_neg (fun c => hv c.1)])
              have z0 := HK4.out.cell 0 _ rfl
              have z1 := HK4.out.cell 1 _ rfl
              have z2 := HK4.out.cell 2 _ rfl
              have z3 := HK4.out.cell 3 _ rfl
              have z4 := HK4.out.cell 4 _ rfl
              have z5 := HK4.out.cell 5 _ rfl
              have z6 := HK4.out.cell 6 _ rfl
              have z7 := HK4.out.cell 7 _ rfl
              have f0 := HK4.out.frozen 0
              have f1 := HK4.out.frozen 1
              have f2 := HK4.out.frozen 2
              have f3 := HK4.out.frozen 3
              have f4 := HK4.out.frozen 4
              have f5 := HK4.out.frozen 5
              have f6 := HK4.out.frozen 6
              have f7 := HK4.out.frozen 7
              go_wp2_with fail
              obtain ⟨w9, hw9⟩ : ∃ w9, w9 = (((((((((wr.alloc (.cells #[.int .i64 11, .int .u16 512] 111)).setCell ⟨w.heap.size, 0, none⟩ (.int .i64 0)).setCell ⟨w.heap.size, 1, none⟩ (.int .i64 0)).setCell ⟨w.heap.size, 2, none⟩ (.int .i64 0)).setCell ⟨w.heap.size, 3, none⟩ (.int .i64 0)).setCell ⟨w.heap.size, 4, none⟩ (.int .i64 0)).setCell ⟨w.heap.size, 5, none⟩ (.int .i64 0)).setCell ⟨w.heap.size, 6, none⟩ (.int .i64 0)).setCell ⟨w.heap.size, 7, none⟩ (.int .i64 0)) := ⟨_, rfl⟩
              have hk9 : Blk w9 w.heap.size bt0.cs 63 := by rw [hw9]; exact blk8 HK4.out (.int .i64 0) (.int .i64 0) (.int .i64 0) (.int .i64 0) (.int .i64 0) (.int .i64 0) (.int .i64 0) (.int .i64 0)
              have hb9 : Below w.heap.size w w9 := by rw [hw9]; exact below8 (HB1.out.trans (HB4.out.mono HB1.out.size)) (Nat.le_refl _) (.int .i64 0) (.int .i64 0) (.int .i64 0) (.int .i64 0) (.int .i64 0) (.int .i64 0) (.int .i64 0) (.int .i64 0)
              rw [← hw9]
              exact bodyPost_ret (ret_bt rfl _ _ w.heap.size bt0 _ rfl rfl hk9) rfl ⟨by rw [HP.out]; rfl, hb9⟩
          · skip
            have hx4 := Blk.new wr #[.int .i64 17, .int .u16 0] 111
            have y0 : (wr.alloc (.cells #[.int .i64 17, .int .u16 0] 111)).cell? ⟨wr.heap.size, 0, none⟩ = some (.int .i64 17) := hx4.cell 0 _ rfl
            have y1 : (wr.alloc (.cells #[.int .i64 17, .int .u16 0] 111)).cell? ⟨wr.heap.size, 1, none⟩ = some (.int .u16 0) := hx4.cell 1 _ rfl
            have hb4 : Below wr.heap.size wr (wr.alloc (.cells #[.int .i64 17, .int .u16 0] 111)) := (Below.refl _ _).alloc (Nat.le_refl _) _
            have HC4 := HU17 _ (HLr.out.below hb4)
            have HK4 := hide (HK.out.below hb4)
            have HB4 := hide (HBr.out.trans (hb4.mono HBr.out.size))
            clear hx4 hb4
            go_wp2_with fail
            refine HC4.out.mono ?_
            rintro e9 w5 ⟨rfl, h5⟩
            rw [h5]
            clear h5
            by_cases hv : v17 = 0
            · rw [hv]
              go_wp2_with fail
              go_roundw
              case rel => exact ⟨2, by omega, by go_num, HK4.out, HB4.out, fun _ => Q.out.1 (by omega), fun _ => hv, fun h => by omega, fun h => by omega, fun h => by omega, fun h => by omega⟩
              case measure => simp [intOf]
            · have HP := hide (show pc = (bt0, 11) by rw [HE2.out, if_neg (fun c => hv c.2.1)])
              have z0 := HK4.out.cell 0 _ rfl
              have z1 := HK4.out.cell 1 _ rfl
              have z2 := HK4.out.cell 2 _ rfl
              have z3 := HK4.out.cell 3 _ rfl
              have z4 := HK4.out.cell 4 _ rfl
              have z5 := HK4.out.cell 5 _ rfl
              have z6 := HK4.out.cell 6 _ rfl
              have z7 := HK4.out.cell 7 _ rfl
              have f0 := HK4.out.frozen 0
              have f1 := HK4.out.frozen 1
              have f2 := HK4.out.frozen 2
              have f3 := HK4.out.frozen 3
              have f4 := HK4.out.frozen 4
              have f5 := HK4.out.frozen 5
              have f6 := HK4.out.frozen 6
              have f7 := HK4.out.frozen 7
              go_wp2_with fail
              obtain ⟨w9, hw9⟩ : ∃ w9, w9 = (((((((((wr.alloc (.cells #[.int .i64 17, .int .u16 0] 111)).setCell ⟨w.heap.size, 0, none⟩ (.int .i64 0)).setCell ⟨w.heap.size, 1, none⟩ (.int .i64 0)).setCell ⟨w.heap.size, 2, none⟩ (.int .i64 0)).setCell ⟨w.heap.size, 3, none⟩ (.int .i64 0)).setCell ⟨w.heap.size, 4, none⟩ (.int .i64 0)).setCell ⟨w.heap.size, 5, none⟩ (.int .i64 0)).setCell ⟨w.heap.size, 6, none⟩ (.int .i64 0)).setCell ⟨w.heap.size, 7, none⟩ (.int .i64 0)) := ⟨_, rfl⟩
              have hk9 : Blk w9 w.heap.size bt0.cs 63 := by rw [hw9]; exact blk8 HK4.out (.int .i64 0) (.int .i64 0) (.int .i64 0) (.int .i64 0) (.int .i64 0) (.int .i64 0) (.int .i64 0) (.int .i64 0)
              have hb9 : Below w.heap.size w w9 := by rw [hw9]; exact below8 (HB1.out.trans (HB4.out.mono HB1.out.size)) (Nat.le_refl _) (.int .i64 0) (.int .i64 0) (.int .i64 0) (.int .i64 0) (.int .i64 0) (.int .i64 0) (.int .i64 0) (.int .i64 0)
              rw [← hw9]
              exact bodyPost_ret (ret_bt rfl _ _ w.heap.size bt0 _ rfl rfl hk9) rfl ⟨by rw [HP.out]; rfl, hb9⟩
          · skip
            have hx4 := Blk.new wr #[.int .i64 19, .int .u16 0] 111
            have y0 : (wr.alloc (.cells #[.int .i64 19, .int .u16 0] 111)).cell? ⟨wr.heap.size, 0, none⟩ = some (.int .i64 19) := hx4.cell 0 _ rfl
            have y1 : (wr.alloc (.cells #[.int .i64 19, .int .u16 0] 111)).cell? ⟨wr.heap.size, 1, none⟩ = some (.int .u16 0) := hx4.cell 1 _ rfl
            have hb4 : Below wr.heap.size wr (wr.alloc (.cells #[.int .i64 19, .int .u16 0] 111)) := (Below.refl _ _).alloc (Nat.le_refl _) _
            have HC4 := HU19 _ (HLr.out.below hb4)
            have HK4 := hide (HK.out.below hb4)
            have HB4 := hide (HBr.out.trans (hb4.mono HBr.out.size))
            clear hx4 hb4
            go_wp2_with fail
            refine HC4.out.mono ?_
            rintro e9 w5 ⟨rfl, h5⟩
            rw [h5]
            clear h5
            by_cases hv : v19 = 0
            · rw [hv]
              go_wp2_with fail
              go_roundw
              case rel => exact ⟨3, by omega, by go_num, HK4.out, HB4.out, fun _ => Q.out.1 (by omega), fun _ => Q.out.2.1 (by omega), fun _ => hv, fun h => by omega, fun h => by omega, fun h => by omega⟩
              case measure => simp [intOf]
            · have HP := hide (show pc = (bt0, 11) by rw [HE2.out, if_neg (fun c => hv c.2.2.1)])
              have z0 := HK4.out.cell 0 _ rfl
              have z1 := HK4.out.cell 1 _ rfl
              have z2 := HK4.out.cell 2 _ rfl
              have z3 := HK4.out.cell 3 _ rfl
              have z4 := HK4.out.cell 4 _ rfl
              have z5 := HK4.out.cell 5 _ rfl
              have z6 := HK4.out.cell 6 _ rfl
              have z7 := HK4.out.cell 7 _ rfl
              have f0 := HK4.out.frozen 0
              have f1 := HK4.out.frozen 1
              have f2 := HK4.out.frozen 2
              have f3 := HK4.out.frozen 3
              have f4 := HK4.out.frozen 4
              have f5 := HK4.out.frozen 5
              have f6 := HK4.out.frozen 6
              have f7 := HK4.out.frozen 7
              go_wp2_with fail
              obtain ⟨w9, hw9⟩ : ∃ w9, w9 = (((((((((wr.alloc (.cells #[.int .i64 19, .int .u16 0] 111)).setCell ⟨w.heap.size, 0, none⟩ (.int .i64 0)).setCell ⟨w.heap.size, 1, none⟩ (.int .i64 0)).setCell ⟨w.heap.size, 2, none⟩ (.int .i64 0)).setCell ⟨w.heap.size, 3, none⟩ (.int .i64 0)).setCell ⟨w.heap.size, 4, none⟩ (.int .i64 0)).setCell ⟨w.heap.size, 5, none⟩ (.int .i64 0)).setCell ⟨w.heap.size, 6, none⟩ (.int .i64 0)).setCell ⟨w.heap.size, 7, none⟩ (.int .i64 0)) := ⟨_, rfl⟩
              have hk9 : Blk w9 w.heap.size bt0.cs 63 := by rw [hw9]; exact blk8 HK4.out (.int .i64 0) (.int .i64 0) (.int .i64 0) (.int .i64 0) (.int .i64 0) (.int .i64 0) (.int .i64 0) (.int .i64 0)
              have hb9 : Below w.heap.size w w9 := by rw [hw9]; exact below8 (HB1.out.trans (HB4.out.mono HB1.out.size)) (Nat.le_refl _) (.int .i64 0) (.int .i64 0) (.int .i64 0) (.int .i64 0) (.int .i64 0) (.int .i64 0) (.int .i64 0) (.int .i64 0)
              rw [← hw9]
              exact bodyPost_ret (ret_bt rfl _ _ w.heap.size bt0 _ rfl rfl hk9) rfl ⟨by rw [HP.out]; rfl, hb9⟩
          · skip
            have hx4 := Blk.new wr #[.int .i64 22, .int .u16 0] 111
            have y0 : (wr.alloc (.cells #[.int .i64 22, .int .u16 0] 111)).cell? ⟨wr.heap.size, 0, none⟩ = some (.int .i64 22) := hx4.cell 0 _ rfl
            have y1 : (wr.alloc (.cells #[.int .i64 22, .int .u16 0] 111)).cell? ⟨wr.heap.size, 1, none⟩ = some (.int .u16 0) := hx4.cell 1 _ rfl
            have hb4 : Below wr.heap.size wr (wr.alloc (.cells #[.int .i64 22, .int .u16 0] 111)) := (Below.refl _ _).alloc (Nat.le_refl _) _
            have HC4 := HU22 _ (HLr.out.below hb4)
            have HK4 := hide (HK.out.below hb4)
            have HB4 := hide (HBr.out.trans (hb4.mono HBr.out.size))
            clear hx4 hb4
            go_wp2_with fail
            refine HC4.out.mono ?_
            rintro e9 w5 ⟨rfl, h5⟩
            rw [h5]
            clear h5
            by_cases hv : v22 = 0
            · rw [hv]
              go_wp2_with fail
              go_roundw
              case rel => exact ⟨4, by omega, by go_num, HK4.out, HB4.out, fun _ => Q.out.1 (by omega), fun _ => Q.out.2.1 (by omega), fun _ => Q.out.2.2.1 (by omega), fun _ => hv, fun h => by omega, fun h => by omega⟩
              case measure => simp [intOf]
            · have HP := hide (show pc = (bt0, 11) by rw [HE2.out, if_neg (fun c => hv c.2.2.2.1)])
              have z0 := HK4.out.cell 0 _ rfl
              have z1 := HK4.out.cell 1 _ rfl
              have z2 := HK4.out.cell 2 _ rfl
              have z3 := HK4.out.cell 3 _ rfl
              have z4 := HK4.out.cell 4 _ rfl
              have z5 := HK4.out.cell 5 _ rfl
              have z6 := HK4.out.cell 6 _ rfl
              have z7 := HK4.out.cell 7 _ rfl
              have f0 := HK4.out.frozen 0
              have f1 := HK4.out.frozen 1
              have f2 := HK4.out.frozen 2
              have f3 := HK4.out.frozen 3
              have f4 := HK4.out.frozen 4
              have f5 := HK4.out.frozen 5
              have f6 := HK4.out.frozen 6
              have f7 := HK4.out.frozen 7
              go_wp2_with fail
              obtain ⟨w9, hw9⟩ : ∃ w9, w9 = (((((((((wr.alloc (.cells #[.int .i64 22, .int .u16 0] 111)).setCell ⟨w.heap.size, 0, none⟩ (.int .i64 0)).setCell ⟨w.heap.size, 1, none⟩ (.int .i64 0)).setCell ⟨w.heap.size, 2, none⟩ (.int .i64 0)).setCell ⟨w.heap.size, 3, none⟩ (.int .i64 0)).setCell ⟨w.heap.size, 4, none⟩ (.int .i64 0)).setCell ⟨w.heap.size, 5, none⟩ (.int .i64 0)).setCell ⟨w.heap.size, 6, none⟩ (.int .i64 0)).setCell ⟨w.heap.size, 7, none⟩ (.int .i64 0)) := ⟨_, rfl⟩
              have hk9 : Blk w9 w.heap.size bt0.cs 63 := by rw [hw9]; exact blk8 HK4.out (.int .i64 0) (.int .i64 0) (.int .i64 0) (.int .i64 0) (.int .i64 0) (.int .i64 0) (.int .i64 0) (.int .i64 0)
              have hb9 : Below w.heap.size w w9 := by rw [hw9]; exact below8 (HB1.out.trans (HB4.out.mono HB1.out.size)) (Nat.le_refl _) (.int .i64 0) (.int .i64 0) (.int .i64 0) (.int .i64 0) (.int .i64 0) (.int .i64 0) (.int .i64 0) (.int .i64 0)
              rw [← hw9]
              exact bodyPost_ret (ret_bt rfl _ _ w.heap.size bt0 _ rfl rfl hk9) rfl ⟨by rw [HP.out]; rfl, hb9⟩
          · skip
            have hx4 := Blk.new wr #[.int .i64 40, .int .u16 0] 111
            have y0 : (wr.alloc (.cells #[.int .i64 40, .int .u16 0] 111)).cell? ⟨wr.heap.size, 0, none⟩ = some (.int .i64 40) := hx4.cell 0 _ rfl
            have y1 : (wr.alloc (.cells #[.int .i64 40, .int .u16 0] 111)).cell? ⟨wr.heap.size, 1, none⟩ = some (.int .u16 0) := hx4.cell 1 _ rfl
            have hb4 : Below wr.heap.size wr (wr.alloc (.cells #[.int .i64 40, .int .u16 0] 111)) := (Below.refl _ _).alloc (Nat.le_refl _) _
            have HC4 := HU40 _ (HLr.out.below hb4)
            have HK4 := hide (HK.out.below hb4)
            have HB4 := hide (HBr.out.trans (hb4.mono HBr.out.size))
            clear hx4 hb4
            go_wp2_with fail
            refine HC4.out.mono ?_
            rintro e9 w5 ⟨rfl, h5⟩
            rw [h5]
            clear h5
            by_cases hv : v40 = 0
            · rw [hv]
              go_wp2_with fail
              go_roundw
              case rel => exact ⟨5, by omega, by go_num, HK4.out, HB4.out, fun _ => Q.out.1 (by omega), fun _ => Q.out.2.1 (by omega), fun _ => Q.out.2.2.1 (by omega), fun _ => Q.out.2.2.2.1 (by omega), fun _ => hv, fun h => by omega⟩
              case measure => simp [intOf]
            · have HP := hide (show pc = (bt0, 11) by rw [HE2.out, if_neg (fun c => hv c.2.2.2.2.1)])
              have z0 := HK4.out.cell 0 _ rfl
              have z1 := HK4.out.cell 1 _ rfl
              have z2 := HK4.out.cell 2 _ rfl
              have z3 := HK4.out.cell 3 _ rfl
              have z4 := HK4.out.cell 4 _ rfl
              have z5 := HK4.out.cell 5 _ rfl
              have z6 := HK4.out.cell 6 _ rfl
              have z7 := HK4.out.cell 7 _ rfl
              have f0 := HK4.out.frozen 0
              have f1 := HK4.out.frozen 1
              have f2 := HK4.out.frozen 2
              have f3 := HK4.out.frozen 3
              have f4 := HK4.out.frozen 4
              have f5 := HK4.out.frozen 5
              have f6 := HK4.out.frozen 6
              have f7 := HK4.out.frozen 7
              go_wp2_with fail
              obtain ⟨w9, hw9⟩ : ∃ w9, w9 = (((((((((wr.alloc (.cells #[.int .i64 40, .int .u16 0] 111)).setCell ⟨w.heap.size, 0, none⟩ (.int .i64 0)).setCell ⟨w.heap.size, 1, none⟩ (.int .i64 0)).setCell ⟨w.heap.size, 2, none⟩ (.int .i64 0)).setCell ⟨w.heap.size, 3, none⟩ (.int .i64 0)).setCell ⟨w.heap.size, 4, none⟩ (.int .i64 0)).setCell ⟨w.heap.size, 5, none⟩ (.int .i64 0)).setCell ⟨w.heap.size, 6, none⟩ (.int .i64 0)).setCell ⟨w.heap.size, 7, none⟩ (.int .i64 0)) := ⟨_, rfl⟩
              have hk9 : Blk w9 w.heap.size bt0.cs 63 := by rw [hw9]; exact blk8 HK4.out (.int .i64 0) (.int .i64 0) (.int .i64 0) (.int .i64 0) (.int .i64 0) (.int .i64 0) (.int .i64 0) (.int .i64 0)
              have hb9 : Below w.heap.size w w9 := by rw [hw9]; exact below8 (HB1.out.trans (HB4.out.mono HB1.out.size)) (Nat.le_refl _) (.int .i64 0) (.int .i64 0) (.int .i64 0) (.int .i64 0) (.int .i64 0) (.int .i64 0) (.int .i64 0) (.int .i64 0)
              rw [← hw9]
              exact bodyPost_ret (ret_bt rfl _ _ w.heap.size bt0 _ rfl rfl hk9) rfl ⟨by rw [HP.out]; rfl, hb9⟩
          · skip
            have hx4 := Blk.new wr #[.int .i64 42, .int .u16 0] 111
            have y0 : (wr.alloc (.cells #[.int .i64 42, .int .u16 0] 111)).cell? ⟨wr.heap.size, 0, none⟩ = some (.int .i64 42) := hx4.cell 0 _ rfl
            have y1 : (wr.alloc (.cells #[.int .i64 42, .int .u16 0] 111)).cell? ⟨wr.heap.size, 1, none⟩ = some (.int .u16 0) := hx4.cell 1 _ rfl
            have hb4 : Below wr.heap.size wr (wr.alloc (.cells #[.int .i64 42, .int .u16 0] 111)) := (Below.refl _ _).alloc (Nat.le_refl _) _
            have HC4 := HU42 _ (HLr.out.below hb4)
            have HK4 := hide (HK.out.below hb4)
            have HB4 := hide (HBr.out.trans (hb4.mono HBr.out.size))
            clear hx4 hb4
            go_wp2_with fail
            refine HC4.out.mono ?_
            rintro e9 w5 ⟨rfl, h5⟩
            rw [h5]
            clear h5
            by_cases hv : v42 = 0
            · rw [hv]
              go_wp2_with fail
              go_roundw
              case rel => exact ⟨6, by omega, by go_num, HK4.out, HB4.out, fun _ => Q.out.1 (by omega), fun _ => Q.out.2.1 (by omega), fun _ => Q.out.2.2.1 (by omega), fun _ => Q.out.2.2.2.1 (by omega), fun _ => Q.out.2.2.2.2.1 (by omega), fun _ => hv⟩
              case measure => simp [intOf]
            · have HP := hide (show pc = (bt0, 11) by rw [HE2.out, if_neg (fun c => hv c.2.2.2.2.2)])
              have z0 := HK4.out.cell 0 _ rfl
              have z1 := HK4.out.cell 1 _ rfl
              have z2 := HK4.out.cell 2 _ rfl
              have z3 := HK4.out.cell 3 _ rfl
              have z4 := HK4.out.cell 4 _ rfl
              have z5 := HK4.out.cell 5 _ rfl
              have z6 := HK4.out.cell 6 _ rfl
              have z7 := HK4.out.cell 7 _ rfl
              have f0 := HK4.out.frozen 0
              have f1 := HK4.out.frozen 1
              have f2 := HK4.out.frozen 2
              have f3 := HK4.out.frozen 3
              have f4 := HK4.out.frozen 4
              have f5 := HK4.out.frozen 5
              have f6 := HK4.out.frozen 6
              have f7 := HK4.out.frozen 7
              go_wp2_with fail
              obtain ⟨w9, hw9⟩ : ∃ w9, w9 = (((((((((wr.alloc (.cells #[.int .i64 42, .int .u16 0] 111)).setCell ⟨w.heap.size, 0, none⟩ (.int .i64 0)).setCell ⟨w.heap.size, 1, none⟩ (.int .i64 0)).setCell ⟨w.heap.size, 2, none⟩ (.int .i64 0)).setCell ⟨w.heap.size, 3, none⟩ (.int .i64 0)).setCell ⟨w.heap.size, 4, none⟩ (.int .i64 0)).setCell ⟨w.heap.size, 5, none⟩ (.int .i64 0)).setCell ⟨w.heap.size, 6, none⟩ (.int .i64 0)).setCell ⟨w.heap.size, 7, none⟩ (.int .i64 0)) := ⟨_, rfl⟩
              have hk9 : Blk w9 w.heap.size bt0.cs 63 := by rw [hw9]; exact blk8 HK4.out (.int .i64 0) (.int .i64 0) (.int .i64 0) (.int .i64 0) (.int .i64 0) (.int .i64 0) (.int .i64 0) (.int .i64 0)
              have hb9 : Below w.heap.size w w9 := by rw [hw9]; exact below8 (HB1.out.trans (HB4.out.mono HB1.out.size)) (Nat.le_refl _) (.int .i64 0) (.int .i64 0) (.int .i64 0) (.int .i64 0) (.int .i64 0) (.int .i64 0) (.int .i64 0) (.int .i64 0)
              rw [← hw9]
              exact bodyPost_ret (ret_bt rfl _ _ w.heap.size bt0 _ rfl rfl hk9) rfl ⟨by rw [HP.out]; rfl, hb9⟩
          · skip
            have HE3 := hide (show pc = if (Bt.mk x13 v14 x16 v32 v36 v44 v48 v50).chk = 0 then (⟨x13, v14, x16, v32, v36, v44, v48, v50⟩, 0) else (bt0, (Bt.mk x13 v14 x16 v32 v36 v44 v48 v50).chk) by rw [HE2.out, if_pos ⟨Q.out.1 (by omega), Q.out.2.1 (by omega), Q.out.2.2.1 (by omega), Q.out.2.2.2.1 (by omega), Q.out.2.2.2.2.1 (by omega), Q.out.2.2.2.2.2 (by omega)⟩])
            clear HE2 Q
            obtain ⟨ck, hck⟩ : ∃ ck, ck = (Bt.mk x13 v14 x16 v32 v36 v44 v48 v50).chk := ⟨_, rfl⟩
            have HCk : ∀ u, Hid (Calls Tryd.prog 54 #[.agg #[.int .i64 x13, .int .i64 v14, .int .i64 x16, .int .i64 v32, .int .i64 v36, .int .i64 v44, .int .i64 v48, .int .i64 v50]] u fun e w' => e = .returned (.int .i64 ck) ∧ Below u.heap.size u w') := fun u => hide (by rw [hck]; exact check_any (Bt.mk x13 v14 x16 v32 v36 v44 v48 v50) u)
            rw [← hck] at HE3
            clear hck
            obtain ⟨w3, hw3⟩ : ∃ w3, w3 = (wr.alloc (.cells #[.int .i64 x13, .int .i64 v14, .int .i64 x16, .int .i64 v32, .int .i64 v36, .int .i64 v44, .int .i64 v48, .int .i64 v50] 63)).drew := ⟨_, rfl⟩
            have hnb : Blk w3 wr.heap.size #[.int .i64 x13, .int .i64 v14, .int .i64 x16, .int .i64 v32, .int .i64 v36, .int .i64 v44, .int .i64 v48, .int .i64 v50] 63 := by rw [hw3]; exact (Blk.new _ _ _).drew
            have hb3 : Below wr.heap.size wr w3 := by rw [hw3]; exact ((Below.refl _ _).alloc (Nat.le_refl _) _).drew
            have HK3 := hide (HK.out.below hb3)
            have HB3 := hide (HB1.out.trans ((HBr.out.trans (hb3.mono HBr.out.size)).mono HB1.out.size))
            have HN3 := hide hnb
            have HW3 := hide hw3
            clear hw3 hnb hb3
            obtain ⟨k13, k16⟩ := HCA.out _ HLr.out
            have HLd := hide HLr.out.drew
            have HLa := hide (Lies.drew (HLr.out.alloc (.cells #[.int .i64 0, .int .i64 0, .int .i64 0, .int .i64 0, .int .i64 0, .int .i64 0, .int .i64 0, .int .i64 0] 63)))
            have kd := HCA.out _ HLd.out
            have ka := HCA.out _ HLa.out
            go_wp2_with fail
            go_region_held3 (fun u => u.cell? ⟨b0, off + 13, none⟩ = some (.int .u8 x13) ∧ u.cell? ⟨b0, off + 16, none⟩ = some (.int .u8 x16)) (first | go_keep | exact kd | exact ka) (first | (go_at_call 59; (first | with_reducible refine ((HG14 _ HLd.out).out).mono ?_ | with_reducible refine ((HG14 _ HLa.out).out).mono ?_); rintro e9 w8 ⟨rfl, h8⟩; rw [h8]; clear h8) | (go_at_call 61; (first | with_reducible refine ((HG32 _ HLd.out).out).mono ?_ | with_reducible refine ((HG32 _ HLa.out).out).mono ?_); rintro e9 w8 ⟨rfl, h8⟩; rw [h8]; clear h8) | (go_at_call 61; (first | with_reducible refine ((HG36 _ HLd.out).out).mono ?_ | with_reducible refine ((HG36 _ HLa.out).out).mono ?_); rintro e9 w8 ⟨rfl, h8⟩; rw [h8]; clear h8) | (go_at_call 61; (first | with_reducible refine ((HG44 _ HLd.out).out).mono ?_ | with_reducible refine ((HG44 _ HLa.out).out).mono ?_); rintro e9 w8 ⟨rfl, h8⟩; rw [h8]; clear h8) | (go_at_call 59; (first | with_reducible refine ((HG48 _ HLd.out).out).mono ?_ | with_reducible refine ((HG48 _ HLa.out).out).mono ?_); rintro e9 w8 ⟨rfl, h8⟩; rw [h8]; clear h8) | (go_at_call 59; (first | with_reducible refine ((HG50 _ HLd.out).out).mono ?_ | with_reducible refine ((HG50 _ HLa.out).out).mono ?_); rintro e9 w8 ⟨rfl, h8⟩; rw [h8]; clear h8))
            all_goals
              rw [← HW3.out]
              have d0 := HN3.out.cell 0 _ rfl
              have d1 := HN3.out.cell 1 _ rfl
              have d2 := HN3.out.cell 2 _ rfl
              have d3 := HN3.out.cell 3 _ rfl
              have d4 := HN3.out.cell 4 _ rfl
              have d5 := HN3.out.cell 5 _ rfl
              have d6 := HN3.out.cell 6 _ rfl
              have d7 := HN3.out.cell 7 _ rfl
              go_wp2_with fail
              clear d0 d1 d2 d3 d4 d5 d6 d7
              refine (HCk _).out.mono ?_
              rintro e9 w4 ⟨rfl, h4⟩
              have HN4 := hide (HN3.out.below h4)
              have HK4 := hide (HK3.out.below h4)
              have HB4 := hide (HB3.out.trans (h4.mono HB3.out.size))
              clear h4
              have z0 := HK4.out.cell 0 _ rfl
              have z1 := HK4.out.cell 1 _ rfl
              have z2 := HK4.out.cell 2 _ rfl
              have z3 := HK4.out.cell 3 _ rfl
              have z4 := HK4.out.cell 4 _ rfl
              have z5 := HK4.out.cell 5 _ rfl
              have z6 := HK4.out.cell 6 _ rfl
              have z7 := HK4.out.cell 7 _ rfl
              have f0 := HK4.out.frozen 0
              have f1 := HK4.out.frozen 1
              have f2 := HK4.out.frozen 2
              have f3 := HK4.out.frozen 3
              have f4 := HK4.out.frozen 4
              have f5 := HK4.out.frozen 5
              have f6 := HK4.out.frozen 6
              have f7 := HK4.out.frozen 7
              by_cases hk : ck = 0
              · have HP := hide (show pc = ((Bt.mk x13 v14 x16 v32 v36 v44 v48 v50), 0) by rw [HE3.out, if_pos hk])
                have d0 := HN4.out.cell 0 _ rfl
                have d1 := HN4.out.cell 1 _ rfl
                have d2 := HN4.out.cell 2 _ rfl
                have d3 := HN4.out.cell 3 _ rfl
                have d4 := HN4.out.cell 4 _ rfl
                have d5 := HN4.out.cell 5 _ rfl
                have d6 := HN4.out.cell 6 _ rfl
                have d7 := HN4.out.cell 7 _ rfl
                rw [hk]
                go_wp2_with fail
                obtain ⟨w9, hw9⟩ : ∃ w9, w9 = ((((((((w4.setCell ⟨w.heap.size, 0, none⟩ (.int .i64 x13)).setCell ⟨w.heap.size, 1, none⟩ (.int .i64 v14)).setCell ⟨w.heap.size, 2, none⟩ (.int .i64 x16)).setCell ⟨w.heap.size, 3, none⟩ (.int .i64 v32)).setCell ⟨w.heap.size, 4, none⟩ (.int .i64 v36)).setCell ⟨w.heap.size, 5, none⟩ (.int .i64 v44)).setCell ⟨w.heap.size, 6, none⟩ (.int .i64 v48)).setCell ⟨w.heap.size, 7, none⟩ (.int .i64 v50)) := ⟨_, rfl⟩
                have hk9 : Blk w9 w.heap.size (Bt.mk x13 v14 x16 v32 v36 v44 v48 v50).cs 63 := by rw [hw9]; exact blk8 HK4.out (.int .i64 x13) (.int .i64 v14) (.int .i64 x16) (.int .i64 v32) (.int .i64 v36) (.int .i64 v44) (.int .i64 v48) (.int .i64 v50)
                have hb9 : Below w.heap.size w w9 := by rw [hw9]; exact below8 HB4.out (Nat.le_refl _) (.int .i64 x13) (.int .i64 v14) (.int .i64 x16) (.int .i64 v32) (.int .i64 v36) (.int .i64 v44) (.int .i64 v48) (.int .i64 v50)
                rw [← hw9]
                exact bodyPost_ret (ret_bt rfl _ _ w.heap.size (Bt.mk x13 v14 x16 v32 v36 v44 v48 v50) _ rfl rfl hk9) rfl ⟨by rw [HP.out]; rfl, hb9⟩
              · have HP := hide (show pc = (bt0, ck) by rw [HE3.out, if_neg hk])
                go_wp2_with fail
                obtain ⟨w9, hw9⟩ : ∃ w9, w9 = ((((((((w4.setCell ⟨w.heap.size, 0, none⟩ (.int .i64 0)).setCell ⟨w.heap.size, 1, none⟩ (.int .i64 0)).setCell ⟨w.heap.size, 2, none⟩ (.int .i64 0)).setCell ⟨w.heap.size, 3, none⟩ (.int .i64 0)).setCell ⟨w.heap.size, 4, none⟩ (.int .i64 0)).setCell ⟨w.heap.size, 5, none⟩ (.int .i64 0)).setCell ⟨w.heap.size, 6, none⟩ (.int .i64 0)).setCell ⟨w.heap.size, 7, none⟩ (.int .i64 0)) := ⟨_, rfl⟩
                have hk9 : Blk w9 w.heap.size bt0.cs 63 := by rw [hw9]; exact blk8 HK4.out (.int .i64 0) (.int .i64 0) (.int .i64 0) (.int .i64 0) (.int .i64 0) (.int .i64 0) (.int .i64 0) (.int .i64 0)
                have hb9 : Below w.heap.size w w9 := by rw [hw9]; exact below8 HB4.out (Nat.le_refl _) (.int .i64 0) (.int .i64 0) (.int .i64 0) (.int .i64 0) (.int .i64 0) (.int .i64 0) (.int .i64 0) (.int .i64 0)
                rw [← hw9]
                exact bodyPost_ret (ret_bt rfl _ _ w.heap.size bt0 _ rfl rfl hk9) rfl ⟨by rw [HP.out]; rfl, hb9⟩
      · have HP := hide (show pc = (bt0, 10) by rw [HE.out, if_neg (fun c => hv c.2)])
        obtain ⟨c0, c1, c2, c3, c4, c5, c6, c7⟩ := HC.out
        have f0 := HK1.out.frozen 0
        have f1 := HK1.out.frozen 1
        have f2 := HK1.out.frozen 2
        have f3 := HK1.out.frozen 3
        have f4 := HK1.out.frozen 4
        have f5 := HK1.out.frozen 5
        have f6 := HK1.out.frozen 6
        have f7 := HK1.out.frozen 7
        go_wp2_with fail
        obtain ⟨w9, hw9⟩ : ∃ w9, w9 = ((((((((w1.setCell ⟨w.heap.size, 0, none⟩ (.int .i64 0)).setCell ⟨w.heap.size, 1, none⟩ (.int .i64 0)).setCell ⟨w.heap.size, 2, none⟩ (.int .i64 0)).setCell ⟨w.heap.size, 3, none⟩ (.int .i64 0)).setCell ⟨w.heap.size, 4, none⟩ (.int .i64 0)).setCell ⟨w.heap.size, 5, none⟩ (.int .i64 0)).setCell ⟨w.heap.size, 6, none⟩ (.int .i64 0)).setCell ⟨w.heap.size, 7, none⟩ (.int .i64 0)) := ⟨_, rfl⟩
        have hk9 : Blk w9 w.heap.size bt0.cs 63 := by rw [hw9]; exact blk8 HK1.out (.int .i64 0) (.int .i64 0) (.int .i64 0) (.int .i64 0) (.int .i64 0) (.int .i64 0) (.int .i64 0) (.int .i64 0)
        have hb9 : Below w.heap.size w w9 := by rw [hw9]; exact below8 HB1.out (Nat.le_refl _) (.int .i64 0) (.int .i64 0) (.int .i64 0) (.int .i64 0) (.int .i64 0) (.int .i64 0) (.int .i64 0) (.int .i64 0)
        rw [← hw9]
        exact bodyPost_ret (ret_bt rfl _ _ w.heap.size bt0 _ rfl rfl hk9) rfl ⟨by rw [HP.out]; rfl, hb9⟩
    · have HP := hide (show pc = (bt0, 10) by rw [HE.out, if_neg (fun c => hq c.1)])
      rw [decide_eq_false hq] at hnq
      go_enter Tryd.func46, Tryd.ntmps46
      go_wp2_with fail
      rw [← HW1.out]
      exact bodyPost_ret (ret_bt rfl _ _ w.heap.size bt0 _ rfl rfl HK1.out) rfl ⟨by rw [HP.out]; rfl, HB1.out⟩
  · have e0 : parB l = (bt0, 4) := by unfold parB; rw [if_neg h5]
    rw [e0, ← hn]
    rw [← hn] at h5 hlen hcap
    rw [hw1] at hk1 hb1
    have HK1 := hide hk1
    have HB1 := hide hb1
    clear hn hV hl hb e0 hk1 hb1 hw1
    go_enter Tryd.func46, Tryd.ntmps46
    go_wp2_with fail
    exact bodyPost_ret (ret_bt rfl _ _ w.heap.size bt0 _ rfl rfl HK1.out) rfl ⟨rfl, HB1.out⟩
end Go.Proofs.YtcbbaoiefdbcpaaDoor.Oct
