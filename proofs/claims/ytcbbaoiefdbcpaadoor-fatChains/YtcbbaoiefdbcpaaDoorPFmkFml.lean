/- A volume is made: Make(64, 1). -/
import Derived.Test.YtcbbaoiefdbcpaaDoorPFpu
import Derived.Test.YtcbbaoiefdbcpaaDoorPFcb
namespace Go.Proofs.YtcbbaoiefdbcpaaDoor.Oct
open Go.RowKit

theorem ix_bg (u : World) : (Instr.index 118 (.agg #[.int .u32 268435448, .int .u32 268435455, .int .u32 268435455]) (.int .i64 0)).run Tryd.prog u = .ok (.int .u32 268435448) u ∧ (Instr.index 118 (.agg #[.int .u32 268435448, .int .u32 268435455, .int .u32 268435455]) (.int .i64 1)).run Tryd.prog u = .ok (.int .u32 268435455) u ∧ (Instr.index 118 (.agg #[.int .u32 268435448, .int .u32 268435455, .int .u32 268435455]) (.int .i64 2)).run Tryd.prog u = .ok (.int .u32 268435455) u := ⟨by kernel_rfl, by kernel_rfl, by kernel_rfl⟩

/-- A table's first numbers, at a place. -/
def begL (l : List Int) (p : Nat) : Nat → List Int
  | 0 => l
  | 1 => putN l p 268435448 4
  | 2 => putN (putN l p 268435448 4) (p + 4) 268435455 4
  | _ => putN (putN (putN l p 268435448 4) (p + 4) 268435455 4) (p + 8) 268435455 4

theorem begL_len (l : List Int) (p k : Nat) : (begL l p k).length = l.length := by
  unfold begL
  split <;> simp only [putN_length]

set_option maxHeartbeats 8000000 in
set_option maxRecDepth 100000 in
theorem begin_ok (B g n : Nat) (l : List Int) (s : Int) (p : Nat) (w : World) (hn : l.length = n) (hn2 : n ≤ 1000000000) (hs : IntKind.i64.wrap (s * 512) = (p : Int)) (hp : p + 12 ≤ n) (hown : Own w B (.slice (some ⟨g, 0, none⟩) n n) l) :
    Calls Tryd.prog 43 #[.slice (some ⟨g, 0, none⟩) n n, .int .i64 s] w fun e w' => (∃ v, e = .returned v) ∧ Own w' B (.slice (some ⟨g, 0, none⟩) n n) (begL l p 3) ∧ Chg (fun k => some k = some g) w w' := by
  have HP : ∀ (j q : Nat) (v : Int) (u : World), q + 4 ≤ n → Own u B (.slice (some ⟨g, 0, none⟩) n n) (begL l p j) → Hid (Calls Tryd.prog 56 #[.slice (some ⟨g, 0, none⟩) n n, .int .i64 (q : Int), .int .u32 v] u fun e w' => e = .returned (.bool true) ∧ Own w' B (.slice (some ⟨g, 0, none⟩) n n) (putN (begL l p j) q v 4) ∧ u.grownBy w' (some g)) := fun j q v u hq ho => hide (by
    have hl : (begL l p j).length = n := by rw [begL_len]; exact hn
    have h := Put32_yes B g n (begL l p j) q v u (by rw [hl]; unfold maxLen; omega) (by rw [hl]; omega) (by rw [hl]; exact ho)
    rw [hl] at h
    exact h)
  have m0 : IntKind.i64.wrap (p : Int) = (p : Int) := by rw [IntKind.wrap_i64]; omega
  have m1 : IntKind.i64.wrap ((p : Int) + 4) = (p : Int) + 4 := by rw [IntKind.wrap_i64]; omega
  have m2 : IntKind.i64.wrap ((p : Int) + 8) = (p : Int) + 8 := by rw [IntKind.wrap_i64]; omega
  have HP0 := fun u ho => HP 0 p 268435448 u (by omega) ho
  have HP1 := fun u ho => HP 1 (p + 4) 268435455 u (by omega) ho
  have HP2 := fun u ho => HP 2 (p + 8) 268435455 u (by omega) ho
  push_cast at HP1 HP2
  have i0 := fun u => (ix_bg u).1
  have i1 := fun u => (ix_bg u).2.1
  have i2 := fun u => (ix_bg u).2.2
  have HO := hide hown
  clear hown hn hn2 hp HP
  go_enter Tryd.func43, Tryd.ntmps43
  go_wp2_with fail
  go_loopw [7] (fun i wr => ∃ j : Nat, j ≤ 3 ∧ i = .int .i64 (j : Int) ∧ Own wr B (.slice (some ⟨g, 0, none⟩) n n) (begL l p j) ∧ Chg (fun k => some k = some g) w wr) (fun i _ => 3 - (intOf i).toNat)
  case atStart => exact ⟨0, by omega, rfl, HO.out, Chg.refl _ _⟩
  case round =>
    obtain ⟨j, hj, rfl, ho, hc⟩ := hrel
    have HOr := hide ho
    have HCr := hide hc
    clear ho hc
    obtain rfl | rfl | rfl | rfl : j = 0 ∨ j = 1 ∨ j = 2 ∨ j = 3 := by omega
    · have HPj := HP0 wr HOr.out
      clear HP0 HP1 HP2
      go_wp2_with fail
      refine HPj.out.mono ?_
      rintro e9 w5 ⟨rfl, ho5, hg5⟩
      have HO5 := hide ho5
      have HC5 := hide (HCr.out.trans (Chg.of_grown hg5))
      clear ho5 hg5
      go_wp2_with fail
      go_roundw
      case rel => exact ⟨1, by omega, by go_num, HO5.out, HC5.out⟩
      case measure => simp [intOf]
    · have HPj := HP1 wr HOr.out
      clear HP0 HP1 HP2
      go_wp2_with fail
      refine HPj.out.mono ?_
      rintro e9 w5 ⟨rfl, ho5, hg5⟩
      have HO5 := hide ho5
      have HC5 := hide (HCr.out.trans (Chg.of_grown hg5))
      clear ho5 hg5
      go_wp2_with fail
      go_roundw
      case rel => exact ⟨2, by omega, by go_num, HO5.out, HC5.out⟩
      case measure => simp [intOf]
    · have HPj := HP2 wr HOr.out
      clear HP0 HP1 HP2
      go_wp2_with fail
      refine HPj.out.mono ?_
      rintro e9 w5 ⟨rfl, ho5, hg5⟩
      have HO5 := hide ho5
      have HC5 := hide (HCr.out.trans (Chg.of_grown hg5))
      clear ho5 hg5
      go_wp2_with fail
      go_roundw
      case rel => exact ⟨3, by omega, by go_num, HO5.out, HC5.out⟩
      case measure => simp [intOf]
    · go_wp2_with fail
      exact bodyPost_end (results_none rfl _ _ _) rfl ⟨⟨_, rfl⟩, HOr.out, HCr.out⟩
end Go.Proofs.YtcbbaoiefdbcpaaDoor.Oct

namespace Go.Proofs.YtcbbaoiefdbcpaaDoor.Oct
open Go.RowKit

/-- What the volume of 64 sectors says. -/
def b64 : Bt := (Bt.mk 1 4 2 64 1 2 1 2)

theorem b64_chk : b64.chk = 0 := by decide
theorem b64_clus : b64.clus = 58 := by decide
theorem b64_form : b64.form = true := by decide

/-- Its first sector. -/
def fst64 : List Int := putB b64 (List.replicate 512 0)

/-- Its bytes, as they are laid one behind the other. -/
def mk64 : Nat → List Int
  | 0 => List.replicate 32768 0
  | 1 => over (List.replicate 32768 0) 0 fst64
  | 2 => over (over (List.replicate 32768 0) 0 fst64) 512 (cntP 57 3)
  | 3 => over (over (over (List.replicate 32768 0) 0 fst64) 512 (cntP 57 3)) 1024 fst64
  | 4 => begL (over (over (over (List.replicate 32768 0) 0 fst64) 512 (cntP 57 3)) 1024 fst64) 2048 3
  | _ => begL (begL (over (over (over (List.replicate 32768 0) 0 fst64) 512 (cntP 57 3)) 1024 fst64) 2048 3) 2560 3

theorem putB_len (b : Bt) (l : List Int) (h : l.length = 512) : (putB b l).length = 512 := by
  unfold putB
  rw [putN_length, over_length]
  · simp only [putN_length, List.length_set, fxP_len]; exact h
  · simp only [putN_length, List.length_set, fxP_len]; rw [h]; decide

theorem fst64_len : fst64.length = 512 := putB_len _ _ List.length_replicate

theorem cntP_len (f x : Int) : (cntP f x).length = 512 := by unfold cntP; rw [putN_length, putN_length, sgP_len]

theorem mk64_len (j : Nat) : (mk64 j).length = 32768 := by
  have h1 : (over (List.replicate 32768 0) 0 fst64).length = 32768 := by rw [over_length (by rw [fst64_len, List.length_replicate]; decide), List.length_replicate]
  have h2 : (over (over (List.replicate 32768 0) 0 fst64) 512 (cntP 57 3)).length = 32768 := by rw [over_length (by rw [h1, cntP_len]; decide), h1]
  have h3 : (over (over (over (List.replicate 32768 0) 0 fst64) 512 (cntP 57 3)) 1024 fst64).length = 32768 := by rw [over_length (by rw [h2, fst64_len]; decide), h2]
  unfold mk64
  split
  · exact List.length_replicate
  · exact h1
  · exact h2
  · exact h3
  · rw [begL_len]; exact h3
  · rw [begL_len, begL_len]; exact h3

theorem Vars.chg {X : Nat → Prop} {w w' : World} (h : Vars w) (hc : Chg X w w') (h0 : ¬ X 0) (h1 : ¬ X 1) : Vars w' :=
  ⟨fun i hi => ⟨hc.cell (h.1 i hi).1 (by assumption), hc.cell (h.1 i hi).2 (by assumption)⟩, fun i hi => ⟨hc.cell (h.2 i hi).1 (by assumption), hc.cell (h.2 i hi).2 (by assumption)⟩⟩

/-- What is laid over the volume. -/
theorem patch64 (B g : Nat) (j p : Nat) (a' : Option Addr) (c' : Nat) (m : List Int) (u : World) (hm : m.length = 512) (hp : p ≤ 30000) (hown : Own u B (.slice (some ⟨g, 0, none⟩) 32768 32768) (mk64 j)) (hl : Lies u a' m) :
    Calls Tryd.prog 42 #[.slice (some ⟨g, 0, none⟩) 32768 32768, .int .i64 (p : Int), .slice a' 512 c'] u fun e w' => (∃ v, e = .returned v) ∧ Own w' B (.slice (some ⟨g, 0, none⟩) 32768 32768) (over (mk64 j) p m) ∧ u.grownBy w' (some g) := by
  have hl2 := mk64_len j
  have h := Patch_some B g 32768 (mk64 j) a' c' m p u (by rw [hl2]; omega) (by rw [hl2]; omega) (by intro e; rw [e] at hm; simp at hm) (by rw [hm, hl2]; omega) (by rw [hl2]; exact hown) hl
  rw [hl2, hm] at h
  exact h.mono fun e w' ⟨h1, h2, h3⟩ => ⟨⟨_, h1⟩, h2, h3⟩

set_option maxHeartbeats 8000000 in
set_option maxRecDepth 100000 in
theorem make64 (w : World) (hV : Vars w) :
    Calls Tryd.prog 18 #[.int .i64 64, .int .i64 1] w fun e w' => (∃ g, e = .returned (.tuple #[.slice (some ⟨g, 0, none⟩) 32768 32768, .int .i64 0]) ∧ Own w' w.heap.size (.slice (some ⟨g, 0, none⟩) 32768 32768) (mk64 5)) ∧ Below w.heap.size w w' := by
  have HWi := fun x y n u => hide (within_any x y n u)
  have hw0 : witN 16 32768 64 = true := by decide
  have hw1 : witN 1 8 1 = true := by decide
  obtain ⟨w1, hw1'⟩ : ∃ w1, w1 = w.alloc (.cells #[.int .i64 1, .int .i64 4, .int .i64 2, .int .i64 64, .int .i64 1, .int .i64 2, .int .i64 1, .int .i64 2] 63) := ⟨_, rfl⟩
  have hb1 : Below w.heap.size w w1 := by rw [hw1']; exact (Below.refl _ _).alloc (Nat.le_refl _) _
  have hs1 : w1.heap.size = w.heap.size + 1 := by rw [hw1']; simp
  have HI1 := hide (show Blk w1 w.heap.size #[.int .i64 1, .int .i64 4, .int .i64 2, .int .i64 64, .int .i64 1, .int .i64 2, .int .i64 1, .int .i64 2] 63 by rw [hw1']; exact Blk.new _ _ _)
  have hmk := run_make_bytes w1 512 (by omega)
  have ho2 := Own.made w1 512 (by unfold maxLen; omega)
  obtain ⟨w2, hw2⟩ : ∃ w2, w2 = w1.alloc (.cells (madeCells #[.int .u8 0] 512) 5) := ⟨_, rfl⟩
  rw [← hw2] at hmk ho2
  have hb2 : Below w1.heap.size w1 w2 := by rw [hw2]; exact (Below.refl _ _).alloc (Nat.le_refl _) _
  have hmk2 : (Instr.makeSlice 26 (.int .i64 512) (.int .i64 512)).run Tryd.prog w1 = .ok (.slice (some ⟨w1.heap.size, 0, none⟩) 512 512) w2 := hmk
  have hV2 := (hV.below hb1).below hb2
  have h1w : 1 < w1.heap.size := by
    have h1 := lt_of_cell (hV.1 0 (by omega)).1
    have h2 := lt_of_cell (hV.2 0 (by omega)).1
    omega
  have HPt := hide (put_yes b64 w1.heap.size w1.heap.size 512 (List.replicate 512 0) w2 hV2 List.length_replicate (by rw [hw2]; simp) h1w b64_chk ho2)
  have HI2 := hide (HI1.out.below hb2)
  have HB2 := hide (hb1.trans (hb2.mono hb1.size))
  have HV2 := hide hV2
  have HW1 := hide hw1'
  have HS1 := hide hs1
  have hmkw : (Instr.makeSlice 26 (.int .i64 512) (.int .i64 512)).run Tryd.prog (w.alloc (.cells #[.int .i64 1, .int .i64 4, .int .i64 2, .int .i64 64, .int .i64 1, .int .i64 2, .int .i64 1, .int .i64 2] 63)) = .ok (.slice (some ⟨w1.heap.size, 0, none⟩) 512 512) w2 := by rw [← hw1']; exact hmk2
  clear hmk ho2 hb2 hw2 hV2 hV hw1' hb1 hmk2 hs1
  go_enter Tryd.func18, Tryd.ntmps18
  go_wp2_with fail
  refine (HWi _ _ _ _).out.mono ?_
  rintro e9 w3 ⟨rfl, h3⟩
  rw [h3, hw0]
  clear h3
  go_wp2_with fail
  refine (HWi _ _ _ _).out.mono ?_
  rintro e9 w3 ⟨rfl, h3⟩
  rw [h3, hw1]
  clear h3 hw0 hw1
  have d0 := HI2.out.cell 0 _ rfl
  have d1 := HI2.out.cell 1 _ rfl
  have d2 := HI2.out.cell 2 _ rfl
  have d3 := HI2.out.cell 3 _ rfl
  have d4 := HI2.out.cell 4 _ rfl
  have d5 := HI2.out.cell 5 _ rfl
  have d6 := HI2.out.cell 6 _ rfl
  have d7 := HI2.out.cell 7 _ rfl
  go_wp2_with fail
  clear d0 d1 d2 d3 d4 d5 d6 d7 hmkw
  refine HPt.out.mono ?_
  rintro e9 w4 ⟨rfl, ho4, hc4⟩
  have hs1 := HS1.out
  have HI4 := hide (HI2.out.chg hc4 (fun e => by have := Option.some.inj e; omega))
  have HB4 := hide (HB2.out.trans (Chg.below w.heap.size hc4 HB2.out.size (fun i hi e => by have := Option.some.inj e; omega)))
  have HV4 := hide (HV2.out.chg hc4 (fun e => by have := Option.some.inj e; omega) (fun e => by have := Option.some.inj e; omega))
  have HO4 := hide (show Own w4 w1.heap.size (.slice (some ⟨w1.heap.size, 0, none⟩) 512 512) fst64 from ho4)
  have HCl : ∀ u, Hid (Calls Tryd.prog 20 #[.agg #[.int .i64 1, .int .i64 4, .int .i64 2, .int .i64 64, .int .i64 1, .int .i64 2, .int .i64 1, .int .i64 2]] u fun e w' => e = .returned (.int .i64 58) ∧ Below u.heap.size u w') := fun u => hide (by
    have h := clus_any b64 u (Bt.form_near b64_form).1
    rw [b64_clus] at h
    exact h)
  have HPc : ∀ u, Vars u → Hid (Calls Tryd.prog 41 #[.agg #[.int .i64 57, .int .i64 3]] u fun e w' => (∃ v, e = .returned (.tuple #[v, .int .i64 0]) ∧ Own w' u.heap.size v (cntP 57 3)) ∧ Below u.heap.size u w') := fun u hv => hide (by
    have h := putc_any 57 3 u hv
    have hif : (witN 0 4294967295 57 && witN 0 4294967295 3) = true := by decide
    exact h.mono fun e w' ⟨h1, h2⟩ => ⟨by rw [if_pos hif] at h1; exact h1, h2⟩)
  clear ho4 hc4 HPt HI2 HB2 HV2 hs1
  have HI := hide HI4.out.drew
  have HO := hide HO4.out.drew
  have HB := hide HB4.out.drew
  have HV := hide (show Vars w4.drew from HV4.out)
  obtain ⟨e0, e1, e2, e3, e4, e5, e6, e7⟩ : w4.cell? ⟨w.heap.size, 0, none⟩ = some (.int .i64 1) ∧ w4.cell? ⟨w.heap.size, 1, none⟩ = some (.int .i64 4) ∧ w4.cell? ⟨w.heap.size, 2, none⟩ = some (.int .i64 2) ∧ w4.cell? ⟨w.heap.size, 3, none⟩ = some (.int .i64 64) ∧ w4.cell? ⟨w.heap.size, 4, none⟩ = some (.int .i64 1) ∧ w4.cell? ⟨w.heap.size, 5, none⟩ = some (.int .i64 2) ∧ w4.cell? ⟨w.heap.size, 6, none⟩ = some (.int .i64 1) ∧ w4.cell? ⟨w.heap.size, 7, none⟩ = some (.int .i64 2) := ⟨HI4.out.cell 0 _ rfl, HI4.out.cell 1 _ rfl, HI4.out.cell 2 _ rfl, HI4.out.cell 3 _ rfl, HI4.out.cell 4 _ rfl, HI4.out.cell 5 _ rfl, HI4.out.cell 6 _ rfl, HI4.out.cell 7 _ rfl⟩
  have hsb : w4.drew.cell? ⟨w.heap.size, 0, none⟩ = some (.int .i64 1) ∧ w4.drew.cell? ⟨w.heap.size, 1, none⟩ = some (.int .i64 4) ∧ w4.drew.cell? ⟨w.heap.size, 2, none⟩ = some (.int .i64 2) ∧ w4.drew.cell? ⟨w.heap.size, 3, none⟩ = some (.int .i64 64) ∧ w4.drew.cell? ⟨w.heap.size, 4, none⟩ = some (.int .i64 1) ∧ w4.drew.cell? ⟨w.heap.size, 5, none⟩ = some (.int .i64 2) ∧ w4.drew.cell? ⟨w.heap.size, 6, none⟩ = some (.int .i64 1) ∧ w4.drew.cell? ⟨w.heap.size, 7, none⟩ = some (.int .i64 2) := ⟨HI.out.cell 0 _ rfl, HI.out.cell 1 _ rfl, HI.out.cell 2 _ rfl, HI.out.cell 3 _ rfl, HI.out.cell 4 _ rfl, HI.out.cell 5 _ rfl, HI.out.cell 6 _ rfl, HI.out.cell 7 _ rfl⟩
  go_wp2_with fail
  go_region_held3 (fun u => u.cell? ⟨w.heap.size, 0, none⟩ = some (.int .i64 1) ∧ u.cell? ⟨w.heap.size, 1, none⟩ = some (.int .i64 4) ∧ u.cell? ⟨w.heap.size, 2, none⟩ = some (.int .i64 2) ∧ u.cell? ⟨w.heap.size, 3, none⟩ = some (.int .i64 64) ∧ u.cell? ⟨w.heap.size, 4, none⟩ = some (.int .i64 1) ∧ u.cell? ⟨w.heap.size, 5, none⟩ = some (.int .i64 2) ∧ u.cell? ⟨w.heap.size, 6, none⟩ = some (.int .i64 1) ∧ u.cell? ⟨w.heap.size, 7, none⟩ = some (.int .i64 2)) (first | go_keep | exact hsb | exact hsc | exact hsd) (first
    | (go_at_call 20; refine ((HCl _).out).mono ?_; rintro e9 w8 ⟨rfl, hb8⟩; have HI := hide (HI.out.below hb8); have HO := hide (HO.out.below hb8); have HV := hide (HV.out.below hb8); have HB := hide (HB.out.trans (hb8.mono HB.out.size)); have hsc : w8.cell? ⟨w.heap.size, 0, none⟩ = some (.int .i64 1) ∧ w8.cell? ⟨w.heap.size, 1, none⟩ = some (.int .i64 4) ∧ w8.cell? ⟨w.heap.size, 2, none⟩ = some (.int .i64 2) ∧ w8.cell? ⟨w.heap.size, 3, none⟩ = some (.int .i64 64) ∧ w8.cell? ⟨w.heap.size, 4, none⟩ = some (.int .i64 1) ∧ w8.cell? ⟨w.heap.size, 5, none⟩ = some (.int .i64 2) ∧ w8.cell? ⟨w.heap.size, 6, none⟩ = some (.int .i64 1) ∧ w8.cell? ⟨w.heap.size, 7, none⟩ = some (.int .i64 2) := ⟨HI.out.cell 0 _ rfl, HI.out.cell 1 _ rfl, HI.out.cell 2 _ rfl, HI.out.cell 3 _ rfl, HI.out.cell 4 _ rfl, HI.out.cell 5 _ rfl, HI.out.cell 6 _ rfl, HI.out.cell 7 _ rfl⟩; clear hb8)
    | (go_at_call 41; refine ((HPc _ HV.out).out).mono ?_; rintro e9 w7 ⟨⟨v7, rfl, ho7⟩, hb8⟩; have HI := hide (HI.out.below hb8); have HO := hide (HO.out.below hb8); have HB7 := hide (HB.out.trans (hb8.mono HB.out.size)); have HO7 := hide ho7; have hsd : w7.cell? ⟨w.heap.size, 0, none⟩ = some (.int .i64 1) ∧ w7.cell? ⟨w.heap.size, 1, none⟩ = some (.int .i64 4) ∧ w7.cell? ⟨w.heap.size, 2, none⟩ = some (.int .i64 2) ∧ w7.cell? ⟨w.heap.size, 3, none⟩ = some (.int .i64 64) ∧ w7.cell? ⟨w.heap.size, 4, none⟩ = some (.int .i64 1) ∧ w7.cell? ⟨w.heap.size, 5, none⟩ = some (.int .i64 2) ∧ w7.cell? ⟨w.heap.size, 6, none⟩ = some (.int .i64 1) ∧ w7.cell? ⟨w.heap.size, 7, none⟩ = some (.int .i64 2) := ⟨HI.out.cell 0 _ rfl, HI.out.cell 1 _ rfl, HI.out.cell 2 _ rfl, HI.out.cell 3 _ rfl, HI.out.cell 4 _ rfl, HI.out.cell 5 _ rfl, HI.out.cell 6 _ rfl, HI.out.cell 7 _ rfl⟩; clear hb8 ho7))
  all_goals
    obtain ⟨a7, c7, hv7, hl7, _, _, hx7⟩ := HO7.out.form
    rw [cntP_len] at hv7
    subst hv7
    obtain ⟨g7, ha7, _, hg7⟩ := hx7.2 (by intro e; have := cntP_len 57 3; rw [e] at this; simp at this)
    have hmk := run_make_bytes w7 32768 (by omega)
    have ho8 := Own.made w7 32768 (by unfold maxLen; omega)
    obtain ⟨x0, hx0⟩ : ∃ x0, x0 = w7.alloc (.cells (madeCells #[.int .u8 0] 32768) 5) := ⟨_, rfl⟩
    rw [← hx0] at hmk ho8
    have hb8 : Below w7.heap.size w7 x0 := by rw [hx0]; exact (Below.refl _ _).alloc (Nat.le_refl _) _
    have hmk2 : (Instr.makeSlice 26 (.int .i64 32768) (.int .i64 32768)).run Tryd.prog w7 = .ok (.slice (some ⟨w7.heap.size, 0, none⟩) 32768 32768) x0 := hmk
    have HQ0 := hide (show Own x0 w7.heap.size (.slice (some ⟨w7.heap.size, 0, none⟩) 32768 32768) (mk64 0) from ho8)
    have hf7 : Lies w7 (some ⟨w1.heap.size, 0, none⟩) fst64 := Lies.mk (Own.lies (B := w1.heap.size) (cap := 512) (by rw [fst64_len]; exact HO.out))
    have HN7 := hide (show w.heap.size < w7.heap.size from HI.out.lt)
    have hw17 : w1.heap.size < w7.heap.size := (World.ownsRow.lt HO.out w1.heap.size rfl).2
    have HN8 := hide (show ∀ z : Addr, some (⟨w1.heap.size, 0, none⟩ : Addr) = some z ∨ a7 = some z → z.block < w7.heap.size from fun z hz => by
      rcases hz with hz | hz
      · cases hz; exact hw17
      · rw [ha7] at hz; cases hz; exact hg7)
    have HF0 := hide (hf7.below hb8)
    have HC0 := hide (hl7.below hb8)
    have HI0x := hide (HI.out.below hb8)
    have HB0x := hide (HB7.out.trans (hb8.mono HB7.out.size))
    clear hmk ho8 hx0 hb8 hf7 hl7 hx7 hw17 hg7 ha7 HO HO7 e0 e1 e2 e3 e4 e5 e6 e7 hsb hsc hsd
    have HP0 := hide (patch64 w7.heap.size w7.heap.size 0 0 (some ⟨w1.heap.size, 0, none⟩) 512 fst64 x0 fst64_len (by omega) HQ0.out HF0.out)
    push_cast at HP0
    go_wp2_with fail
    refine (HP0.out).mono ?_
    rintro e9 x1 ⟨⟨vv0, rfl⟩, ho1, hg1⟩
    have HQ1 := hide (show Own x1 w7.heap.size (.slice (some ⟨w7.heap.size, 0, none⟩) 32768 32768) (mk64 1) from ho1)
    have HI1x := hide (HI0x.out.chg (Chg.of_grown hg1) (fun e => by have := Option.some.inj e; have := HN7.out; omega))
    have HF1 := hide (HF0.out.chg (Chg.of_grown hg1) (fun z hz e => by have h1 := Option.some.inj e; have h2 := HN8.out z (Or.inl hz); omega))
    have HC1 := hide (HC0.out.chg (Chg.of_grown hg1) (fun z hz e => by have h1 := Option.some.inj e; have h2 := HN8.out z (Or.inr hz); omega))
    have HB1x := hide (HB0x.out.trans (Chg.below w.heap.size (Chg.of_grown hg1) HB0x.out.size (fun i hi e => by have := Option.some.inj e; have := HN7.out; omega)))
    clear ho1 hg1
    have HP1 := hide (patch64 w7.heap.size w7.heap.size 1 512 a7 c7 (cntP 57 3) x1 (cntP_len _ _) (by omega) HQ1.out HC1.out)
    push_cast at HP1
    go_wp2_with fail
    refine (HP1.out).mono ?_
    rintro e9 x2 ⟨⟨vv1, rfl⟩, ho2, hg2⟩
    have HQ2 := hide (show Own x2 w7.heap.size (.slice (some ⟨w7.heap.size, 0, none⟩) 32768 32768) (mk64 2) from ho2)
    have HI2x := hide (HI1x.out.chg (Chg.of_grown hg2) (fun e => by have := Option.some.inj e; have := HN7.out; omega))
    have HF2 := hide (HF1.out.chg (Chg.of_grown hg2) (fun z hz e => by have h1 := Option.some.inj e; have h2 := HN8.out z (Or.inl hz); omega))
    have HC2 := hide (HC1.out.chg (Chg.of_grown hg2) (fun z hz e => by have h1 := Option.some.inj e; have h2 := HN8.out z (Or.inr hz); omega))
    have HB2x := hide (HB1x.out.trans (Chg.below w.heap.size (Chg.of_grown hg2) HB1x.out.size (fun i hi e => by have := Option.some.inj e; have := HN7.out; omega)))
    clear ho2 hg2
    have HP2 := hide (patch64 w7.heap.size w7.heap.size 2 1024 (some ⟨w1.heap.size, 0, none⟩) 512 fst64 x2 fst64_len (by omega) HQ2.out HF2.out)
    push_cast at HP2
    go_wp2_with fail
    refine (HP2.out).mono ?_
    rintro e9 x3 ⟨⟨vv2, rfl⟩, ho3, hg3⟩
    have HQ3 := hide (show Own x3 w7.heap.size (.slice (some ⟨w7.heap.size, 0, none⟩) 32768 32768) (mk64 3) from ho3)
    have HI3x := hide (HI2x.out.chg (Chg.of_grown hg3) (fun e => by have := Option.some.inj e; have := HN7.out; omega))
    have HF3 := hide (HF2.out.chg (Chg.of_grown hg3) (fun z hz e => by have h1 := Option.some.inj e; have h2 := HN8.out z (Or.inl hz); omega))
    have HC3 := hide (HC2.out.chg (Chg.of_grown hg3) (fun z hz e => by have h1 := Option.some.inj e; have h2 := HN8.out z (Or.inr hz); omega))
    have HB3x := hide (HB2x.out.trans (Chg.below w.heap.size (Chg.of_grown hg3) HB2x.out.size (fun i hi e => by have := Option.some.inj e; have := HN7.out; omega)))
    clear ho3 hg3
    have d2 := HI3x.out.cell 2 _ rfl
    go_wp2_with fail
    clear d2
    go_loopw [67] (fun i wr => ∃ j : Nat, j ≤ 2 ∧ i = .int .i64 (j : Int) ∧ Own wr w7.heap.size (.slice (some ⟨w7.heap.size, 0, none⟩) 32768 32768) (mk64 (3 + j)) ∧ Blk wr w.heap.size #[.int .i64 1, .int .i64 4, .int .i64 2, .int .i64 64, .int .i64 1, .int .i64 2, .int .i64 1, .int .i64 2] 63 ∧ Below w.heap.size w wr) (fun i _ => 2 - (intOf i).toNat)
    case atStart => exact ⟨0, by omega, rfl, HQ3.out, HI3x.out, HB3x.out⟩
    case round =>
      obtain ⟨j, hj, rfl, ho, hk, hb⟩ := hrel
      have HQ := hide ho
      have HIr := hide hk
      have HBr := hide hb
      clear ho hk hb
      obtain rfl | rfl | rfl : j = 0 ∨ j = 1 ∨ j = 2 := by omega
      · have HBg := hide (begin_ok w7.heap.size w7.heap.size 32768 (mk64 3) 4 2048 wr (mk64_len _) (by omega) (by decide) (by omega) HQ.out)
        have e1 := HIr.out.cell 1 _ rfl
        have e4 := HIr.out.cell 4 _ rfl
        go_wp2_with fail
        refine (HBg.out).mono ?_
        rintro e9 y1 ⟨⟨vb, rfl⟩, ho9, hc9⟩
        have HQ9 := hide (show Own y1 w7.heap.size (.slice (some ⟨w7.heap.size, 0, none⟩) 32768 32768) (mk64 4) from ho9)
        have HI9 := hide (HIr.out.chg hc9 (fun e => by have := Option.some.inj e; have := HN7.out; omega))
        have HB9 := hide (HBr.out.trans (Chg.below w.heap.size hc9 HBr.out.size (fun i hi e => by have := Option.some.inj e; have := HN7.out; omega)))
        clear ho9 hc9 e1 e4
        go_wp2_with fail
        go_roundw
        case rel => exact ⟨1, by omega, by go_num, HQ9.out, HI9.out, HB9.out⟩
        case measure => simp [intOf]
      · have HBg := hide (begin_ok w7.heap.size w7.heap.size 32768 (mk64 4) 5 2560 wr (mk64_len _) (by omega) (by decide) (by omega) HQ.out)
        have e1 := HIr.out.cell 1 _ rfl
        have e4 := HIr.out.cell 4 _ rfl
        go_wp2_with fail
        refine (HBg.out).mono ?_
        rintro e9 y1 ⟨⟨vb, rfl⟩, ho9, hc9⟩
        have HQ9 := hide (show Own y1 w7.heap.size (.slice (some ⟨w7.heap.size, 0, none⟩) 32768 32768) (mk64 5) from ho9)
        have HI9 := hide (HIr.out.chg hc9 (fun e => by have := Option.some.inj e; have := HN7.out; omega))
        have HB9 := hide (HBr.out.trans (Chg.below w.heap.size hc9 HBr.out.size (fun i hi e => by have := Option.some.inj e; have := HN7.out; omega)))
        clear ho9 hc9 e1 e4
        go_wp2_with fail
        go_roundw
        case rel => exact ⟨2, by omega, by go_num, HQ9.out, HI9.out, HB9.out⟩
        case measure => simp [intOf]
      · go_wp2_with fail
        go_ret2
        exact ⟨⟨w7.heap.size, rfl, HQ.out.mono (Nat.le_of_lt HN7.out)⟩, HBr.out⟩
end Go.Proofs.YtcbbaoiefdbcpaaDoor.Oct
