/- The counts of the volume of 128 blocks; is a block used? -/
import Derived.Test.YtjmajjfknmjifaaDoorPEzk
namespace Go.Proofs.YtjmajjfknmjifaaDoor.Oct
open Go.RowKit

theorem rows_rQ {w : World} {g : Nat} (h : Blk w g #[.int .i64 3, .int .i64 4, .int .i64 5, .int .i64 120, .int .i64 6, .int .i64 1] 41) : w.cell? ⟨g, 0, none⟩ = some (.int .i64 3) ∧ w.cell? ⟨g, 1, none⟩ = some (.int .i64 4) ∧ w.cell? ⟨g, 2, none⟩ = some (.int .i64 5) ∧ w.cell? ⟨g, 3, none⟩ = some (.int .i64 120) ∧ w.cell? ⟨g, 4, none⟩ = some (.int .i64 6) ∧ w.cell? ⟨g, 5, none⟩ = some (.int .i64 1) :=
  ⟨h.cell 0 _ rfl, h.cell 1 _ rfl, h.cell 2 _ rfl, h.cell 3 _ rfl, h.cell 4 _ rfl, h.cell 5 _ rfl⟩

set_option maxHeartbeats 8000000 in
set_option maxRecDepth 100000 in
theorem summed_ok (R : Nat) (dv : Value) (F1 F2 : List Int) (w : World) (hB : VolB w R dv F1 F2) :
    Calls Tryd.prog 58 #[.pointer (some ⟨R, 0, none⟩)] w fun e w' => e = .returned (.bool true) ∧ Below w.heap.size w w' := by
  obtain ⟨gr, cr, gb, cb, gn, cn, ga, ca, gc, cc, hR, hr, _, _, _, _⟩ := hB
  obtain ⟨⟨c0, c1, c2, c3, c4, c5, c6, c7⟩, c8, c9, c10, c11⟩ := cells_v1 hR
  have HR := hide hR
  have HRw := hide hr
  have q0 : IntKind.i64.wrap 120 = 120 := by decide
  have q1 : IntKind.i64.wrap 6 = 6 := by decide
  clear hR hr
  go_enter Tryd.func58, Tryd.ntmps58
  go_wp2_with fail
  clear c0 c1 c2 c3 c4 c5 c6 c7 c8 c9 c10 c11
  go_loopw [3, 4, 12] (fun x y i wr => ∃ j : Nat, i = .int .i64 (j : Int) ∧ ((j = 0 ∧ x = .int .i64 0 ∧ y = .int .i64 0) ∨ (j = 1 ∧ x = .int .i64 120 ∧ y = .int .i64 6)) ∧ Below w.heap.size w wr) (fun _ _ i _ => 1 - (intOf i).toNat)
  case atStart => exact ⟨0, rfl, Or.inl ⟨rfl, rfl, rfl⟩, Below.refl _ _⟩
  case round =>
    obtain ⟨j, rfl, hj, hb⟩ := hrel
    have HB := hide hb
    clear hb
    rcases hj with ⟨rfl, rfl, rfl⟩ | ⟨rfl, rfl, rfl⟩
    · obtain ⟨r0, r1, r2, r3, r4, r5⟩ := cells_r1 (HRw.out.below HB.out)
      have hb4 : Below wr.heap.size wr (wr.alloc (.cells #[.int .i64 3, .int .i64 4, .int .i64 5, .int .i64 120, .int .i64 6, .int .i64 1] 41)) := (Below.refl _ _).alloc (Nat.le_refl _) _
      have HB4 := hide (HB.out.trans (hb4.mono HB.out.size))
      obtain ⟨u0, u1, u2, u3, u4, u5⟩ := rows_rQ (Blk.new wr #[.int .i64 3, .int .i64 4, .int .i64 5, .int .i64 120, .int .i64 6, .int .i64 1] 41)
      clear hb4
      go_wp2_with fail
      go_roundw
      case rel => exact ⟨1, by go_num, Or.inr ⟨rfl, rfl, rfl⟩, HB4.out⟩
      case measure => simp [intOf]
    · obtain ⟨⟨c0, c1, c2, c3, c4, c5, c6, c7⟩, c8, c9, c10, c11⟩ := cells_v1 (HR.out.below HB.out)
      go_wp2_with fail
      go_ret
      exact ⟨rfl, HB.out⟩

theorem s1_per (w : World) : Calls Tryd.prog 59 #[.agg #[.int .i64 16, .int .i64 128, .int .i64 120, .int .i64 6, .int .i64 128, .int .i64 16, .int .i64 11, .bool true]] w fun e w' => e = .returned (.int .i64 128) ∧ Below w.heap.size w w' := per_any s1 w

set_option maxHeartbeats 8000000 in
set_option maxRecDepth 100000 in
theorem used_3 (R : Nat) (dv : Value) (F1 F2 : List Int) (w : World) (hB : VolB w R dv F1 F2) (h1 : F1.length = 1024) (hby : Byts F1) (b : Bool) (hb : hasB F1 2 = b) :
    Calls Tryd.prog 32 #[.pointer (some ⟨R, 0, none⟩), .int .i64 3] w fun e w' => e = .returned (.bool b) ∧ Below w.heap.size w w' := by
  obtain ⟨gr, cr, gb, cb, gn, cn, ga, ca, gc, cc, hR, hr, hmb, hlb, _, _⟩ := hB
  obtain ⟨⟨c0, c1, c2, c3, c4, c5, c6, c7⟩, c8, c9, c10, c11⟩ := cells_v1 hR
  have HR1 := hide hR
  have HM1 := hide hmb
  have HL1 := hide hlb
  have HB1 := hide (Below.refl w.heap.size w)
  have HP := fun u => hide (s1_per u)
  have HBt := fun u => hide (mbits_any (some ⟨ga, 0, none⟩) 1024 ca u (by omega))
  have HHa : ∀ u, Lies u (some ⟨ga, 0, none⟩) F1 → Hid (Calls Tryd.prog 26 #[.slice (some ⟨ga, 0, none⟩) 1024 ca, .int .i64 2] u fun e w' => e = .returned (.bool b) ∧ w' = u) := fun u hl => hide (by
    have h := has_any (some ⟨ga, 0, none⟩) ca F1 2 u (by omega) hl hby (by omega)
    rw [h1, hb] at h
    exact h)
  clear hR hr hmb hlb h1 hby hb
  go_enter Tryd.func32, Tryd.ntmps32
  go_wp2_with fail
  clear c0 c1 c2 c3 c4 c5 c6 c7 c8 c9 c10 c11
  refine b_region (S := (fun u => Blk u R (volX s1 (.slice (some ⟨gr, 0, none⟩) 1 cr) (.slice (some ⟨gb, 0, none⟩) 1 cb) (.slice (some ⟨gn, 0, none⟩) 1 cn) dv) 82)) (F := (fun _ => true)) (by kernel_rfl) ?_
  refine b_take 0 (some 22) (.int .i64 3) rfl rfl (by kernel_rfl) (by kernel_rfl) (by kernel_rfl) (by kernel_rfl) (by kernel_rfl) (fun _ _ _ h => h) (by rfl) HR1.out.drew ?_ ?_
  · intro u hSu
    have sU := hSu
    go_simp
  try simp only [Act.put, List.setIfInBounds_toArray, List.set_cons_zero, List.set_cons_succ]
  refine b_take 1 (some 23) (.int .i64 2) rfl rfl (by kernel_rfl) (by kernel_rfl) (by kernel_rfl) (by kernel_rfl) (by kernel_rfl) (fun _ _ _ h => h) (by rfl) HR1.out.drew ?_ ?_
  · intro u hSu
    have sU := hSu
    have qw : IntKind.i64.wrap 2 = 2 := by decide
    go_simp
  try simp only [Act.put, List.setIfInBounds_toArray, List.set_cons_zero, List.set_cons_succ]
  refine b_take 2 (some 24) (.pointer (some ⟨R, 0, none⟩)) rfl rfl (by kernel_rfl) (by kernel_rfl) (by kernel_rfl) (by kernel_rfl) (by kernel_rfl) (fun _ _ _ h => h) (by rfl) HR1.out.drew ?_ ?_
  · intro u hSu
    have sU := hSu
    go_simp
  try simp only [Act.put, List.setIfInBounds_toArray, List.set_cons_zero, List.set_cons_succ]
  refine b_take 3 (some 25) (.pointer (some ⟨R, 0, none⟩)) rfl rfl (by kernel_rfl) (by kernel_rfl) (by kernel_rfl) (by kernel_rfl) (by kernel_rfl) (fun _ _ _ h => h) (by rfl) HR1.out.drew ?_ ?_
  · intro u hSu
    have sU := hSu
    go_simp
  try simp only [Act.put, List.setIfInBounds_toArray, List.set_cons_zero, List.set_cons_succ]
  refine b_take 4 (some 26) (.pointer (some ⟨R, 0, none⟩)) rfl rfl (by kernel_rfl) (by kernel_rfl) (by kernel_rfl) (by kernel_rfl) (by kernel_rfl) (fun _ _ _ h => h) (by rfl) HR1.out.drew ?_ ?_
  · intro u hSu
    have sU := hSu
    go_simp
  try simp only [Act.put, List.setIfInBounds_toArray, List.set_cons_zero, List.set_cons_succ]
  refine b_take 5 (some 27) (.agg #[.int .i64 16, .int .i64 128, .int .i64 120, .int .i64 6, .int .i64 128, .int .i64 16, .int .i64 11, .bool true]) rfl rfl (by kernel_rfl) (by kernel_rfl) (by kernel_rfl) (by kernel_rfl) (by kernel_rfl) (fun _ _ _ h => h) (by rfl) HR1.out.drew ?_ ?_
  · intro u hSu
    have sU := hSu
    obtain ⟨⟨c0, c1, c2, c3, c4, c5, c6, c7⟩, c8, c9, c10, c11⟩ := cells_v1 sU
    go_simp
  try simp only [Act.put, List.setIfInBounds_toArray, List.set_cons_zero, List.set_cons_succ]
  refine b_take 8 (some 30) (.int .i64 3) rfl rfl (by kernel_rfl) (by kernel_rfl) (by kernel_rfl) (by kernel_rfl) (by kernel_rfl) (fun _ _ _ h => h) (by rfl) HR1.out.drew ?_ ?_
  · intro u hSu
    have sU := hSu
    go_simp
  try simp only [Act.put, List.setIfInBounds_toArray, List.set_cons_zero, List.set_cons_succ]
  refine b_take 9 (some 31) (.int .i64 2) rfl rfl (by kernel_rfl) (by kernel_rfl) (by kernel_rfl) (by kernel_rfl) (by kernel_rfl) (fun _ _ _ h => h) (by rfl) HR1.out.drew ?_ ?_
  · intro u hSu
    have sU := hSu
    have qw : IntKind.i64.wrap 2 = 2 := by decide
    go_simp
  try simp only [Act.put, List.setIfInBounds_toArray, List.set_cons_zero, List.set_cons_succ]
  refine b_take 10 (some 32) (.pointer (some ⟨R, 0, none⟩)) rfl rfl (by kernel_rfl) (by kernel_rfl) (by kernel_rfl) (by kernel_rfl) (by kernel_rfl) (fun _ _ _ h => h) (by rfl) HR1.out.drew ?_ ?_
  · intro u hSu
    have sU := hSu
    go_simp
  try simp only [Act.put, List.setIfInBounds_toArray, List.set_cons_zero, List.set_cons_succ]
  refine b_take 11 (some 33) (.pointer (some ⟨R, 0, none⟩)) rfl rfl (by kernel_rfl) (by kernel_rfl) (by kernel_rfl) (by kernel_rfl) (by kernel_rfl) (fun _ _ _ h => h) (by rfl) HR1.out.drew ?_ ?_
  · intro u hSu
    have sU := hSu
    go_simp
  try simp only [Act.put, List.setIfInBounds_toArray, List.set_cons_zero, List.set_cons_succ]
  refine b_take 12 (some 34) (.pointer (some ⟨R, 0, none⟩)) rfl rfl (by kernel_rfl) (by kernel_rfl) (by kernel_rfl) (by kernel_rfl) (by kernel_rfl) (fun _ _ _ h => h) (by rfl) HR1.out.drew ?_ ?_
  · intro u hSu
    have sU := hSu
    go_simp
  try simp only [Act.put, List.setIfInBounds_toArray, List.set_cons_zero, List.set_cons_succ]
  refine b_take 13 (some 35) (.agg #[.int .i64 16, .int .i64 128, .int .i64 120, .int .i64 6, .int .i64 128, .int .i64 16, .int .i64 11, .bool true]) rfl rfl (by kernel_rfl) (by kernel_rfl) (by kernel_rfl) (by kernel_rfl) (by kernel_rfl) (fun _ _ _ h => h) (by rfl) HR1.out.drew ?_ ?_
  · intro u hSu
    have sU := hSu
    obtain ⟨⟨c0, c1, c2, c3, c4, c5, c6, c7⟩, c8, c9, c10, c11⟩ := cells_v1 sU
    go_simp
  try simp only [Act.put, List.setIfInBounds_toArray, List.set_cons_zero, List.set_cons_succ]
  refine b_ready (rs := [6]) (by kernel_rfl) (by simp) ?_
  refine AllReadyB.cons (i := 6) rfl (fun K hK => ?_) AllReadyB.nil
  go_simp
  refine (HP _).out.mono ?_
  rintro e9 w2 ⟨rfl, hb⟩
  have HR2 := hide (HR1.out.drew.below hb)
  have HM2 := hide ((HM1.out.below (Below.refl _ _).drew).below hb)
  have HL2 := hide ((HL1.out.below (Below.refl _ _).drew).below hb)
  have HB2 := hide (HB1.out.drew.trans (hb.mono HB1.out.size))
  clear hb
  go_simp
  refine hK.out _ _ (fun _ => HR2.out) ?_
  clear hK K
  try simp only [Act.put, List.setIfInBounds_toArray, List.set_cons_zero, List.set_cons_succ]
  refine b_take 7 (some 29) (.int .i64 0) rfl rfl (by kernel_rfl) (by kernel_rfl) (by kernel_rfl) (by kernel_rfl) (by kernel_rfl) (fun _ _ _ h => h) (by rfl) HR2.out ?_ ?_
  · intro u hSu
    have sU := hSu
    have qw : IntKind.i64.wrap 0 = 0 := by decide
    go_simp
  try simp only [Act.put, List.setIfInBounds_toArray, List.set_cons_zero, List.set_cons_succ]
  refine b_ready (rs := [14]) (by kernel_rfl) (by simp) ?_
  refine AllReadyB.cons (i := 14) rfl (fun K hK => ?_) AllReadyB.nil
  go_simp
  refine (HP _).out.mono ?_
  rintro e9 w3 ⟨rfl, hb⟩
  have HR3 := hide (HR2.out.below hb)
  have HM3 := hide ((HM2.out.below (Below.refl _ _)).below hb)
  have HL3 := hide ((HL2.out.below (Below.refl _ _)).below hb)
  have HB3 := hide (HB2.out.trans (hb.mono HB2.out.size))
  clear hb
  go_simp
  refine hK.out _ _ (fun _ => HR3.out) ?_
  clear hK K
  try simp only [Act.put, List.setIfInBounds_toArray, List.set_cons_zero, List.set_cons_succ]
  refine b_take 15 (some 37) (.int .i64 2) rfl rfl (by kernel_rfl) (by kernel_rfl) (by kernel_rfl) (by kernel_rfl) (by kernel_rfl) (fun _ _ _ h => h) (by rfl) HR3.out ?_ ?_
  · intro u hSu
    have sU := hSu
    have qw : IntKind.i64.wrap 2 = 2 := by decide
    go_simp
  try simp only [Act.put, List.setIfInBounds_toArray, List.set_cons_zero, List.set_cons_succ]
  refine b_take 16 (some 5) (.int .i64 0) rfl rfl (by kernel_rfl) (by kernel_rfl) (by kernel_rfl) (by kernel_rfl) (by kernel_rfl) (fun _ _ _ h => h) (by rfl) HR3.out ?_ ?_
  · intro u hSu
    have sU := hSu
    go_simp
  try simp only [Act.put, List.setIfInBounds_toArray, List.set_cons_zero, List.set_cons_succ]
  refine b_take 17 (some 6) (.int .i64 2) rfl rfl (by kernel_rfl) (by kernel_rfl) (by kernel_rfl) (by kernel_rfl) (by kernel_rfl) (fun _ _ _ h => h) (by rfl) HR3.out ?_ ?_
  · intro u hSu
    have sU := hSu
    go_simp
  try simp only [Act.put, List.setIfInBounds_toArray, List.set_cons_zero, List.set_cons_succ]
  refine b_done (by kernel_rfl) ?_ _
  obtain ⟨⟨c0, c1, c2, c3, c4, c5, c6, c7⟩, c8, c9, c10, c11⟩ := cells_v1 HR3.out
  have m0 := HM3.out 0 _ rfl
  have q8 : (8 : Int) * ((1024 : Nat) : Int) = 8192 := by decide
  rw [q8] at HBt
  go_wp2_with fail
  refine (HBt _).out.mono ?_
  rintro e9 y5 ⟨rfl, h5⟩
  rw [h5]
  clear h5
  go_wp2_with fail
  refine (HHa _ HL3.out).out.mono ?_
  rintro e9 y5 ⟨rfl, h5⟩
  rw [h5]
  clear h5
  go_wp2_with fail
  go_ret
  exact ⟨rfl, HB3.out⟩

set_option maxHeartbeats 8000000 in
set_option maxRecDepth 100000 in
theorem used_127 (R : Nat) (dv : Value) (F1 F2 : List Int) (w : World) (hB : VolB w R dv F1 F2) (h1 : F1.length = 1024) (hby : Byts F1) (b : Bool) (hb : hasB F1 126 = b) :
    Calls Tryd.prog 32 #[.pointer (some ⟨R, 0, none⟩), .int .i64 127] w fun e w' => e = .returned (.bool b) ∧ Below w.heap.size w w' := by
  obtain ⟨gr, cr, gb, cb, gn, cn, ga, ca, gc, cc, hR, hr, hmb, hlb, _, _⟩ := hB
  obtain ⟨⟨c0, c1, c2, c3, c4, c5, c6, c7⟩, c8, c9, c10, c11⟩ := cells_v1 hR
  have HR1 := hide hR
  have HM1 := hide hmb
  have HL1 := hide hlb
  have HB1 := hide (Below.refl w.heap.size w)
  have HP := fun u => hide (s1_per u)
  have HBt := fun u => hide (mbits_any (some ⟨ga, 0, none⟩) 1024 ca u (by omega))
  have HHa : ∀ u, Lies u (some ⟨ga, 0, none⟩) F1 → Hid (Calls Tryd.prog 26 #[.slice (some ⟨ga, 0, none⟩) 1024 ca, .int .i64 126] u fun e w' => e = .returned (.bool b) ∧ w' = u) := fun u hl => hide (by
    have h := has_any (some ⟨ga, 0, none⟩) ca F1 126 u (by omega) hl hby (by omega)
    rw [h1, hb] at h
    exact h)
  clear hR hr hmb hlb h1 hby hb
  go_enter Tryd.func32, Tryd.ntmps32
  go_wp2_with fail
  clear c0 c1 c2 c3 c4 c5 c6 c7 c8 c9 c10 c11
  refine b_region (S := (fun u => Blk u R (volX s1 (.slice (some ⟨gr, 0, none⟩) 1 cr) (.slice (some ⟨gb, 0, none⟩) 1 cb) (.slice (some ⟨gn, 0, none⟩) 1 cn) dv) 82)) (F := (fun _ => true)) (by kernel_rfl) ?_
  refine b_take 0 (some 22) (.int .i64 127) rfl rfl (by kernel_rfl) (by kernel_rfl) (by kernel_rfl) (by kernel_rfl) (by kernel_rfl) (fun _ _ _ h => h) (by rfl) HR1.out.drew ?_ ?_
  · intro u hSu
    have sU := hSu
    go_simp
  try simp only [Act.put, List.setIfInBounds_toArray, List.set_cons_zero, List.set_cons_succ]
  refine b_take 1 (some 23) (.int .i64 126) rfl rfl (by kernel_rfl) (by kernel_rfl) (by kernel_rfl) (by kernel_rfl) (by kernel_rfl) (fun _ _ _ h => h) (by rfl) HR1.out.drew ?_ ?_
  · intro u hSu
    have sU := hSu
    have qw : IntKind.i64.wrap 126 = 126 := by decide
    go_simp
  try simp only [Act.put, List.setIfInBounds_toArray, List.set_cons_zero, List.set_cons_succ]
  refine b_take 2 (some 24) (.pointer (some ⟨R, 0, none⟩)) rfl rfl (by kernel_rfl) (by kernel_rfl) (by kernel_rfl) (by kernel_rfl) (by kernel_rfl) (fun _ _ _ h => h) (by rfl) HR1.out.drew ?_ ?_
  · intro u hSu
    have sU := hSu
    go_simp
  try simp only [Act.put, List.setIfInBounds_toArray, List.set_cons_zero, List.set_cons_succ]
  refine b_take 3 (some 25) (.pointer (some ⟨R, 0, none⟩)) rfl rfl (by kernel_rfl) (by kernel_rfl) (by kernel_rfl) (by kernel_rfl) (by kernel_rfl) (fun _ _ _ h => h) (by rfl) HR1.out.drew ?_ ?_
  · intro u hSu
    have sU := hSu
    go_simp
  try simp only [Act.put, List.setIfInBounds_toArray, List.set_cons_zero, List.set_cons_succ]
  refine b_take 4 (some 26) (.pointer (some ⟨R, 0, none⟩)) rfl rfl (by kernel_rfl) (by kernel_rfl) (by kernel_rfl) (by kernel_rfl) (by kernel_rfl) (fun _ _ _ h => h) (by rfl) HR1.out.drew ?_ ?_
  · intro u hSu
    have sU := hSu
    go_simp
  try simp only [Act.put, List.setIfInBounds_toArray, List.set_cons_zero, List.set_cons_succ]
  refine b_take 5 (some 27) (.agg #[.int .i64 16, .int .i64 128, .int .i64 120, .int .i64 6, .int .i64 128, .int .i64 16, .int .i64 11, .bool true]) rfl rfl (by kernel_rfl) (by kernel_rfl) (by kernel_rfl) (by kernel_rfl) (by kernel_rfl) (fun _ _ _ h => h) (by rfl) HR1.out.drew ?_ ?_
  · intro u hSu
    have sU := hSu
    obtain ⟨⟨c0, c1, c2, c3, c4, c5, c6, c7⟩, c8, c9, c10, c11⟩ := cells_v1 sU
    go_simp
  try simp only [Act.put, List.setIfInBounds_toArray, List.set_cons_zero, List.set_cons_succ]
  refine b_take 8 (some 30) (.int .i64 127) rfl rfl (by kernel_rfl) (by kernel_rfl) (by kernel_rfl) (by kernel_rfl) (by kernel_rfl) (fun _ _ _ h => h) (by rfl) HR1.out.drew ?_ ?_
  · intro u hSu
    have sU := hSu
    go_simp
  try simp only [Act.put, List.setIfInBounds_toArray, List.set_cons_zero, List.set_cons_succ]
  refine b_take 9 (some 31) (.int .i64 126) rfl rfl (by kernel_rfl) (by kernel_rfl) (by kernel_rfl) (by kernel_rfl) (by kernel_rfl) (fun _ _ _ h => h) (by rfl) HR1.out.drew ?_ ?_
  · intro u hSu
    have sU := hSu
    have qw : IntKind.i64.wrap 126 = 126 := by decide
    go_simp
  try simp only [Act.put, List.setIfInBounds_toArray, List.set_cons_zero, List.set_cons_succ]
  refine b_take 10 (some 32) (.pointer (some ⟨R, 0, none⟩)) rfl rfl (by kernel_rfl) (by kernel_rfl) (by kernel_rfl) (by kernel_rfl) (by kernel_rfl) (fun _ _ _ h => h) (by rfl) HR1.out.drew ?_ ?_
  · intro u hSu
    have sU := hSu
    go_simp
  try simp only [Act.put, List.setIfInBounds_toArray, List.set_cons_zero, List.set_cons_succ]
  refine b_take 11 (some 33) (.pointer (some ⟨R, 0, none⟩)) rfl rfl (by kernel_rfl) (by kernel_rfl) (by kernel_rfl) (by kernel_rfl) (by kernel_rfl) (fun _ _ _ h => h) (by rfl) HR1.out.drew ?_ ?_
  · intro u hSu
    have sU := hSu
    go_simp
  try simp only [Act.put, List.setIfInBounds_toArray, List.set_cons_zero, List.set_cons_succ]
  refine b_take 12 (some 34) (.pointer (some ⟨R, 0, none⟩)) rfl rfl (by kernel_rfl) (by kernel_rfl) (by kernel_rfl) (by kernel_rfl) (by kernel_rfl) (fun _ _ _ h => h) (by rfl) HR1.out.drew ?_ ?_
  · intro u hSu
    have sU := hSu
    go_simp
  try simp only [Act.put, List.setIfInBounds_toArray, List.set_cons_zero, List.set_cons_succ]
  refine b_take 13 (some 35) (.agg #[.int .i64 16, .int .i64 128, .int .i64 120, .int .i64 6, .int .i64 128, .int .i64 16, .int .i64 11, .bool true]) rfl rfl (by kernel_rfl) (by kernel_rfl) (by kernel_rfl) (by kernel_rfl) (by kernel_rfl) (fun _ _ _ h => h) (by rfl) HR1.out.drew ?_ ?_
  · intro u hSu
    have sU := hSu
    obtain ⟨⟨c0, c1, c2, c3, c4, c5, c6, c7⟩, c8, c9, c10, c11⟩ := cells_v1 sU
    go_simp
  try simp only [Act.put, List.setIfInBounds_toArray, List.set_cons_zero, List.set_cons_succ]
  refine b_ready (rs := [6]) (by kernel_rfl) (by simp) ?_
  refine AllReadyB.cons (i := 6) rfl (fun K hK => ?_) AllReadyB.nil
  go_simp
  refine (HP _).out.mono ?_
  rintro e9 w2 ⟨rfl, hb⟩
  have HR2 := hide (HR1.out.drew.below hb)
  have HM2 := hide ((HM1.out.below (Below.refl _ _).drew).below hb)
  have HL2 := hide ((HL1.out.below (Below.refl _ _).drew).below hb)
  have HB2 := hide (HB1.out.drew.trans (hb.mono HB1.out.size))
  clear hb
  go_simp
  refine hK.out _ _ (fun _ => HR2.out) ?_
  clear hK K
  try simp only [Act.put, List.setIfInBounds_toArray, List.set_cons_zero, List.set_cons_succ]
  refine b_take 7 (some 29) (.int .i64 0) rfl rfl (by kernel_rfl) (by kernel_rfl) (by kernel_rfl) (by kernel_rfl) (by kernel_rfl) (fun _ _ _ h => h) (by rfl) HR2.out ?_ ?_
  · intro u hSu
    have sU := hSu
    have qw : IntKind.i64.wrap 0 = 0 := by decide
    go_simp
  try simp only [Act.put, List.setIfInBounds_toArray, List.set_cons_zero, List.set_cons_succ]
  refine b_ready (rs := [14]) (by kernel_rfl) (by simp) ?_
  refine AllReadyB.cons (i := 14) rfl (fun K hK => ?_) AllReadyB.nil
  go_simp
  refine (HP _).out.mono ?_
  rintro e9 w3 ⟨rfl, hb⟩
  have HR3 := hide (HR2.out.below hb)
  have HM3 := hide ((HM2.out.below (Below.refl _ _)).below hb)
  have HL3 := hide ((HL2.out.below (Below.refl _ _)).below hb)
  have HB3 := hide (HB2.out.trans (hb.mono HB2.out.size))
  clear hb
  go_simp
  refine hK.out _ _ (fun _ => HR3.out) ?_
  clear hK K
  try simp only [Act.put, List.setIfInBounds_toArray, List.set_cons_zero, List.set_cons_succ]
  refine b_take 15 (some 37) (.int .i64 126) rfl rfl (by kernel_rfl) (by kernel_rfl) (by kernel_rfl) (by kernel_rfl) (by kernel_rfl) (fun _ _ _ h => h) (by rfl) HR3.out ?_ ?_
  · intro u hSu
    have sU := hSu
    have qw : IntKind.i64.wrap 126 = 126 := by decide
    go_simp
  try simp only [Act.put, List.setIfInBounds_toArray, List.set_cons_zero, List.set_cons_succ]
  refine b_take 16 (some 5) (.int .i64 0) rfl rfl (by kernel_rfl) (by kernel_rfl) (by kernel_rfl) (by kernel_rfl) (by kernel_rfl) (fun _ _ _ h => h) (by rfl) HR3.out ?_ ?_
  · intro u hSu
    have sU := hSu
    go_simp
  try simp only [Act.put, List.setIfInBounds_toArray, List.set_cons_zero, List.set_cons_succ]
  refine b_take 17 (some 6) (.int .i64 126) rfl rfl (by kernel_rfl) (by kernel_rfl) (by kernel_rfl) (by kernel_rfl) (by kernel_rfl) (fun _ _ _ h => h) (by rfl) HR3.out ?_ ?_
  · intro u hSu
    have sU := hSu
    go_simp
  try simp only [Act.put, List.setIfInBounds_toArray, List.set_cons_zero, List.set_cons_succ]
  refine b_done (by kernel_rfl) ?_ _
  obtain ⟨⟨c0, c1, c2, c3, c4, c5, c6, c7⟩, c8, c9, c10, c11⟩ := cells_v1 HR3.out
  have m0 := HM3.out 0 _ rfl
  have q8 : (8 : Int) * ((1024 : Nat) : Int) = 8192 := by decide
  rw [q8] at HBt
  go_wp2_with fail
  refine (HBt _).out.mono ?_
  rintro e9 y5 ⟨rfl, h5⟩
  rw [h5]
  clear h5
  go_wp2_with fail
  refine (HHa _ HL3.out).out.mono ?_
  rintro e9 y5 ⟨rfl, h5⟩
  rw [h5]
  clear h5
  go_wp2_with fail
  go_ret
  exact ⟨rfl, HB3.out⟩

end Go.Proofs.YtjmajjfknmjifaaDoor.Oct
