/- The volume of 128 blocks is made. -/
import Derived.Test.YtjmajjfknmjifaaDoorPEzl
namespace Go.Proofs.YtjmajjfknmjifaaDoor.Oct
open Go.RowKit

def sA : Sp := ⟨0, 128, 0, 0, 128, 16, 11, true⟩

theorem sA_grp (w : World) : Calls Tryd.prog 48 #[.agg #[.int .i64 0, .int .i64 128, .int .i64 0, .int .i64 0, .int .i64 128, .int .i64 16, .int .i64 11, .bool true]] w fun e w' => e = .returned (.int .i64 1) ∧ Below w.heap.size w w' := grp_any2 sA w (by decide) (by decide)
theorem s0_grp (w : World) : Calls Tryd.prog 48 #[.agg #[.int .i64 16, .int .i64 128, .int .i64 0, .int .i64 0, .int .i64 128, .int .i64 16, .int .i64 11, .bool true]] w fun e w' => e = .returned (.int .i64 1) ∧ Below w.heap.size w w' := grp_any2 s0 w (by decide) (by decide)
theorem s0_chk (w : World) : Calls Tryd.prog 36 #[.agg #[.int .i64 16, .int .i64 128, .int .i64 0, .int .i64 0, .int .i64 128, .int .i64 16, .int .i64 11, .bool true]] w fun e w' => e = .returned (.int .i64 0) ∧ Below w.heap.size w w' := by
  have h := chk_any s0 w
  rw [show s0.chk = 0 by decide] at h
  exact h

theorem eight0 {w : World} {H : Nat} (h : Blk w H #[.int .i64 16, .int .i64 128, .int .i64 0, .int .i64 0, .int .i64 128, .int .i64 16, .int .i64 11, .bool true] 23) : w.cell? ⟨H, 0, none⟩ = some (.int .i64 16) ∧ w.cell? ⟨H, 1, none⟩ = some (.int .i64 128) ∧ w.cell? ⟨H, 2, none⟩ = some (.int .i64 0) ∧ w.cell? ⟨H, 3, none⟩ = some (.int .i64 0) ∧ w.cell? ⟨H, 4, none⟩ = some (.int .i64 128) ∧ w.cell? ⟨H, 5, none⟩ = some (.int .i64 16) ∧ w.cell? ⟨H, 6, none⟩ = some (.int .i64 11) ∧ w.cell? ⟨H, 7, none⟩ = some (.bool true) := ⟨h.cell 0 _ rfl, h.cell 1 _ rfl, h.cell 2 _ rfl, h.cell 3 _ rfl, h.cell 4 _ rfl, h.cell 5 _ rfl, h.cell 6 _ rfl, h.cell 7 _ rfl⟩
theorem eightA {w : World} {H : Nat} (h : Blk w H #[.int .i64 0, .int .i64 128, .int .i64 0, .int .i64 0, .int .i64 128, .int .i64 16, .int .i64 11, .bool true] 23) : w.cell? ⟨H, 0, none⟩ = some (.int .i64 0) ∧ w.cell? ⟨H, 1, none⟩ = some (.int .i64 128) ∧ w.cell? ⟨H, 2, none⟩ = some (.int .i64 0) ∧ w.cell? ⟨H, 3, none⟩ = some (.int .i64 0) ∧ w.cell? ⟨H, 4, none⟩ = some (.int .i64 128) ∧ w.cell? ⟨H, 5, none⟩ = some (.int .i64 16) ∧ w.cell? ⟨H, 6, none⟩ = some (.int .i64 11) ∧ w.cell? ⟨H, 7, none⟩ = some (.bool true) := ⟨h.cell 0 _ rfl, h.cell 1 _ rfl, h.cell 2 _ rfl, h.cell 3 _ rfl, h.cell 4 _ rfl, h.cell 5 _ rfl, h.cell 6 _ rfl, h.cell 7 _ rfl⟩

set_option maxHeartbeats 16000000 in
set_option maxRecDepth 100000 in
theorem emake_ok (w : World) (hV : VarX w) :
    Calls Tryd.prog 30 #[.int .i64 128, .int .i64 128, .int .i64 16] w fun e w' => (∃ g, e = .returned (.tuple #[(.slice (some ⟨g, 0, none⟩) 131072 131072), .int .i64 0]) ∧ Own w' w.heap.size (.slice (some ⟨g, 0, none⟩) 131072 131072) (mkX (fbL 7 127 8192) (fbL 10 16 8192) 6)) ∧ Below w.heap.size w w' := by
  have HWi := fun x y n u => hide (within_ext x y n u)
  have e1 : winE 64 8192 128 = true := by decide
  have e2 : winE 16 8192 16 = true := by decide
  have e3 : winE 8 16384 128 = true := by decide
  have HgA := fun u => hide (sA_grp u)
  have Hg0 := fun u => hide (s0_grp u)
  have HCk := fun u => hide (s0_chk u)
  have HGr := fun u => hide (s0_group u)
  have HTb := fun u => hide (s0_tab u)
  have HBg := fun R u h => hide (begin_ok R u h)
  have HBy := fun R u hv h => hide (bytes_ok R (fbL 7 127 8192) (fbL 10 16 8192) u hv (fbL_len _ _ _) (fbL_len _ _ _) h)
  obtain ⟨F1, hF1⟩ : ∃ F1, F1 = fbL 7 127 8192 := ⟨_, rfl⟩
  obtain ⟨F2, hF2⟩ : ∃ F2, F2 = fbL 10 16 8192 := ⟨_, rfl⟩
  rw [← hF1, ← hF2] at HBg HBy ⊢
  clear hF1 hF2
  obtain ⟨H, hH⟩ : ∃ H, H = w.heap.size := ⟨_, rfl⟩
  obtain ⟨w1, hw1⟩ : ∃ w1, w1 = w.alloc (.cells #[.int .i64 0, .int .i64 128, .int .i64 0, .int .i64 0, .int .i64 128, .int .i64 16, .int .i64 11, .bool true] 23) := ⟨_, rfl⟩
  have hb1 : Below w.heap.size w w1 := by rw [hw1]; exact (Below.refl _ _).alloc (Nat.le_refl _) _
  have HI1 := hide (show Blk w1 H #[.int .i64 0, .int .i64 128, .int .i64 0, .int .i64 0, .int .i64 128, .int .i64 16, .int .i64 11, .bool true] 23 by rw [hw1, hH]; exact Blk.new _ _ _)
  have HV1 := hide (hV.below hb1)
  have HVl := hide hV.lt
  have HB1 := hide hb1
  have HW1 := hide hw1
  have HHe := hide hH
  obtain ⟨k0, k1, k2, k3, k4, k5, k6, k7⟩ := eightA (Blk.new w #[.int .i64 0, .int .i64 128, .int .i64 0, .int .i64 0, .int .i64 128, .int .i64 16, .int .i64 11, .bool true] 23)
  have q16 : IntKind.i64.wrap 16 = 16 := by decide
  clear hV hb1 hw1 hH
  go_enter Tryd.func30, Tryd.ntmps30
  go_wp2_with fail
  refine (HWi _ _ _ _).out.mono ?_
  rintro e9 w3 ⟨rfl, h3⟩
  rw [h3, e1]
  clear h3
  go_wp2_with fail
  refine (HWi _ _ _ _).out.mono ?_
  rintro e9 w3 ⟨rfl, h3⟩
  rw [h3, e2]
  clear h3
  go_wp2_with fail
  refine (HWi _ _ _ _).out.mono ?_
  rintro e9 w3 ⟨rfl, h3⟩
  rw [h3, e3]
  clear h3 e1 e2 e3
  go_wp2_with fail
  rw [← HHe.out, ← HW1.out]
  clear k0 k1 k2 k3 k4 k5 k6 k7
  refine (HgA _).out.mono ?_
  rintro e9 w2 ⟨rfl, h2⟩
  have HI2 := hide (HI1.out.below h2)
  have HV2 := hide (HV1.out.below h2)
  have HB2 := hide (HB1.out.trans (h2.mono HB1.out.size))
  have i0 := HI2.out.cell 0 _ rfl
  have j0 := HI2.out.frozen 0
  obtain ⟨x3, hx3⟩ : ∃ x3, x3 = w2.setCell ⟨H, 0, none⟩ (.int .i64 16) := ⟨_, rfl⟩
  have HI3 := hide (show Blk x3 H #[.int .i64 16, .int .i64 128, .int .i64 0, .int .i64 0, .int .i64 128, .int .i64 16, .int .i64 11, .bool true] 23 by rw [hx3]; exact HI2.out.set 0 _)
  have hc3 : Chg (fun k => w.heap.size ≤ k) w x3 := by rw [hx3]; exact (Chg.of_below HB2.out).setZ H 0 _ (by rw [HHe.out]; exact Nat.le_refl _)
  have hc3' : Chg (fun k => k = H) w2 x3 := by rw [hx3]; exact (Chg.refl _ _).setZ H 0 _ rfl
  have HB3 := hide (Chg.below w.heap.size hc3 (Nat.le_refl _) (fun i hi e => by omega))
  have HV3 := hide (HV2.out.chg hc3' (fun e => by have := HHe.out; have h3 := HVl.out; omega))
  have HX3 := hide hx3
  obtain ⟨k0, k1, k2, k3, k4, k5, k6, k7⟩ := eight0 HI3.out
  rw [hx3] at k0 k1 k2 k3 k4 k5 k6 k7
  clear h2 hx3 hc3 hc3'
  go_wp2_with fail
  rw [← HX3.out]
  clear k0 k1 k2 k3 k4 k5 k6 k7 i0 j0
  refine (HCk _).out.mono ?_
  rintro e9 w4 ⟨rfl, h4⟩
  have HI4 := hide (HI3.out.below h4)
  have HV4 := hide (HV3.out.below h4)
  have HB4 := hide (HB3.out.trans (h4.mono HB3.out.size))
  clear h4
  go_wp2_with fail
  refine b_region (S := (fun u => Blk u H #[.int .i64 16, .int .i64 128, .int .i64 0, .int .i64 0, .int .i64 128, .int .i64 16, .int .i64 11, .bool true] 23)) (F := (fun _ => true)) (by kernel_rfl) ?_
  refine b_take 0 (some 42) (.agg #[.int .i64 16, .int .i64 128, .int .i64 0, .int .i64 0, .int .i64 128, .int .i64 16, .int .i64 11, .bool true]) rfl rfl (by kernel_rfl) (by kernel_rfl) (by kernel_rfl) (by kernel_rfl) (by kernel_rfl) (fun _ _ _ h => h) (by rfl) HI4.out.drew ?_ ?_
  · intro u hSu
    have sU := hSu
    obtain ⟨k0, k1, k2, k3, k4, k5, k6, k7⟩ := eight0 sU
    go_simp
  try simp only [Act.put, List.setIfInBounds_toArray, List.set_cons_zero, List.set_cons_succ]
  refine b_take 1 (some 43) (.agg #[.int .i64 16, .int .i64 128, .int .i64 0, .int .i64 0, .int .i64 128, .int .i64 16, .int .i64 11, .bool true]) rfl rfl (by kernel_rfl) (by kernel_rfl) (by kernel_rfl) (by kernel_rfl) (by kernel_rfl) (fun _ _ _ h => h) (by rfl) HI4.out.drew ?_ ?_
  · intro u hSu
    have sU := hSu
    obtain ⟨k0, k1, k2, k3, k4, k5, k6, k7⟩ := eight0 sU
    go_simp
  try simp only [Act.put, List.setIfInBounds_toArray, List.set_cons_zero, List.set_cons_succ]
  refine b_ready (rs := [2]) (by kernel_rfl) (by simp) ?_
  refine AllReadyB.cons (i := 2) rfl (fun K hK => ?_) AllReadyB.nil
  go_simp
  refine (Hg0 _).out.mono ?_
  rintro e9 w5 ⟨rfl, h5⟩
  have HI5 := hide ((HI4.out.drew).below h5)
  have HV5 := hide ((HV4.out.below (Below.refl _ _).drew).below h5)
  have HB5 := hide (HB4.out.drew.trans (h5.mono HB4.out.size))
  clear h5
  go_simp
  refine hK.out _ _ (fun _ => HI5.out) ?_
  clear hK K
  try simp only [Act.put, List.setIfInBounds_toArray, List.set_cons_zero, List.set_cons_succ]
  refine b_take 3 (some 45) (.int .i64 0) rfl rfl (by kernel_rfl) (by kernel_rfl) (by kernel_rfl) (by kernel_rfl) (by kernel_rfl) (fun _ _ _ h => h) (by rfl) HI5.out ?_ ?_
  · intro u hSu
    have sU := hSu
    have qw : IntKind.i64.wrap 0 = 0 := by decide
    go_simp
  try simp only [Act.put, List.setIfInBounds_toArray, List.set_cons_zero, List.set_cons_succ]
  refine b_ready (rs := [4]) (by kernel_rfl) (by simp) ?_
  refine AllReadyB.cons (i := 4) rfl (fun K hK => ?_) AllReadyB.nil
  go_simp
  refine (HGr _).out.mono ?_
  rintro e9 w6 ⟨rfl, h5⟩
  have HI6 := hide ((HI5.out).below h5)
  have HV6 := hide ((HV5.out.below (Below.refl _ _)).below h5)
  have HB6 := hide (HB5.out.trans (h5.mono HB5.out.size))
  clear h5
  go_simp
  refine hK.out _ _ (fun _ => HI6.out) ?_
  clear hK K
  try simp only [Act.put, List.setIfInBounds_toArray, List.set_cons_zero, List.set_cons_succ]
  refine b_take 5 (some 41) (.tuple #[.int .i64 1, .int .i64 128]) rfl rfl (by kernel_rfl) (by kernel_rfl) (by kernel_rfl) (by kernel_rfl) (by kernel_rfl) (fun _ _ _ h => h) (by rfl) HI6.out ?_ ?_
  · intro u hSu
    have sU := hSu
    go_simp
  try simp only [Act.put, List.setIfInBounds_toArray, List.set_cons_zero, List.set_cons_succ]
  refine b_take 6 (some 47) (.int .i64 1) rfl rfl (by kernel_rfl) (by kernel_rfl) (by kernel_rfl) (by kernel_rfl) (by kernel_rfl) (fun _ _ _ h => h) (by rfl) HI6.out ?_ ?_
  · intro u hSu
    have sU := hSu
    go_simp
  try simp only [Act.put, List.setIfInBounds_toArray, List.set_cons_zero, List.set_cons_succ]
  refine b_take 7 (some 48) (.int .i64 128) rfl rfl (by kernel_rfl) (by kernel_rfl) (by kernel_rfl) (by kernel_rfl) (by kernel_rfl) (fun _ _ _ h => h) (by rfl) HI6.out ?_ ?_
  · intro u hSu
    have sU := hSu
    go_simp
  try simp only [Act.put, List.setIfInBounds_toArray, List.set_cons_zero, List.set_cons_succ]
  refine b_take 8 (some 10) (.int .i64 1) rfl rfl (by kernel_rfl) (by kernel_rfl) (by kernel_rfl) (by kernel_rfl) (by kernel_rfl) (fun _ _ _ h => h) (by rfl) HI6.out ?_ ?_
  · intro u hSu
    have sU := hSu
    go_simp
  try simp only [Act.put, List.setIfInBounds_toArray, List.set_cons_zero, List.set_cons_succ]
  refine b_take 9 (some 11) (.int .i64 128) rfl rfl (by kernel_rfl) (by kernel_rfl) (by kernel_rfl) (by kernel_rfl) (by kernel_rfl) (fun _ _ _ h => h) (by rfl) HI6.out ?_ ?_
  · intro u hSu
    have sU := hSu
    go_simp
  try simp only [Act.put, List.setIfInBounds_toArray, List.set_cons_zero, List.set_cons_succ]
  refine b_done (by kernel_rfl) ?_ _
  obtain ⟨k0, k1, k2, k3, k4, k5, k6, k7⟩ := eight0 HI6.out
  go_wp2_with fail
  clear k0 k1 k2 k3 k4 k5 k6 k7
  refine (HTb _).out.mono ?_
  rintro e9 w7 ⟨rfl, h7⟩
  have HI7 := hide (HI6.out.below h7)
  have HV7 := hide (HV6.out.below h7)
  have HB7 := hide (HB6.out.trans (h7.mono HB6.out.size))
  obtain ⟨R, hR⟩ : ∃ R, R = w7.heap.size := ⟨_, rfl⟩
  obtain ⟨w8, hw8⟩ : ∃ w8, w8 = w7.alloc (.cells #[.int .i64 16, .int .i64 128, .int .i64 0, .int .i64 0, .int .i64 128, .int .i64 16, .int .i64 11, .bool true, .slice none 0 0, .slice none 0 0, .slice none 0 0, .nilIface] 82) := ⟨_, rfl⟩
  have hb8 : Below w7.heap.size w7 w8 := by rw [hw8]; exact (Below.refl _ _).alloc (Nat.le_refl _) _
  have HR8 := hide (show Blk w8 R #[.int .i64 16, .int .i64 128, .int .i64 0, .int .i64 0, .int .i64 128, .int .i64 16, .int .i64 11, .bool true, .slice none 0 0, .slice none 0 0, .slice none 0 0, .nilIface] 82 by rw [hw8, hR]; exact Blk.new _ _ _)
  have HI8 := hide (HI7.out.below hb8)
  have HV8 := hide (HV7.out.below hb8)
  have HB8 := hide (HB7.out.trans (hb8.mono HB7.out.size))
  have HRe := hide hR
  have HW8 := hide hw8
  have HRl := hide (show w.heap.size ≤ R by rw [hR]; exact HB7.out.size)
  obtain ⟨k0, k1, k2, k3, k4, k5, k6, k7⟩ := eight0 HI7.out
  obtain ⟨l0, l1, l2, l3, l4, l5, l6, l7⟩ := eight0 HI8.out
  rw [hw8] at l0 l1 l2 l3 l4 l5 l6 l7
  clear h7 hb8 hw8 hR
  go_wp2_with fail
  rw [← HW8.out, ← HRe.out]
  clear k0 k1 k2 k3 k4 k5 k6 k7 l0 l1 l2 l3 l4 l5 l6 l7
  refine (Hg0 _).out.mono ?_
  rintro e9 w9 ⟨rfl, h9⟩
  have HR9 := hide (HR8.out.below h9)
  have HV9 := hide (HV8.out.below h9)
  have HB9 := hide (HB8.out.trans (h9.mono HB8.out.size))
  clear h9
  go_wp2_with fail
  go_loopw [62] (fun i wr => ∃ j : Nat, i = .int .i64 (j : Int) ∧ ((j = 0 ∧ Blk wr R (volX s0 (.slice none 0 0) (.slice none 0 0) (.slice none 0 0) .nilIface) 82) ∨ (j = 1 ∧ VolB wr R .nilIface F1 F2)) ∧ VarX wr ∧ Below w.heap.size w wr) (fun i _ => 1 - (intOf i).toNat)
  case atStart => exact ⟨0, rfl, Or.inl ⟨rfl, HR9.out⟩, HV9.out, HB9.out⟩
  case round =>
    obtain ⟨j, rfl, hj, hv, hb⟩ := hrel
    have HVj := hide hv
    have HBj := hide hb
    clear hv hb
    rcases hj with ⟨rfl, hr⟩ | ⟨rfl, hr⟩
    · have HBgj := HBg R wr hr
      clear hr
      go_wp2_with fail
      refine HBgj.out.mono ?_
      rintro e9 x1 ⟨rfl, hv1, hc1⟩
      have HVo := hide hv1
      have HVx := hide (HVj.out.chg hc1 (fun e => by have h1 := HVl.out; have h2 := HRl.out; have h3 := HBj.out.size; rcases e with e | e <;> omega))
      have HBx := hide (HBj.out.trans (Chg.below w.heap.size hc1 HBj.out.size (fun i hi e => by have h2 := HRl.out; have h3 := HBj.out.size; rcases e with e | e <;> omega)))
      clear hv1 hc1
      go_wp2_with fail
      go_roundw
      case rel => exact ⟨1, by go_num, Or.inr ⟨rfl, HVo.out⟩, HVx.out, HBx.out⟩
      case measure => simp [intOf]
    · have HByj := HBy R wr HVj.out hr
      clear hr
      go_wp2_with fail
      refine HByj.out.mono ?_
      rintro e9 x1 ⟨⟨g, rfl, ho⟩, hb1⟩
      have HO := hide (ho.mono HBj.out.size)
      have HBx := hide (HBj.out.trans (hb1.mono HBj.out.size))
      clear ho hb1
      go_wp2_with fail
      go_ret2
      exact ⟨⟨g, rfl, HO.out⟩, HBx.out⟩
end Go.Proofs.YtjmajjfknmjifaaDoor.Oct
