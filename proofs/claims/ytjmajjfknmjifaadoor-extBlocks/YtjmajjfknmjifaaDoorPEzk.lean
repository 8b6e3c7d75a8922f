/- The only group of the volume of 128 blocks is begun. -/
import Derived.Test.YtjmajjfknmjifaaDoorPEzh
import Derived.Test.YtjmajjfknmjifaaDoorPEzc
namespace Go.Proofs.YtjmajjfknmjifaaDoor.Oct
open Go.RowKit

theorem info_map : (Tryd.prog.info? 63).map (fun i => (i.zero, i.size, i.bytes)) = some (some (.slice none 0 0), 1, 24) := by kernel_rfl
theorem info_row : (Tryd.prog.info? 41).map (fun i => (i.zero, i.size, i.bytes)) = some (some (.agg #[.int .i64 0, .int .i64 0, .int .i64 0, .int .i64 0, .int .i64 0, .int .i64 0]), 6, 48) := by kernel_rfl

theorem s0_group (w : World) : Calls Tryd.prog 49 #[.agg #[.int .i64 16, .int .i64 128, .int .i64 0, .int .i64 0, .int .i64 128, .int .i64 16, .int .i64 11, .bool true], .int .i64 0] w fun e w' => e = .returned (.tuple #[.int .i64 1, .int .i64 128]) ∧ Below w.heap.size w w' :=
  group_any s0 0 w (by decide) (by decide) (by decide)

theorem s0_tab (w : World) : Calls Tryd.prog 50 #[.agg #[.int .i64 16, .int .i64 128, .int .i64 0, .int .i64 0, .int .i64 128, .int .i64 16, .int .i64 11, .bool true]] w fun e w' => e = .returned (.int .i64 2) ∧ Below w.heap.size w w' :=
  tab_any s0 w

theorem cells_v0 {w : World} {R : Nat} {r b n d : Value} {t : TypeId} (h : Blk w R (volX s0 r b n d) t) :
    (w.cell? ⟨R, 0, none⟩ = some (.int .i64 16) ∧ w.cell? ⟨R, 1, none⟩ = some (.int .i64 128) ∧ w.cell? ⟨R, 2, none⟩ = some (.int .i64 0) ∧ w.cell? ⟨R, 3, none⟩ = some (.int .i64 0) ∧ w.cell? ⟨R, 4, none⟩ = some (.int .i64 128) ∧ w.cell? ⟨R, 5, none⟩ = some (.int .i64 16) ∧ w.cell? ⟨R, 6, none⟩ = some (.int .i64 11) ∧ w.cell? ⟨R, 7, none⟩ = some (.bool true)) ∧ w.cell? ⟨R, 8, none⟩ = some r ∧ w.cell? ⟨R, 9, none⟩ = some b ∧ w.cell? ⟨R, 10, none⟩ = some n ∧ w.cell? ⟨R, 11, none⟩ = some d := cells_vx h

theorem Blk.setN {u : World} {R R' : Nat} {cs : Array Value} {t : TypeId} (h : Blk u R cs t) (hne : R ≠ R') (i : Nat) (v : Value) : Blk (u.setCell ⟨R', i, none⟩ v) R cs t := h.other hne i v
theorem CellsAt.setN {u : World} {g R' : Nat} {cs : List Value} (h : CellsAt u g cs) (hne : g ≠ R') (i : Nat) (v : Value) : CellsAt (u.setCell ⟨R', i, none⟩ v) g cs :=
  h.chg ((Chg.refl (fun k => k = R') u).setZ R' i v rfl) hne
theorem Lies.setN {u : World} {g R' : Nat} {l : List Int} (h : Lies u (some ⟨g, 0, none⟩) l) (hne : g ≠ R') (i : Nat) (v : Value) : Lies (u.setCell ⟨R', i, none⟩ v) (some ⟨g, 0, none⟩) l :=
  h.chg ((Chg.refl (fun k => k = R') u).setZ R' i v rfl) (fun x hx => by cases hx; exact hne)

/-- A volume of one group with its row and its maps. -/
def VolB (w : World) (R : Nat) (dv : Value) (F1 F2 : List Int) : Prop := ∃ gr cr gb cb gn cn ga ca gc cc, Blk w R (volX s1 (.slice (some ⟨gr, 0, none⟩) 1 cr) (.slice (some ⟨gb, 0, none⟩) 1 cb) (.slice (some ⟨gn, 0, none⟩) 1 cn) dv) 82 ∧ CellsAt w gr r1.cs.toList ∧ CellsAt w gb [.slice (some ⟨ga, 0, none⟩) 1024 ca] ∧ Lies w (some ⟨ga, 0, none⟩) F1 ∧ CellsAt w gn [.slice (some ⟨gc, 0, none⟩) 1024 cc] ∧ Lies w (some ⟨gc, 0, none⟩) F2

set_option maxHeartbeats 16000000 in
set_option maxRecDepth 100000 in
theorem begin_ok (R : Nat) (w : World) (hR : Blk w R (volX s0 (.slice none 0 0) (.slice none 0 0) (.slice none 0 0) .nilIface) 82) :
    Calls Tryd.prog 51 #[.pointer (some ⟨R, 0, none⟩), .int .i64 0] w fun e w' => e = .returned (.tuple #[]) ∧ VolB w' R .nilIface (fbL 7 127 8192) (fbL 10 16 8192) ∧ Chg (fun k => R = k ∨ w.heap.size ≤ k) w w' := by
  have HG := fun u => hide (s0_group u)
  have HT := fun u => hide (s0_tab u)
  have HF1 := fun u => hide (fb_any 7 127 u)
  have HF2 := fun u => hide (fb_any 10 16 u)
  obtain ⟨F1, hF1⟩ : ∃ F1, F1 = fbL 7 127 8192 := ⟨_, rfl⟩
  obtain ⟨F2, hF2⟩ : ∃ F2, F2 = fbL 10 16 8192 := ⟨_, rfl⟩
  rw [← hF1] at HF1 ⊢
  rw [← hF2] at HF2 ⊢
  clear hF1 hF2
  have hlF := fun {u : World} {B g c : Nat} {L : List Int} (h : Own u B (.slice (some ⟨g, 0, none⟩) 1024 c) L) => hide (show Lies u (some ⟨g, 0, none⟩) L by
    obtain ⟨a', c', e', hsl, _⟩ := h.sl
    injection e' with e1 e2 e3
    rw [e1]
    exact hsl.lies)
  have HRl := hide hR.lt
  obtain ⟨⟨c0, c1, c2, c3, c4, c5, c6, c7⟩, c8, c9, c10, c11⟩ := cells_v0 hR
  have HV := hide hR
  clear hR
  go_enter Tryd.func51, Tryd.ntmps51
  go_wp2_with fail
  clear c0 c1 c2 c3 c4 c5 c6 c7 c8 c9 c10 c11
  refine (HG _).out.mono ?_
  rintro e9 w1 ⟨rfl, h1⟩
  have HV1 := hide (HV.out.below h1)
  have HB1 := hide h1
  obtain ⟨G, hG⟩ : ∃ G, G = w1.heap.size := ⟨_, rfl⟩
  obtain ⟨w2, hw2⟩ : ∃ w2, w2 = w1.alloc (.cells #[.int .i64 3, .int .i64 4, .int .i64 5, .int .i64 0, .int .i64 0, .int .i64 0] 41) := ⟨_, rfl⟩
  have hb2 : Below w1.heap.size w1 w2 := by rw [hw2]; exact (Below.refl _ _).alloc (Nat.le_refl _) _
  have HI2 := hide (show Blk w2 G #[.int .i64 3, .int .i64 4, .int .i64 5, .int .i64 0, .int .i64 0, .int .i64 0] 41 by rw [hw2, hG]; exact Blk.new _ _ _)
  have HV2 := hide (HV1.out.below hb2)
  have HB2 := hide (HB1.out.trans (hb2.mono HB1.out.size))
  have HGe := hide hG
  have HGl := hide (show w.heap.size ≤ G by rw [hG]; exact HB1.out.size)
  have HW2 := hide hw2
  rw [hw2] at hb2
  obtain ⟨⟨f0, f1, f2, f3, f4, f5, f6, f7⟩, f8, f9, f10, f11⟩ := cells_v0 (HV1.out.below hb2)
  clear hb2 hw2 h1 hG
  go_wp2_with fail
  rw [← HW2.out, ← HGe.out]
  clear f0 f1 f2 f3 f4 f5 f6 f7 f8 f9 f10 f11
  refine (HT _).out.mono ?_
  rintro e9 w3 ⟨rfl, h3⟩
  have HV3 := hide (HV2.out.below h3)
  have HI3 := hide (HI2.out.below h3)
  have HB3 := hide (HB2.out.trans (h3.mono HB2.out.size))
  clear h3
  have hGR : G ≠ R := by have := HGl.out; have := HRl.out; omega
  have HGR := hide hGR
  have i5 := HI3.out.cell 5 _ rfl
  have j5 := HI3.out.frozen 5
  obtain ⟨x5, hx5⟩ : ∃ x5, x5 = w3.setCell ⟨G, 5, none⟩ (.int .i64 1) := ⟨_, rfl⟩
  have HI5 := hide (show Blk x5 G #[.int .i64 3, .int .i64 4, .int .i64 5, .int .i64 0, .int .i64 0, .int .i64 1] 41 by rw [hx5]; exact HI3.out.set 5 (.int .i64 1))
  have HV5 := hide (show Blk x5 R (volX s0 (.slice none 0 0) (.slice none 0 0) (.slice none 0 0) .nilIface) 82 by rw [hx5]; exact HV3.out.setN (Ne.symm hGR) 5 _)
  have HC5 := hide (show Chg (fun k => R = k ∨ w.heap.size ≤ k) w x5 by rw [hx5]; exact (Chg.of_below HB3.out).setZ G 5 _ (Or.inr HGl.out))
  have HX5 := hide hx5
  clear hx5 hGR
  go_wp2_with fail
  rw [← HX5.out]
  clear i5 j5
  have q120 : IntKind.i64.wrap 120 = 120 := by decide
  have q6 : IntKind.i64.wrap 6 = 6 := by decide
  have q127 : IntKind.i64.wrap 127 = 127 := by decide
  obtain ⟨mi, hmi, hmz, hms, hmb⟩ := info_parts info_map
  obtain ⟨ri, hri, hrz, hrs, hrb⟩ := info_parts info_row
  refine b_region (S := (fun u => u.cell? ⟨R, 9, none⟩ = some (.slice none 0 0))) (F := (fun j => decide (j < 13))) (by kernel_rfl) ?_
  refine b_take 0 (some 36) (.pointer (some ⟨R, 0, none⟩)) rfl rfl (by kernel_rfl) (by kernel_rfl) (by kernel_rfl) (by kernel_rfl) (by kernel_rfl) (fun _ _ _ h => h) (by rfl) (HV5.out.drew.cell 9 _ rfl) ?_ ?_
  · intro u hSu
    have sU := hSu
    go_simp
  try simp only [Act.put, List.setIfInBounds_toArray, List.set_cons_zero, List.set_cons_succ]
  refine b_take 1 (some 37) (.pointer (some ⟨R, 0, none⟩)) rfl rfl (by kernel_rfl) (by kernel_rfl) (by kernel_rfl) (by kernel_rfl) (by kernel_rfl) (fun _ _ _ h => h) (by rfl) (HV5.out.drew.cell 9 _ rfl) ?_ ?_
  · intro u hSu
    have sU := hSu
    go_simp
  try simp only [Act.put, List.setIfInBounds_toArray, List.set_cons_zero, List.set_cons_succ]
  refine b_take 2 (some 38) (.pointer (some ⟨R, 0, none⟩)) rfl rfl (by kernel_rfl) (by kernel_rfl) (by kernel_rfl) (by kernel_rfl) (by kernel_rfl) (fun _ _ _ h => h) (by rfl) (HV5.out.drew.cell 9 _ rfl) ?_ ?_
  · intro u hSu
    have sU := hSu
    go_simp
  try simp only [Act.put, List.setIfInBounds_toArray, List.set_cons_zero, List.set_cons_succ]
  refine b_take 3 (some 39) (.pointer (some ⟨R, 9, none⟩)) rfl rfl (by kernel_rfl) (by kernel_rfl) (by kernel_rfl) (by kernel_rfl) (by kernel_rfl) (fun _ _ _ h => h) (by rfl) (HV5.out.drew.cell 9 _ rfl) ?_ ?_
  · intro u hSu
    have sU := hSu
    go_simp
  try simp only [Act.put, List.setIfInBounds_toArray, List.set_cons_zero, List.set_cons_succ]
  refine b_take 4 (some 40) (.slice none 0 0) rfl rfl (by kernel_rfl) (by kernel_rfl) (by kernel_rfl) (by kernel_rfl) (by kernel_rfl) (fun _ _ _ h => h) (by rfl) (HV5.out.drew.cell 9 _ rfl) ?_ ?_
  · intro u hSu
    have sU := hSu
    go_simp
  try simp only [Act.put, List.setIfInBounds_toArray, List.set_cons_zero, List.set_cons_succ]
  refine b_take 5 (some 41) (.int .i64 7) rfl rfl (by kernel_rfl) (by kernel_rfl) (by kernel_rfl) (by kernel_rfl) (by kernel_rfl) (fun _ _ _ h => h) (by rfl) (HV5.out.drew.cell 9 _ rfl) ?_ ?_
  · intro u hSu
    have sU := hSu
    go_simp
  try simp only [Act.put, List.setIfInBounds_toArray, List.set_cons_zero, List.set_cons_succ]
  refine b_take 6 (some 42) (.int .i64 128) rfl rfl (by kernel_rfl) (by kernel_rfl) (by kernel_rfl) (by kernel_rfl) (by kernel_rfl) (fun _ _ _ h => h) (by rfl) (HV5.out.drew.cell 9 _ rfl) ?_ ?_
  · intro u hSu
    have sU := hSu
    go_simp
  try simp only [Act.put, List.setIfInBounds_toArray, List.set_cons_zero, List.set_cons_succ]
  refine b_take 7 (some 43) (.int .i64 1) rfl rfl (by kernel_rfl) (by kernel_rfl) (by kernel_rfl) (by kernel_rfl) (by kernel_rfl) (fun _ _ _ h => h) (by rfl) (HV5.out.drew.cell 9 _ rfl) ?_ ?_
  · intro u hSu
    have sU := hSu
    go_simp
  try simp only [Act.put, List.setIfInBounds_toArray, List.set_cons_zero, List.set_cons_succ]
  refine b_take 8 (some 44) (.int .i64 127) rfl rfl (by kernel_rfl) (by kernel_rfl) (by kernel_rfl) (by kernel_rfl) (by kernel_rfl) (fun _ _ _ h => h) (by rfl) (HV5.out.drew.cell 9 _ rfl) ?_ ?_
  · intro u hSu
    have sU := hSu
    go_simp
  try simp only [Act.put, List.setIfInBounds_toArray, List.set_cons_zero, List.set_cons_succ]
  refine b_ready (rs := [9]) (by kernel_rfl) (by simp) ?_
  refine AllReadyB.cons (i := 9) rfl (fun K hK => ?_) AllReadyB.nil
  go_simp
  refine (HF1 _).out.mono ?_
  rintro e9 y5 ⟨⟨ga, ca, rfl, ho5⟩, hb5⟩
  have HVa5 := hide (HV5.out.drew.below hb5)
  have HIa5 := hide (HI5.out.drew.below hb5)
  have HCa5 := hide (HC5.out.drew.trans (Chg.of_below hb5))
  have HLa5 := hide (hlF ho5).out
  have HGa5 := hide (show w.heap.size ≤ ga ∧ ga ≠ G ∧ ga ≠ R from by have h1 : x5.heap.size ≤ ga := (World.ownsRow.lt ho5 ga rfl).1; have h2 := HC5.out.size; have h3 := HI5.out.lt; have h4 := HV5.out.lt; omega)
  clear ho5 hb5
  go_simp
  refine hK.out _ _ (fun _ => (HVa5.out.cell 9 _ rfl)) ?_
  clear hK K
  try simp only [Act.put, List.setIfInBounds_toArray, List.set_cons_zero, List.set_cons_succ]
  refine b_ready (rs := [10]) (by kernel_rfl) (by simp) ?_
  refine AllReadyB.cons (i := 10) rfl (fun K hK => ?_) AllReadyB.nil
  go_simp
  refine hK.out _ _ (fun _ => (((HVa5.out.below (show Below y5.heap.size y5 (y5.alloc (.cells #[.slice (some ⟨ga, 0, none⟩) 1024 ca] 63)) from (Below.refl _ _).alloc (Nat.le_refl _) _))).cell 9 _ rfl)) ?_
  clear hK K
  try simp only [Act.put, List.setIfInBounds_toArray, List.set_cons_zero, List.set_cons_succ]
  obtain ⟨z5, hz5⟩ : ∃ z5, z5 = y5.alloc (.cells #[.slice (some ⟨ga, 0, none⟩) 1024 ca] 63) := ⟨_, rfl⟩
  have hbz5 : Below y5.heap.size y5 z5 := by rw [hz5]; exact (Below.refl _ _).alloc (Nat.le_refl _) _
  have hcz5 : CellsAt z5 y5.heap.size [.slice (some ⟨ga, 0, none⟩) 1024 ca] := by rw [hz5]; exact (Blk.new y5 #[.slice (some ⟨ga, 0, none⟩) 1024 ca] 63).cellsAt
  rw [← hz5]
  obtain ⟨g5, k5, v5, hr5, hc5, hg5, _, _, hbv5⟩ := app_one z5 78 78 63 mi (.slice none 0 0) 1 24 Tryd.underlying78 hmi hmz hms hmb rfl (by decide) y5.heap.size 1 [.slice (some ⟨ga, 0, none⟩) 1024 ca] rfl hcz5 (by simp [Value.oneCell']) (by decide)
  have hbb5 := hbz5.trans (hbv5.mono hbz5.size)
  have HVb5 := hide (HVa5.out.below hbb5)
  have HIb5 := hide (HIa5.out.below hbb5)
  have HCb5 := hide (HCa5.out.trans (Chg.of_below hbb5))
  have HLb5 := hide (HLa5.out.below hbb5)
  have HMb5 := hide hc5
  have HGb5 := hide (show w.heap.size ≤ g5 ∧ g5 ≠ G ∧ g5 ≠ R from by have h1 := hbz5.size; have h2 := HCa5.out.size; have h3 := HIa5.out.lt; have h4 := HVa5.out.lt; omega)
  have sv := HVb5.out.cell 9 _ rfl
  have fv := HVb5.out.frozen 9
  refine b_val 11 (some 47) (.slice (some ⟨g5, 0, none⟩) 1 k5) v5 (by kernel_rfl) rfl rfl rfl (exec_appendZ (s := .tmp 40) (x := .tmp 46) (t := 78) (v := .slice none 0 0) (q := .slice (some ⟨y5.heap.size, 0, none⟩) 1 1) rfl (by rfl) (by rfl) hr5) (fun _ => (HVb5.out.cell 9 _ rfl)) ?_
  try simp only [Act.put, List.setIfInBounds_toArray, List.set_cons_zero, List.set_cons_succ]
  clear hz5 hbz5 hcz5 hr5 hc5 hg5 hbv5 hbb5
  refine b_take 12 (some 48) (.pointer (some ⟨R, 0, none⟩)) rfl rfl (by kernel_rfl) (by kernel_rfl) (by kernel_rfl) (by kernel_rfl) (by kernel_rfl) (fun _ _ _ h => h) (by rfl) (HVb5.out.cell 9 _ rfl) ?_ ?_
  · intro u hSu
    have sU := hSu
    go_simp
  try simp only [Act.put, List.setIfInBounds_toArray, List.set_cons_zero, List.set_cons_succ]
  refine b_take 13 (some 49) (.pointer (some ⟨R, 9, none⟩)) rfl rfl (by kernel_rfl) (by kernel_rfl) (by kernel_rfl) (by kernel_rfl) (by kernel_rfl) (fun _ _ _ h => h) (by rfl) (HVb5.out.cell 9 _ rfl) ?_ ?_
  · intro u hSu
    have sU := hSu
    go_simp
  try simp only [Act.put, List.setIfInBounds_toArray, List.set_cons_zero, List.set_cons_succ]
  refine b_ready (rs := [14]) (by kernel_rfl) (by simp) ?_
  refine AllReadyB.cons (i := 14) rfl (fun K hK => ?_) AllReadyB.nil
  go_simp
  refine hK.out _ _ (fun e => absurd e (by decide)) ?_
  clear hK K
  try simp only [Act.put, List.setIfInBounds_toArray, List.set_cons_zero, List.set_cons_succ]
  clear sv fv
  refine b_done (by kernel_rfl) ?_ _
  obtain ⟨x6, hx6⟩ : ∃ x6, x6 = v5.setCell ⟨R, 9, none⟩ (.slice (some ⟨g5, 0, none⟩) 1 k5) := ⟨_, rfl⟩
  have HV6 := hide (show Blk x6 R (volX s0 (.slice none 0 0) (.slice (some ⟨g5, 0, none⟩) 1 k5) (.slice none 0 0) .nilIface) 82 by rw [hx6]; exact HVb5.out.set 9 _)
  have HI6 := hide (show Blk x6 G #[.int .i64 3, .int .i64 4, .int .i64 5, .int .i64 0, .int .i64 0, .int .i64 1] 41 by rw [hx6]; exact HIb5.out.setN HGR.out 9 _)
  have HC6 := hide (show Chg (fun k => R = k ∨ w.heap.size ≤ k) w x6 by rw [hx6]; exact HCb5.out.setZ R 9 _ (Or.inl rfl))
  have HL6 := hide (show Lies x6 (some ⟨ga, 0, none⟩) F1 by rw [hx6]; exact HLb5.out.setN HGa5.out.2.2 9 _)
  have HM6 := hide (show CellsAt x6 g5 [.slice (some ⟨ga, 0, none⟩) 1024 ca] by rw [hx6]; exact HMb5.out.setN HGb5.out.2.2 9 _)
  rw [← hx6]
  clear hx6
  go_wp2_with fail
  refine b_region (S := (fun u => u.cell? ⟨R, 10, none⟩ = some (.slice none 0 0) ∧ u.cell? ⟨R, 5, none⟩ = some (.int .i64 16))) (F := (fun j => decide (j < 15))) (by kernel_rfl) ?_
  refine b_take 0 (some 50) (.pointer (some ⟨R, 0, none⟩)) rfl rfl (by kernel_rfl) (by kernel_rfl) (by kernel_rfl) (by kernel_rfl) (by kernel_rfl) (fun _ _ _ h => h) (by rfl) ⟨(HV6.out.drew.cell 10 _ rfl), (HV6.out.drew.cell 5 _ rfl)⟩ ?_ ?_
  · intro u hSu
    obtain ⟨sU, tU⟩ := hSu
    go_simp
  try simp only [Act.put, List.setIfInBounds_toArray, List.set_cons_zero, List.set_cons_succ]
  refine b_take 1 (some 51) (.pointer (some ⟨R, 0, none⟩)) rfl rfl (by kernel_rfl) (by kernel_rfl) (by kernel_rfl) (by kernel_rfl) (by kernel_rfl) (fun _ _ _ h => h) (by rfl) ⟨(HV6.out.drew.cell 10 _ rfl), (HV6.out.drew.cell 5 _ rfl)⟩ ?_ ?_
  · intro u hSu
    obtain ⟨sU, tU⟩ := hSu
    go_simp
  try simp only [Act.put, List.setIfInBounds_toArray, List.set_cons_zero, List.set_cons_succ]
  refine b_take 2 (some 52) (.pointer (some ⟨R, 0, none⟩)) rfl rfl (by kernel_rfl) (by kernel_rfl) (by kernel_rfl) (by kernel_rfl) (by kernel_rfl) (fun _ _ _ h => h) (by rfl) ⟨(HV6.out.drew.cell 10 _ rfl), (HV6.out.drew.cell 5 _ rfl)⟩ ?_ ?_
  · intro u hSu
    obtain ⟨sU, tU⟩ := hSu
    go_simp
  try simp only [Act.put, List.setIfInBounds_toArray, List.set_cons_zero, List.set_cons_succ]
  refine b_take 3 (some 53) (.pointer (some ⟨R, 10, none⟩)) rfl rfl (by kernel_rfl) (by kernel_rfl) (by kernel_rfl) (by kernel_rfl) (by kernel_rfl) (fun _ _ _ h => h) (by rfl) ⟨(HV6.out.drew.cell 10 _ rfl), (HV6.out.drew.cell 5 _ rfl)⟩ ?_ ?_
  · intro u hSu
    obtain ⟨sU, tU⟩ := hSu
    go_simp
  try simp only [Act.put, List.setIfInBounds_toArray, List.set_cons_zero, List.set_cons_succ]
  refine b_take 4 (some 54) (.slice none 0 0) rfl rfl (by kernel_rfl) (by kernel_rfl) (by kernel_rfl) (by kernel_rfl) (by kernel_rfl) (fun _ _ _ h => h) (by rfl) ⟨(HV6.out.drew.cell 10 _ rfl), (HV6.out.drew.cell 5 _ rfl)⟩ ?_ ?_
  · intro u hSu
    obtain ⟨sU, tU⟩ := hSu
    go_simp
  try simp only [Act.put, List.setIfInBounds_toArray, List.set_cons_zero, List.set_cons_succ]
  refine b_take 5 (some 55) (.int .i64 10) rfl rfl (by kernel_rfl) (by kernel_rfl) (by kernel_rfl) (by kernel_rfl) (by kernel_rfl) (fun _ _ _ h => h) (by rfl) ⟨(HV6.out.drew.cell 10 _ rfl), (HV6.out.drew.cell 5 _ rfl)⟩ ?_ ?_
  · intro u hSu
    obtain ⟨sU, tU⟩ := hSu
    go_simp
  try simp only [Act.put, List.setIfInBounds_toArray, List.set_cons_zero, List.set_cons_succ]
  refine b_take 6 (some 56) (.pointer (some ⟨R, 0, none⟩)) rfl rfl (by kernel_rfl) (by kernel_rfl) (by kernel_rfl) (by kernel_rfl) (by kernel_rfl) (fun _ _ _ h => h) (by rfl) ⟨(HV6.out.drew.cell 10 _ rfl), (HV6.out.drew.cell 5 _ rfl)⟩ ?_ ?_
  · intro u hSu
    obtain ⟨sU, tU⟩ := hSu
    go_simp
  try simp only [Act.put, List.setIfInBounds_toArray, List.set_cons_zero, List.set_cons_succ]
  refine b_take 7 (some 57) (.pointer (some ⟨R, 0, none⟩)) rfl rfl (by kernel_rfl) (by kernel_rfl) (by kernel_rfl) (by kernel_rfl) (by kernel_rfl) (fun _ _ _ h => h) (by rfl) ⟨(HV6.out.drew.cell 10 _ rfl), (HV6.out.drew.cell 5 _ rfl)⟩ ?_ ?_
  · intro u hSu
    obtain ⟨sU, tU⟩ := hSu
    go_simp
  try simp only [Act.put, List.setIfInBounds_toArray, List.set_cons_zero, List.set_cons_succ]
  refine b_take 8 (some 58) (.pointer (some ⟨R, 0, none⟩)) rfl rfl (by kernel_rfl) (by kernel_rfl) (by kernel_rfl) (by kernel_rfl) (by kernel_rfl) (fun _ _ _ h => h) (by rfl) ⟨(HV6.out.drew.cell 10 _ rfl), (HV6.out.drew.cell 5 _ rfl)⟩ ?_ ?_
  · intro u hSu
    obtain ⟨sU, tU⟩ := hSu
    go_simp
  try simp only [Act.put, List.setIfInBounds_toArray, List.set_cons_zero, List.set_cons_succ]
  refine b_take 9 (some 59) (.pointer (some ⟨R, 5, none⟩)) rfl rfl (by kernel_rfl) (by kernel_rfl) (by kernel_rfl) (by kernel_rfl) (by kernel_rfl) (fun _ _ _ h => h) (by rfl) ⟨(HV6.out.drew.cell 10 _ rfl), (HV6.out.drew.cell 5 _ rfl)⟩ ?_ ?_
  · intro u hSu
    obtain ⟨sU, tU⟩ := hSu
    go_simp
  try simp only [Act.put, List.setIfInBounds_toArray, List.set_cons_zero, List.set_cons_succ]
  refine b_take 10 (some 60) (.int .i64 16) rfl rfl (by kernel_rfl) (by kernel_rfl) (by kernel_rfl) (by kernel_rfl) (by kernel_rfl) (fun _ _ _ h => h) (by rfl) ⟨(HV6.out.drew.cell 10 _ rfl), (HV6.out.drew.cell 5 _ rfl)⟩ ?_ ?_
  · intro u hSu
    obtain ⟨sU, tU⟩ := hSu
    go_simp
  try simp only [Act.put, List.setIfInBounds_toArray, List.set_cons_zero, List.set_cons_succ]
  refine b_ready (rs := [11]) (by kernel_rfl) (by simp) ?_
  refine AllReadyB.cons (i := 11) rfl (fun K hK => ?_) AllReadyB.nil
  go_simp
  refine (HF2 _).out.mono ?_
  rintro e9 y6 ⟨⟨gc, cc, rfl, ho6⟩, hb6⟩
  have HVa6 := hide (HV6.out.drew.below hb6)
  have HIa6 := hide (HI6.out.drew.below hb6)
  have HCa6 := hide (HC6.out.drew.trans (Chg.of_below hb6))
  have HLa6 := hide (hlF ho6).out
  have HGa6 := hide (show w.heap.size ≤ gc ∧ gc ≠ G ∧ gc ≠ R from by have h1 : x6.heap.size ≤ gc := (World.ownsRow.lt ho6 gc rfl).1; have h2 := HC6.out.size; have h3 := HI6.out.lt; have h4 := HV6.out.lt; omega)
  have HLc6 := hide (HL6.out.drew.below hb6)
  have HMc6 := hide (HM6.out.drew.below hb6)
  clear ho6 hb6
  go_simp
  refine hK.out _ _ (fun _ => ⟨(HVa6.out.cell 10 _ rfl), (HVa6.out.cell 5 _ rfl)⟩) ?_
  clear hK K
  try simp only [Act.put, List.setIfInBounds_toArray, List.set_cons_zero, List.set_cons_succ]
  refine b_ready (rs := [12]) (by kernel_rfl) (by simp) ?_
  refine AllReadyB.cons (i := 12) rfl (fun K hK => ?_) AllReadyB.nil
  go_simp
  refine hK.out _ _ (fun _ => ⟨(((HVa6.out.below (show Below y6.heap.size y6 (y6.alloc (.cells #[.slice (some ⟨gc, 0, none⟩) 1024 cc] 63)) from (Below.refl _ _).alloc (Nat.le_refl _) _))).cell 10 _ rfl), (((HVa6.out.below (show Below y6.heap.size y6 (y6.alloc (.cells #[.slice (some ⟨gc, 0, none⟩) 1024 cc] 63)) from (Below.refl _ _).alloc (Nat.le_refl _) _))).cell 5 _ rfl)⟩) ?_
  clear hK K
  try simp only [Act.put, List.setIfInBounds_toArray, List.set_cons_zero, List.set_cons_succ]
  obtain ⟨z6, hz6⟩ : ∃ z6, z6 = y6.alloc (.cells #[.slice (some ⟨gc, 0, none⟩) 1024 cc] 63) := ⟨_, rfl⟩
  have hbz6 : Below y6.heap.size y6 z6 := by rw [hz6]; exact (Below.refl _ _).alloc (Nat.le_refl _) _
  have hcz6 : CellsAt z6 y6.heap.size [.slice (some ⟨gc, 0, none⟩) 1024 cc] := by rw [hz6]; exact (Blk.new y6 #[.slice (some ⟨gc, 0, none⟩) 1024 cc] 63).cellsAt
  rw [← hz6]
  obtain ⟨g6, k6, v6, hr6, hc6, hg6, _, _, hbv6⟩ := app_one z6 78 78 63 mi (.slice none 0 0) 1 24 Tryd.underlying78 hmi hmz hms hmb rfl (by decide) y6.heap.size 1 [.slice (some ⟨gc, 0, none⟩) 1024 cc] rfl hcz6 (by simp [Value.oneCell']) (by decide)
  have hbb6 := hbz6.trans (hbv6.mono hbz6.size)
  have HVb6 := hide (HVa6.out.below hbb6)
  have HIb6 := hide (HIa6.out.below hbb6)
  have HCb6 := hide (HCa6.out.trans (Chg.of_below hbb6))
  have HLb6 := hide (HLa6.out.below hbb6)
  have HMb6 := hide hc6
  have HGb6 := hide (show w.heap.size ≤ g6 ∧ g6 ≠ G ∧ g6 ≠ R from by have h1 := hbz6.size; have h2 := HCa6.out.size; have h3 := HIa6.out.lt; have h4 := HVa6.out.lt; omega)
  have HLd6 := hide (HLc6.out.below hbb6)
  have HMd6 := hide (HMc6.out.below hbb6)
  have sv := HVb6.out.cell 10 _ rfl
  have fv := HVb6.out.frozen 10
  refine b_val 13 (some 63) (.slice (some ⟨g6, 0, none⟩) 1 k6) v6 (by kernel_rfl) rfl rfl rfl (exec_appendZ (s := .tmp 54) (x := .tmp 62) (t := 78) (v := .slice none 0 0) (q := .slice (some ⟨y6.heap.size, 0, none⟩) 1 1) rfl (by rfl) (by rfl) hr6) (fun _ => ⟨(HVb6.out.cell 10 _ rfl), (HVb6.out.cell 5 _ rfl)⟩) ?_
  try simp only [Act.put, List.setIfInBounds_toArray, List.set_cons_zero, List.set_cons_succ]
  clear hz6 hbz6 hcz6 hr6 hc6 hg6 hbv6 hbb6
  refine b_take 14 (some 64) (.pointer (some ⟨R, 0, none⟩)) rfl rfl (by kernel_rfl) (by kernel_rfl) (by kernel_rfl) (by kernel_rfl) (by kernel_rfl) (fun _ _ _ h => h) (by rfl) ⟨(HVb6.out.cell 10 _ rfl), (HVb6.out.cell 5 _ rfl)⟩ ?_ ?_
  · intro u hSu
    obtain ⟨sU, tU⟩ := hSu
    go_simp
  try simp only [Act.put, List.setIfInBounds_toArray, List.set_cons_zero, List.set_cons_succ]
  refine b_take 15 (some 65) (.pointer (some ⟨R, 10, none⟩)) rfl rfl (by kernel_rfl) (by kernel_rfl) (by kernel_rfl) (by kernel_rfl) (by kernel_rfl) (fun _ _ _ h => h) (by rfl) ⟨(HVb6.out.cell 10 _ rfl), (HVb6.out.cell 5 _ rfl)⟩ ?_ ?_
  · intro u hSu
    obtain ⟨sU, tU⟩ := hSu
    go_simp
  try simp only [Act.put, List.setIfInBounds_toArray, List.set_cons_zero, List.set_cons_succ]
  refine b_ready (rs := [16]) (by kernel_rfl) (by simp) ?_
  refine AllReadyB.cons (i := 16) rfl (fun K hK => ?_) AllReadyB.nil
  go_simp
  refine hK.out _ _ (fun e => absurd e (by decide)) ?_
  clear hK K
  try simp only [Act.put, List.setIfInBounds_toArray, List.set_cons_zero, List.set_cons_succ]
  clear sv fv
  refine b_done (by kernel_rfl) ?_ _
  obtain ⟨x7, hx7⟩ : ∃ x7, x7 = v6.setCell ⟨R, 10, none⟩ (.slice (some ⟨g6, 0, none⟩) 1 k6) := ⟨_, rfl⟩
  have HV7 := hide (show Blk x7 R (volX s0 (.slice none 0 0) (.slice (some ⟨g5, 0, none⟩) 1 k5) (.slice (some ⟨g6, 0, none⟩) 1 k6) .nilIface) 82 by rw [hx7]; exact HVb6.out.set 10 _)
  have HI7 := hide (show Blk x7 G #[.int .i64 3, .int .i64 4, .int .i64 5, .int .i64 0, .int .i64 0, .int .i64 1] 41 by rw [hx7]; exact HIb6.out.setN HGR.out 10 _)
  have HC7 := hide (show Chg (fun k => R = k ∨ w.heap.size ≤ k) w x7 by rw [hx7]; exact HCb6.out.setZ R 10 _ (Or.inl rfl))
  have HL7 := hide (show Lies x7 (some ⟨ga, 0, none⟩) F1 by rw [hx7]; exact HLd6.out.setN HGa5.out.2.2 10 _)
  have HM7 := hide (show CellsAt x7 g5 [.slice (some ⟨ga, 0, none⟩) 1024 ca] by rw [hx7]; exact HMd6.out.setN HGb5.out.2.2 10 _)
  have HN7 := hide (show Lies x7 (some ⟨gc, 0, none⟩) F2 by rw [hx7]; exact HLb6.out.setN HGa6.out.2.2 10 _)
  have HO7 := hide (show CellsAt x7 g6 [.slice (some ⟨gc, 0, none⟩) 1024 cc] by rw [hx7]; exact HMb6.out.setN HGb6.out.2.2 10 _)
  rw [← hx7]
  clear hx7
  have i3 := HI7.out.cell 3 _ rfl
  have j3 := HI7.out.frozen 3
  obtain ⟨x8, hx8⟩ : ∃ x8, x8 = x7.setCell ⟨G, 3, none⟩ (.int .i64 120) := ⟨_, rfl⟩
  have hGR := HGR.out
  have HI8 := hide (show Blk x8 G #[.int .i64 3, .int .i64 4, .int .i64 5, .int .i64 120, .int .i64 0, .int .i64 1] 41 by rw [hx8]; exact HI7.out.set 3 _)
  have HV8 := hide (show Blk x8 R (volX s0 (.slice none 0 0) (.slice (some ⟨g5, 0, none⟩) 1 k5) (.slice (some ⟨g6, 0, none⟩) 1 k6) .nilIface) 82 by rw [hx8]; exact HV7.out.setN (Ne.symm hGR) 3 _)
  have HC8 := hide (show Chg (fun k => R = k ∨ w.heap.size ≤ k) w x8 by rw [hx8]; exact HC7.out.setZ G 3 _ (Or.inr HGl.out))
  have HL8 := hide (show Lies x8 (some ⟨ga, 0, none⟩) F1 by rw [hx8]; exact HL7.out.setN HGa5.out.2.1 3 _)
  have HM8 := hide (show CellsAt x8 g5 [.slice (some ⟨ga, 0, none⟩) 1024 ca] by rw [hx8]; exact HM7.out.setN HGb5.out.2.1 3 _)
  have HN8 := hide (show Lies x8 (some ⟨gc, 0, none⟩) F2 by rw [hx8]; exact HN7.out.setN HGa6.out.2.1 3 _)
  have HO8 := hide (show CellsAt x8 g6 [.slice (some ⟨gc, 0, none⟩) 1024 cc] by rw [hx8]; exact HO7.out.setN HGb6.out.2.1 3 _)
  have v5' : (x7.setCell ⟨G, 3, none⟩ (.int .i64 120)).cell? ⟨R, 5, none⟩ = some (.int .i64 16) := by rw [← hx8]; exact HV8.out.cell 5 _ rfl
  have i4 : (x7.setCell ⟨G, 3, none⟩ (.int .i64 120)).cell? ⟨G, 4, none⟩ = some (.int .i64 0) := by rw [← hx8]; exact HI8.out.cell 4 _ rfl
  have j4 : (x7.setCell ⟨G, 3, none⟩ (.int .i64 120)).frozen? ⟨G, 4, none⟩ = false := by rw [← hx8]; exact HI8.out.frozen 4
  obtain ⟨x9, hx9⟩ : ∃ x9, x9 = x8.setCell ⟨G, 4, none⟩ (.int .i64 6) := ⟨_, rfl⟩
  have HI9 := hide (show Blk x9 G #[.int .i64 3, .int .i64 4, .int .i64 5, .int .i64 120, .int .i64 6, .int .i64 1] 41 by rw [hx9]; exact HI8.out.set 4 _)
  have HV9 := hide (show Blk x9 R (volX s0 (.slice none 0 0) (.slice (some ⟨g5, 0, none⟩) 1 k5) (.slice (some ⟨g6, 0, none⟩) 1 k6) .nilIface) 82 by rw [hx9]; exact HV8.out.setN (Ne.symm hGR) 4 _)
  have HC9 := hide (show Chg (fun k => R = k ∨ w.heap.size ≤ k) w x9 by rw [hx9]; exact HC8.out.setZ G 4 _ (Or.inr HGl.out))
  have HL9 := hide (show Lies x9 (some ⟨ga, 0, none⟩) F1 by rw [hx9]; exact HL8.out.setN HGa5.out.2.1 4 _)
  have HM9 := hide (show CellsAt x9 g5 [.slice (some ⟨ga, 0, none⟩) 1024 ca] by rw [hx9]; exact HM8.out.setN HGb5.out.2.1 4 _)
  have HN9 := hide (show Lies x9 (some ⟨gc, 0, none⟩) F2 by rw [hx9]; exact HN8.out.setN HGa6.out.2.1 4 _)
  have HO9 := hide (show CellsAt x9 g6 [.slice (some ⟨gc, 0, none⟩) 1024 cc] by rw [hx9]; exact HO8.out.setN HGb6.out.2.1 4 _)
  rw [hx8] at hx9
  clear hx8 hGR
  go_wp2_with fail
  rw [← hx9]
  clear i3 j3 v5' i4 j4 hx9
  refine b_region (S := (fun u => u.cell? ⟨R, 8, none⟩ = some (.slice none 0 0) ∧ Blk u G #[.int .i64 3, .int .i64 4, .int .i64 5, .int .i64 120, .int .i64 6, .int .i64 1] 41)) (F := (fun j => decide (j < 9))) (by kernel_rfl) ?_
  refine b_take 0 (some 80) (.pointer (some ⟨R, 0, none⟩)) rfl rfl (by kernel_rfl) (by kernel_rfl) (by kernel_rfl) (by kernel_rfl) (by kernel_rfl) (fun _ _ _ h => h) (by rfl) ⟨(HV9.out.drew.cell 8 _ rfl), HI9.out.drew⟩ ?_ ?_
  · intro u hSu
    obtain ⟨sU, tU⟩ := hSu
    have u0 := tU.cell 0 _ rfl
    have u1 := tU.cell 1 _ rfl
    have u2 := tU.cell 2 _ rfl
    have u3 := tU.cell 3 _ rfl
    have u4 := tU.cell 4 _ rfl
    have u5 := tU.cell 5 _ rfl
    go_simp
  try simp only [Act.put, List.setIfInBounds_toArray, List.set_cons_zero, List.set_cons_succ]
  refine b_take 1 (some 81) (.pointer (some ⟨R, 0, none⟩)) rfl rfl (by kernel_rfl) (by kernel_rfl) (by kernel_rfl) (by kernel_rfl) (by kernel_rfl) (fun _ _ _ h => h) (by rfl) ⟨(HV9.out.drew.cell 8 _ rfl), HI9.out.drew⟩ ?_ ?_
  · intro u hSu
    obtain ⟨sU, tU⟩ := hSu
    have u0 := tU.cell 0 _ rfl
    have u1 := tU.cell 1 _ rfl
    have u2 := tU.cell 2 _ rfl
    have u3 := tU.cell 3 _ rfl
    have u4 := tU.cell 4 _ rfl
    have u5 := tU.cell 5 _ rfl
    go_simp
  try simp only [Act.put, List.setIfInBounds_toArray, List.set_cons_zero, List.set_cons_succ]
  refine b_take 2 (some 82) (.pointer (some ⟨R, 0, none⟩)) rfl rfl (by kernel_rfl) (by kernel_rfl) (by kernel_rfl) (by kernel_rfl) (by kernel_rfl) (fun _ _ _ h => h) (by rfl) ⟨(HV9.out.drew.cell 8 _ rfl), HI9.out.drew⟩ ?_ ?_
  · intro u hSu
    obtain ⟨sU, tU⟩ := hSu
    have u0 := tU.cell 0 _ rfl
    have u1 := tU.cell 1 _ rfl
    have u2 := tU.cell 2 _ rfl
    have u3 := tU.cell 3 _ rfl
    have u4 := tU.cell 4 _ rfl
    have u5 := tU.cell 5 _ rfl
    go_simp
  try simp only [Act.put, List.setIfInBounds_toArray, List.set_cons_zero, List.set_cons_succ]
  refine b_take 3 (some 83) (.pointer (some ⟨R, 8, none⟩)) rfl rfl (by kernel_rfl) (by kernel_rfl) (by kernel_rfl) (by kernel_rfl) (by kernel_rfl) (fun _ _ _ h => h) (by rfl) ⟨(HV9.out.drew.cell 8 _ rfl), HI9.out.drew⟩ ?_ ?_
  · intro u hSu
    obtain ⟨sU, tU⟩ := hSu
    have u0 := tU.cell 0 _ rfl
    have u1 := tU.cell 1 _ rfl
    have u2 := tU.cell 2 _ rfl
    have u3 := tU.cell 3 _ rfl
    have u4 := tU.cell 4 _ rfl
    have u5 := tU.cell 5 _ rfl
    go_simp
  try simp only [Act.put, List.setIfInBounds_toArray, List.set_cons_zero, List.set_cons_succ]
  refine b_take 4 (some 84) (.slice none 0 0) rfl rfl (by kernel_rfl) (by kernel_rfl) (by kernel_rfl) (by kernel_rfl) (by kernel_rfl) (fun _ _ _ h => h) (by rfl) ⟨(HV9.out.drew.cell 8 _ rfl), HI9.out.drew⟩ ?_ ?_
  · intro u hSu
    obtain ⟨sU, tU⟩ := hSu
    have u0 := tU.cell 0 _ rfl
    have u1 := tU.cell 1 _ rfl
    have u2 := tU.cell 2 _ rfl
    have u3 := tU.cell 3 _ rfl
    have u4 := tU.cell 4 _ rfl
    have u5 := tU.cell 5 _ rfl
    go_simp
  try simp only [Act.put, List.setIfInBounds_toArray, List.set_cons_zero, List.set_cons_succ]
  refine b_take 5 (some 85) (.agg #[.int .i64 3, .int .i64 4, .int .i64 5, .int .i64 120, .int .i64 6, .int .i64 1]) rfl rfl (by kernel_rfl) (by kernel_rfl) (by kernel_rfl) (by kernel_rfl) (by kernel_rfl) (fun _ _ _ h => h) (by rfl) ⟨(HV9.out.drew.cell 8 _ rfl), HI9.out.drew⟩ ?_ ?_
  · intro u hSu
    obtain ⟨sU, tU⟩ := hSu
    have u0 := tU.cell 0 _ rfl
    have u1 := tU.cell 1 _ rfl
    have u2 := tU.cell 2 _ rfl
    have u3 := tU.cell 3 _ rfl
    have u4 := tU.cell 4 _ rfl
    have u5 := tU.cell 5 _ rfl
    go_simp
  try simp only [Act.put, List.setIfInBounds_toArray, List.set_cons_zero, List.set_cons_succ]
  refine b_ready (rs := [6]) (by kernel_rfl) (by simp) ?_
  refine AllReadyB.cons (i := 6) rfl (fun K hK => ?_) AllReadyB.nil
  go_simp
  refine hK.out _ _ (fun _ => ⟨(HV9.out.drew.below (show Below x9.drew.heap.size x9.drew (x9.drew.alloc (.cells #[.int .i64 3, .int .i64 4, .int .i64 5, .int .i64 120, .int .i64 6, .int .i64 1] 41)) from (Below.refl _ _).alloc (Nat.le_refl _) _)).cell 8 _ rfl, HI9.out.drew.below (show Below x9.drew.heap.size x9.drew (x9.drew.alloc (.cells #[.int .i64 3, .int .i64 4, .int .i64 5, .int .i64 120, .int .i64 6, .int .i64 1] 41)) from (Below.refl _ _).alloc (Nat.le_refl _) _)⟩) ?_
  clear hK K
  try simp only [Act.put, List.setIfInBounds_toArray, List.set_cons_zero, List.set_cons_succ]
  obtain ⟨z9, hz9⟩ : ∃ z9, z9 = (x9.alloc (.cells #[.int .i64 3, .int .i64 4, .int .i64 5, .int .i64 120, .int .i64 6, .int .i64 1] 41)).drew := ⟨_, rfl⟩
  have hbz9 : Below x9.heap.size x9 z9 := by rw [hz9]; exact ((Below.refl x9.heap.size x9).alloc (Nat.le_refl _) _).drew
  have hcz9 : CellsAt z9 x9.heap.size #[.int .i64 3, .int .i64 4, .int .i64 5, .int .i64 120, .int .i64 6, .int .i64 1].toList := by rw [hz9]; exact (Blk.new x9 #[.int .i64 3, .int .i64 4, .int .i64 5, .int .i64 120, .int .i64 6, .int .i64 1] 41).drew.cellsAt
  rw [← hz9]
  obtain ⟨gr, kr, vr, hrr, hcr, hgr, _, _, hbr⟩ := app_one z9 77 77 41 ri (.agg #[.int .i64 0, .int .i64 0, .int .i64 0, .int .i64 0, .int .i64 0, .int .i64 0]) 6 48 Tryd.underlying77 hri hrz hrs hrb rfl (by decide) x9.heap.size 1 #[.int .i64 3, .int .i64 4, .int .i64 5, .int .i64 120, .int .i64 6, .int .i64 1].toList rfl hcz9 (by simp [Value.oneCell']) (by decide)
  have hbb9 := hbz9.trans (hbr.mono hbz9.size)
  have HVr := hide (HV9.out.below hbb9)
  have HIr := hide (HI9.out.below hbb9)
  have HCr := hide (HC9.out.trans (Chg.of_below hbb9))
  have HLr := hide (HL9.out.below hbb9)
  have HMr := hide (HM9.out.below hbb9)
  have HNr := hide (HN9.out.below hbb9)
  have HOr := hide (HO9.out.below hbb9)
  have HRr := hide hcr
  have HGr := hide (show gr ≠ R ∧ gr ≠ G from by have h1 := hbz9.size; have h3 := HI9.out.lt; have h4 := HV9.out.lt; omega)
  have sv := HVr.out.cell 8 _ rfl
  have fv := HVr.out.frozen 8
  refine b_val 7 (some 87) (.slice (some ⟨gr, 0, none⟩) 1 kr) vr (by kernel_rfl) rfl rfl rfl (exec_appendZ (s := .tmp 84) (x := .tmp 86) (t := 77) (v := .slice none 0 0) (q := .slice (some ⟨x9.heap.size, 0, none⟩) 1 1) rfl (by rfl) (by rfl) hrr) (fun _ => ⟨(HVr.out.cell 8 _ rfl), HIr.out⟩) ?_
  try simp only [Act.put, List.setIfInBounds_toArray, List.set_cons_zero, List.set_cons_succ]
  clear hz9 hbz9 hcz9 hrr hcr hgr hbr hbb9
  refine b_take 8 (some 88) (.pointer (some ⟨R, 0, none⟩)) rfl rfl (by kernel_rfl) (by kernel_rfl) (by kernel_rfl) (by kernel_rfl) (by kernel_rfl) (fun _ _ _ h => h) (by rfl) ⟨(HVr.out.cell 8 _ rfl), HIr.out⟩ ?_ ?_
  · intro u hSu
    obtain ⟨sU, tU⟩ := hSu
    have u0 := tU.cell 0 _ rfl
    have u1 := tU.cell 1 _ rfl
    have u2 := tU.cell 2 _ rfl
    have u3 := tU.cell 3 _ rfl
    have u4 := tU.cell 4 _ rfl
    have u5 := tU.cell 5 _ rfl
    go_simp
  try simp only [Act.put, List.setIfInBounds_toArray, List.set_cons_zero, List.set_cons_succ]
  refine b_take 9 (some 89) (.pointer (some ⟨R, 8, none⟩)) rfl rfl (by kernel_rfl) (by kernel_rfl) (by kernel_rfl) (by kernel_rfl) (by kernel_rfl) (fun _ _ _ h => h) (by rfl) ⟨(HVr.out.cell 8 _ rfl), HIr.out⟩ ?_ ?_
  · intro u hSu
    obtain ⟨sU, tU⟩ := hSu
    have u0 := tU.cell 0 _ rfl
    have u1 := tU.cell 1 _ rfl
    have u2 := tU.cell 2 _ rfl
    have u3 := tU.cell 3 _ rfl
    have u4 := tU.cell 4 _ rfl
    have u5 := tU.cell 5 _ rfl
    go_simp
  try simp only [Act.put, List.setIfInBounds_toArray, List.set_cons_zero, List.set_cons_succ]
  refine b_ready (rs := [10]) (by kernel_rfl) (by simp) ?_
  refine AllReadyB.cons (i := 10) rfl (fun K hK => ?_) AllReadyB.nil
  go_simp
  refine hK.out _ _ (fun e => absurd e (by decide)) ?_
  clear hK K
  try simp only [Act.put, List.setIfInBounds_toArray, List.set_cons_zero, List.set_cons_succ]
  clear sv fv
  refine b_done (by kernel_rfl) ?_ _
  obtain ⟨x10, hx10⟩ : ∃ x10, x10 = vr.setCell ⟨R, 8, none⟩ (.slice (some ⟨gr, 0, none⟩) 1 kr) := ⟨_, rfl⟩
  have HV10 := hide (show Blk x10 R (volX s0 (.slice (some ⟨gr, 0, none⟩) 1 kr) (.slice (some ⟨g5, 0, none⟩) 1 k5) (.slice (some ⟨g6, 0, none⟩) 1 k6) .nilIface) 82 by rw [hx10]; exact HVr.out.set 8 _)
  have HI10 := hide (show Blk x10 G #[.int .i64 3, .int .i64 4, .int .i64 5, .int .i64 120, .int .i64 6, .int .i64 1] 41 by rw [hx10]; exact HIr.out.setN HGR.out 8 _)
  have HC10 := hide (show Chg (fun k => R = k ∨ w.heap.size ≤ k) w x10 by rw [hx10]; exact HCr.out.setZ R 8 _ (Or.inl rfl))
  have HL10 := hide (show Lies x10 (some ⟨ga, 0, none⟩) F1 by rw [hx10]; exact HLr.out.setN HGa5.out.2.2 8 _)
  have HM10 := hide (show CellsAt x10 g5 [.slice (some ⟨ga, 0, none⟩) 1024 ca] by rw [hx10]; exact HMr.out.setN HGb5.out.2.2 8 _)
  have HN10 := hide (show Lies x10 (some ⟨gc, 0, none⟩) F2 by rw [hx10]; exact HNr.out.setN HGa6.out.2.2 8 _)
  have HO10 := hide (show CellsAt x10 g6 [.slice (some ⟨gc, 0, none⟩) 1024 cc] by rw [hx10]; exact HOr.out.setN HGb6.out.2.2 8 _)
  have HR10 := hide (show CellsAt x10 gr #[.int .i64 3, .int .i64 4, .int .i64 5, .int .i64 120, .int .i64 6, .int .i64 1].toList by rw [hx10]; exact HRr.out.setN HGr.out.1 8 _)
  rw [← hx10]
  clear hx10
  go_wp2_with fail
  refine b_region (S := (fun u => u.cell? ⟨R, 2, none⟩ = some (.int .i64 0) ∧ u.cell? ⟨G, 3, none⟩ = some (.int .i64 120))) (F := (fun j => decide (j < 9))) (by kernel_rfl) ?_
  refine b_take 0 (some 90) (.pointer (some ⟨R, 0, none⟩)) rfl rfl (by kernel_rfl) (by kernel_rfl) (by kernel_rfl) (by kernel_rfl) (by kernel_rfl) (fun _ _ _ h => h) (by rfl) ⟨(HV10.out.drew.cell 2 _ rfl), (HI10.out.drew.cell 3 _ rfl)⟩ ?_ ?_
  · intro u hSu
    obtain ⟨sU, tU⟩ := hSu
    go_simp
  try simp only [Act.put, List.setIfInBounds_toArray, List.set_cons_zero, List.set_cons_succ]
  refine b_take 1 (some 91) (.pointer (some ⟨R, 0, none⟩)) rfl rfl (by kernel_rfl) (by kernel_rfl) (by kernel_rfl) (by kernel_rfl) (by kernel_rfl) (fun _ _ _ h => h) (by rfl) ⟨(HV10.out.drew.cell 2 _ rfl), (HI10.out.drew.cell 3 _ rfl)⟩ ?_ ?_
  · intro u hSu
    obtain ⟨sU, tU⟩ := hSu
    go_simp
  try simp only [Act.put, List.setIfInBounds_toArray, List.set_cons_zero, List.set_cons_succ]
  refine b_take 2 (some 92) (.pointer (some ⟨R, 0, none⟩)) rfl rfl (by kernel_rfl) (by kernel_rfl) (by kernel_rfl) (by kernel_rfl) (by kernel_rfl) (fun _ _ _ h => h) (by rfl) ⟨(HV10.out.drew.cell 2 _ rfl), (HI10.out.drew.cell 3 _ rfl)⟩ ?_ ?_
  · intro u hSu
    obtain ⟨sU, tU⟩ := hSu
    go_simp
  try simp only [Act.put, List.setIfInBounds_toArray, List.set_cons_zero, List.set_cons_succ]
  refine b_take 3 (some 93) (.pointer (some ⟨R, 2, none⟩)) rfl rfl (by kernel_rfl) (by kernel_rfl) (by kernel_rfl) (by kernel_rfl) (by kernel_rfl) (fun _ _ _ h => h) (by rfl) ⟨(HV10.out.drew.cell 2 _ rfl), (HI10.out.drew.cell 3 _ rfl)⟩ ?_ ?_
  · intro u hSu
    obtain ⟨sU, tU⟩ := hSu
    go_simp
  try simp only [Act.put, List.setIfInBounds_toArray, List.set_cons_zero, List.set_cons_succ]
  refine b_take 4 (some 94) (.int .i64 0) rfl rfl (by kernel_rfl) (by kernel_rfl) (by kernel_rfl) (by kernel_rfl) (by kernel_rfl) (fun _ _ _ h => h) (by rfl) ⟨(HV10.out.drew.cell 2 _ rfl), (HI10.out.drew.cell 3 _ rfl)⟩ ?_ ?_
  · intro u hSu
    obtain ⟨sU, tU⟩ := hSu
    go_simp
  try simp only [Act.put, List.setIfInBounds_toArray, List.set_cons_zero, List.set_cons_succ]
  refine b_take 5 (some 95) (.pointer (some ⟨G, 3, none⟩)) rfl rfl (by kernel_rfl) (by kernel_rfl) (by kernel_rfl) (by kernel_rfl) (by kernel_rfl) (fun _ _ _ h => h) (by rfl) ⟨(HV10.out.drew.cell 2 _ rfl), (HI10.out.drew.cell 3 _ rfl)⟩ ?_ ?_
  · intro u hSu
    obtain ⟨sU, tU⟩ := hSu
    go_simp
  try simp only [Act.put, List.setIfInBounds_toArray, List.set_cons_zero, List.set_cons_succ]
  refine b_take 6 (some 96) (.int .i64 120) rfl rfl (by kernel_rfl) (by kernel_rfl) (by kernel_rfl) (by kernel_rfl) (by kernel_rfl) (fun _ _ _ h => h) (by rfl) ⟨(HV10.out.drew.cell 2 _ rfl), (HI10.out.drew.cell 3 _ rfl)⟩ ?_ ?_
  · intro u hSu
    obtain ⟨sU, tU⟩ := hSu
    go_simp
  try simp only [Act.put, List.setIfInBounds_toArray, List.set_cons_zero, List.set_cons_succ]
  refine b_take 7 (some 97) (.int .i64 120) rfl rfl (by kernel_rfl) (by kernel_rfl) (by kernel_rfl) (by kernel_rfl) (by kernel_rfl) (fun _ _ _ h => h) (by rfl) ⟨(HV10.out.drew.cell 2 _ rfl), (HI10.out.drew.cell 3 _ rfl)⟩ ?_ ?_
  · intro u hSu
    obtain ⟨sU, tU⟩ := hSu
    go_simp
  try simp only [Act.put, List.setIfInBounds_toArray, List.set_cons_zero, List.set_cons_succ]
  refine b_take 8 (some 98) (.pointer (some ⟨R, 0, none⟩)) rfl rfl (by kernel_rfl) (by kernel_rfl) (by kernel_rfl) (by kernel_rfl) (by kernel_rfl) (fun _ _ _ h => h) (by rfl) ⟨(HV10.out.drew.cell 2 _ rfl), (HI10.out.drew.cell 3 _ rfl)⟩ ?_ ?_
  · intro u hSu
    obtain ⟨sU, tU⟩ := hSu
    go_simp
  try simp only [Act.put, List.setIfInBounds_toArray, List.set_cons_zero, List.set_cons_succ]
  refine b_ready (rs := [9]) (by kernel_rfl) (by simp) ?_
  refine AllReadyB.cons (i := 9) rfl (fun K hK => ?_) AllReadyB.nil
  go_simp
  refine hK.out _ _ (fun e => absurd e (by decide)) ?_
  clear hK K
  try simp only [Act.put, List.setIfInBounds_toArray, List.set_cons_zero, List.set_cons_succ]
  refine b_ready (rs := [10]) (by kernel_rfl) (by simp) ?_
  refine AllReadyB.cons (i := 10) rfl (fun K hK => ?_) AllReadyB.nil
  go_simp
  refine hK.out _ _ (fun e => absurd e (by decide)) ?_
  clear hK K
  try simp only [Act.put, List.setIfInBounds_toArray, List.set_cons_zero, List.set_cons_succ]
  have sv := HV10.out.drew.cell 2 _ rfl
  have fv := HV10.out.drew.frozen 2
  refine b_ready (rs := [11]) (by kernel_rfl) (by simp) ?_
  refine AllReadyB.cons (i := 11) rfl (fun K hK => ?_) AllReadyB.nil
  go_simp
  refine hK.out _ _ (fun e => absurd e (by decide)) ?_
  clear hK K
  try simp only [Act.put, List.setIfInBounds_toArray, List.set_cons_zero, List.set_cons_succ]
  clear sv fv
  refine b_done (by kernel_rfl) ?_ _
  obtain ⟨x11, hx11⟩ : ∃ x11, x11 = (x10.setCell ⟨R, 2, none⟩ (.int .i64 120)).drew := ⟨_, rfl⟩
  have HV11 := hide (show Blk x11 R #[.int .i64 16, .int .i64 128, .int .i64 120, .int .i64 0, .int .i64 128, .int .i64 16, .int .i64 11, .bool true, .slice (some ⟨gr, 0, none⟩) 1 kr, .slice (some ⟨g5, 0, none⟩) 1 k5, .slice (some ⟨g6, 0, none⟩) 1 k6, .nilIface] 82 by rw [hx11]; exact (HV10.out.set 2 _).drew)
  have HI11 := hide (show Blk x11 G #[.int .i64 3, .int .i64 4, .int .i64 5, .int .i64 120, .int .i64 6, .int .i64 1] 41 by rw [hx11]; exact (HI10.out.setN HGR.out 2 _).drew)
  have HC11 := hide (show Chg (fun k => R = k ∨ w.heap.size ≤ k) w x11 by rw [hx11]; exact (HC10.out.setZ R 2 _ (Or.inl rfl)).drew)
  have HL11 := hide (show Lies x11 (some ⟨ga, 0, none⟩) F1 by rw [hx11]; exact (HL10.out.setN HGa5.out.2.2 2 _).drew)
  have HM11 := hide (show CellsAt x11 g5 [.slice (some ⟨ga, 0, none⟩) 1024 ca] by rw [hx11]; exact (HM10.out.setN HGb5.out.2.2 2 _).drew)
  have HN11 := hide (show Lies x11 (some ⟨gc, 0, none⟩) F2 by rw [hx11]; exact (HN10.out.setN HGa6.out.2.2 2 _).drew)
  have HO11 := hide (show CellsAt x11 g6 [.slice (some ⟨gc, 0, none⟩) 1024 cc] by rw [hx11]; exact (HO10.out.setN HGb6.out.2.2 2 _).drew)
  have HR11 := hide (show CellsAt x11 gr #[.int .i64 3, .int .i64 4, .int .i64 5, .int .i64 120, .int .i64 6, .int .i64 1].toList by rw [hx11]; exact (HR10.out.setN HGr.out.1 2 _).drew)
  rw [← hx11]
  clear hx11
  go_wp2_with fail
  refine b_region (S := (fun u => u.cell? ⟨R, 3, none⟩ = some (.int .i64 0) ∧ u.cell? ⟨G, 4, none⟩ = some (.int .i64 6))) (F := (fun j => decide (j < 9))) (by kernel_rfl) ?_
  refine b_take 0 (some 101) (.pointer (some ⟨R, 0, none⟩)) rfl rfl (by kernel_rfl) (by kernel_rfl) (by kernel_rfl) (by kernel_rfl) (by kernel_rfl) (fun _ _ _ h => h) (by rfl) ⟨(HV11.out.drew.cell 3 _ rfl), (HI11.out.drew.cell 4 _ rfl)⟩ ?_ ?_
  · intro u hSu
    obtain ⟨sU, tU⟩ := hSu
    go_simp
  try simp only [Act.put, List.setIfInBounds_toArray, List.set_cons_zero, List.set_cons_succ]
  refine b_take 1 (some 102) (.pointer (some ⟨R, 0, none⟩)) rfl rfl (by kernel_rfl) (by kernel_rfl) (by kernel_rfl) (by kernel_rfl) (by kernel_rfl) (fun _ _ _ h => h) (by rfl) ⟨(HV11.out.drew.cell 3 _ rfl), (HI11.out.drew.cell 4 _ rfl)⟩ ?_ ?_
  · intro u hSu
    obtain ⟨sU, tU⟩ := hSu
    go_simp
  try simp only [Act.put, List.setIfInBounds_toArray, List.set_cons_zero, List.set_cons_succ]
  refine b_take 2 (some 103) (.pointer (some ⟨R, 0, none⟩)) rfl rfl (by kernel_rfl) (by kernel_rfl) (by kernel_rfl) (by kernel_rfl) (by kernel_rfl) (fun _ _ _ h => h) (by rfl) ⟨(HV11.out.drew.cell 3 _ rfl), (HI11.out.drew.cell 4 _ rfl)⟩ ?_ ?_
  · intro u hSu
    obtain ⟨sU, tU⟩ := hSu
    go_simp
  try simp only [Act.put, List.setIfInBounds_toArray, List.set_cons_zero, List.set_cons_succ]
  refine b_take 3 (some 104) (.pointer (some ⟨R, 3, none⟩)) rfl rfl (by kernel_rfl) (by kernel_rfl) (by kernel_rfl) (by kernel_rfl) (by kernel_rfl) (fun _ _ _ h => h) (by rfl) ⟨(HV11.out.drew.cell 3 _ rfl), (HI11.out.drew.cell 4 _ rfl)⟩ ?_ ?_
  · intro u hSu
    obtain ⟨sU, tU⟩ := hSu
    go_simp
  try simp only [Act.put, List.setIfInBounds_toArray, List.set_cons_zero, List.set_cons_succ]
  refine b_take 4 (some 105) (.int .i64 0) rfl rfl (by kernel_rfl) (by kernel_rfl) (by kernel_rfl) (by kernel_rfl) (by kernel_rfl) (fun _ _ _ h => h) (by rfl) ⟨(HV11.out.drew.cell 3 _ rfl), (HI11.out.drew.cell 4 _ rfl)⟩ ?_ ?_
  · intro u hSu
    obtain ⟨sU, tU⟩ := hSu
    go_simp
  try simp only [Act.put, List.setIfInBounds_toArray, List.set_cons_zero, List.set_cons_succ]
  refine b_take 5 (some 106) (.pointer (some ⟨G, 4, none⟩)) rfl rfl (by kernel_rfl) (by kernel_rfl) (by kernel_rfl) (by kernel_rfl) (by kernel_rfl) (fun _ _ _ h => h) (by rfl) ⟨(HV11.out.drew.cell 3 _ rfl), (HI11.out.drew.cell 4 _ rfl)⟩ ?_ ?_
  · intro u hSu
    obtain ⟨sU, tU⟩ := hSu
    go_simp
  try simp only [Act.put, List.setIfInBounds_toArray, List.set_cons_zero, List.set_cons_succ]
  refine b_take 6 (some 107) (.int .i64 6) rfl rfl (by kernel_rfl) (by kernel_rfl) (by kernel_rfl) (by kernel_rfl) (by kernel_rfl) (fun _ _ _ h => h) (by rfl) ⟨(HV11.out.drew.cell 3 _ rfl), (HI11.out.drew.cell 4 _ rfl)⟩ ?_ ?_
  · intro u hSu
    obtain ⟨sU, tU⟩ := hSu
    go_simp
  try simp only [Act.put, List.setIfInBounds_toArray, List.set_cons_zero, List.set_cons_succ]
  refine b_take 7 (some 108) (.int .i64 6) rfl rfl (by kernel_rfl) (by kernel_rfl) (by kernel_rfl) (by kernel_rfl) (by kernel_rfl) (fun _ _ _ h => h) (by rfl) ⟨(HV11.out.drew.cell 3 _ rfl), (HI11.out.drew.cell 4 _ rfl)⟩ ?_ ?_
  · intro u hSu
    obtain ⟨sU, tU⟩ := hSu
    go_simp
  try simp only [Act.put, List.setIfInBounds_toArray, List.set_cons_zero, List.set_cons_succ]
  refine b_take 8 (some 109) (.pointer (some ⟨R, 0, none⟩)) rfl rfl (by kernel_rfl) (by kernel_rfl) (by kernel_rfl) (by kernel_rfl) (by kernel_rfl) (fun _ _ _ h => h) (by rfl) ⟨(HV11.out.drew.cell 3 _ rfl), (HI11.out.drew.cell 4 _ rfl)⟩ ?_ ?_
  · intro u hSu
    obtain ⟨sU, tU⟩ := hSu
    go_simp
  try simp only [Act.put, List.setIfInBounds_toArray, List.set_cons_zero, List.set_cons_succ]
  refine b_ready (rs := [9]) (by kernel_rfl) (by simp) ?_
  refine AllReadyB.cons (i := 9) rfl (fun K hK => ?_) AllReadyB.nil
  go_simp
  refine hK.out _ _ (fun e => absurd e (by decide)) ?_
  clear hK K
  try simp only [Act.put, List.setIfInBounds_toArray, List.set_cons_zero, List.set_cons_succ]
  refine b_ready (rs := [10]) (by kernel_rfl) (by simp) ?_
  refine AllReadyB.cons (i := 10) rfl (fun K hK => ?_) AllReadyB.nil
  go_simp
  refine hK.out _ _ (fun e => absurd e (by decide)) ?_
  clear hK K
  try simp only [Act.put, List.setIfInBounds_toArray, List.set_cons_zero, List.set_cons_succ]
  have sv := HV11.out.drew.cell 3 _ rfl
  have fv := HV11.out.drew.frozen 3
  refine b_ready (rs := [11]) (by kernel_rfl) (by simp) ?_
  refine AllReadyB.cons (i := 11) rfl (fun K hK => ?_) AllReadyB.nil
  go_simp
  refine hK.out _ _ (fun e => absurd e (by decide)) ?_
  clear hK K
  try simp only [Act.put, List.setIfInBounds_toArray, List.set_cons_zero, List.set_cons_succ]
  clear sv fv
  refine b_done (by kernel_rfl) ?_ _
  obtain ⟨x12, hx12⟩ : ∃ x12, x12 = (x11.setCell ⟨R, 3, none⟩ (.int .i64 6)).drew := ⟨_, rfl⟩
  have HV12 := hide (show Blk x12 R (volX s1 (.slice (some ⟨gr, 0, none⟩) 1 kr) (.slice (some ⟨g5, 0, none⟩) 1 k5) (.slice (some ⟨g6, 0, none⟩) 1 k6) .nilIface) 82 by rw [hx12]; exact (HV11.out.set 3 _).drew)
  have HI12 := hide (show Blk x12 G #[.int .i64 3, .int .i64 4, .int .i64 5, .int .i64 120, .int .i64 6, .int .i64 1] 41 by rw [hx12]; exact (HI11.out.setN HGR.out 3 _).drew)
  have HC12 := hide (show Chg (fun k => R = k ∨ w.heap.size ≤ k) w x12 by rw [hx12]; exact (HC11.out.setZ R 3 _ (Or.inl rfl)).drew)
  have HL12 := hide (show Lies x12 (some ⟨ga, 0, none⟩) F1 by rw [hx12]; exact (HL11.out.setN HGa5.out.2.2 3 _).drew)
  have HM12 := hide (show CellsAt x12 g5 [.slice (some ⟨ga, 0, none⟩) 1024 ca] by rw [hx12]; exact (HM11.out.setN HGb5.out.2.2 3 _).drew)
  have HN12 := hide (show Lies x12 (some ⟨gc, 0, none⟩) F2 by rw [hx12]; exact (HN11.out.setN HGa6.out.2.2 3 _).drew)
  have HO12 := hide (show CellsAt x12 g6 [.slice (some ⟨gc, 0, none⟩) 1024 cc] by rw [hx12]; exact (HO11.out.setN HGb6.out.2.2 3 _).drew)
  have HR12 := hide (show CellsAt x12 gr #[.int .i64 3, .int .i64 4, .int .i64 5, .int .i64 120, .int .i64 6, .int .i64 1].toList by rw [hx12]; exact (HR11.out.setN HGr.out.1 3 _).drew)
  rw [← hx12]
  clear hx12
  go_wp2_with fail
  exact bodyPost_end (results_none rfl _ _ _) rfl ⟨rfl, ⟨gr, kr, g5, k5, g6, k6, ga, ca, gc, cc, HV12.out, HR12.out, HM12.out, HL12.out, HO12.out, HN12.out⟩, HC12.out⟩
end Go.Proofs.YtjmajjfknmjifaaDoor.Oct
