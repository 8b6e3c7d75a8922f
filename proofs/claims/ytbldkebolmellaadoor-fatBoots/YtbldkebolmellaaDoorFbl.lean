/- FatBoots: where the clusters of a boot begin, how many there are, and whether it is one, is what the document says. -/
import Derived.Test.YtbldkebolmellaaDoorTak
import Derived.Test.YtbldkebolmellaaDoorFfa
import Derived.Test.YtbldkebolmellaaDoorFbo
import Derived.Test.YtbldkebolmellaaDoorFof
import Derived.Test.YtbldkebolmellaaDoorFmd
import Derived.Test.YtbldkebolmellaaDoorRows
import Derived.Test.YtbldkebolmellaaDoorCards
import Derived.Test.YtbldkebolmellaaDoorTie
import Derived.LaidMore
import Derived.Stop.Joined
import Derived.SevenTiedAt
namespace Go.Proofs.YtbldkebolmellaaDoor.Oct
open Go.RowKit Go.ChangeShapes Go.WideShapes Go.ChangeAt

set_option maxHeartbeats 16000000 in
set_option maxRecDepth 100000 in
theorem boots_walk (b : Bt) (n : Int) (w : World) (hV : Vars w) :
    Calls Tryd.prog 3 #[.agg b.cs, .int .i64 n] w fun e w' => e = .returned (.bool true) ∧ Below w.heap.size w w' := by
  obtain ⟨w1, hw1⟩ : ∃ w1, w1 = w.alloc (.cells b.cs 23) := ⟨_, rfl⟩
  have hb1 : Below w.heap.size w w1 := by rw [hw1]; exact (Below.refl _ _).alloc (Nat.le_refl _) _
  have HI := hide (show Blk w1 w.heap.size b.cs 23 by rw [hw1]; exact Blk.new _ _ _)
  have HW1 := hide hw1
  have HB := hide hb1
  have HV := hide (hV.below hb1)
  have HFa := fun u => hide (far_any b u)
  have hc0 := cells_of (Blk.new w b.cs 23)
  obtain ⟨k0, k1, k2, k3, k4, k5, k6, k7⟩ := hc0
  clear hV hw1 hb1
  go_enter Tryd.func3, Tryd.ntmps3
  go_wp2_with fail
  rw [← HW1.out]
  clear k0 k1 k2 k3 k4 k5 k6 k7
  refine (HFa _).out.mono ?_
  rintro e9 w2 ⟨⟨r, rfl, hr⟩, hb2⟩
  have HI := hide (HI.out.below hb2)
  have HV := hide (HV.out.below hb2)
  have HB := hide (HB.out.trans (hb2.mono HB.out.size))
  have HM := fun u h => hide (made_any u h)
  have HR := hide hr
  clear hb2 HFa hr HW1
  cases r
  rotate_left
  · go_wp2_with fail
    refine (HM _ HV.out).out.mono ?_
    rintro e9 w3 ⟨rfl, hb3⟩
    have HB := hide (HB.out.trans (hb3.mono HB.out.size))
    clear hb3
    go_wp2_with fail
    go_ret
    exact ⟨rfl, HB.out⟩
  by_cases p0 : 1073741824 < n
  · have q0 : decide (1073741824 < n) = true := by simpa using p0
    clear p0
    go_wp2_with fail
    refine (HM _ HV.out).out.mono ?_
    rintro e9 w3 ⟨rfl, hb3⟩
    have HB := hide (HB.out.trans (hb3.mono HB.out.size))
    clear hb3
    go_wp2_with fail
    go_ret
    exact ⟨rfl, HB.out⟩
  have q0 : decide (1073741824 < n) = false := by simpa using p0
  by_cases p1 : n < -1073741824
  · have q1 : decide (n < -1073741824) = true := by simpa using p1
    clear p0 p1
    go_wp2_with fail
    refine (HM _ HV.out).out.mono ?_
    rintro e9 w3 ⟨rfl, hb3⟩
    have HB := hide (HB.out.trans (hb3.mono HB.out.size))
    clear hb3
    go_wp2_with fail
    go_ret
    exact ⟨rfl, HB.out⟩
  have q1 : decide (n < -1073741824) = false := by simpa using p1
  have hs := HR.out rfl
  have hn := Bt.some_near hs
  have hse := hs.2.2.2.2.2.2.2
  have HOf := fun u => hide (of_any b u)
  have HD := fun u => hide (data_any b u hn)
  have HRd := fun u => hide (rdata_any b u hn)
  have HCl := fun u => hide (clus_any b u hn)
  have HRc := fun u => hide (rclus_any b u hn)
  have HU := fun u => hide (unit_any b u (by omega))
  have HA := fun u => hide (at_far b n u hn hse (by omega))
  have HRa := fun u => hide (rat_far b n u hn hse (by omega))
  have HCk := fun u => hide (check_any b u)
  have HRk := fun u => hide (rchk_any b u)
  have hm : IntKind.i64.wrap (512 * b.each) = 512 * b.each := by rw [IntKind.wrap_i64]; omega
  generalize IntKind.i64.wrap (b.atW n + 512 * b.each) = Y at *
  generalize b.atW n = G at *
  generalize b.chk = ck at *
  clear p0 p1 hs hn hse HR
  obtain ⟨k0, k1, k2, k3, k4, k5, k6, k7⟩ := cells_of HI.out
  go_wp2_with fail
  clear k0 k1 k2 k3 k4 k5 k6 k7
  refine (HOf _).out.mono ?_
  rintro e9 w3 ⟨rfl, hb3⟩
  obtain ⟨w4, hw4⟩ : ∃ w4, w4 = w3.alloc (.cells b.cs 26) := ⟨_, rfl⟩
  have hb4 : Below w3.heap.size w3 w4 := by rw [hw4]; exact (Below.refl _ _).alloc (Nat.le_refl _) _
  have HI := hide ((HI.out.below hb3).below hb4)
  have HJ := hide (show Blk w4 w3.heap.size b.cs 26 by rw [hw4]; exact Blk.new _ _ _)
  have HV := hide ((HV.out.below hb3).below hb4)
  have HB := hide ((HB.out.trans (hb3.mono HB.out.size)).trans (hb4.mono (HB.out.trans (hb3.mono HB.out.size)).size))
  have HW4 := hide hw4
  clear hb3 hb4 hw4 HOf
  go_wp2_with fail
  rw [← HW4.out]
  have HM := HM w4.drew (HV.out.below (Below.refl w4.heap.size w4).drew)
  have HI := hide HI.out.drew
  have HJ := hide HJ.out.drew
  have HB := hide HB.out.drew
  refine wp_region_held_drew (S := (fun u => (u.cell? ⟨w.heap.size, 0, none⟩ = some (.int .i64 b.each) ∧ u.cell? ⟨w.heap.size, 1, none⟩ = some (.int .i64 b.ahead) ∧ u.cell? ⟨w.heap.size, 2, none⟩ = some (.int .i64 b.tabs) ∧ u.cell? ⟨w.heap.size, 3, none⟩ = some (.int .i64 b.secs) ∧ u.cell? ⟨w.heap.size, 4, none⟩ = some (.int .i64 b.long) ∧ u.cell? ⟨w.heap.size, 5, none⟩ = some (.int .i64 b.root) ∧ u.cell? ⟨w.heap.size, 6, none⟩ = some (.int .i64 b.info) ∧ u.cell? ⟨w.heap.size, 7, none⟩ = some (.int .i64 b.copy)) ∧ (u.cell? ⟨w3.heap.size, 0, none⟩ = some (.int .i64 b.each) ∧ u.cell? ⟨w3.heap.size, 1, none⟩ = some (.int .i64 b.ahead) ∧ u.cell? ⟨w3.heap.size, 2, none⟩ = some (.int .i64 b.tabs) ∧ u.cell? ⟨w3.heap.size, 3, none⟩ = some (.int .i64 b.secs) ∧ u.cell? ⟨w3.heap.size, 4, none⟩ = some (.int .i64 b.long) ∧ u.cell? ⟨w3.heap.size, 5, none⟩ = some (.int .i64 b.root) ∧ u.cell? ⟨w3.heap.size, 6, none⟩ = some (.int .i64 b.info) ∧ u.cell? ⟨w3.heap.size, 7, none⟩ = some (.int .i64 b.copy)))) (by kernel_rfl) ⟨cells_of HI.out, cells_of HJ.out⟩ (fun _ => ?_)
  refine wpAnyH_ready (rs := [0]) (by kernel_rfl) (by simp) ?_
  refine AllReadyH.cons (i := 0) rfl (fun K hK => ?_) AllReadyH.nil
  go_simp
  refine (HM.out).mono ?_
  rintro e9 w8 ⟨rfl, hb8⟩
  have HI := hide (HI.out.below hb8)
  have HJ := hide (HJ.out.below hb8)
  have HB := hide (HB.out.trans (hb8.mono HB.out.size))
  clear hb8
  go_simp
  refine hK.out _ _ ⟨cells_of HI.out, cells_of HJ.out⟩ (fun _ => ?_)
  clear hK K
  try simp only [Act.put, List.setIfInBounds_toArray, List.set_cons_zero, List.set_cons_succ]
  refine any_take 1 (some 20) (.bool true) rfl rfl (by kernel_rfl) (by kernel_rfl) (by kernel_rfl) (fun _ _ _ h => h) (by rfl) ⟨cells_of HI.out, cells_of HJ.out⟩ ?_ ?_
  · intro w hSw
    obtain ⟨⟨s0, s1, s2, s3, s4, s5, s6, s7⟩, ⟨t0, t1, t2, t3, t4, t5, t6, t7⟩⟩ := hSw
    go_simp
  simp only [Act.put, List.setIfInBounds_toArray, List.set_cons_zero, List.set_cons_succ]
  refine any_take 2 (some 21) (.agg b.cs) rfl rfl (by kernel_rfl) (by kernel_rfl) (by kernel_rfl) (fun _ _ _ h => h) (by rfl) ⟨cells_of HI.out, cells_of HJ.out⟩ ?_ ?_
  · intro w hSw
    obtain ⟨⟨s0, s1, s2, s3, s4, s5, s6, s7⟩, ⟨t0, t1, t2, t3, t4, t5, t6, t7⟩⟩ := hSw
    go_simp
  simp only [Act.put, List.setIfInBounds_toArray, List.set_cons_zero, List.set_cons_succ]
  refine any_take 4 (some 23) (.agg b.cs) rfl rfl (by kernel_rfl) (by kernel_rfl) (by kernel_rfl) (fun _ _ _ h => h) (by rfl) ⟨cells_of HI.out, cells_of HJ.out⟩ ?_ ?_
  · intro w hSw
    obtain ⟨⟨s0, s1, s2, s3, s4, s5, s6, s7⟩, ⟨t0, t1, t2, t3, t4, t5, t6, t7⟩⟩ := hSw
    go_simp
  simp only [Act.put, List.setIfInBounds_toArray, List.set_cons_zero, List.set_cons_succ]
  refine wpAnyH_ready (rs := [3]) (by kernel_rfl) (by simp) ?_
  refine AllReadyH.cons (i := 3) rfl (fun K hK => ?_) AllReadyH.nil
  go_simp
  refine ((HD _).out).mono ?_
  rintro e9 w8 ⟨rfl, hb8⟩
  have HI := hide (HI.out.below hb8)
  have HJ := hide (HJ.out.below hb8)
  have HB := hide (HB.out.trans (hb8.mono HB.out.size))
  clear hb8
  go_simp
  refine hK.out _ _ ⟨cells_of HI.out, cells_of HJ.out⟩ (fun _ => ?_)
  clear hK K
  try simp only [Act.put, List.setIfInBounds_toArray, List.set_cons_zero, List.set_cons_succ]
  refine wpAnyH_ready (rs := [5]) (by kernel_rfl) (by simp) ?_
  refine AllReadyH.cons (i := 5) rfl (fun K hK => ?_) AllReadyH.nil
  go_simp
  refine ((HRd _).out).mono ?_
  rintro e9 w8 ⟨rfl, hb8⟩
  have HI := hide (HI.out.below hb8)
  have HJ := hide (HJ.out.below hb8)
  have HB := hide (HB.out.trans (hb8.mono HB.out.size))
  clear hb8
  go_simp
  refine hK.out _ _ ⟨cells_of HI.out, cells_of HJ.out⟩ (fun _ => ?_)
  clear hK K
  try simp only [Act.put, List.setIfInBounds_toArray, List.set_cons_zero, List.set_cons_succ]
  refine any_take 6 (some 25) (.bool true) rfl rfl (by kernel_rfl) (by kernel_rfl) (by kernel_rfl) (fun _ _ _ h => h) (by rfl) ⟨cells_of HI.out, cells_of HJ.out⟩ ?_ ?_
  · intro w hSw
    obtain ⟨⟨s0, s1, s2, s3, s4, s5, s6, s7⟩, ⟨t0, t1, t2, t3, t4, t5, t6, t7⟩⟩ := hSw
    go_simp
  simp only [Act.put, List.setIfInBounds_toArray, List.set_cons_zero, List.set_cons_succ]
  refine any_take 7 (some 26) (.bool true) rfl rfl (by kernel_rfl) (by kernel_rfl) (by kernel_rfl) (fun _ _ _ h => h) (by rfl) ⟨cells_of HI.out, cells_of HJ.out⟩ ?_ ?_
  · intro w hSw
    obtain ⟨⟨s0, s1, s2, s3, s4, s5, s6, s7⟩, ⟨t0, t1, t2, t3, t4, t5, t6, t7⟩⟩ := hSw
    go_simp
  simp only [Act.put, List.setIfInBounds_toArray, List.set_cons_zero, List.set_cons_succ]
  refine any_take 8 (some 27) (.bool true) rfl rfl (by kernel_rfl) (by kernel_rfl) (by kernel_rfl) (fun _ _ _ h => h) (by rfl) ⟨cells_of HI.out, cells_of HJ.out⟩ ?_ ?_
  · intro w hSw
    obtain ⟨⟨s0, s1, s2, s3, s4, s5, s6, s7⟩, ⟨t0, t1, t2, t3, t4, t5, t6, t7⟩⟩ := hSw
    go_simp
  simp only [Act.put, List.setIfInBounds_toArray, List.set_cons_zero, List.set_cons_succ]
  refine any_take 9 (some 28) (.agg b.cs) rfl rfl (by kernel_rfl) (by kernel_rfl) (by kernel_rfl) (fun _ _ _ h => h) (by rfl) ⟨cells_of HI.out, cells_of HJ.out⟩ ?_ ?_
  · intro w hSw
    obtain ⟨⟨s0, s1, s2, s3, s4, s5, s6, s7⟩, ⟨t0, t1, t2, t3, t4, t5, t6, t7⟩⟩ := hSw
    go_simp
  simp only [Act.put, List.setIfInBounds_toArray, List.set_cons_zero, List.set_cons_succ]
  refine any_take 11 (some 30) (.agg b.cs) rfl rfl (by kernel_rfl) (by kernel_rfl) (by kernel_rfl) (fun _ _ _ h => h) (by rfl) ⟨cells_of HI.out, cells_of HJ.out⟩ ?_ ?_
  · intro w hSw
    obtain ⟨⟨s0, s1, s2, s3, s4, s5, s6, s7⟩, ⟨t0, t1, t2, t3, t4, t5, t6, t7⟩⟩ := hSw
    go_simp
  simp only [Act.put, List.setIfInBounds_toArray, List.set_cons_zero, List.set_cons_succ]
  refine wpAnyH_ready (rs := [10]) (by kernel_rfl) (by simp) ?_
  refine AllReadyH.cons (i := 10) rfl (fun K hK => ?_) AllReadyH.nil
  go_simp
  refine ((HCl _).out).mono ?_
  rintro e9 w8 ⟨rfl, hb8⟩
  have HI := hide (HI.out.below hb8)
  have HJ := hide (HJ.out.below hb8)
  have HB := hide (HB.out.trans (hb8.mono HB.out.size))
  clear hb8
  go_simp
  refine hK.out _ _ ⟨cells_of HI.out, cells_of HJ.out⟩ (fun _ => ?_)
  clear hK K
  try simp only [Act.put, List.setIfInBounds_toArray, List.set_cons_zero, List.set_cons_succ]
  refine wpAnyH_ready (rs := [12]) (by kernel_rfl) (by simp) ?_
  refine AllReadyH.cons (i := 12) rfl (fun K hK => ?_) AllReadyH.nil
  go_simp
  refine ((HRc _).out).mono ?_
  rintro e9 w8 ⟨rfl, hb8⟩
  have HI := hide (HI.out.below hb8)
  have HJ := hide (HJ.out.below hb8)
  have HB := hide (HB.out.trans (hb8.mono HB.out.size))
  clear hb8
  go_simp
  refine hK.out _ _ ⟨cells_of HI.out, cells_of HJ.out⟩ (fun _ => ?_)
  clear hK K
  try simp only [Act.put, List.setIfInBounds_toArray, List.set_cons_zero, List.set_cons_succ]
  refine any_take 13 (some 32) (.bool true) rfl rfl (by kernel_rfl) (by kernel_rfl) (by kernel_rfl) (fun _ _ _ h => h) (by rfl) ⟨cells_of HI.out, cells_of HJ.out⟩ ?_ ?_
  · intro w hSw
    obtain ⟨⟨s0, s1, s2, s3, s4, s5, s6, s7⟩, ⟨t0, t1, t2, t3, t4, t5, t6, t7⟩⟩ := hSw
    go_simp
  simp only [Act.put, List.setIfInBounds_toArray, List.set_cons_zero, List.set_cons_succ]
  refine any_take 14 (some 33) (.bool true) rfl rfl (by kernel_rfl) (by kernel_rfl) (by kernel_rfl) (fun _ _ _ h => h) (by rfl) ⟨cells_of HI.out, cells_of HJ.out⟩ ?_ ?_
  · intro w hSw
    obtain ⟨⟨s0, s1, s2, s3, s4, s5, s6, s7⟩, ⟨t0, t1, t2, t3, t4, t5, t6, t7⟩⟩ := hSw
    go_simp
  simp only [Act.put, List.setIfInBounds_toArray, List.set_cons_zero, List.set_cons_succ]
  refine any_take 15 (some 34) (.bool true) rfl rfl (by kernel_rfl) (by kernel_rfl) (by kernel_rfl) (fun _ _ _ h => h) (by rfl) ⟨cells_of HI.out, cells_of HJ.out⟩ ?_ ?_
  · intro w hSw
    obtain ⟨⟨s0, s1, s2, s3, s4, s5, s6, s7⟩, ⟨t0, t1, t2, t3, t4, t5, t6, t7⟩⟩ := hSw
    go_simp
  simp only [Act.put, List.setIfInBounds_toArray, List.set_cons_zero, List.set_cons_succ]
  refine any_take 16 (some 35) (.agg b.cs) rfl rfl (by kernel_rfl) (by kernel_rfl) (by kernel_rfl) (fun _ _ _ h => h) (by rfl) ⟨cells_of HI.out, cells_of HJ.out⟩ ?_ ?_
  · intro w hSw
    obtain ⟨⟨s0, s1, s2, s3, s4, s5, s6, s7⟩, ⟨t0, t1, t2, t3, t4, t5, t6, t7⟩⟩ := hSw
    go_simp
  simp only [Act.put, List.setIfInBounds_toArray, List.set_cons_zero, List.set_cons_succ]
  refine any_take 18 (some 37) (.pointer (some ⟨w.heap.size, 0, none⟩)) rfl rfl (by kernel_rfl) (by kernel_rfl) (by kernel_rfl) (fun _ _ _ h => h) (by rfl) ⟨cells_of HI.out, cells_of HJ.out⟩ ?_ ?_
  · intro w hSw
    obtain ⟨⟨s0, s1, s2, s3, s4, s5, s6, s7⟩, ⟨t0, t1, t2, t3, t4, t5, t6, t7⟩⟩ := hSw
    go_simp
  simp only [Act.put, List.setIfInBounds_toArray, List.set_cons_zero, List.set_cons_succ]
  refine any_take 19 (some 38) (.int .i64 b.each) rfl rfl (by kernel_rfl) (by kernel_rfl) (by kernel_rfl) (fun _ _ _ h => h) (by rfl) ⟨cells_of HI.out, cells_of HJ.out⟩ ?_ ?_
  · intro w hSw
    obtain ⟨⟨s0, s1, s2, s3, s4, s5, s6, s7⟩, ⟨t0, t1, t2, t3, t4, t5, t6, t7⟩⟩ := hSw
    go_simp
  simp only [Act.put, List.setIfInBounds_toArray, List.set_cons_zero, List.set_cons_succ]
  refine any_take 20 (some 39) (.int .i64 (512 * b.each)) rfl rfl (by kernel_rfl) (by kernel_rfl) (by kernel_rfl) (fun _ _ _ h => h) (by rfl) ⟨cells_of HI.out, cells_of HJ.out⟩ ?_ ?_
  · intro w hSw
    obtain ⟨⟨s0, s1, s2, s3, s4, s5, s6, s7⟩, ⟨t0, t1, t2, t3, t4, t5, t6, t7⟩⟩ := hSw
    go_simp
  simp only [Act.put, List.setIfInBounds_toArray, List.set_cons_zero, List.set_cons_succ]
  refine wpAnyH_ready (rs := [17]) (by kernel_rfl) (by simp) ?_
  refine AllReadyH.cons (i := 17) rfl (fun K hK => ?_) AllReadyH.nil
  go_simp
  refine ((HU _).out).mono ?_
  rintro e9 w8 ⟨rfl, hb8⟩
  have HI := hide (HI.out.below hb8)
  have HJ := hide (HJ.out.below hb8)
  have HB := hide (HB.out.trans (hb8.mono HB.out.size))
  clear hb8
  go_simp
  refine hK.out _ _ ⟨cells_of HI.out, cells_of HJ.out⟩ (fun _ => ?_)
  clear hK K
  try simp only [Act.put, List.setIfInBounds_toArray, List.set_cons_zero, List.set_cons_succ]
  refine any_take 21 (some 40) (.bool true) rfl rfl (by kernel_rfl) (by kernel_rfl) (by kernel_rfl) (fun _ _ _ h => h) (by rfl) ⟨cells_of HI.out, cells_of HJ.out⟩ ?_ ?_
  · intro w hSw
    obtain ⟨⟨s0, s1, s2, s3, s4, s5, s6, s7⟩, ⟨t0, t1, t2, t3, t4, t5, t6, t7⟩⟩ := hSw
    go_simp
  simp only [Act.put, List.setIfInBounds_toArray, List.set_cons_zero, List.set_cons_succ]
  refine any_take 22 (some 41) (.bool true) rfl rfl (by kernel_rfl) (by kernel_rfl) (by kernel_rfl) (fun _ _ _ h => h) (by rfl) ⟨cells_of HI.out, cells_of HJ.out⟩ ?_ ?_
  · intro w hSw
    obtain ⟨⟨s0, s1, s2, s3, s4, s5, s6, s7⟩, ⟨t0, t1, t2, t3, t4, t5, t6, t7⟩⟩ := hSw
    go_simp
  simp only [Act.put, List.setIfInBounds_toArray, List.set_cons_zero, List.set_cons_succ]
  refine any_take 23 (some 42) (.bool true) rfl rfl (by kernel_rfl) (by kernel_rfl) (by kernel_rfl) (fun _ _ _ h => h) (by rfl) ⟨cells_of HI.out, cells_of HJ.out⟩ ?_ ?_
  · intro w hSw
    obtain ⟨⟨s0, s1, s2, s3, s4, s5, s6, s7⟩, ⟨t0, t1, t2, t3, t4, t5, t6, t7⟩⟩ := hSw
    go_simp
  simp only [Act.put, List.setIfInBounds_toArray, List.set_cons_zero, List.set_cons_succ]
  refine any_take 24 (some 43) (.agg b.cs) rfl rfl (by kernel_rfl) (by kernel_rfl) (by kernel_rfl) (fun _ _ _ h => h) (by rfl) ⟨cells_of HI.out, cells_of HJ.out⟩ ?_ ?_
  · intro w hSw
    obtain ⟨⟨s0, s1, s2, s3, s4, s5, s6, s7⟩, ⟨t0, t1, t2, t3, t4, t5, t6, t7⟩⟩ := hSw
    go_simp
  simp only [Act.put, List.setIfInBounds_toArray, List.set_cons_zero, List.set_cons_succ]
  refine any_take 25 (some 44) (.int .i64 n) rfl rfl (by kernel_rfl) (by kernel_rfl) (by kernel_rfl) (fun _ _ _ h => h) (by rfl) ⟨cells_of HI.out, cells_of HJ.out⟩ ?_ ?_
  · intro w hSw
    obtain ⟨⟨s0, s1, s2, s3, s4, s5, s6, s7⟩, ⟨t0, t1, t2, t3, t4, t5, t6, t7⟩⟩ := hSw
    go_simp
  simp only [Act.put, List.setIfInBounds_toArray, List.set_cons_zero, List.set_cons_succ]
  refine any_take 27 (some 46) (.agg b.cs) rfl rfl (by kernel_rfl) (by kernel_rfl) (by kernel_rfl) (fun _ _ _ h => h) (by rfl) ⟨cells_of HI.out, cells_of HJ.out⟩ ?_ ?_
  · intro w hSw
    obtain ⟨⟨s0, s1, s2, s3, s4, s5, s6, s7⟩, ⟨t0, t1, t2, t3, t4, t5, t6, t7⟩⟩ := hSw
    go_simp
  simp only [Act.put, List.setIfInBounds_toArray, List.set_cons_zero, List.set_cons_succ]
  refine any_take 28 (some 47) (.int .i64 n) rfl rfl (by kernel_rfl) (by kernel_rfl) (by kernel_rfl) (fun _ _ _ h => h) (by rfl) ⟨cells_of HI.out, cells_of HJ.out⟩ ?_ ?_
  · intro w hSw
    obtain ⟨⟨s0, s1, s2, s3, s4, s5, s6, s7⟩, ⟨t0, t1, t2, t3, t4, t5, t6, t7⟩⟩ := hSw
    go_simp
  simp only [Act.put, List.setIfInBounds_toArray, List.set_cons_zero, List.set_cons_succ]
  refine wpAnyH_ready (rs := [26]) (by kernel_rfl) (by simp) ?_
  refine AllReadyH.cons (i := 26) rfl (fun K hK => ?_) AllReadyH.nil
  go_simp
  refine ((HA _).out).mono ?_
  rintro e9 w8 ⟨rfl, hb8⟩
  have HI := hide (HI.out.below hb8)
  have HJ := hide (HJ.out.below hb8)
  have HB := hide (HB.out.trans (hb8.mono HB.out.size))
  clear hb8
  go_simp
  refine hK.out _ _ ⟨cells_of HI.out, cells_of HJ.out⟩ (fun _ => ?_)
  clear hK K
  try simp only [Act.put, List.setIfInBounds_toArray, List.set_cons_zero, List.set_cons_succ]
  refine wpAnyH_ready (rs := [29]) (by kernel_rfl) (by simp) ?_
  refine AllReadyH.cons (i := 29) rfl (fun K hK => ?_) AllReadyH.nil
  go_simp
  refine ((HRa _).out).mono ?_
  rintro e9 w8 ⟨rfl, hb8⟩
  have HI := hide (HI.out.below hb8)
  have HJ := hide (HJ.out.below hb8)
  have HB := hide (HB.out.trans (hb8.mono HB.out.size))
  clear hb8
  go_simp
  refine hK.out _ _ ⟨cells_of HI.out, cells_of HJ.out⟩ (fun _ => ?_)
  clear hK K
  try simp only [Act.put, List.setIfInBounds_toArray, List.set_cons_zero, List.set_cons_succ]
  refine any_take 30 (some 49) (.bool true) rfl rfl (by kernel_rfl) (by kernel_rfl) (by kernel_rfl) (fun _ _ _ h => h) (by rfl) ⟨cells_of HI.out, cells_of HJ.out⟩ ?_ ?_
  · intro w hSw
    obtain ⟨⟨s0, s1, s2, s3, s4, s5, s6, s7⟩, ⟨t0, t1, t2, t3, t4, t5, t6, t7⟩⟩ := hSw
    go_simp
  simp only [Act.put, List.setIfInBounds_toArray, List.set_cons_zero, List.set_cons_succ]
  refine any_take 31 (some 50) (.bool true) rfl rfl (by kernel_rfl) (by kernel_rfl) (by kernel_rfl) (fun _ _ _ h => h) (by rfl) ⟨cells_of HI.out, cells_of HJ.out⟩ ?_ ?_
  · intro w hSw
    obtain ⟨⟨s0, s1, s2, s3, s4, s5, s6, s7⟩, ⟨t0, t1, t2, t3, t4, t5, t6, t7⟩⟩ := hSw
    go_simp
  simp only [Act.put, List.setIfInBounds_toArray, List.set_cons_zero, List.set_cons_succ]
  refine any_take 32 (some 51) (.bool true) rfl rfl (by kernel_rfl) (by kernel_rfl) (by kernel_rfl) (fun _ _ _ h => h) (by rfl) ⟨cells_of HI.out, cells_of HJ.out⟩ ?_ ?_
  · intro w hSw
    obtain ⟨⟨s0, s1, s2, s3, s4, s5, s6, s7⟩, ⟨t0, t1, t2, t3, t4, t5, t6, t7⟩⟩ := hSw
    go_simp
  simp only [Act.put, List.setIfInBounds_toArray, List.set_cons_zero, List.set_cons_succ]
  refine any_take 33 (some 52) (.agg b.cs) rfl rfl (by kernel_rfl) (by kernel_rfl) (by kernel_rfl) (fun _ _ _ h => h) (by rfl) ⟨cells_of HI.out, cells_of HJ.out⟩ ?_ ?_
  · intro w hSw
    obtain ⟨⟨s0, s1, s2, s3, s4, s5, s6, s7⟩, ⟨t0, t1, t2, t3, t4, t5, t6, t7⟩⟩ := hSw
    go_simp
  simp only [Act.put, List.setIfInBounds_toArray, List.set_cons_zero, List.set_cons_succ]
  refine any_take 35 (some 54) (.agg b.cs) rfl rfl (by kernel_rfl) (by kernel_rfl) (by kernel_rfl) (fun _ _ _ h => h) (by rfl) ⟨cells_of HI.out, cells_of HJ.out⟩ ?_ ?_
  · intro w hSw
    obtain ⟨⟨s0, s1, s2, s3, s4, s5, s6, s7⟩, ⟨t0, t1, t2, t3, t4, t5, t6, t7⟩⟩ := hSw
    go_simp
  simp only [Act.put, List.setIfInBounds_toArray, List.set_cons_zero, List.set_cons_succ]
  refine wpAnyH_ready (rs := [34]) (by kernel_rfl) (by simp) ?_
  refine AllReadyH.cons (i := 34) rfl (fun K hK => ?_) AllReadyH.nil
  go_simp
  refine ((HCk _).out).mono ?_
  rintro e9 w8 ⟨rfl, hb8⟩
  have HI := hide (HI.out.below hb8)
  have HJ := hide (HJ.out.below hb8)
  have HB := hide (HB.out.trans (hb8.mono HB.out.size))
  clear hb8
  go_simp
  refine hK.out _ _ ⟨cells_of HI.out, cells_of HJ.out⟩ (fun _ => ?_)
  clear hK K
  try simp only [Act.put, List.setIfInBounds_toArray, List.set_cons_zero, List.set_cons_succ]
  refine wpAnyH_ready (rs := [36]) (by kernel_rfl) (by simp) ?_
  refine AllReadyH.cons (i := 36) rfl (fun K hK => ?_) AllReadyH.nil
  go_simp
  refine ((HRk _).out).mono ?_
  rintro e9 w8 ⟨rfl, hb8⟩
  have HI := hide (HI.out.below hb8)
  have HJ := hide (HJ.out.below hb8)
  have HB := hide (HB.out.trans (hb8.mono HB.out.size))
  clear hb8
  go_simp
  refine hK.out _ _ ⟨cells_of HI.out, cells_of HJ.out⟩ (fun _ => ?_)
  clear hK K
  try simp only [Act.put, List.setIfInBounds_toArray, List.set_cons_zero, List.set_cons_succ]
  refine any_take 37 (some 56) (.bool true) rfl rfl (by kernel_rfl) (by kernel_rfl) (by kernel_rfl) (fun _ _ _ h => h) (by rfl) ⟨cells_of HI.out, cells_of HJ.out⟩ ?_ ?_
  · intro w hSw
    obtain ⟨⟨s0, s1, s2, s3, s4, s5, s6, s7⟩, ⟨t0, t1, t2, t3, t4, t5, t6, t7⟩⟩ := hSw
    go_simp
  simp only [Act.put, List.setIfInBounds_toArray, List.set_cons_zero, List.set_cons_succ]
  refine any_take 38 (some 57) (.bool true) rfl rfl (by kernel_rfl) (by kernel_rfl) (by kernel_rfl) (fun _ _ _ h => h) (by rfl) ⟨cells_of HI.out, cells_of HJ.out⟩ ?_ ?_
  · intro w hSw
    obtain ⟨⟨s0, s1, s2, s3, s4, s5, s6, s7⟩, ⟨t0, t1, t2, t3, t4, t5, t6, t7⟩⟩ := hSw
    go_simp
  simp only [Act.put, List.setIfInBounds_toArray, List.set_cons_zero, List.set_cons_succ]
  refine any_take 39 (some 4) (.bool true) rfl rfl (by kernel_rfl) (by kernel_rfl) (by kernel_rfl) (fun _ _ _ h => h) (by rfl) ⟨cells_of HI.out, cells_of HJ.out⟩ ?_ ?_
  · intro w hSw
    obtain ⟨⟨s0, s1, s2, s3, s4, s5, s6, s7⟩, ⟨t0, t1, t2, t3, t4, t5, t6, t7⟩⟩ := hSw
    go_simp
  simp only [Act.put, List.setIfInBounds_toArray, List.set_cons_zero, List.set_cons_succ]
  refine wpAnyH_done (by kernel_rfl) ?_ _
  go_wp2_with fail
  go_ret
  exact ⟨rfl, HB.out⟩

set_option maxRecDepth 100000 in
theorem fatBoots_door (os : Os) (args : Array Value) : laidMetH Tryd.prog Rows.fatBootsRow.laid ((World.doorLaid Tryd.prog 400 os).forCall (fun _ _ => 0) ⟨#[], args, []⟩).memory :=
  laidMetH_of_parts3 (fuel := 8) (laidMet_of_run' 8 (by kernel_rfl) (by kernel_rfl)) (by kernel_rfl) (by kernel_rfl)

set_option maxRecDepth 100000 in
theorem fatBoots_lifted (os : Os) (started : os.Started) (H : Type) (enc : TypeId × Value → H) :
    ReturnsInHanded {} Tryd.checked os 3 .any (fun w args => (Rows.fatBootsSpec.pre enc Tryd.prog Tryd.f3 [] false w args ∧ laidMetH Tryd.prog Rows.fatBootsRow.laid w) ∧ sizedMet enc Tryd.prog Tryd.f3 (OpenSpec.ofChange Rows.fatBootsSpec) false w args) (Rows.fatBootsSpec.post enc Tryd.prog Tryd.f3 false true false false) := by
  refine returnsInHanded_of_change_and (C := Tryd.checked) (X := (fun w _ => laidMetH Tryd.prog Rows.fatBootsRow.laid w)) (fun _ _ _ hh h => h.of_heap hh) own started (by kernel_rfl) Tryd.func3
    (ChangeSpec.witness_shaped (enc := enc) (C := Tryd.checked) (os := os) (X := (fun w _ => laidMetH Tryd.prog Rows.fatBootsRow.laid w)) false (World.doorLaid Tryd.prog 400 os) #[.agg #[.int .i64 0, .int .i64 0, .int .i64 0, .int .i64 0, .int .i64 0, .int .i64 0, .int .i64 0, .int .i64 0], .int .i64 0] 8 rfl (World.shaped_of_RefB (by kernel_rfl) (by kernel_rfl)) (by kernel_rfl) (by kernel_rfl) (by kernel_rfl) (fatBoots_door os _)) ?_
  intro W base args ds gs before hval0 hW _ hsz0 hL _
  have hval : ∀ (j : Nat) t v, Tryd.f3.params[j]? = some t → args[j]? = some v → Value.okWide Tryd.prog W .any base t v := hval0
  have hW' := hW
  obtain ⟨p, q, hA0, hV, rfl, hfz, hnd⟩ := hW
  have hA : DataW.TrodAll enc Tryd.prog W 0 (fun _ => true) true Tryd.f3.params.toList args.toList ds p := hA0
  rw [Tryd.params3] at hA hval
  obtain ⟨v0, vs0, d0, ds0, p0, q0, hargs0, rfl, rfl, h0, r0⟩ := trodAll_cons hA
  obtain ⟨v1, vs1, d1, ds1, p1, q1, hargs1, rfl, rfl, h1, r1⟩ := trodAll_cons r0
  obtain ⟨rfl, rfl, rfl⟩ := trodAll_nil r1
  subst hargs1
  obtain rfl : args = #[v0, v1] := by cases args; simp_all
  obtain ⟨rfl, rfl⟩ := trodVars_none hV
  simp only [List.append_nil] at hW'
  have hlt0 : ∀ x ∈ p0, x.block < W.heap.size := fun x hx => by simpa using hW'.lt x (by simp [hx])
  obtain ⟨b0, rfl⟩ := open_boot (hval 0 23 v0 rfl rfl) h0
  obtain ⟨x1, rfl, rfl, rfl, w1⟩ := open_int Tryd.underlying2 (hval 1 2 v1 rfl rfl) h1
  clear hA0
  refine (boots_walk b0 x1 W (of_laid hL)).mono fun e W' ⟨he, hb⟩ => ?_
  subst he
  refine ⟨_, rfl, _, _, _, [], (p0 ++ ([] ++ [])), [], hW', ?_, ?_, rfl, hb.frame _, fun h => by cases h⟩
  · exact trodAll_cons_mk (shut_bool Tryd.underlying4 _) trodAll_mk0
  · exact trodAll_cons_mk (Below.trod laidOut (by kernel_rfl) (of_decide_eq_true (by kernel_rfl)) h0 hb hlt0) (trodAll_cons_mk (shut_int Tryd.underlying2 w1) (trodAll_mk0))

theorem fatBoots_row : Rows.FatBootsSaid :=
  OpenClaim.holds_of_wide 3 Tryd.f3 rfl rfl rfl rfl rfl rfl rfl ⟨rfl, rfl, rfl, rfl, rfl⟩ rfl rfl rfl rfl rfl (by kernel_rfl) Tryd.func3 (by kernel_rfl)
    (of_decide_eq_true (by kernel_rfl)) (by unfold Func.isWrapper; first | (rw [if_pos (by decide +kernel)]; kernel_rfl) | (rw [if_neg (by decide +kernel)]; exact ⟨rfl, rfl⟩))
    (fun os started H enc _ => fatBoots_lifted os started H enc)

theorem fatBoots_holds : Rows.FatBootsCardSaid :=
  Claim7.holds_tied_plain_at .later [] [.data, .data] true (true, "cef4f92033b86b756cdeb854791cba9f6c3b4615937b91e7b466014a9569903c") false
    fatBoots_row (fun _ h => by cases h) (by kernel_rfl) (fun _ h => by cases h) fatBoots_row_tie rfl ⟨rfl, rfl⟩ (by kernel_rfl) rfl
    (fun f fn hf hfn => by
      obtain rfl : f = 3 := Option.some.inj ((show Tryd.prog.funcNamed "fettle/fettlelaw16.FatBoots" = some 3 by kernel_rfl).symm.trans hf) |>.symm
      obtain rfl : fn = Tryd.f3 := (Option.some.inj (Tryd.func3.symm.trans hfn)).symm
      exact ⟨by kernel_rfl, fun j t ht => by
        rw [Tryd.params3] at ht
        have hm : t ∈ [23, 2] := by simpa using Array.mem_of_getElem? ht
        have hall : ([23, 2].all fun u => !Tryd.prog.wantsStandIn u) = true := by kernel_rfl
        exact (show Tryd.prog.wantsStandIn t = false by simpa using List.all_eq_true.1 hall t hm)⟩)
    (by kernel_rfl)
end Go.Proofs.YtbldkebolmellaaDoor.Oct
