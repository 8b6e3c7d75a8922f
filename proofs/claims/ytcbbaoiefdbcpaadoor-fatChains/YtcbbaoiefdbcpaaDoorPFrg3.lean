/- The document's words of a first sector: Check, where the form is right: one of its ways. -/
import Derived.Test.YtcbbaoiefdbcpaaDoorPFra
import Derived.Test.YtcbbaoiefdbcpaaDoorPTak
namespace Go.Proofs.YtcbbaoiefdbcpaaDoor.Oct
open Go.RowKit

set_option maxHeartbeats 16000000 in
set_option maxRecDepth 100000 in
theorem rchk_w3 (b : Bt) (w : World) (hf : b.form = true) (hA : ¬ b.secs ≤ b.data) (h1 : ¬ b.clus < 1) (h2 : 128 * b.long - 2 < b.clus) :
    Calls Tryd.prog 35 #[.agg b.cs] w fun e w' => e = .returned (.int .i64 b.chk) ∧ Below w.heap.size w w' := by
  obtain ⟨w1, hw1⟩ : ∃ w1, w1 = w.alloc (.cells b.cs 36) := ⟨_, rfl⟩
  have HW1 := hide hw1
  have HB := hide (show Below w.heap.size w w1 by rw [hw1]; exact (Below.refl w.heap.size w).alloc (Nat.le_refl _) (.cells b.cs 36))
  have HI := hide (show Blk w1 w.heap.size b.cs 36 by rw [hw1]; exact Blk.new w b.cs 36)
  have hc0 := cells_of (Blk.new w b.cs 36)
  have hn := Bt.form_near hf
  have hfs := Bt.form_says hf
  have HDa := fun u => hide (rdata_any b u hn.1)
  have HCl := fun u => hide (rclus_any b u hn.1)
  have hcs : (b.each == 1) = true ∨ ((b.each == 1) = false ∧ (b.each == 2) = true) ∨ ((b.each == 1) = false ∧ (b.each == 2) = false ∧ (b.each == 4) = true) ∨ ((b.each == 1) = false ∧ (b.each == 2) = false ∧ (b.each == 4) = false ∧ (b.each == 8) = true) := by
    have he : (b.each == 1 || b.each == 2 || b.each == 4 || b.each == 8) = true := by
      unfold Bt.form at hf
      cases h : (b.each == 1 || b.each == 2 || b.each == 4 || b.each == 8)
      · rw [h] at hf; simp at hf
      · rfl
    revert he
    cases (b.each == 1) <;> cases (b.each == 2) <;> cases (b.each == 4) <;> cases (b.each == 8) <;> simp
  have D0 : decide (b.tabs < 1) = false := by simp; omega
  have D1 : decide (2 < b.tabs) = false := by simp; omega
  have D2 : decide (b.secs < 1) = false := by simp; omega
  have D3 : decide (32768 < b.secs) = false := by simp; omega
  have D4 : decide (b.long < 1) = false := by simp; omega
  have D5 : decide (b.secs < b.long) = false := by simp; omega
  have D6 : decide (b.ahead < 2) = false := by simp; omega
  have D7 : decide (64 < b.ahead) = false := by simp; omega
  have D8 : decide (b.info < 1) = false := by simp; omega
  have D9 : decide (b.ahead ≤ b.info) = false := by simp; omega
  have D10 : decide (b.copy < 0) = false := by simp; omega
  have D11 : decide (b.ahead ≤ b.copy) = false := by simp; omega
  have D12 : (b.copy == b.info) = false := by simp; omega
  have hdc : b.data ≥ b.secs → b.clus = 0 := fun h => by unfold Bt.clus; rw [show max (b.secs - b.data) 0 = 0 by omega, Int.zero_ediv]
  have hcl := Bt.clus_says hf
  have hm : IntKind.i64.wrap (128 * b.long) = 128 * b.long := by rw [IntKind.wrap_i64]; omega
  have hm2 : IntKind.i64.wrap (128 * b.long - 2) = 128 * b.long - 2 := by rw [IntKind.wrap_i64]; omega
  have hm3 : IntKind.i64.wrap (b.clus + 1) = b.clus + 1 := by rw [IntKind.wrap_i64]; omega
  have HE := hide (show b.chk = if b.clus < 1 then 4 else if 128 * b.long - 2 < b.clus then 20 else if witN 2 (b.clus + 2 - 1) b.root = false then 4 else 0 by unfold Bt.chk; rw [if_neg (by rw [hf]; simp)])
  generalize b.chk = ck at *
  have HDC := hide hdc
  clear hn hfs hcl hdc hf hw1
  have hA2 : decide (b.secs ≤ b.data) = false := by simpa using hA
  have h1d : decide (b.clus < 1) = false := by simpa using h1
  have h2d : decide (128 * b.long - 2 < b.clus) = true := by simpa using h2
  have HE1 := hide (show ck = 20 by rw [HE.out, if_neg h1, if_pos h2])
  clear HE HDC hA h1 h2
  obtain ⟨c0, c1, c2, c3, c4, c5, c6, c7⟩ := hc0
  rcases hcs with f1 | ⟨f1, f2⟩ | ⟨f1, f2, f4⟩ | ⟨f1, f2, f4, f8⟩
  all_goals
      go_enter Tryd.func35, Tryd.ntmps35
      go_wp2_with fail
      rw [← HW1.out]
      clear c0 c1 c2 c3 c4 c5 c6 c7
      have HI := hide HI.out.drew
      have HB := hide HB.out.drew
      refine wp_region_held_drew (S := (fun u => u.cell? ⟨w.heap.size, 0, none⟩ = some (.int .i64 b.each) ∧ u.cell? ⟨w.heap.size, 1, none⟩ = some (.int .i64 b.ahead) ∧ u.cell? ⟨w.heap.size, 2, none⟩ = some (.int .i64 b.tabs) ∧ u.cell? ⟨w.heap.size, 3, none⟩ = some (.int .i64 b.secs) ∧ u.cell? ⟨w.heap.size, 4, none⟩ = some (.int .i64 b.long) ∧ u.cell? ⟨w.heap.size, 5, none⟩ = some (.int .i64 b.root) ∧ u.cell? ⟨w.heap.size, 6, none⟩ = some (.int .i64 b.info) ∧ u.cell? ⟨w.heap.size, 7, none⟩ = some (.int .i64 b.copy))) (by kernel_rfl) (cells_of HI.out) (fun _ => ?_)
      refine any_take 0 (some 98) (.agg b.cs) rfl rfl (by kernel_rfl) (by kernel_rfl) (by kernel_rfl) (fun _ _ _ h => h) (by rfl) (cells_of HI.out) ?_ ?_
      · intro w hSw
        obtain ⟨s0, s1, s2, s3, s4, s5, s6, s7⟩ := hSw
        go_simp
      simp only [Act.put, List.setIfInBounds_toArray, List.set_cons_zero, List.set_cons_succ]
      refine any_take 2 (some 100) (.pointer (some ⟨w.heap.size, 3, none⟩)) rfl rfl (by kernel_rfl) (by kernel_rfl) (by kernel_rfl) (fun _ _ _ h => h) (by rfl) (cells_of HI.out) ?_ ?_
      · intro w hSw
        obtain ⟨s0, s1, s2, s3, s4, s5, s6, s7⟩ := hSw
        go_simp
      simp only [Act.put, List.setIfInBounds_toArray, List.set_cons_zero, List.set_cons_succ]
      refine any_take 3 (some 101) (.int .i64 b.secs) rfl rfl (by kernel_rfl) (by kernel_rfl) (by kernel_rfl) (fun _ _ _ h => h) (by rfl) (cells_of HI.out) ?_ ?_
      · intro w hSw
        obtain ⟨s0, s1, s2, s3, s4, s5, s6, s7⟩ := hSw
        go_simp
      simp only [Act.put, List.setIfInBounds_toArray, List.set_cons_zero, List.set_cons_succ]
      refine wpAnyH_ready (rs := [1]) (by kernel_rfl) (by simp) ?_
      refine AllReadyH.cons (i := 1) rfl (fun K hK => ?_) AllReadyH.nil
      go_simp
      refine ((HDa _).out).mono ?_
      rintro e9 w8 ⟨rfl, hb8⟩
      have HI := hide (HI.out.below hb8)
      have HB := hide (HB.out.trans (hb8.mono HB.out.size))
      clear hb8
      go_simp
      refine hK.out _ _ (cells_of HI.out) (fun _ => ?_)
      clear hK K
      try simp only [Act.put, List.setIfInBounds_toArray, List.set_cons_zero, List.set_cons_succ]
      refine any_take 4 (some 102) (.bool false) rfl rfl (by kernel_rfl) (by kernel_rfl) (by kernel_rfl) (fun _ _ _ h => h) (by rfl) (cells_of HI.out) ?_ ?_
      · intro w hSw
        obtain ⟨s0, s1, s2, s3, s4, s5, s6, s7⟩ := hSw
        go_simp
      simp only [Act.put, List.setIfInBounds_toArray, List.set_cons_zero, List.set_cons_succ]
      refine any_take 5 (some 103) (.bool false) rfl rfl (by kernel_rfl) (by kernel_rfl) (by kernel_rfl) (fun _ _ _ h => h) (by rfl) (cells_of HI.out) ?_ ?_
      · intro w hSw
        obtain ⟨s0, s1, s2, s3, s4, s5, s6, s7⟩ := hSw
        go_simp
      simp only [Act.put, List.setIfInBounds_toArray, List.set_cons_zero, List.set_cons_succ]
      refine any_take 6 (some 104) (.agg b.cs) rfl rfl (by kernel_rfl) (by kernel_rfl) (by kernel_rfl) (fun _ _ _ h => h) (by rfl) (cells_of HI.out) ?_ ?_
      · intro w hSw
        obtain ⟨s0, s1, s2, s3, s4, s5, s6, s7⟩ := hSw
        go_simp
      simp only [Act.put, List.setIfInBounds_toArray, List.set_cons_zero, List.set_cons_succ]
      refine wpAnyH_ready (rs := [7]) (by kernel_rfl) (by simp) ?_
      refine AllReadyH.cons (i := 7) rfl (fun K hK => ?_) AllReadyH.nil
      go_simp
      refine ((HCl _).out).mono ?_
      rintro e9 w7 ⟨rfl, hb8⟩
      have HI := hide (HI.out.below hb8)
      have HB := hide (HB.out.trans (hb8.mono HB.out.size))
      clear hb8
      go_simp
      refine hK.out _ _ (cells_of HI.out) (fun _ => ?_)
      clear hK K
      try simp only [Act.put, List.setIfInBounds_toArray, List.set_cons_zero, List.set_cons_succ]
      refine any_take 8 (some 106) (.bool false) rfl rfl (by kernel_rfl) (by kernel_rfl) (by kernel_rfl) (fun _ _ _ h => h) (by rfl) (cells_of HI.out) ?_ ?_
      · intro w hSw
        obtain ⟨s0, s1, s2, s3, s4, s5, s6, s7⟩ := hSw
        go_simp
      simp only [Act.put, List.setIfInBounds_toArray, List.set_cons_zero, List.set_cons_succ]
      refine any_take 9 (some 107) (.bool false) rfl rfl (by kernel_rfl) (by kernel_rfl) (by kernel_rfl) (fun _ _ _ h => h) (by rfl) (cells_of HI.out) ?_ ?_
      · intro w hSw
        obtain ⟨s0, s1, s2, s3, s4, s5, s6, s7⟩ := hSw
        go_simp
      simp only [Act.put, List.setIfInBounds_toArray, List.set_cons_zero, List.set_cons_succ]
      refine any_take 10 (some 97) (.bool false) rfl rfl (by kernel_rfl) (by kernel_rfl) (by kernel_rfl) (fun _ _ _ h => h) (by rfl) (cells_of HI.out) ?_ ?_
      · intro w hSw
        obtain ⟨s0, s1, s2, s3, s4, s5, s6, s7⟩ := hSw
        go_simp
      simp only [Act.put, List.setIfInBounds_toArray, List.set_cons_zero, List.set_cons_succ]
      refine wpAnyH_done (by kernel_rfl) ?_ _
      go_wp2_with fail
      have HI := hide HI.out.drew
      have HB := hide HB.out.drew
      refine wp_region_held_drew (S := (fun u => u.cell? ⟨w.heap.size, 0, none⟩ = some (.int .i64 b.each) ∧ u.cell? ⟨w.heap.size, 1, none⟩ = some (.int .i64 b.ahead) ∧ u.cell? ⟨w.heap.size, 2, none⟩ = some (.int .i64 b.tabs) ∧ u.cell? ⟨w.heap.size, 3, none⟩ = some (.int .i64 b.secs) ∧ u.cell? ⟨w.heap.size, 4, none⟩ = some (.int .i64 b.long) ∧ u.cell? ⟨w.heap.size, 5, none⟩ = some (.int .i64 b.root) ∧ u.cell? ⟨w.heap.size, 6, none⟩ = some (.int .i64 b.info) ∧ u.cell? ⟨w.heap.size, 7, none⟩ = some (.int .i64 b.copy))) (by kernel_rfl) (cells_of HI.out) (fun _ => ?_)
      refine any_take 0 (some 109) (.agg b.cs) rfl rfl (by kernel_rfl) (by kernel_rfl) (by kernel_rfl) (fun _ _ _ h => h) (by rfl) (cells_of HI.out) ?_ ?_
      · intro w hSw
        obtain ⟨s0, s1, s2, s3, s4, s5, s6, s7⟩ := hSw
        go_simp
      simp only [Act.put, List.setIfInBounds_toArray, List.set_cons_zero, List.set_cons_succ]
      refine any_take 2 (some 111) (.pointer (some ⟨w.heap.size, 4, none⟩)) rfl rfl (by kernel_rfl) (by kernel_rfl) (by kernel_rfl) (fun _ _ _ h => h) (by rfl) (cells_of HI.out) ?_ ?_
      · intro w hSw
        obtain ⟨s0, s1, s2, s3, s4, s5, s6, s7⟩ := hSw
        go_simp
      simp only [Act.put, List.setIfInBounds_toArray, List.set_cons_zero, List.set_cons_succ]
      refine any_take 3 (some 112) (.int .i64 b.long) rfl rfl (by kernel_rfl) (by kernel_rfl) (by kernel_rfl) (fun _ _ _ h => h) (by rfl) (cells_of HI.out) ?_ ?_
      · intro w hSw
        obtain ⟨s0, s1, s2, s3, s4, s5, s6, s7⟩ := hSw
        go_simp
      simp only [Act.put, List.setIfInBounds_toArray, List.set_cons_zero, List.set_cons_succ]
      refine any_take 4 (some 113) (.int .i64 (128 * b.long)) rfl rfl (by kernel_rfl) (by kernel_rfl) (by kernel_rfl) (fun _ _ _ h => h) (by rfl) (cells_of HI.out) ?_ ?_
      · intro w hSw
        obtain ⟨s0, s1, s2, s3, s4, s5, s6, s7⟩ := hSw
        go_simp
      simp only [Act.put, List.setIfInBounds_toArray, List.set_cons_zero, List.set_cons_succ]
      refine any_take 5 (some 114) (.int .i64 (128 * b.long - 2)) rfl rfl (by kernel_rfl) (by kernel_rfl) (by kernel_rfl) (fun _ _ _ h => h) (by rfl) (cells_of HI.out) ?_ ?_
      · intro w hSw
        obtain ⟨s0, s1, s2, s3, s4, s5, s6, s7⟩ := hSw
        go_simp
      simp only [Act.put, List.setIfInBounds_toArray, List.set_cons_zero, List.set_cons_succ]
      refine wpAnyH_ready (rs := [1]) (by kernel_rfl) (by simp) ?_
      refine AllReadyH.cons (i := 1) rfl (fun K hK => ?_) AllReadyH.nil
      go_simp
      refine ((HCl _).out).mono ?_
      rintro e9 w6 ⟨rfl, hb8⟩
      have HI := hide (HI.out.below hb8)
      have HB := hide (HB.out.trans (hb8.mono HB.out.size))
      clear hb8
      go_simp
      refine hK.out _ _ (cells_of HI.out) (fun _ => ?_)
      clear hK K
      try simp only [Act.put, List.setIfInBounds_toArray, List.set_cons_zero, List.set_cons_succ]
      refine any_take 6 (some 115) (.bool true) rfl rfl (by kernel_rfl) (by kernel_rfl) (by kernel_rfl) (fun _ _ _ h => h) (by rfl) (cells_of HI.out) ?_ ?_
      · intro w hSw
        obtain ⟨s0, s1, s2, s3, s4, s5, s6, s7⟩ := hSw
        go_simp
      simp only [Act.put, List.setIfInBounds_toArray, List.set_cons_zero, List.set_cons_succ]
      refine any_take 7 (some 108) (.bool true) rfl rfl (by kernel_rfl) (by kernel_rfl) (by kernel_rfl) (fun _ _ _ h => h) (by rfl) (cells_of HI.out) ?_ ?_
      · intro w hSw
        obtain ⟨s0, s1, s2, s3, s4, s5, s6, s7⟩ := hSw
        go_simp
      simp only [Act.put, List.setIfInBounds_toArray, List.set_cons_zero, List.set_cons_succ]
      refine wpAnyH_done (by kernel_rfl) ?_ _
      go_wp2_with fail
      go_ret
      exact ⟨by rw [HE1.out]; rfl, HB.out⟩

set_option maxHeartbeats 16000000 in
set_option maxRecDepth 100000 in
theorem rchk_w4 (b : Bt) (w : World) (hf : b.form = true) (hA : ¬ b.secs ≤ b.data) (h1 : ¬ b.clus < 1) (h2 : ¬ 128 * b.long - 2 < b.clus) (h3 : b.root < 2) :
    Calls Tryd.prog 35 #[.agg b.cs] w fun e w' => e = .returned (.int .i64 b.chk) ∧ Below w.heap.size w w' := by
  obtain ⟨w1, hw1⟩ : ∃ w1, w1 = w.alloc (.cells b.cs 36) := ⟨_, rfl⟩
  have HW1 := hide hw1
  have HB := hide (show Below w.heap.size w w1 by rw [hw1]; exact (Below.refl w.heap.size w).alloc (Nat.le_refl _) (.cells b.cs 36))
  have HI := hide (show Blk w1 w.heap.size b.cs 36 by rw [hw1]; exact Blk.new w b.cs 36)
  have hc0 := cells_of (Blk.new w b.cs 36)
  have hn := Bt.form_near hf
  have hfs := Bt.form_says hf
  have HDa := fun u => hide (rdata_any b u hn.1)
  have HCl := fun u => hide (rclus_any b u hn.1)
  have hcs : (b.each == 1) = true ∨ ((b.each == 1) = false ∧ (b.each == 2) = true) ∨ ((b.each == 1) = false ∧ (b.each == 2) = false ∧ (b.each == 4) = true) ∨ ((b.each == 1) = false ∧ (b.each == 2) = false ∧ (b.each == 4) = false ∧ (b.each == 8) = true) := by
    have he : (b.each == 1 || b.each == 2 || b.each == 4 || b.each == 8) = true := by
      unfold Bt.form at hf
      cases h : (b.each == 1 || b.each == 2 || b.each == 4 || b.each == 8)
      · rw [h] at hf; simp at hf
      · rfl
    revert he
    cases (b.each == 1) <;> cases (b.each == 2) <;> cases (b.each == 4) <;> cases (b.each == 8) <;> simp
  have D0 : decide (b.tabs < 1) = false := by simp; omega
  have D1 : decide (2 < b.tabs) = false := by simp; omega
  have D2 : decide (b.secs < 1) = false := by simp; omega
  have D3 : decide (32768 < b.secs) = false := by simp; omega
  have D4 : decide (b.long < 1) = false := by simp; omega
  have D5 : decide (b.secs < b.long) = false := by simp; omega
  have D6 : decide (b.ahead < 2) = false := by simp; omega
  have D7 : decide (64 < b.ahead) = false := by simp; omega
  have D8 : decide (b.info < 1) = false := by simp; omega
  have D9 : decide (b.ahead ≤ b.info) = false := by simp; omega
  have D10 : decide (b.copy < 0) = false := by simp; omega
  have D11 : decide (b.ahead ≤ b.copy) = false := by simp; omega
  have D12 : (b.copy == b.info) = false := by simp; omega
  have hdc : b.data ≥ b.secs → b.clus = 0 := fun h => by unfold Bt.clus; rw [show max (b.secs - b.data) 0 = 0 by omega, Int.zero_ediv]
  have hcl := Bt.clus_says hf
  have hm : IntKind.i64.wrap (128 * b.long) = 128 * b.long := by rw [IntKind.wrap_i64]; omega
  have hm2 : IntKind.i64.wrap (128 * b.long - 2) = 128 * b.long - 2 := by rw [IntKind.wrap_i64]; omega
  have hm3 : IntKind.i64.wrap (b.clus + 1) = b.clus + 1 := by rw [IntKind.wrap_i64]; omega
  have HE := hide (show b.chk = if b.clus < 1 then 4 else if 128 * b.long - 2 < b.clus then 20 else if witN 2 (b.clus + 2 - 1) b.root = false then 4 else 0 by unfold Bt.chk; rw [if_neg (by rw [hf]; simp)])
  generalize b.chk = ck at *
  have HDC := hide hdc
  clear hn hfs hcl hdc hf hw1
  have hA2 : decide (b.secs ≤ b.data) = false := by simpa using hA
  have h1d : decide (b.clus < 1) = false := by simpa using h1
  have h2d : decide (128 * b.long - 2 < b.clus) = false := by simpa using h2
  have h3d : decide (b.root < 2) = true := by simpa using h3
  have HE1 := hide (show ck = 4 by rw [HE.out, if_neg h1, if_neg h2, if_pos (by simp [witN]; omega)])
  clear HE HDC hA h1 h2 h3
  obtain ⟨c0, c1, c2, c3, c4, c5, c6, c7⟩ := hc0
  rcases hcs with f1 | ⟨f1, f2⟩ | ⟨f1, f2, f4⟩ | ⟨f1, f2, f4, f8⟩
  all_goals
      go_enter Tryd.func35, Tryd.ntmps35
      go_wp2_with fail
      rw [← HW1.out]
      clear c0 c1 c2 c3 c4 c5 c6 c7
      have HI := hide HI.out.drew
      have HB := hide HB.out.drew
      refine wp_region_held_drew (S := (fun u => u.cell? ⟨w.heap.size, 0, none⟩ = some (.int .i64 b.each) ∧ u.cell? ⟨w.heap.size, 1, none⟩ = some (.int .i64 b.ahead) ∧ u.cell? ⟨w.heap.size, 2, none⟩ = some (.int .i64 b.tabs) ∧ u.cell? ⟨w.heap.size, 3, none⟩ = some (.int .i64 b.secs) ∧ u.cell? ⟨w.heap.size, 4, none⟩ = some (.int .i64 b.long) ∧ u.cell? ⟨w.heap.size, 5, none⟩ = some (.int .i64 b.root) ∧ u.cell? ⟨w.heap.size, 6, none⟩ = some (.int .i64 b.info) ∧ u.cell? ⟨w.heap.size, 7, none⟩ = some (.int .i64 b.copy))) (by kernel_rfl) (cells_of HI.out) (fun _ => ?_)
      refine any_take 0 (some 98) (.agg b.cs) rfl rfl (by kernel_rfl) (by kernel_rfl) (by kernel_rfl) (fun _ _ _ h => h) (by rfl) (cells_of HI.out) ?_ ?_
      · intro w hSw
        obtain ⟨s0, s1, s2, s3, s4, s5, s6, s7⟩ := hSw
        go_simp
      simp only [Act.put, List.setIfInBounds_toArray, List.set_cons_zero, List.set_cons_succ]
      refine any_take 2 (some 100) (.pointer (some ⟨w.heap.size, 3, none⟩)) rfl rfl (by kernel_rfl) (by kernel_rfl) (by kernel_rfl) (fun _ _ _ h => h) (by rfl) (cells_of HI.out) ?_ ?_
      · intro w hSw
        obtain ⟨s0, s1, s2, s3, s4, s5, s6, s7⟩ := hSw
        go_simp
      simp only [Act.put, List.setIfInBounds_toArray, List.set_cons_zero, List.set_cons_succ]
      refine any_take 3 (some 101) (.int .i64 b.secs) rfl rfl (by kernel_rfl) (by kernel_rfl) (by kernel_rfl) (fun _ _ _ h => h) (by rfl) (cells_of HI.out) ?_ ?_
      · intro w hSw
        obtain ⟨s0, s1, s2, s3, s4, s5, s6, s7⟩ := hSw
        go_simp
      simp only [Act.put, List.setIfInBounds_toArray, List.set_cons_zero, List.set_cons_succ]
      refine wpAnyH_ready (rs := [1]) (by kernel_rfl) (by simp) ?_
      refine AllReadyH.cons (i := 1) rfl (fun K hK => ?_) AllReadyH.nil
      go_simp
      refine ((HDa _).out).mono ?_
      rintro e9 w8 ⟨rfl, hb8⟩
      have HI := hide (HI.out.below hb8)
      have HB := hide (HB.out.trans (hb8.mono HB.out.size))
      clear hb8
      go_simp
      refine hK.out _ _ (cells_of HI.out) (fun _ => ?_)
      clear hK K
      try simp only [Act.put, List.setIfInBounds_toArray, List.set_cons_zero, List.set_cons_succ]
      refine any_take 4 (some 102) (.bool false) rfl rfl (by kernel_rfl) (by kernel_rfl) (by kernel_rfl) (fun _ _ _ h => h) (by rfl) (cells_of HI.out) ?_ ?_
      · intro w hSw
        obtain ⟨s0, s1, s2, s3, s4, s5, s6, s7⟩ := hSw
        go_simp
      simp only [Act.put, List.setIfInBounds_toArray, List.set_cons_zero, List.set_cons_succ]
      refine any_take 5 (some 103) (.bool false) rfl rfl (by kernel_rfl) (by kernel_rfl) (by kernel_rfl) (fun _ _ _ h => h) (by rfl) (cells_of HI.out) ?_ ?_
      · intro w hSw
        obtain ⟨s0, s1, s2, s3, s4, s5, s6, s7⟩ := hSw
        go_simp
      simp only [Act.put, List.setIfInBounds_toArray, List.set_cons_zero, List.set_cons_succ]
      refine any_take 6 (some 104) (.agg b.cs) rfl rfl (by kernel_rfl) (by kernel_rfl) (by kernel_rfl) (fun _ _ _ h => h) (by rfl) (cells_of HI.out) ?_ ?_
      · intro w hSw
        obtain ⟨s0, s1, s2, s3, s4, s5, s6, s7⟩ := hSw
        go_simp
      simp only [Act.put, List.setIfInBounds_toArray, List.set_cons_zero, List.set_cons_succ]
      refine wpAnyH_ready (rs := [7]) (by kernel_rfl) (by simp) ?_
      refine AllReadyH.cons (i := 7) rfl (fun K hK => ?_) AllReadyH.nil
      go_simp
      refine ((HCl _).out).mono ?_
      rintro e9 w7 ⟨rfl, hb8⟩
      have HI := hide (HI.out.below hb8)
      have HB := hide (HB.out.trans (hb8.mono HB.out.size))
      clear hb8
      go_simp
      refine hK.out _ _ (cells_of HI.out) (fun _ => ?_)
      clear hK K
      try simp only [Act.put, List.setIfInBounds_toArray, List.set_cons_zero, List.set_cons_succ]
      refine any_take 8 (some 106) (.bool false) rfl rfl (by kernel_rfl) (by kernel_rfl) (by kernel_rfl) (fun _ _ _ h => h) (by rfl) (cells_of HI.out) ?_ ?_
      · intro w hSw
        obtain ⟨s0, s1, s2, s3, s4, s5, s6, s7⟩ := hSw
        go_simp
      simp only [Act.put, List.setIfInBounds_toArray, List.set_cons_zero, List.set_cons_succ]
      refine any_take 9 (some 107) (.bool false) rfl rfl (by kernel_rfl) (by kernel_rfl) (by kernel_rfl) (fun _ _ _ h => h) (by rfl) (cells_of HI.out) ?_ ?_
      · intro w hSw
        obtain ⟨s0, s1, s2, s3, s4, s5, s6, s7⟩ := hSw
        go_simp
      simp only [Act.put, List.setIfInBounds_toArray, List.set_cons_zero, List.set_cons_succ]
      refine any_take 10 (some 97) (.bool false) rfl rfl (by kernel_rfl) (by kernel_rfl) (by kernel_rfl) (fun _ _ _ h => h) (by rfl) (cells_of HI.out) ?_ ?_
      · intro w hSw
        obtain ⟨s0, s1, s2, s3, s4, s5, s6, s7⟩ := hSw
        go_simp
      simp only [Act.put, List.setIfInBounds_toArray, List.set_cons_zero, List.set_cons_succ]
      refine wpAnyH_done (by kernel_rfl) ?_ _
      go_wp2_with fail
      have HI := hide HI.out.drew
      have HB := hide HB.out.drew
      refine wp_region_held_drew (S := (fun u => u.cell? ⟨w.heap.size, 0, none⟩ = some (.int .i64 b.each) ∧ u.cell? ⟨w.heap.size, 1, none⟩ = some (.int .i64 b.ahead) ∧ u.cell? ⟨w.heap.size, 2, none⟩ = some (.int .i64 b.tabs) ∧ u.cell? ⟨w.heap.size, 3, none⟩ = some (.int .i64 b.secs) ∧ u.cell? ⟨w.heap.size, 4, none⟩ = some (.int .i64 b.long) ∧ u.cell? ⟨w.heap.size, 5, none⟩ = some (.int .i64 b.root) ∧ u.cell? ⟨w.heap.size, 6, none⟩ = some (.int .i64 b.info) ∧ u.cell? ⟨w.heap.size, 7, none⟩ = some (.int .i64 b.copy))) (by kernel_rfl) (cells_of HI.out) (fun _ => ?_)
      refine any_take 0 (some 109) (.agg b.cs) rfl rfl (by kernel_rfl) (by kernel_rfl) (by kernel_rfl) (fun _ _ _ h => h) (by rfl) (cells_of HI.out) ?_ ?_
      · intro w hSw
        obtain ⟨s0, s1, s2, s3, s4, s5, s6, s7⟩ := hSw
        go_simp
      simp only [Act.put, List.setIfInBounds_toArray, List.set_cons_zero, List.set_cons_succ]
      refine any_take 2 (some 111) (.pointer (some ⟨w.heap.size, 4, none⟩)) rfl rfl (by kernel_rfl) (by kernel_rfl) (by kernel_rfl) (fun _ _ _ h => h) (by rfl) (cells_of HI.out) ?_ ?_
      · intro w hSw
        obtain ⟨s0, s1, s2, s3, s4, s5, s6, s7⟩ := hSw
        go_simp
      simp only [Act.put, List.setIfInBounds_toArray, List.set_cons_zero, List.set_cons_succ]
      refine any_take 3 (some 112) (.int .i64 b.long) rfl rfl (by kernel_rfl) (by kernel_rfl) (by kernel_rfl) (fun _ _ _ h => h) (by rfl) (cells_of HI.out) ?_ ?_
      · intro w hSw
        obtain ⟨s0, s1, s2, s3, s4, s5, s6, s7⟩ := hSw
        go_simp
      simp only [Act.put, List.setIfInBounds_toArray, List.set_cons_zero, List.set_cons_succ]
      refine any_take 4 (some 113) (.int .i64 (128 * b.long)) rfl rfl (by kernel_rfl) (by kernel_rfl) (by kernel_rfl) (fun _ _ _ h => h) (by rfl) (cells_of HI.out) ?_ ?_
      · intro w hSw
        obtain ⟨s0, s1, s2, s3, s4, s5, s6, s7⟩ := hSw
        go_simp
      simp only [Act.put, List.setIfInBounds_toArray, List.set_cons_zero, List.set_cons_succ]
      refine any_take 5 (some 114) (.int .i64 (128 * b.long - 2)) rfl rfl (by kernel_rfl) (by kernel_rfl) (by kernel_rfl) (fun _ _ _ h => h) (by rfl) (cells_of HI.out) ?_ ?_
      · intro w hSw
        obtain ⟨s0, s1, s2, s3, s4, s5, s6, s7⟩ := hSw
        go_simp
      simp only [Act.put, List.setIfInBounds_toArray, List.set_cons_zero, List.set_cons_succ]
      refine wpAnyH_ready (rs := [1]) (by kernel_rfl) (by simp) ?_
      refine AllReadyH.cons (i := 1) rfl (fun K hK => ?_) AllReadyH.nil
      go_simp
      refine ((HCl _).out).mono ?_
      rintro e9 w6 ⟨rfl, hb8⟩
      have HI := hide (HI.out.below hb8)
      have HB := hide (HB.out.trans (hb8.mono HB.out.size))
      clear hb8
      go_simp
      refine hK.out _ _ (cells_of HI.out) (fun _ => ?_)
      clear hK K
      try simp only [Act.put, List.setIfInBounds_toArray, List.set_cons_zero, List.set_cons_succ]
      refine any_take 6 (some 115) (.bool false) rfl rfl (by kernel_rfl) (by kernel_rfl) (by kernel_rfl) (fun _ _ _ h => h) (by rfl) (cells_of HI.out) ?_ ?_
      · intro w hSw
        obtain ⟨s0, s1, s2, s3, s4, s5, s6, s7⟩ := hSw
        go_simp
      simp only [Act.put, List.setIfInBounds_toArray, List.set_cons_zero, List.set_cons_succ]
      refine any_take 7 (some 108) (.bool false) rfl rfl (by kernel_rfl) (by kernel_rfl) (by kernel_rfl) (fun _ _ _ h => h) (by rfl) (cells_of HI.out) ?_ ?_
      · intro w hSw
        obtain ⟨s0, s1, s2, s3, s4, s5, s6, s7⟩ := hSw
        go_simp
      simp only [Act.put, List.setIfInBounds_toArray, List.set_cons_zero, List.set_cons_succ]
      refine wpAnyH_done (by kernel_rfl) ?_ _
      go_wp2_with fail
      have HI := hide HI.out.drew
      have HB := hide HB.out.drew
      refine wp_region_held_drew (S := (fun u => u.cell? ⟨w.heap.size, 0, none⟩ = some (.int .i64 b.each) ∧ u.cell? ⟨w.heap.size, 1, none⟩ = some (.int .i64 b.ahead) ∧ u.cell? ⟨w.heap.size, 2, none⟩ = some (.int .i64 b.tabs) ∧ u.cell? ⟨w.heap.size, 3, none⟩ = some (.int .i64 b.secs) ∧ u.cell? ⟨w.heap.size, 4, none⟩ = some (.int .i64 b.long) ∧ u.cell? ⟨w.heap.size, 5, none⟩ = some (.int .i64 b.root) ∧ u.cell? ⟨w.heap.size, 6, none⟩ = some (.int .i64 b.info) ∧ u.cell? ⟨w.heap.size, 7, none⟩ = some (.int .i64 b.copy))) (by kernel_rfl) (cells_of HI.out) (fun _ => ?_)
      refine any_take 0 (some 117) (.pointer (some ⟨w.heap.size, 5, none⟩)) rfl rfl (by kernel_rfl) (by kernel_rfl) (by kernel_rfl) (fun _ _ _ h => h) (by rfl) (cells_of HI.out) ?_ ?_
      · intro w hSw
        obtain ⟨s0, s1, s2, s3, s4, s5, s6, s7⟩ := hSw
        go_simp
      simp only [Act.put, List.setIfInBounds_toArray, List.set_cons_zero, List.set_cons_succ]
      refine any_take 1 (some 118) (.int .i64 b.root) rfl rfl (by kernel_rfl) (by kernel_rfl) (by kernel_rfl) (fun _ _ _ h => h) (by rfl) (cells_of HI.out) ?_ ?_
      · intro w hSw
        obtain ⟨s0, s1, s2, s3, s4, s5, s6, s7⟩ := hSw
        go_simp
      simp only [Act.put, List.setIfInBounds_toArray, List.set_cons_zero, List.set_cons_succ]
      refine any_take 2 (some 119) (.bool true) rfl rfl (by kernel_rfl) (by kernel_rfl) (by kernel_rfl) (fun _ _ _ h => h) (by rfl) (cells_of HI.out) ?_ ?_
      · intro w hSw
        obtain ⟨s0, s1, s2, s3, s4, s5, s6, s7⟩ := hSw
        go_simp
      simp only [Act.put, List.setIfInBounds_toArray, List.set_cons_zero, List.set_cons_succ]
      refine any_take 3 (some 120) (.bool true) rfl rfl (by kernel_rfl) (by kernel_rfl) (by kernel_rfl) (fun _ _ _ h => h) (by rfl) (cells_of HI.out) ?_ ?_
      · intro w hSw
        obtain ⟨s0, s1, s2, s3, s4, s5, s6, s7⟩ := hSw
        go_simp
      simp only [Act.put, List.setIfInBounds_toArray, List.set_cons_zero, List.set_cons_succ]
      refine any_skip 4 (some 121) rfl rfl (by kernel_rfl) (by kernel_rfl) (by kernel_rfl) (fun _ _ _ h => h) (by rfl) (cells_of HI.out) ?_
      simp only [Act.put, List.setIfInBounds_toArray, List.set_cons_zero, List.set_cons_succ]
      refine any_skip 5 (some 122) rfl rfl (by kernel_rfl) (by kernel_rfl) (by kernel_rfl) (fun _ _ _ h => h) (by rfl) (cells_of HI.out) ?_
      simp only [Act.put, List.setIfInBounds_toArray, List.set_cons_zero, List.set_cons_succ]
      refine any_skip 6 (some 123) rfl rfl (by kernel_rfl) (by kernel_rfl) (by kernel_rfl) (fun _ _ _ h => h) (by rfl) (cells_of HI.out) ?_
      simp only [Act.put, List.setIfInBounds_toArray, List.set_cons_zero, List.set_cons_succ]
      refine any_skip 7 (some 124) rfl rfl (by kernel_rfl) (by kernel_rfl) (by kernel_rfl) (fun _ _ _ h => h) (by rfl) (cells_of HI.out) ?_
      simp only [Act.put, List.setIfInBounds_toArray, List.set_cons_zero, List.set_cons_succ]
      refine any_skip 8 (some 125) rfl rfl (by kernel_rfl) (by kernel_rfl) (by kernel_rfl) (fun _ _ _ h => h) (by rfl) (cells_of HI.out) ?_
      simp only [Act.put, List.setIfInBounds_toArray, List.set_cons_zero, List.set_cons_succ]
      refine any_skip 9 (some 126) rfl rfl (by kernel_rfl) (by kernel_rfl) (by kernel_rfl) (fun _ _ _ h => h) (by rfl) (cells_of HI.out) ?_
      simp only [Act.put, List.setIfInBounds_toArray, List.set_cons_zero, List.set_cons_succ]
      refine any_take 10 (some 127) (.bool true) rfl rfl (by kernel_rfl) (by kernel_rfl) (by kernel_rfl) (fun _ _ _ h => h) (by rfl) (cells_of HI.out) ?_ ?_
      · intro w hSw
        obtain ⟨s0, s1, s2, s3, s4, s5, s6, s7⟩ := hSw
        go_simp
      simp only [Act.put, List.setIfInBounds_toArray, List.set_cons_zero, List.set_cons_succ]
      refine any_take 11 (some 116) (.bool true) rfl rfl (by kernel_rfl) (by kernel_rfl) (by kernel_rfl) (fun _ _ _ h => h) (by rfl) (cells_of HI.out) ?_ ?_
      · intro w hSw
        obtain ⟨s0, s1, s2, s3, s4, s5, s6, s7⟩ := hSw
        go_simp
      simp only [Act.put, List.setIfInBounds_toArray, List.set_cons_zero, List.set_cons_succ]
      refine wpAnyH_done (by kernel_rfl) ?_ _
      go_wp2_with fail
      go_ret
      exact ⟨by rw [HE1.out]; rfl, HB.out⟩
end Go.Proofs.YtcbbaoiefdbcpaaDoor.Oct
