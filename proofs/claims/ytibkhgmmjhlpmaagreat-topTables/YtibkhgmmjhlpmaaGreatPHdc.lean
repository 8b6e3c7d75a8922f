/- Check: is it a header? -/
import Derived.Test.YtibkhgmmjhlpmaaGreatPHdp
import Derived.BigQuiet
import Derived.Test.YtibkhgmmjhlpmaaGreatPTxbTak
namespace Go.Proofs.YtibkhgmmjhlpmaaGreat.Oct
open Go.RowKit

theorem check_form {h : Hd} (c : h.bits < 9 ∨ 12 < h.bits ∨ h.size < 512 ∨ 16777216 < h.size ∨ h.size % 512 ≠ 0) : h.check = 11 := if_pos c
theorem check_limit {h : Hd} (c : ¬ (h.bits < 9 ∨ 12 < h.bits ∨ h.size < 512 ∨ 16777216 < h.size ∨ h.size % 512 ≠ 0)) (d : h.cl / 8 * (h.cl / 8) < h.guest ∨ h.host < 1 ∨ 8192 < h.host ∨ 4194304 / h.cl < h.host) : h.check = 20 := by
  unfold Hd.check; rw [if_neg c, if_pos d]
theorem check_small {h : Hd} (c : ¬ (h.bits < 9 ∨ 12 < h.bits ∨ h.size < 512 ∨ 16777216 < h.size ∨ h.size % 512 ≠ 0)) (d : ¬ (h.cl / 8 * (h.cl / 8) < h.guest ∨ h.host < 1 ∨ 8192 < h.host ∨ 4194304 / h.cl < h.host)) (f : h.journal < h.least ∨ 8192 < h.journal ∨ h.host < h.at_ 5) : h.check = 11 := by
  unfold Hd.check; rw [if_neg c, if_neg d, if_pos f]
theorem check_ok {h : Hd} (c : ¬ (h.bits < 9 ∨ 12 < h.bits ∨ h.size < 512 ∨ 16777216 < h.size ∨ h.size % 512 ≠ 0)) (d : ¬ (h.cl / 8 * (h.cl / 8) < h.guest ∨ h.host < 1 ∨ 8192 < h.host ∨ 4194304 / h.cl < h.host)) (f : ¬ (h.journal < h.least ∨ 8192 < h.journal ∨ h.host < h.at_ 5)) : h.check = 0 := by
  unfold Hd.check; rw [if_neg c, if_neg d, if_neg f]

set_option maxHeartbeats 4000000 in
theorem check_any (b s o j : Int) (k : Bool) (w : World) : Calls Tryz.prog 4 #[.agg #[.int .i64 b, .int .i64 s, .int .i64 o, .int .i64 j, .bool k]] w fun e w' => e = .returned (.int .i64 (Hd.check ⟨b, s, o, j, k⟩)) ∧ Below w.heap.size w w' := by
  have hK := Kp.new w b s o j k
  have HK := hide hK
  obtain ⟨c0, c1, c2, c3, c4⟩ := hK.box
  clear hK
  obtain ⟨r, hr⟩ : ∃ r, r = Hd.check ⟨b, s, o, j, k⟩ := ⟨_, rfl⟩
  have F1 : Hid ((b < 9 ∨ 12 < b ∨ s < 512 ∨ 16777216 < s ∨ s % 512 ≠ 0) → r = 11) := hide (fun h => hr.trans (check_form h))
  have F2 : Hid (¬ (b < 9 ∨ 12 < b ∨ s < 512 ∨ 16777216 < s ∨ s % 512 ≠ 0) → (clN b / 8 * (clN b / 8) < Hd.guest ⟨b, s, o, j, k⟩ ∨ o < 1 ∨ 8192 < o ∨ 4194304 / clN b < o) → r = 20) := hide (fun h d => hr.trans (check_limit h d))
  have F3 : Hid (¬ (b < 9 ∨ 12 < b ∨ s < 512 ∨ 16777216 < s ∨ s % 512 ≠ 0) → ¬ (clN b / 8 * (clN b / 8) < Hd.guest ⟨b, s, o, j, k⟩ ∨ o < 1 ∨ 8192 < o ∨ 4194304 / clN b < o) → (j < Hd.least ⟨b, s, o, j, k⟩ ∨ 8192 < j ∨ o < Hd.at_ ⟨b, s, o, j, k⟩ 5) → r = 11) := hide (fun h d f => hr.trans (check_small h d f))
  have F4 : Hid (¬ (b < 9 ∨ 12 < b ∨ s < 512 ∨ 16777216 < s ∨ s % 512 ≠ 0) → ¬ (clN b / 8 * (clN b / 8) < Hd.guest ⟨b, s, o, j, k⟩ ∨ o < 1 ∨ 8192 < o ∨ 4194304 / clN b < o) → ¬ (j < Hd.least ⟨b, s, o, j, k⟩ ∨ 8192 < j ∨ o < Hd.at_ ⟨b, s, o, j, k⟩ 5) → r = 0) := hide (fun h d f => hr.trans (check_ok h d f))
  have HG := fun u => hide (guest_any b s o j k u)
  have HE := fun u => hide (entries_any b s o j k u)
  have HC := fun u => hide (cluster_any b s o j k u)
  have HL := fun u => hide (least_any b s o j k u)
  have HF := fun u => hide (first_any b s o j k u)
  have hcc := clN_cases b
  have hgb := Hd.guest_bd ⟨b, s, o, j, k⟩
  rw [← hr]
  clear hr
  generalize Hd.guest ⟨b, s, o, j, k⟩ = g at *
  generalize Hd.least ⟨b, s, o, j, k⟩ = l at *
  generalize Hd.at_ ⟨b, s, o, j, k⟩ 5 = f at *
  generalize clN b = c at *
  by_cases h1 : b < 9
  · obtain rfl := F1.out (Or.inl h1)
    go_enter Tryz.func4, Tryz.ntmps4
    go_wp2_with fail
    go_ret
    exact ⟨rfl, HK.out.below⟩
  by_cases h2 : 12 < b
  · obtain rfl := F1.out (Or.inr (Or.inl h2))
    go_enter Tryz.func4, Tryz.ntmps4
    go_wp2_with fail
    go_ret
    exact ⟨rfl, HK.out.below⟩
  by_cases h3 : s < 512
  · obtain rfl := F1.out (Or.inr (Or.inr (Or.inl h3)))
    go_enter Tryz.func4, Tryz.ntmps4
    go_wp2_with fail
    go_ret
    exact ⟨rfl, HK.out.below⟩
  by_cases h4 : 16777216 < s
  · obtain rfl := F1.out (Or.inr (Or.inr (Or.inr (Or.inl h4))))
    go_enter Tryz.func4, Tryz.ntmps4
    go_wp2_with fail
    go_ret
    exact ⟨rfl, HK.out.below⟩
  by_cases h5 : s % 512 = 0
  rotate_left
  · obtain rfl := F1.out (Or.inr (Or.inr (Or.inr (Or.inr h5))))
    have hb : (s % 512 == 0) = false := by simp [h5]
    have h50 : 0 ≤ s := by omega
    clear h5
    go_enter Tryz.func4, Tryz.ntmps4
    go_wp2_with fail
    go_ret
    exact ⟨rfl, HK.out.below⟩
  have NF : Hid (¬ (b < 9 ∨ 12 < b ∨ s < 512 ∨ 16777216 < s ∨ s % 512 ≠ 0)) := hide (by omega)
  have hb : (s % 512 == 0) = true := by simp [h5]
  have h50 : 0 ≤ s := by omega
  clear h5
  have HK := hide HK.out.drew
  obtain ⟨e, he⟩ : ∃ e, e = c / 8 := ⟨_, rfl⟩
  have hew : IntKind.i64.wrap (e * e) = e * e := by
    rcases hcc with h | h | h | h <;> (rw [h] at he; subst he; rfl)
  have hcp : 0 < c := by omega
  have hq : IntKind.i64.wrap (Int.tdiv 4194304 c) = 4194304 / c := by
    rcases hcc with h | h | h | h <;> (rw [h]; rfl)
  rw [← he] at HE F2 F3 F4
  obtain ⟨q, hqe⟩ : ∃ q, q = 4194304 / c := ⟨_, rfl⟩
  rw [← hqe] at hq F2 F3 F4
  have hc0 : c ≠ 0 := by omega
  have hc00 : (c == 0) = false := by simp [hc0]
  clear hcc he hqe
  go_enter Tryz.func4, Tryz.ntmps4
  go_wp2_with fail
  clear c0 c1 c2 c3 c4
  by_cases hG : e * e < g
  · obtain rfl := F2.out NF.out (Or.inl hG)
    have hd : decide (e * e < g) = true := by simp [hG]
    go_region_held3 (fun u => u.cell? ⟨w.heap.size, 0, none⟩ = some (.int .i64 b) ∧ u.cell? ⟨w.heap.size, 1, none⟩ = some (.int .i64 s) ∧ u.cell? ⟨w.heap.size, 2, none⟩ = some (.int .i64 o) ∧ u.cell? ⟨w.heap.size, 3, none⟩ = some (.int .i64 j) ∧ u.cell? ⟨w.heap.size, 4, none⟩ = some (.bool k)) (first | go_keep | (with_reducible exact HK.out.box) | exact HK.out.box) (first
      | (go_at_call 18; refine ((HG _).out).mono ?_; rintro e9 w2 ⟨rfl, hb2⟩; have HK := hide (HK.out.step hb2); clear hb2)
      | (go_at_call 19; refine ((HE _).out).mono ?_; rintro e9 w2 ⟨rfl, hb2⟩; have HK := hide (HK.out.step hb2); clear hb2))
    go_wp2_with fail
    go_ret
    exact ⟨rfl, HK.out.below⟩
  have hd : decide (e * e < g) = false := by simp [hG]
  go_region_held3 (fun u => u.cell? ⟨w.heap.size, 0, none⟩ = some (.int .i64 b) ∧ u.cell? ⟨w.heap.size, 1, none⟩ = some (.int .i64 s) ∧ u.cell? ⟨w.heap.size, 2, none⟩ = some (.int .i64 o) ∧ u.cell? ⟨w.heap.size, 3, none⟩ = some (.int .i64 j) ∧ u.cell? ⟨w.heap.size, 4, none⟩ = some (.bool k)) (first | go_keep | (with_reducible exact HK.out.box) | exact HK.out.box) (first
    | (go_at_call 18; refine ((HG _).out).mono ?_; rintro e9 w2 ⟨rfl, hb2⟩; have HK := hide (HK.out.step hb2); clear hb2)
    | (go_at_call 19; refine ((HE _).out).mono ?_; rintro e9 w2 ⟨rfl, hb2⟩; have HK := hide (HK.out.step hb2); clear hb2))
  go_wp2_with fail
  have HK := hide HK.out.drew
  by_cases hH1 : o < 1
  · obtain rfl := F2.out NF.out (Or.inr (Or.inl hH1))
    have hd1 : decide (o < 1) = true := by simp [hH1]
    obtain ⟨c0, c1, c2, c3, c4⟩ := HK.out.box
    go_quiet (fail)
    go_wp2_with fail
    go_ret
    have h := HK.out.below
    exact ⟨rfl, ⟨h.os, h.tape, h.output, h.size, h.block⟩⟩
  have hd1 : decide (o < 1) = false := by simp [hH1]
  by_cases hH2 : 8192 < o
  · obtain rfl := F2.out NF.out (Or.inr (Or.inr (Or.inl hH2)))
    have hd2 : decide (8192 < o) = true := by simp [hH2]
    obtain ⟨c0, c1, c2, c3, c4⟩ := HK.out.box
    go_quiet (fail)
    go_wp2_with fail
    go_ret
    have h := HK.out.below
    exact ⟨rfl, ⟨h.os, h.tape, h.output, h.size, h.block⟩⟩
  have hd2 : decide (8192 < o) = false := by simp [hH2]
  by_cases hH3 : q < o
  · obtain rfl := F2.out NF.out (Or.inr (Or.inr (Or.inr hH3)))
    have hd3 : decide (q < o) = true := by simp [hH3]
    go_region_held3 (fun u => u.cell? ⟨w.heap.size, 0, none⟩ = some (.int .i64 b) ∧ u.cell? ⟨w.heap.size, 1, none⟩ = some (.int .i64 s) ∧ u.cell? ⟨w.heap.size, 2, none⟩ = some (.int .i64 o) ∧ u.cell? ⟨w.heap.size, 3, none⟩ = some (.int .i64 j) ∧ u.cell? ⟨w.heap.size, 4, none⟩ = some (.bool k)) (first | go_keep | (with_reducible exact HK.out.box) | exact HK.out.box) (first
      | (go_at_call 20; refine ((HC _).out).mono ?_; rintro e9 w2 ⟨rfl, hb2⟩; have HK := hide (HK.out.step hb2); clear hb2))
    go_wp2_with fail
    go_ret
    exact ⟨rfl, HK.out.below⟩
  have hd3 : decide (q < o) = false := by simp [hH3]
  go_region_held3 (fun u => u.cell? ⟨w.heap.size, 0, none⟩ = some (.int .i64 b) ∧ u.cell? ⟨w.heap.size, 1, none⟩ = some (.int .i64 s) ∧ u.cell? ⟨w.heap.size, 2, none⟩ = some (.int .i64 o) ∧ u.cell? ⟨w.heap.size, 3, none⟩ = some (.int .i64 j) ∧ u.cell? ⟨w.heap.size, 4, none⟩ = some (.bool k)) (first | go_keep | (with_reducible exact HK.out.box) | exact HK.out.box) (first
    | (go_at_call 20; refine ((HC _).out).mono ?_; rintro e9 w2 ⟨rfl, hb2⟩; have HK := hide (HK.out.step hb2); clear hb2))
  go_wp2_with fail
  have HK := hide HK.out.drew
  have NL : Hid (¬ (e * e < g ∨ o < 1 ∨ 8192 < o ∨ q < o)) := hide (by omega)
  by_cases hJ1 : j < l
  · obtain rfl := F3.out NF.out NL.out (Or.inl hJ1)
    have hd4 : decide (j < l) = true := by simp [hJ1]
    refine wp_region_held_drew (S := (fun u => u.cell? ⟨w.heap.size, 0, none⟩ = some (.int .i64 b) ∧ u.cell? ⟨w.heap.size, 1, none⟩ = some (.int .i64 s) ∧ u.cell? ⟨w.heap.size, 2, none⟩ = some (.int .i64 o) ∧ u.cell? ⟨w.heap.size, 3, none⟩ = some (.int .i64 j) ∧ u.cell? ⟨w.heap.size, 4, none⟩ = some (.bool k))) (by kernel_rfl) HK.out.box (fun _ => ?_)
    refine any_take 0 (some 54) (.pointer (some ⟨w.heap.size, 3, none⟩)) rfl rfl (by kernel_rfl) (by kernel_rfl) (by kernel_rfl) (fun _ _ _ h => h) (by rfl) HK.out.box ?_ ?_
    · intro w hSw
      obtain ⟨s0, s1, s2, s3, s4⟩ := hSw
      go_simp
    simp only [Act.put, List.setIfInBounds_toArray, List.set_cons_zero, List.set_cons_succ]
    refine any_take 1 (some 55) (.int .i64 j) rfl rfl (by kernel_rfl) (by kernel_rfl) (by kernel_rfl) (fun _ _ _ h => h) (by rfl) HK.out.box ?_ ?_
    · intro w hSw
      obtain ⟨s0, s1, s2, s3, s4⟩ := hSw
      go_simp
    simp only [Act.put, List.setIfInBounds_toArray, List.set_cons_zero, List.set_cons_succ]
    refine any_take 2 (some 56) (.agg #[.int .i64 b, .int .i64 s, .int .i64 o, .int .i64 j, .bool k]) rfl rfl (by kernel_rfl) (by kernel_rfl) (by kernel_rfl) (fun _ _ _ h => h) (by rfl) HK.out.box ?_ ?_
    · intro w hSw
      obtain ⟨s0, s1, s2, s3, s4⟩ := hSw
      go_simp
    simp only [Act.put, List.setIfInBounds_toArray, List.set_cons_zero, List.set_cons_succ]
    refine wpAnyH_ready (rs := [3]) (by kernel_rfl) (by simp) ?_
    refine AllReadyH.cons (i := 3) rfl (fun K hK => ?_) AllReadyH.nil
    go_simp
    refine ((HL _).out).mono ?_
    rintro e9 w2 ⟨rfl, hb2⟩
    have HK := hide (HK.out.step hb2)
    clear hb2
    go_simp
    refine hK.out _ _ HK.out.box (fun _ => ?_)
    clear hK K
    try simp only [Act.put, List.setIfInBounds_toArray, List.set_cons_zero, List.set_cons_succ]
    refine any_take 4 (some 58) (.bool true) rfl rfl (by kernel_rfl) (by kernel_rfl) (by kernel_rfl) (fun _ _ _ h => h) (by rfl) HK.out.box ?_ ?_
    · intro w hSw
      obtain ⟨s0, s1, s2, s3, s4⟩ := hSw
      go_simp
    simp only [Act.put, List.setIfInBounds_toArray, List.set_cons_zero, List.set_cons_succ]
    refine any_take 5 (some 59) (.bool true) rfl rfl (by kernel_rfl) (by kernel_rfl) (by kernel_rfl) (fun _ _ _ h => h) (by rfl) HK.out.box ?_ ?_
    · intro w hSw
      obtain ⟨s0, s1, s2, s3, s4⟩ := hSw
      go_simp
    simp only [Act.put, List.setIfInBounds_toArray, List.set_cons_zero, List.set_cons_succ]
    refine any_skip 6 (some 60) rfl rfl (by kernel_rfl) (by kernel_rfl) (by kernel_rfl) (fun _ _ _ h => h) (by rfl) HK.out.box ?_
    simp only [Act.put, List.setIfInBounds_toArray, List.set_cons_zero, List.set_cons_succ]
    refine any_skip 7 (some 61) rfl rfl (by kernel_rfl) (by kernel_rfl) (by kernel_rfl) (fun _ _ _ h => h) (by rfl) HK.out.box ?_
    simp only [Act.put, List.setIfInBounds_toArray, List.set_cons_zero, List.set_cons_succ]
    refine any_skip 8 (some 62) rfl rfl (by kernel_rfl) (by kernel_rfl) (by kernel_rfl) (fun _ _ _ h => h) (by rfl) HK.out.box ?_
    simp only [Act.put, List.setIfInBounds_toArray, List.set_cons_zero, List.set_cons_succ]
    refine any_take 9 (some 63) (.bool true) rfl rfl (by kernel_rfl) (by kernel_rfl) (by kernel_rfl) (fun _ _ _ h => h) (by rfl) HK.out.box ?_ ?_
    · intro w hSw
      obtain ⟨s0, s1, s2, s3, s4⟩ := hSw
      go_simp
    simp only [Act.put, List.setIfInBounds_toArray, List.set_cons_zero, List.set_cons_succ]
    refine any_take 10 (some 64) (.bool true) rfl rfl (by kernel_rfl) (by kernel_rfl) (by kernel_rfl) (fun _ _ _ h => h) (by rfl) HK.out.box ?_ ?_
    · intro w hSw
      obtain ⟨s0, s1, s2, s3, s4⟩ := hSw
      go_simp
    simp only [Act.put, List.setIfInBounds_toArray, List.set_cons_zero, List.set_cons_succ]
    refine any_skip 11 (some 65) rfl rfl (by kernel_rfl) (by kernel_rfl) (by kernel_rfl) (fun _ _ _ h => h) (by rfl) HK.out.box ?_
    simp only [Act.put, List.setIfInBounds_toArray, List.set_cons_zero, List.set_cons_succ]
    refine any_skip 12 (some 66) rfl rfl (by kernel_rfl) (by kernel_rfl) (by kernel_rfl) (fun _ _ _ h => h) (by rfl) HK.out.box ?_
    simp only [Act.put, List.setIfInBounds_toArray, List.set_cons_zero, List.set_cons_succ]
    refine any_skip 13 (some 67) rfl rfl (by kernel_rfl) (by kernel_rfl) (by kernel_rfl) (fun _ _ _ h => h) (by rfl) HK.out.box ?_
    simp only [Act.put, List.setIfInBounds_toArray, List.set_cons_zero, List.set_cons_succ]
    refine any_skip 14 (some 68) rfl rfl (by kernel_rfl) (by kernel_rfl) (by kernel_rfl) (fun _ _ _ h => h) (by rfl) HK.out.box ?_
    simp only [Act.put, List.setIfInBounds_toArray, List.set_cons_zero, List.set_cons_succ]
    refine any_skip 15 (some 69) rfl rfl (by kernel_rfl) (by kernel_rfl) (by kernel_rfl) (fun _ _ _ h => h) (by rfl) HK.out.box ?_
    simp only [Act.put, List.setIfInBounds_toArray, List.set_cons_zero, List.set_cons_succ]
    refine any_take 16 (some 70) (.bool true) rfl rfl (by kernel_rfl) (by kernel_rfl) (by kernel_rfl) (fun _ _ _ h => h) (by rfl) HK.out.box ?_ ?_
    · intro w hSw
      obtain ⟨s0, s1, s2, s3, s4⟩ := hSw
      go_simp
    simp only [Act.put, List.setIfInBounds_toArray, List.set_cons_zero, List.set_cons_succ]
    refine any_take 17 (some 53) (.bool true) rfl rfl (by kernel_rfl) (by kernel_rfl) (by kernel_rfl) (fun _ _ _ h => h) (by rfl) HK.out.box ?_ ?_
    · intro w hSw
      obtain ⟨s0, s1, s2, s3, s4⟩ := hSw
      go_simp
    simp only [Act.put, List.setIfInBounds_toArray, List.set_cons_zero, List.set_cons_succ]
    refine wpAnyH_done (by kernel_rfl) ?_ _
    go_wp2_with fail
    go_ret
    exact ⟨rfl, HK.out.below⟩
  have hd4 : decide (j < l) = false := by simp [hJ1]
  by_cases hJ2 : 8192 < j
  · obtain rfl := F3.out NF.out NL.out (Or.inr (Or.inl hJ2))
    have hd5 : decide (8192 < j) = true := by simp [hJ2]
    refine wp_region_held_drew (S := (fun u => u.cell? ⟨w.heap.size, 0, none⟩ = some (.int .i64 b) ∧ u.cell? ⟨w.heap.size, 1, none⟩ = some (.int .i64 s) ∧ u.cell? ⟨w.heap.size, 2, none⟩ = some (.int .i64 o) ∧ u.cell? ⟨w.heap.size, 3, none⟩ = some (.int .i64 j) ∧ u.cell? ⟨w.heap.size, 4, none⟩ = some (.bool k))) (by kernel_rfl) HK.out.box (fun _ => ?_)
    refine any_take 0 (some 54) (.pointer (some ⟨w.heap.size, 3, none⟩)) rfl rfl (by kernel_rfl) (by kernel_rfl) (by kernel_rfl) (fun _ _ _ h => h) (by rfl) HK.out.box ?_ ?_
    · intro w hSw
      obtain ⟨s0, s1, s2, s3, s4⟩ := hSw
      go_simp
    simp only [Act.put, List.setIfInBounds_toArray, List.set_cons_zero, List.set_cons_succ]
    refine any_take 1 (some 55) (.int .i64 j) rfl rfl (by kernel_rfl) (by kernel_rfl) (by kernel_rfl) (fun _ _ _ h => h) (by rfl) HK.out.box ?_ ?_
    · intro w hSw
      obtain ⟨s0, s1, s2, s3, s4⟩ := hSw
      go_simp
    simp only [Act.put, List.setIfInBounds_toArray, List.set_cons_zero, List.set_cons_succ]
    refine any_take 2 (some 56) (.agg #[.int .i64 b, .int .i64 s, .int .i64 o, .int .i64 j, .bool k]) rfl rfl (by kernel_rfl) (by kernel_rfl) (by kernel_rfl) (fun _ _ _ h => h) (by rfl) HK.out.box ?_ ?_
    · intro w hSw
      obtain ⟨s0, s1, s2, s3, s4⟩ := hSw
      go_simp
    simp only [Act.put, List.setIfInBounds_toArray, List.set_cons_zero, List.set_cons_succ]
    refine wpAnyH_ready (rs := [3]) (by kernel_rfl) (by simp) ?_
    refine AllReadyH.cons (i := 3) rfl (fun K hK => ?_) AllReadyH.nil
    go_simp
    refine ((HL _).out).mono ?_
    rintro e9 w2 ⟨rfl, hb2⟩
    have HK := hide (HK.out.step hb2)
    clear hb2
    go_simp
    refine hK.out _ _ HK.out.box (fun _ => ?_)
    clear hK K
    try simp only [Act.put, List.setIfInBounds_toArray, List.set_cons_zero, List.set_cons_succ]
    refine any_take 4 (some 58) (.bool false) rfl rfl (by kernel_rfl) (by kernel_rfl) (by kernel_rfl) (fun _ _ _ h => h) (by rfl) HK.out.box ?_ ?_
    · intro w hSw
      obtain ⟨s0, s1, s2, s3, s4⟩ := hSw
      go_simp
    simp only [Act.put, List.setIfInBounds_toArray, List.set_cons_zero, List.set_cons_succ]
    refine any_take 5 (some 59) (.bool false) rfl rfl (by kernel_rfl) (by kernel_rfl) (by kernel_rfl) (fun _ _ _ h => h) (by rfl) HK.out.box ?_ ?_
    · intro w hSw
      obtain ⟨s0, s1, s2, s3, s4⟩ := hSw
      go_simp
    simp only [Act.put, List.setIfInBounds_toArray, List.set_cons_zero, List.set_cons_succ]
    refine any_take 6 (some 60) (.pointer (some ⟨w.heap.size, 3, none⟩)) rfl rfl (by kernel_rfl) (by kernel_rfl) (by kernel_rfl) (fun _ _ _ h => h) (by rfl) HK.out.box ?_ ?_
    · intro w hSw
      obtain ⟨s0, s1, s2, s3, s4⟩ := hSw
      go_simp
    simp only [Act.put, List.setIfInBounds_toArray, List.set_cons_zero, List.set_cons_succ]
    refine any_take 7 (some 61) (.int .i64 j) rfl rfl (by kernel_rfl) (by kernel_rfl) (by kernel_rfl) (fun _ _ _ h => h) (by rfl) HK.out.box ?_ ?_
    · intro w hSw
      obtain ⟨s0, s1, s2, s3, s4⟩ := hSw
      go_simp
    simp only [Act.put, List.setIfInBounds_toArray, List.set_cons_zero, List.set_cons_succ]
    refine any_take 8 (some 62) (.bool true) rfl rfl (by kernel_rfl) (by kernel_rfl) (by kernel_rfl) (fun _ _ _ h => h) (by rfl) HK.out.box ?_ ?_
    · intro w hSw
      obtain ⟨s0, s1, s2, s3, s4⟩ := hSw
      go_simp
    simp only [Act.put, List.setIfInBounds_toArray, List.set_cons_zero, List.set_cons_succ]
    refine any_take 9 (some 63) (.bool true) rfl rfl (by kernel_rfl) (by kernel_rfl) (by kernel_rfl) (fun _ _ _ h => h) (by rfl) HK.out.box ?_ ?_
    · intro w hSw
      obtain ⟨s0, s1, s2, s3, s4⟩ := hSw
      go_simp
    simp only [Act.put, List.setIfInBounds_toArray, List.set_cons_zero, List.set_cons_succ]
    refine any_take 10 (some 64) (.bool true) rfl rfl (by kernel_rfl) (by kernel_rfl) (by kernel_rfl) (fun _ _ _ h => h) (by rfl) HK.out.box ?_ ?_
    · intro w hSw
      obtain ⟨s0, s1, s2, s3, s4⟩ := hSw
      go_simp
    simp only [Act.put, List.setIfInBounds_toArray, List.set_cons_zero, List.set_cons_succ]
    refine any_skip 11 (some 65) rfl rfl (by kernel_rfl) (by kernel_rfl) (by kernel_rfl) (fun _ _ _ h => h) (by rfl) HK.out.box ?_
    simp only [Act.put, List.setIfInBounds_toArray, List.set_cons_zero, List.set_cons_succ]
    refine any_skip 12 (some 66) rfl rfl (by kernel_rfl) (by kernel_rfl) (by kernel_rfl) (fun _ _ _ h => h) (by rfl) HK.out.box ?_
    simp only [Act.put, List.setIfInBounds_toArray, List.set_cons_zero, List.set_cons_succ]
    refine any_skip 13 (some 67) rfl rfl (by kernel_rfl) (by kernel_rfl) (by kernel_rfl) (fun _ _ _ h => h) (by rfl) HK.out.box ?_
    simp only [Act.put, List.setIfInBounds_toArray, List.set_cons_zero, List.set_cons_succ]
    refine any_skip 14 (some 68) rfl rfl (by kernel_rfl) (by kernel_rfl) (by kernel_rfl) (fun _ _ _ h => h) (by rfl) HK.out.box ?_
    simp only [Act.put, List.setIfInBounds_toArray, List.set_cons_zero, List.set_cons_succ]
    refine any_skip 15 (some 69) rfl rfl (by kernel_rfl) (by kernel_rfl) (by kernel_rfl) (fun _ _ _ h => h) (by rfl) HK.out.box ?_
    simp only [Act.put, List.setIfInBounds_toArray, List.set_cons_zero, List.set_cons_succ]
    refine any_take 16 (some 70) (.bool true) rfl rfl (by kernel_rfl) (by kernel_rfl) (by kernel_rfl) (fun _ _ _ h => h) (by rfl) HK.out.box ?_ ?_
    · intro w hSw
      obtain ⟨s0, s1, s2, s3, s4⟩ := hSw
      go_simp
    simp only [Act.put, List.setIfInBounds_toArray, List.set_cons_zero, List.set_cons_succ]
    refine any_take 17 (some 53) (.bool true) rfl rfl (by kernel_rfl) (by kernel_rfl) (by kernel_rfl) (fun _ _ _ h => h) (by rfl) HK.out.box ?_ ?_
    · intro w hSw
      obtain ⟨s0, s1, s2, s3, s4⟩ := hSw
      go_simp
    simp only [Act.put, List.setIfInBounds_toArray, List.set_cons_zero, List.set_cons_succ]
    refine wpAnyH_done (by kernel_rfl) ?_ _
    go_wp2_with fail
    go_ret
    exact ⟨rfl, HK.out.below⟩
  have hd5 : decide (8192 < j) = false := by simp [hJ2]
  by_cases hJ3 : o < f
  · obtain rfl := F3.out NF.out NL.out (Or.inr (Or.inr hJ3))
    have hd6 : decide (o < f) = true := by simp [hJ3]
    go_region_held3 (fun u => u.cell? ⟨w.heap.size, 0, none⟩ = some (.int .i64 b) ∧ u.cell? ⟨w.heap.size, 1, none⟩ = some (.int .i64 s) ∧ u.cell? ⟨w.heap.size, 2, none⟩ = some (.int .i64 o) ∧ u.cell? ⟨w.heap.size, 3, none⟩ = some (.int .i64 j) ∧ u.cell? ⟨w.heap.size, 4, none⟩ = some (.bool k)) (first | go_keep | (with_reducible exact HK.out.box) | exact HK.out.box) (first
      | (go_at_call 21; refine ((HL _).out).mono ?_; rintro e9 w2 ⟨rfl, hb2⟩; have HK := hide (HK.out.step hb2); clear hb2)
      | (go_at_call 5; refine ((HF _).out).mono ?_; rintro e9 w2 ⟨rfl, hb2⟩; have HK := hide (HK.out.step hb2); clear hb2))
    go_wp2_with fail
    go_ret
    exact ⟨rfl, HK.out.below⟩
  · obtain rfl := F4.out NF.out NL.out (by omega)
    have hd6 : decide (o < f) = false := by simp [hJ3]
    go_region_held3 (fun u => u.cell? ⟨w.heap.size, 0, none⟩ = some (.int .i64 b) ∧ u.cell? ⟨w.heap.size, 1, none⟩ = some (.int .i64 s) ∧ u.cell? ⟨w.heap.size, 2, none⟩ = some (.int .i64 o) ∧ u.cell? ⟨w.heap.size, 3, none⟩ = some (.int .i64 j) ∧ u.cell? ⟨w.heap.size, 4, none⟩ = some (.bool k)) (first | go_keep | (with_reducible exact HK.out.box) | exact HK.out.box) (first
      | (go_at_call 21; refine ((HL _).out).mono ?_; rintro e9 w2 ⟨rfl, hb2⟩; have HK := hide (HK.out.step hb2); clear hb2)
      | (go_at_call 5; refine ((HF _).out).mono ?_; rintro e9 w2 ⟨rfl, hb2⟩; have HK := hide (HK.out.step hb2); clear hb2))
    go_wp2_with fail
    go_ret
    exact ⟨rfl, HK.out.below⟩

end Go.Proofs.YtibkhgmmjhlpmaaGreat.Oct
