/- The document's Check: is a super one? For numbers that are near. -/
import Derived.Test.YtjmajjfknmjifaaDoorPEwa
import Derived.Test.YtjmajjfknmjifaaDoorPTak
namespace Go.Proofs.YtjmajjfknmjifaaDoor.Oct
open Go.RowKit

theorem tmod8 (a : Int) : -8 < a.tmod 8 ∧ a.tmod 8 < 8 := by
  rcases Int.le_total 0 a with h | h
  · rw [Int.tmod_eq_emod_of_nonneg h]
    omega
  · have e : a = -(-a) := by omega
    rw [e, Int.neg_tmod, Int.tmod_eq_emod_of_nonneg (by omega)]
    omega

set_option maxHeartbeats 32000000 in
set_option maxRecDepth 100000 in
theorem rchk_any (s : Sp) (w : World) (hn : s.near) :
    Calls Tryd.prog 14 #[.agg s.cs] w fun e w' => e = .returned (.int .i64 s.chk) ∧ Below w.heap.size w w' := by
  obtain ⟨⟨nb0, nb1⟩, ⟨np0, np1⟩, ⟨ne0, ne1⟩, ⟨ni0, ni1⟩⟩ := hn
  obtain ⟨c0, c1, c2, c3, c4, c5, c6, c7⟩ := cells_sp (Blk.new w s.cs 30)
  obtain ⟨w1, hw1⟩ : ∃ w1, w1 = w.alloc (.cells s.cs 30) := ⟨_, rfl⟩
  have HW1 := hide hw1
  have HI1 := hide (show Blk w1 w.heap.size s.cs 30 by rw [hw1]; exact Blk.new _ _ _)
  have HB1 := hide (show Below w.heap.size w w1 by rw [hw1]; exact (Below.refl _ _).alloc (Nat.le_refl _) _)
  have HB0 := hide (show Below w.heap.size w (w.alloc (.cells s.cs 30)) from (Below.refl _ _).alloc (Nat.le_refl _) _)
  obtain ⟨p8, hp8⟩ : ∃ p8, p8 = s.per.tmod 8 := ⟨_, rfl⟩
  obtain ⟨e8, he8⟩ : ∃ e8, e8 = s.each.tmod 8 := ⟨_, rfl⟩
  have bp : -8 < p8 ∧ p8 < 8 := by rw [hp8]; exact tmod8 _
  have be : -8 < e8 ∧ e8 < 8 := by rw [he8]; exact tmod8 _
  have wp1 : IntKind.i64.wrap (s.per.tmod 8) = p8 := by rw [← hp8, IntKind.wrap_i64]; omega
  have we1 : IntKind.i64.wrap (s.each.tmod 8) = e8 := by rw [← he8, IntKind.wrap_i64]; omega
  have hsz : s.sized = ((((winE 64 8192 s.per && p8 == 0) && winE 8 8192 s.each) && e8 == 0) && winE 8 16384 s.blo) := by unfold Sp.sized; rw [hp8, he8]
  have wp2 : s.per.tmod 8 = p8 := hp8.symm
  have we2 : s.each.tmod 8 = e8 := he8.symm
  have HSz := hide hsz
  have HGr : ∀ u, Hid (Calls Tryd.prog 40 #[.agg s.cs] u fun e w' => e = .returned (.int .i64 s.grp) ∧ Below u.heap.size u w') := fun u => hide (rgrp_any s u ⟨nb0, nb1⟩ ⟨np0, np1⟩)
  have HTa : ∀ u, Hid (Calls Tryd.prog 41 #[.agg s.cs] u fun e w' => e = .returned (.int .i64 s.tab) ∧ Below u.heap.size u w') := fun u => hide (rtab_any s u ⟨ne0, ne1⟩)
  obtain ⟨ch, hch⟩ : ∃ ch, ch = s.chk := ⟨_, rfl⟩
  rw [← hch]
  have HCh := hide hch
  clear hp8 he8 hsz hch hw1
  by_cases g0 : s.per < 64
  · have hs : s.sized = false := by rw [HSz.out]; simp [winE]; omega
    have HS := hide hs
    have d0 : decide (s.per < 64) = true := by simpa using g0
    clear hs g0 bp be nb0 nb1 np0 np1 ne0 ne1 ni0 ni1
    go_enter Tryd.func14, Tryd.ntmps14
    go_wp2_with fail
    go_ret
    exact ⟨by rw [HCh.out]; unfold Sp.chk; rw [if_pos HS.out]; rfl, HB0.out⟩
  have d0 : decide (s.per < 64) = false := by simpa using g0
  by_cases g1 : 8192 < s.per
  · have hs : s.sized = false := by rw [HSz.out]; simp [winE]; omega
    have HS := hide hs
    have d1 : decide (8192 < s.per) = true := by simpa using g1
    clear hs g1 bp be nb0 nb1 np0 np1 ne0 ne1 ni0 ni1
    go_enter Tryd.func14, Tryd.ntmps14
    go_wp2_with fail
    go_ret
    exact ⟨by rw [HCh.out]; unfold Sp.chk; rw [if_pos HS.out]; rfl, HB0.out⟩
  have d1 : decide (8192 < s.per) = false := by simpa using g1
  by_cases g2 : p8 ≠ 0
  · have hs : s.sized = false := by rw [HSz.out]; simp [winE]; omega
    have HS := hide hs
    have d2 : (p8 != 0) = true := by simpa using g2
    clear hs g2 bp be nb0 nb1 np0 np1 ne0 ne1 ni0 ni1
    go_enter Tryd.func14, Tryd.ntmps14
    go_wp2_with fail
    go_ret
    exact ⟨by rw [HCh.out]; unfold Sp.chk; rw [if_pos HS.out]; rfl, HB0.out⟩
  have d2 : (p8 != 0) = false := by simpa using g2
  by_cases g3 : s.each < 8
  · have hs : s.sized = false := by rw [HSz.out]; simp [winE]; omega
    have HS := hide hs
    have d3 : decide (s.each < 8) = true := by simpa using g3
    clear hs g3 bp be nb0 nb1 np0 np1 ne0 ne1 ni0 ni1
    go_enter Tryd.func14, Tryd.ntmps14
    go_wp2_with fail
    go_ret
    exact ⟨by rw [HCh.out]; unfold Sp.chk; rw [if_pos HS.out]; rfl, HB0.out⟩
  have d3 : decide (s.each < 8) = false := by simpa using g3
  by_cases g4 : 8192 < s.each
  · have hs : s.sized = false := by rw [HSz.out]; simp [winE]; omega
    have HS := hide hs
    have d4 : decide (8192 < s.each) = true := by simpa using g4
    clear hs g4 bp be nb0 nb1 np0 np1 ne0 ne1 ni0 ni1
    go_enter Tryd.func14, Tryd.ntmps14
    go_wp2_with fail
    go_ret
    exact ⟨by rw [HCh.out]; unfold Sp.chk; rw [if_pos HS.out]; rfl, HB0.out⟩
  have d4 : decide (8192 < s.each) = false := by simpa using g4
  by_cases g5 : e8 ≠ 0
  · have hs : s.sized = false := by rw [HSz.out]; simp [winE]; omega
    have HS := hide hs
    have d5 : (e8 != 0) = true := by simpa using g5
    clear hs g5 bp be nb0 nb1 np0 np1 ne0 ne1 ni0 ni1
    go_enter Tryd.func14, Tryd.ntmps14
    go_wp2_with fail
    go_ret
    exact ⟨by rw [HCh.out]; unfold Sp.chk; rw [if_pos HS.out]; rfl, HB0.out⟩
  have d5 : (e8 != 0) = false := by simpa using g5
  by_cases g6 : s.blo < 8
  · have hs : s.sized = false := by rw [HSz.out]; simp [winE]; omega
    have HS := hide hs
    have d6 : decide (s.blo < 8) = true := by simpa using g6
    clear hs g6 bp be nb0 nb1 np0 np1 ne0 ne1 ni0 ni1
    go_enter Tryd.func14, Tryd.ntmps14
    go_wp2_with fail
    go_ret
    exact ⟨by rw [HCh.out]; unfold Sp.chk; rw [if_pos HS.out]; rfl, HB0.out⟩
  have d6 : decide (s.blo < 8) = false := by simpa using g6
  by_cases g7 : 16384 < s.blo
  · have hs : s.sized = false := by rw [HSz.out]; simp [winE]; omega
    have HS := hide hs
    have d7 : decide (16384 < s.blo) = true := by simpa using g7
    clear hs g7 bp be nb0 nb1 np0 np1 ne0 ne1 ni0 ni1
    go_enter Tryd.func14, Tryd.ntmps14
    go_wp2_with fail
    go_ret
    exact ⟨by rw [HCh.out]; unfold Sp.chk; rw [if_pos HS.out]; rfl, HB0.out⟩
  have d7 : decide (16384 < s.blo) = false := by simpa using g7
  have hs : s.sized = true := by rw [HSz.out]; simp [winE]; omega
  have HS := hide hs
  obtain ⟨gp0, _⟩ := Sp.grp_in hs
  have hbs := Sp.sized_says hs
  obtain ⟨gr, hgr⟩ : ∃ gr, gr = s.grp := ⟨_, rfl⟩
  obtain ⟨TB, hTB⟩ : ∃ TB, TB = s.tab := ⟨_, rfl⟩
  have hT2 : 1 ≤ TB ∧ TB ≤ 1024 := by rw [hTB]; unfold Sp.tab; rw [Int.tdiv_eq_ediv_of_nonneg (by omega)]; omega
  have wT : IntKind.i64.wrap (TB + 5) = TB + 5 := by rw [IntKind.wrap_i64]; omega
  rw [← hgr] at HGr gp0
  rw [← hTB] at HTa
  by_cases g8 : 32 < gr
  · have d8 : decide (32 < gr) = true := by simpa using g8
    have HG8 := hide g8
    have HGe := hide hgr
    clear hs hbs hT2 wT g0 g1 g2 g3 g4 g5 g6 g7 g8 bp be nb0 nb1 np0 np1 ne0 ne1 ni0 ni1 hgr hTB gp0
    go_enter Tryd.func14, Tryd.ntmps14
    go_wp2_with fail
    refine (HGr _).out.mono ?_
    rintro e9 w2 ⟨rfl, h2⟩
    rw [← HW1.out] at h2
    have HB2 := hide (HB1.out.trans (h2.mono HB1.out.size))
    clear h2
    go_wp2_with fail
    go_ret
    exact ⟨by rw [HCh.out]; unfold Sp.chk; rw [if_neg (by rw [HS.out]; simp), if_pos (by rw [← HGe.out]; exact HG8.out)]; rfl, HB2.out⟩
  have d8 : decide (32 < gr) = false := by simpa using g8
  obtain ⟨GE, hGE⟩ : ∃ GE, GE = gr * s.each := ⟨_, rfl⟩
  have hGb : 0 ≤ GE ∧ GE ≤ 262144 := by
    rw [hGE]
    have h4 : gr * s.each ≤ 32 * 8192 := Int.mul_le_mul (by omega) (by omega) (by omega) (by omega)
    have h5 : 0 ≤ gr * s.each := Int.mul_nonneg (by omega) (by omega)
    omega
  have wG : IntKind.i64.wrap (gr * s.each) = GE := by rw [← hGE, IntKind.wrap_i64]; omega
  have hcn : s.counted = ((((s.ino == GE && decide (TB + 4 + 1 ≤ s.per)) && winE 3 s.each s.first) && winE 0 s.blo s.fbl) && winE 0 s.ino s.fin) := by unfold Sp.counted; rw [← hgr, ← hTB, ← hGE]
  have HCn := hide hcn
  have HChk : Hid (ch = if s.counted = false then 11 else 0) := hide (by rw [HCh.out]; unfold Sp.chk; rw [if_neg (by rw [HS.out]; simp), if_neg (by rw [← hgr]; omega)])
  clear hs hbs hT2 hcn hGE hGb g0 g1 g2 g3 g4 g5 g6 g7 g8 bp be nb0 nb1 np0 np1 ne0 ne1 ni0 ni1 hgr hTB gp0 HCh HSz HS
  go_enter Tryd.func14, Tryd.ntmps14
  go_wp2_with fail
  rw [← HW1.out]
  refine (HGr _).out.mono ?_
  rintro e9 w2 ⟨rfl, h2⟩
  have HI2 := hide (HI1.out.below h2)
  have HB2 := hide (HB1.out.trans (h2.mono HB1.out.size))
  clear h2 c0 c1 c2 c3 c4 c5 c6 c7 d0 d1 d2 d3 d4 d5 d6 d7
  go_wp2_with fail
  clear d8
  by_cases h0 : s.ino ≠ GE
  · have hs : s.counted = false := by rw [HCn.out]; simp [winE]; omega
    have HS := hide hs
    have x0 : (s.ino != GE) = true := by simpa using h0
    clear hs h0
    refine wp_region_held_drew (S := (fun u => Blk u w.heap.size s.cs 30)) (by kernel_rfl) (HI2.out.drew) (fun _ => ?_)
    refine any_take 0 (some 49) (.pointer (some ⟨w.heap.size, 0, none⟩)) rfl rfl (by kernel_rfl) (by kernel_rfl) (by kernel_rfl) (fun _ _ _ h => h) (by rfl) (HI2.out.drew) ?_ ?_
    · intro u hSu
      obtain ⟨c0, c1, c2, c3, c4, c5, c6, c7⟩ := cells_sp hSu
      go_simp
    simp only [Act.put, List.setIfInBounds_toArray, List.set_cons_zero, List.set_cons_succ]
    refine any_take 1 (some 50) (.int .i64 s.ino) rfl rfl (by kernel_rfl) (by kernel_rfl) (by kernel_rfl) (fun _ _ _ h => h) (by rfl) (HI2.out.drew) ?_ ?_
    · intro u hSu
      obtain ⟨c0, c1, c2, c3, c4, c5, c6, c7⟩ := cells_sp hSu
      go_simp
    simp only [Act.put, List.setIfInBounds_toArray, List.set_cons_zero, List.set_cons_succ]
    refine any_take 2 (some 51) (.agg s.cs) rfl rfl (by kernel_rfl) (by kernel_rfl) (by kernel_rfl) (fun _ _ _ h => h) (by rfl) (HI2.out.drew) ?_ ?_
    · intro u hSu
      obtain ⟨c0, c1, c2, c3, c4, c5, c6, c7⟩ := cells_sp hSu
      go_simp
    simp only [Act.put, List.setIfInBounds_toArray, List.set_cons_zero, List.set_cons_succ]
    refine any_take 4 (some 53) (.pointer (some ⟨w.heap.size, 5, none⟩)) rfl rfl (by kernel_rfl) (by kernel_rfl) (by kernel_rfl) (fun _ _ _ h => h) (by rfl) (HI2.out.drew) ?_ ?_
    · intro u hSu
      obtain ⟨c0, c1, c2, c3, c4, c5, c6, c7⟩ := cells_sp hSu
      go_simp
    simp only [Act.put, List.setIfInBounds_toArray, List.set_cons_zero, List.set_cons_succ]
    refine any_take 5 (some 54) (.int .i64 s.each) rfl rfl (by kernel_rfl) (by kernel_rfl) (by kernel_rfl) (fun _ _ _ h => h) (by rfl) (HI2.out.drew) ?_ ?_
    · intro u hSu
      obtain ⟨c0, c1, c2, c3, c4, c5, c6, c7⟩ := cells_sp hSu
      go_simp
    simp only [Act.put, List.setIfInBounds_toArray, List.set_cons_zero, List.set_cons_succ]
    refine wpAnyH_ready (rs := [3]) (by kernel_rfl) (by simp) ?_
    refine AllReadyH.cons (i := 3) rfl (fun K hK => ?_) AllReadyH.nil
    go_simp
    refine (HGr _).out.mono ?_
    rintro e9 w3 ⟨rfl, hb⟩
    have HI3 := hide (HI2.out.drew.below hb)
    have HB3 := hide (HB2.out.drew.trans (hb.mono HB2.out.size))
    clear hb
    go_simp
    refine hK.out _ _ (HI3.out) (fun _ => ?_)
    clear hK K
    try simp only [Act.put, List.setIfInBounds_toArray, List.set_cons_zero, List.set_cons_succ]
    refine any_take 6 (some 55) (.int .i64 GE) rfl rfl (by kernel_rfl) (by kernel_rfl) (by kernel_rfl) (fun _ _ _ h => h) (by rfl) (HI3.out) ?_ ?_
    · intro u hSu
      obtain ⟨c0, c1, c2, c3, c4, c5, c6, c7⟩ := cells_sp hSu
      go_simp
    simp only [Act.put, List.setIfInBounds_toArray, List.set_cons_zero, List.set_cons_succ]
    refine any_take 7 (some 56) (.bool true) rfl rfl (by kernel_rfl) (by kernel_rfl) (by kernel_rfl) (fun _ _ _ h => h) (by rfl) (HI3.out) ?_ ?_
    · intro u hSu
      obtain ⟨c0, c1, c2, c3, c4, c5, c6, c7⟩ := cells_sp hSu
      go_simp
    simp only [Act.put, List.setIfInBounds_toArray, List.set_cons_zero, List.set_cons_succ]
    refine any_take 8 (some 57) (.bool true) rfl rfl (by kernel_rfl) (by kernel_rfl) (by kernel_rfl) (fun _ _ _ h => h) (by rfl) (HI3.out) ?_ ?_
    · intro u hSu
      obtain ⟨c0, c1, c2, c3, c4, c5, c6, c7⟩ := cells_sp hSu
      go_simp
    simp only [Act.put, List.setIfInBounds_toArray, List.set_cons_zero, List.set_cons_succ]
    refine any_skip 9 (some 58) rfl rfl (by kernel_rfl) (by kernel_rfl) (by kernel_rfl) (fun _ _ _ h => h) (by rfl) (HI3.out) ?_
    simp only [Act.put, List.setIfInBounds_toArray, List.set_cons_zero, List.set_cons_succ]
    refine any_skip 10 (some 59) rfl rfl (by kernel_rfl) (by kernel_rfl) (by kernel_rfl) (fun _ _ _ h => h) (by rfl) (HI3.out) ?_
    simp only [Act.put, List.setIfInBounds_toArray, List.set_cons_zero, List.set_cons_succ]
    refine any_skip 11 (some 60) rfl rfl (by kernel_rfl) (by kernel_rfl) (by kernel_rfl) (fun _ _ _ h => h) (by rfl) (HI3.out) ?_
    simp only [Act.put, List.setIfInBounds_toArray, List.set_cons_zero, List.set_cons_succ]
    refine any_skip 12 (some 61) rfl rfl (by kernel_rfl) (by kernel_rfl) (by kernel_rfl) (fun _ _ _ h => h) (by rfl) (HI3.out) ?_
    simp only [Act.put, List.setIfInBounds_toArray, List.set_cons_zero, List.set_cons_succ]
    refine any_skip 13 (some 62) rfl rfl (by kernel_rfl) (by kernel_rfl) (by kernel_rfl) (fun _ _ _ h => h) (by rfl) (HI3.out) ?_
    simp only [Act.put, List.setIfInBounds_toArray, List.set_cons_zero, List.set_cons_succ]
    refine any_skip 14 (some 63) rfl rfl (by kernel_rfl) (by kernel_rfl) (by kernel_rfl) (fun _ _ _ h => h) (by rfl) (HI3.out) ?_
    simp only [Act.put, List.setIfInBounds_toArray, List.set_cons_zero, List.set_cons_succ]
    refine any_take 15 (some 64) (.bool true) rfl rfl (by kernel_rfl) (by kernel_rfl) (by kernel_rfl) (fun _ _ _ h => h) (by rfl) (HI3.out) ?_ ?_
    · intro u hSu
      obtain ⟨c0, c1, c2, c3, c4, c5, c6, c7⟩ := cells_sp hSu
      go_simp
    simp only [Act.put, List.setIfInBounds_toArray, List.set_cons_zero, List.set_cons_succ]
    refine any_take 16 (some 65) (.bool true) rfl rfl (by kernel_rfl) (by kernel_rfl) (by kernel_rfl) (fun _ _ _ h => h) (by rfl) (HI3.out) ?_ ?_
    · intro u hSu
      obtain ⟨c0, c1, c2, c3, c4, c5, c6, c7⟩ := cells_sp hSu
      go_simp
    simp only [Act.put, List.setIfInBounds_toArray, List.set_cons_zero, List.set_cons_succ]
    refine any_skip 17 (some 66) rfl rfl (by kernel_rfl) (by kernel_rfl) (by kernel_rfl) (fun _ _ _ h => h) (by rfl) (HI3.out) ?_
    simp only [Act.put, List.setIfInBounds_toArray, List.set_cons_zero, List.set_cons_succ]
    refine any_skip 18 (some 67) rfl rfl (by kernel_rfl) (by kernel_rfl) (by kernel_rfl) (fun _ _ _ h => h) (by rfl) (HI3.out) ?_
    simp only [Act.put, List.setIfInBounds_toArray, List.set_cons_zero, List.set_cons_succ]
    refine any_skip 19 (some 68) rfl rfl (by kernel_rfl) (by kernel_rfl) (by kernel_rfl) (fun _ _ _ h => h) (by rfl) (HI3.out) ?_
    simp only [Act.put, List.setIfInBounds_toArray, List.set_cons_zero, List.set_cons_succ]
    refine any_take 20 (some 69) (.bool true) rfl rfl (by kernel_rfl) (by kernel_rfl) (by kernel_rfl) (fun _ _ _ h => h) (by rfl) (HI3.out) ?_ ?_
    · intro u hSu
      obtain ⟨c0, c1, c2, c3, c4, c5, c6, c7⟩ := cells_sp hSu
      go_simp
    simp only [Act.put, List.setIfInBounds_toArray, List.set_cons_zero, List.set_cons_succ]
    refine any_take 21 (some 70) (.bool true) rfl rfl (by kernel_rfl) (by kernel_rfl) (by kernel_rfl) (fun _ _ _ h => h) (by rfl) (HI3.out) ?_ ?_
    · intro u hSu
      obtain ⟨c0, c1, c2, c3, c4, c5, c6, c7⟩ := cells_sp hSu
      go_simp
    simp only [Act.put, List.setIfInBounds_toArray, List.set_cons_zero, List.set_cons_succ]
    refine any_skip 22 (some 71) rfl rfl (by kernel_rfl) (by kernel_rfl) (by kernel_rfl) (fun _ _ _ h => h) (by rfl) (HI3.out) ?_
    simp only [Act.put, List.setIfInBounds_toArray, List.set_cons_zero, List.set_cons_succ]
    refine any_skip 23 (some 72) rfl rfl (by kernel_rfl) (by kernel_rfl) (by kernel_rfl) (fun _ _ _ h => h) (by rfl) (HI3.out) ?_
    simp only [Act.put, List.setIfInBounds_toArray, List.set_cons_zero, List.set_cons_succ]
    refine any_skip 24 (some 73) rfl rfl (by kernel_rfl) (by kernel_rfl) (by kernel_rfl) (fun _ _ _ h => h) (by rfl) (HI3.out) ?_
    simp only [Act.put, List.setIfInBounds_toArray, List.set_cons_zero, List.set_cons_succ]
    refine any_skip 25 (some 74) rfl rfl (by kernel_rfl) (by kernel_rfl) (by kernel_rfl) (fun _ _ _ h => h) (by rfl) (HI3.out) ?_
    simp only [Act.put, List.setIfInBounds_toArray, List.set_cons_zero, List.set_cons_succ]
    refine any_skip 26 (some 75) rfl rfl (by kernel_rfl) (by kernel_rfl) (by kernel_rfl) (fun _ _ _ h => h) (by rfl) (HI3.out) ?_
    simp only [Act.put, List.setIfInBounds_toArray, List.set_cons_zero, List.set_cons_succ]
    refine any_take 27 (some 76) (.bool true) rfl rfl (by kernel_rfl) (by kernel_rfl) (by kernel_rfl) (fun _ _ _ h => h) (by rfl) (HI3.out) ?_ ?_
    · intro u hSu
      obtain ⟨c0, c1, c2, c3, c4, c5, c6, c7⟩ := cells_sp hSu
      go_simp
    simp only [Act.put, List.setIfInBounds_toArray, List.set_cons_zero, List.set_cons_succ]
    refine any_take 28 (some 48) (.bool true) rfl rfl (by kernel_rfl) (by kernel_rfl) (by kernel_rfl) (fun _ _ _ h => h) (by rfl) (HI3.out) ?_ ?_
    · intro u hSu
      obtain ⟨c0, c1, c2, c3, c4, c5, c6, c7⟩ := cells_sp hSu
      go_simp
    simp only [Act.put, List.setIfInBounds_toArray, List.set_cons_zero, List.set_cons_succ]
    refine wpAnyH_done (by kernel_rfl) ?_ _
    go_wp2_with fail
    go_ret
    exact ⟨by rw [HChk.out, if_pos HS.out]; rfl, HB3.out⟩
  have x0 : (s.ino != GE) = false := by simpa using h0
  by_cases h1 : s.per < TB + 5
  · have hs : s.counted = false := by rw [HCn.out]; simp [winE]; omega
    have HS := hide hs
    have x1 : decide (s.per < TB + 5) = true := by simpa using h1
    clear hs h0 h1
    refine wp_region_held_drew (S := (fun u => Blk u w.heap.size s.cs 30)) (by kernel_rfl) (HI2.out.drew) (fun _ => ?_)
    refine any_take 0 (some 49) (.pointer (some ⟨w.heap.size, 0, none⟩)) rfl rfl (by kernel_rfl) (by kernel_rfl) (by kernel_rfl) (fun _ _ _ h => h) (by rfl) (HI2.out.drew) ?_ ?_
    · intro u hSu
      obtain ⟨c0, c1, c2, c3, c4, c5, c6, c7⟩ := cells_sp hSu
      go_simp
    simp only [Act.put, List.setIfInBounds_toArray, List.set_cons_zero, List.set_cons_succ]
    refine any_take 1 (some 50) (.int .i64 s.ino) rfl rfl (by kernel_rfl) (by kernel_rfl) (by kernel_rfl) (fun _ _ _ h => h) (by rfl) (HI2.out.drew) ?_ ?_
    · intro u hSu
      obtain ⟨c0, c1, c2, c3, c4, c5, c6, c7⟩ := cells_sp hSu
      go_simp
    simp only [Act.put, List.setIfInBounds_toArray, List.set_cons_zero, List.set_cons_succ]
    refine any_take 2 (some 51) (.agg s.cs) rfl rfl (by kernel_rfl) (by kernel_rfl) (by kernel_rfl) (fun _ _ _ h => h) (by rfl) (HI2.out.drew) ?_ ?_
    · intro u hSu
      obtain ⟨c0, c1, c2, c3, c4, c5, c6, c7⟩ := cells_sp hSu
      go_simp
    simp only [Act.put, List.setIfInBounds_toArray, List.set_cons_zero, List.set_cons_succ]
    refine any_take 4 (some 53) (.pointer (some ⟨w.heap.size, 5, none⟩)) rfl rfl (by kernel_rfl) (by kernel_rfl) (by kernel_rfl) (fun _ _ _ h => h) (by rfl) (HI2.out.drew) ?_ ?_
    · intro u hSu
      obtain ⟨c0, c1, c2, c3, c4, c5, c6, c7⟩ := cells_sp hSu
      go_simp
    simp only [Act.put, List.setIfInBounds_toArray, List.set_cons_zero, List.set_cons_succ]
    refine any_take 5 (some 54) (.int .i64 s.each) rfl rfl (by kernel_rfl) (by kernel_rfl) (by kernel_rfl) (fun _ _ _ h => h) (by rfl) (HI2.out.drew) ?_ ?_
    · intro u hSu
      obtain ⟨c0, c1, c2, c3, c4, c5, c6, c7⟩ := cells_sp hSu
      go_simp
    simp only [Act.put, List.setIfInBounds_toArray, List.set_cons_zero, List.set_cons_succ]
    refine wpAnyH_ready (rs := [3]) (by kernel_rfl) (by simp) ?_
    refine AllReadyH.cons (i := 3) rfl (fun K hK => ?_) AllReadyH.nil
    go_simp
    refine (HGr _).out.mono ?_
    rintro e9 w3 ⟨rfl, hb⟩
    have HI3 := hide (HI2.out.drew.below hb)
    have HB3 := hide (HB2.out.drew.trans (hb.mono HB2.out.size))
    clear hb
    go_simp
    refine hK.out _ _ (HI3.out) (fun _ => ?_)
    clear hK K
    try simp only [Act.put, List.setIfInBounds_toArray, List.set_cons_zero, List.set_cons_succ]
    refine any_take 6 (some 55) (.int .i64 GE) rfl rfl (by kernel_rfl) (by kernel_rfl) (by kernel_rfl) (fun _ _ _ h => h) (by rfl) (HI3.out) ?_ ?_
    · intro u hSu
      obtain ⟨c0, c1, c2, c3, c4, c5, c6, c7⟩ := cells_sp hSu
      go_simp
    simp only [Act.put, List.setIfInBounds_toArray, List.set_cons_zero, List.set_cons_succ]
    refine any_take 7 (some 56) (.bool false) rfl rfl (by kernel_rfl) (by kernel_rfl) (by kernel_rfl) (fun _ _ _ h => h) (by rfl) (HI3.out) ?_ ?_
    · intro u hSu
      obtain ⟨c0, c1, c2, c3, c4, c5, c6, c7⟩ := cells_sp hSu
      go_simp
    simp only [Act.put, List.setIfInBounds_toArray, List.set_cons_zero, List.set_cons_succ]
    refine any_take 8 (some 57) (.bool false) rfl rfl (by kernel_rfl) (by kernel_rfl) (by kernel_rfl) (fun _ _ _ h => h) (by rfl) (HI3.out) ?_ ?_
    · intro u hSu
      obtain ⟨c0, c1, c2, c3, c4, c5, c6, c7⟩ := cells_sp hSu
      go_simp
    simp only [Act.put, List.setIfInBounds_toArray, List.set_cons_zero, List.set_cons_succ]
    refine any_take 9 (some 58) (.agg s.cs) rfl rfl (by kernel_rfl) (by kernel_rfl) (by kernel_rfl) (fun _ _ _ h => h) (by rfl) (HI3.out) ?_ ?_
    · intro u hSu
      obtain ⟨c0, c1, c2, c3, c4, c5, c6, c7⟩ := cells_sp hSu
      go_simp
    simp only [Act.put, List.setIfInBounds_toArray, List.set_cons_zero, List.set_cons_succ]
    refine any_take 12 (some 61) (.pointer (some ⟨w.heap.size, 4, none⟩)) rfl rfl (by kernel_rfl) (by kernel_rfl) (by kernel_rfl) (fun _ _ _ h => h) (by rfl) (HI3.out) ?_ ?_
    · intro u hSu
      obtain ⟨c0, c1, c2, c3, c4, c5, c6, c7⟩ := cells_sp hSu
      go_simp
    simp only [Act.put, List.setIfInBounds_toArray, List.set_cons_zero, List.set_cons_succ]
    refine any_take 13 (some 62) (.int .i64 s.per) rfl rfl (by kernel_rfl) (by kernel_rfl) (by kernel_rfl) (fun _ _ _ h => h) (by rfl) (HI3.out) ?_ ?_
    · intro u hSu
      obtain ⟨c0, c1, c2, c3, c4, c5, c6, c7⟩ := cells_sp hSu
      go_simp
    simp only [Act.put, List.setIfInBounds_toArray, List.set_cons_zero, List.set_cons_succ]
    refine wpAnyH_ready (rs := [10]) (by kernel_rfl) (by simp) ?_
    refine AllReadyH.cons (i := 10) rfl (fun K hK => ?_) AllReadyH.nil
    go_simp
    refine (HTa _).out.mono ?_
    rintro e9 w4 ⟨rfl, hb⟩
    have HI4 := hide (HI3.out.below hb)
    have HB4 := hide (HB3.out.trans (hb.mono HB3.out.size))
    clear hb
    go_simp
    refine hK.out _ _ (HI4.out) (fun _ => ?_)
    clear hK K
    try simp only [Act.put, List.setIfInBounds_toArray, List.set_cons_zero, List.set_cons_succ]
    refine any_take 11 (some 60) (.int .i64 (TB + 5)) rfl rfl (by kernel_rfl) (by kernel_rfl) (by kernel_rfl) (fun _ _ _ h => h) (by rfl) (HI4.out) ?_ ?_
    · intro u hSu
      obtain ⟨c0, c1, c2, c3, c4, c5, c6, c7⟩ := cells_sp hSu
      go_simp
    simp only [Act.put, List.setIfInBounds_toArray, List.set_cons_zero, List.set_cons_succ]
    refine any_take 14 (some 63) (.bool true) rfl rfl (by kernel_rfl) (by kernel_rfl) (by kernel_rfl) (fun _ _ _ h => h) (by rfl) (HI4.out) ?_ ?_
    · intro u hSu
      obtain ⟨c0, c1, c2, c3, c4, c5, c6, c7⟩ := cells_sp hSu
      go_simp
    simp only [Act.put, List.setIfInBounds_toArray, List.set_cons_zero, List.set_cons_succ]
    refine any_take 15 (some 64) (.bool true) rfl rfl (by kernel_rfl) (by kernel_rfl) (by kernel_rfl) (fun _ _ _ h => h) (by rfl) (HI4.out) ?_ ?_
    · intro u hSu
      obtain ⟨c0, c1, c2, c3, c4, c5, c6, c7⟩ := cells_sp hSu
      go_simp
    simp only [Act.put, List.setIfInBounds_toArray, List.set_cons_zero, List.set_cons_succ]
    refine any_take 16 (some 65) (.bool true) rfl rfl (by kernel_rfl) (by kernel_rfl) (by kernel_rfl) (fun _ _ _ h => h) (by rfl) (HI4.out) ?_ ?_
    · intro u hSu
      obtain ⟨c0, c1, c2, c3, c4, c5, c6, c7⟩ := cells_sp hSu
      go_simp
    simp only [Act.put, List.setIfInBounds_toArray, List.set_cons_zero, List.set_cons_succ]
    refine any_skip 17 (some 66) rfl rfl (by kernel_rfl) (by kernel_rfl) (by kernel_rfl) (fun _ _ _ h => h) (by rfl) (HI4.out) ?_
    simp only [Act.put, List.setIfInBounds_toArray, List.set_cons_zero, List.set_cons_succ]
    refine any_skip 18 (some 67) rfl rfl (by kernel_rfl) (by kernel_rfl) (by kernel_rfl) (fun _ _ _ h => h) (by rfl) (HI4.out) ?_
    simp only [Act.put, List.setIfInBounds_toArray, List.set_cons_zero, List.set_cons_succ]
    refine any_skip 19 (some 68) rfl rfl (by kernel_rfl) (by kernel_rfl) (by kernel_rfl) (fun _ _ _ h => h) (by rfl) (HI4.out) ?_
    simp only [Act.put, List.setIfInBounds_toArray, List.set_cons_zero, List.set_cons_succ]
    refine any_take 20 (some 69) (.bool true) rfl rfl (by kernel_rfl) (by kernel_rfl) (by kernel_rfl) (fun _ _ _ h => h) (by rfl) (HI4.out) ?_ ?_
    · intro u hSu
      obtain ⟨c0, c1, c2, c3, c4, c5, c6, c7⟩ := cells_sp hSu
      go_simp
    simp only [Act.put, List.setIfInBounds_toArray, List.set_cons_zero, List.set_cons_succ]
    refine any_take 21 (some 70) (.bool true) rfl rfl (by kernel_rfl) (by kernel_rfl) (by kernel_rfl) (fun _ _ _ h => h) (by rfl) (HI4.out) ?_ ?_
    · intro u hSu
      obtain ⟨c0, c1, c2, c3, c4, c5, c6, c7⟩ := cells_sp hSu
      go_simp
    simp only [Act.put, List.setIfInBounds_toArray, List.set_cons_zero, List.set_cons_succ]
    refine any_skip 22 (some 71) rfl rfl (by kernel_rfl) (by kernel_rfl) (by kernel_rfl) (fun _ _ _ h => h) (by rfl) (HI4.out) ?_
    simp only [Act.put, List.setIfInBounds_toArray, List.set_cons_zero, List.set_cons_succ]
    refine any_skip 23 (some 72) rfl rfl (by kernel_rfl) (by kernel_rfl) (by kernel_rfl) (fun _ _ _ h => h) (by rfl) (HI4.out) ?_
    simp only [Act.put, List.setIfInBounds_toArray, List.set_cons_zero, List.set_cons_succ]
    refine any_skip 24 (some 73) rfl rfl (by kernel_rfl) (by kernel_rfl) (by kernel_rfl) (fun _ _ _ h => h) (by rfl) (HI4.out) ?_
    simp only [Act.put, List.setIfInBounds_toArray, List.set_cons_zero, List.set_cons_succ]
    refine any_skip 25 (some 74) rfl rfl (by kernel_rfl) (by kernel_rfl) (by kernel_rfl) (fun _ _ _ h => h) (by rfl) (HI4.out) ?_
    simp only [Act.put, List.setIfInBounds_toArray, List.set_cons_zero, List.set_cons_succ]
    refine any_skip 26 (some 75) rfl rfl (by kernel_rfl) (by kernel_rfl) (by kernel_rfl) (fun _ _ _ h => h) (by rfl) (HI4.out) ?_
    simp only [Act.put, List.setIfInBounds_toArray, List.set_cons_zero, List.set_cons_succ]
    refine any_take 27 (some 76) (.bool true) rfl rfl (by kernel_rfl) (by kernel_rfl) (by kernel_rfl) (fun _ _ _ h => h) (by rfl) (HI4.out) ?_ ?_
    · intro u hSu
      obtain ⟨c0, c1, c2, c3, c4, c5, c6, c7⟩ := cells_sp hSu
      go_simp
    simp only [Act.put, List.setIfInBounds_toArray, List.set_cons_zero, List.set_cons_succ]
    refine any_take 28 (some 48) (.bool true) rfl rfl (by kernel_rfl) (by kernel_rfl) (by kernel_rfl) (fun _ _ _ h => h) (by rfl) (HI4.out) ?_ ?_
    · intro u hSu
      obtain ⟨c0, c1, c2, c3, c4, c5, c6, c7⟩ := cells_sp hSu
      go_simp
    simp only [Act.put, List.setIfInBounds_toArray, List.set_cons_zero, List.set_cons_succ]
    refine wpAnyH_done (by kernel_rfl) ?_ _
    go_wp2_with fail
    go_ret
    exact ⟨by rw [HChk.out, if_pos HS.out]; rfl, HB4.out⟩
  have x1 : decide (s.per < TB + 5) = false := by simpa using h1
  by_cases h2 : s.first < 3
  · have hs : s.counted = false := by rw [HCn.out]; simp [winE]; omega
    have HS := hide hs
    have x2 : decide (s.first < 3) = true := by simpa using h2
    clear hs h0 h1 h2
    refine wp_region_held_drew (S := (fun u => Blk u w.heap.size s.cs 30)) (by kernel_rfl) (HI2.out.drew) (fun _ => ?_)
    refine any_take 0 (some 49) (.pointer (some ⟨w.heap.size, 0, none⟩)) rfl rfl (by kernel_rfl) (by kernel_rfl) (by kernel_rfl) (fun _ _ _ h => h) (by rfl) (HI2.out.drew) ?_ ?_
    · intro u hSu
      obtain ⟨c0, c1, c2, c3, c4, c5, c6, c7⟩ := cells_sp hSu
      go_simp
    simp only [Act.put, List.setIfInBounds_toArray, List.set_cons_zero, List.set_cons_succ]
    refine any_take 1 (some 50) (.int .i64 s.ino) rfl rfl (by kernel_rfl) (by kernel_rfl) (by kernel_rfl) (fun _ _ _ h => h) (by rfl) (HI2.out.drew) ?_ ?_
    · intro u hSu
      obtain ⟨c0, c1, c2, c3, c4, c5, c6, c7⟩ := cells_sp hSu
      go_simp
    simp only [Act.put, List.setIfInBounds_toArray, List.set_cons_zero, List.set_cons_succ]
    refine any_take 2 (some 51) (.agg s.cs) rfl rfl (by kernel_rfl) (by kernel_rfl) (by kernel_rfl) (fun _ _ _ h => h) (by rfl) (HI2.out.drew) ?_ ?_
    · intro u hSu
      obtain ⟨c0, c1, c2, c3, c4, c5, c6, c7⟩ := cells_sp hSu
      go_simp
    simp only [Act.put, List.setIfInBounds_toArray, List.set_cons_zero, List.set_cons_succ]
    refine any_take 4 (some 53) (.pointer (some ⟨w.heap.size, 5, none⟩)) rfl rfl (by kernel_rfl) (by kernel_rfl) (by kernel_rfl) (fun _ _ _ h => h) (by rfl) (HI2.out.drew) ?_ ?_
    · intro u hSu
      obtain ⟨c0, c1, c2, c3, c4, c5, c6, c7⟩ := cells_sp hSu
      go_simp
    simp only [Act.put, List.setIfInBounds_toArray, List.set_cons_zero, List.set_cons_succ]
    refine any_take 5 (some 54) (.int .i64 s.each) rfl rfl (by kernel_rfl) (by kernel_rfl) (by kernel_rfl) (fun _ _ _ h => h) (by rfl) (HI2.out.drew) ?_ ?_
    · intro u hSu
      obtain ⟨c0, c1, c2, c3, c4, c5, c6, c7⟩ := cells_sp hSu
      go_simp
    simp only [Act.put, List.setIfInBounds_toArray, List.set_cons_zero, List.set_cons_succ]
    refine wpAnyH_ready (rs := [3]) (by kernel_rfl) (by simp) ?_
    refine AllReadyH.cons (i := 3) rfl (fun K hK => ?_) AllReadyH.nil
    go_simp
    refine (HGr _).out.mono ?_
    rintro e9 w3 ⟨rfl, hb⟩
    have HI3 := hide (HI2.out.drew.below hb)
    have HB3 := hide (HB2.out.drew.trans (hb.mono HB2.out.size))
    clear hb
    go_simp
    refine hK.out _ _ (HI3.out) (fun _ => ?_)
    clear hK K
    try simp only [Act.put, List.setIfInBounds_toArray, List.set_cons_zero, List.set_cons_succ]
    refine any_take 6 (some 55) (.int .i64 GE) rfl rfl (by kernel_rfl) (by kernel_rfl) (by kernel_rfl) (fun _ _ _ h => h) (by rfl) (HI3.out) ?_ ?_
    · intro u hSu
      obtain ⟨c0, c1, c2, c3, c4, c5, c6, c7⟩ := cells_sp hSu
      go_simp
    simp only [Act.put, List.setIfInBounds_toArray, List.set_cons_zero, List.set_cons_succ]
    refine any_take 7 (some 56) (.bool false) rfl rfl (by kernel_rfl) (by kernel_rfl) (by kernel_rfl) (fun _ _ _ h => h) (by rfl) (HI3.out) ?_ ?_
    · intro u hSu
      obtain ⟨c0, c1, c2, c3, c4, c5, c6, c7⟩ := cells_sp hSu
      go_simp
    simp only [Act.put, List.setIfInBounds_toArray, List.set_cons_zero, List.set_cons_succ]
    refine any_take 8 (some 57) (.bool false) rfl rfl (by kernel_rfl) (by kernel_rfl) (by kernel_rfl) (fun _ _ _ h => h) (by rfl) (HI3.out) ?_ ?_
    · intro u hSu
      obtain ⟨c0, c1, c2, c3, c4, c5, c6, c7⟩ := cells_sp hSu
      go_simp
    simp only [Act.put, List.setIfInBounds_toArray, List.set_cons_zero, List.set_cons_succ]
    refine any_take 9 (some 58) (.agg s.cs) rfl rfl (by kernel_rfl) (by kernel_rfl) (by kernel_rfl) (fun _ _ _ h => h) (by rfl) (HI3.out) ?_ ?_
    · intro u hSu
      obtain ⟨c0, c1, c2, c3, c4, c5, c6, c7⟩ := cells_sp hSu
      go_simp
    simp only [Act.put, List.setIfInBounds_toArray, List.set_cons_zero, List.set_cons_succ]
    refine any_take 12 (some 61) (.pointer (some ⟨w.heap.size, 4, none⟩)) rfl rfl (by kernel_rfl) (by kernel_rfl) (by kernel_rfl) (fun _ _ _ h => h) (by rfl) (HI3.out) ?_ ?_
    · intro u hSu
      obtain ⟨c0, c1, c2, c3, c4, c5, c6, c7⟩ := cells_sp hSu
      go_simp
    simp only [Act.put, List.setIfInBounds_toArray, List.set_cons_zero, List.set_cons_succ]
    refine any_take 13 (some 62) (.int .i64 s.per) rfl rfl (by kernel_rfl) (by kernel_rfl) (by kernel_rfl) (fun _ _ _ h => h) (by rfl) (HI3.out) ?_ ?_
    · intro u hSu
      obtain ⟨c0, c1, c2, c3, c4, c5, c6, c7⟩ := cells_sp hSu
      go_simp
    simp only [Act.put, List.setIfInBounds_toArray, List.set_cons_zero, List.set_cons_succ]
    refine wpAnyH_ready (rs := [10]) (by kernel_rfl) (by simp) ?_
    refine AllReadyH.cons (i := 10) rfl (fun K hK => ?_) AllReadyH.nil
    go_simp
    refine (HTa _).out.mono ?_
    rintro e9 w4 ⟨rfl, hb⟩
    have HI4 := hide (HI3.out.below hb)
    have HB4 := hide (HB3.out.trans (hb.mono HB3.out.size))
    clear hb
    go_simp
    refine hK.out _ _ (HI4.out) (fun _ => ?_)
    clear hK K
    try simp only [Act.put, List.setIfInBounds_toArray, List.set_cons_zero, List.set_cons_succ]
    refine any_take 11 (some 60) (.int .i64 (TB + 5)) rfl rfl (by kernel_rfl) (by kernel_rfl) (by kernel_rfl) (fun _ _ _ h => h) (by rfl) (HI4.out) ?_ ?_
    · intro u hSu
      obtain ⟨c0, c1, c2, c3, c4, c5, c6, c7⟩ := cells_sp hSu
      go_simp
    simp only [Act.put, List.setIfInBounds_toArray, List.set_cons_zero, List.set_cons_succ]
    refine any_take 14 (some 63) (.bool false) rfl rfl (by kernel_rfl) (by kernel_rfl) (by kernel_rfl) (fun _ _ _ h => h) (by rfl) (HI4.out) ?_ ?_
    · intro u hSu
      obtain ⟨c0, c1, c2, c3, c4, c5, c6, c7⟩ := cells_sp hSu
      go_simp
    simp only [Act.put, List.setIfInBounds_toArray, List.set_cons_zero, List.set_cons_succ]
    refine any_take 15 (some 64) (.bool false) rfl rfl (by kernel_rfl) (by kernel_rfl) (by kernel_rfl) (fun _ _ _ h => h) (by rfl) (HI4.out) ?_ ?_
    · intro u hSu
      obtain ⟨c0, c1, c2, c3, c4, c5, c6, c7⟩ := cells_sp hSu
      go_simp
    simp only [Act.put, List.setIfInBounds_toArray, List.set_cons_zero, List.set_cons_succ]
    refine any_take 16 (some 65) (.bool false) rfl rfl (by kernel_rfl) (by kernel_rfl) (by kernel_rfl) (fun _ _ _ h => h) (by rfl) (HI4.out) ?_ ?_
    · intro u hSu
      obtain ⟨c0, c1, c2, c3, c4, c5, c6, c7⟩ := cells_sp hSu
      go_simp
    simp only [Act.put, List.setIfInBounds_toArray, List.set_cons_zero, List.set_cons_succ]
    refine any_take 17 (some 66) (.pointer (some ⟨w.heap.size, 6, none⟩)) rfl rfl (by kernel_rfl) (by kernel_rfl) (by kernel_rfl) (fun _ _ _ h => h) (by rfl) (HI4.out) ?_ ?_
    · intro u hSu
      obtain ⟨c0, c1, c2, c3, c4, c5, c6, c7⟩ := cells_sp hSu
      go_simp
    simp only [Act.put, List.setIfInBounds_toArray, List.set_cons_zero, List.set_cons_succ]
    refine any_take 18 (some 67) (.int .i64 s.first) rfl rfl (by kernel_rfl) (by kernel_rfl) (by kernel_rfl) (fun _ _ _ h => h) (by rfl) (HI4.out) ?_ ?_
    · intro u hSu
      obtain ⟨c0, c1, c2, c3, c4, c5, c6, c7⟩ := cells_sp hSu
      go_simp
    simp only [Act.put, List.setIfInBounds_toArray, List.set_cons_zero, List.set_cons_succ]
    refine any_take 19 (some 68) (.bool true) rfl rfl (by kernel_rfl) (by kernel_rfl) (by kernel_rfl) (fun _ _ _ h => h) (by rfl) (HI4.out) ?_ ?_
    · intro u hSu
      obtain ⟨c0, c1, c2, c3, c4, c5, c6, c7⟩ := cells_sp hSu
      go_simp
    simp only [Act.put, List.setIfInBounds_toArray, List.set_cons_zero, List.set_cons_succ]
    refine any_take 20 (some 69) (.bool true) rfl rfl (by kernel_rfl) (by kernel_rfl) (by kernel_rfl) (fun _ _ _ h => h) (by rfl) (HI4.out) ?_ ?_
    · intro u hSu
      obtain ⟨c0, c1, c2, c3, c4, c5, c6, c7⟩ := cells_sp hSu
      go_simp
    simp only [Act.put, List.setIfInBounds_toArray, List.set_cons_zero, List.set_cons_succ]
    refine any_take 21 (some 70) (.bool true) rfl rfl (by kernel_rfl) (by kernel_rfl) (by kernel_rfl) (fun _ _ _ h => h) (by rfl) (HI4.out) ?_ ?_
    · intro u hSu
      obtain ⟨c0, c1, c2, c3, c4, c5, c6, c7⟩ := cells_sp hSu
      go_simp
    simp only [Act.put, List.setIfInBounds_toArray, List.set_cons_zero, List.set_cons_succ]
    refine any_skip 22 (some 71) rfl rfl (by kernel_rfl) (by kernel_rfl) (by kernel_rfl) (fun _ _ _ h => h) (by rfl) (HI4.out) ?_
    simp only [Act.put, List.setIfInBounds_toArray, List.set_cons_zero, List.set_cons_succ]
    refine any_skip 23 (some 72) rfl rfl (by kernel_rfl) (by kernel_rfl) (by kernel_rfl) (fun _ _ _ h => h) (by rfl) (HI4.out) ?_
    simp only [Act.put, List.setIfInBounds_toArray, List.set_cons_zero, List.set_cons_succ]
    refine any_skip 24 (some 73) rfl rfl (by kernel_rfl) (by kernel_rfl) (by kernel_rfl) (fun _ _ _ h => h) (by rfl) (HI4.out) ?_
    simp only [Act.put, List.setIfInBounds_toArray, List.set_cons_zero, List.set_cons_succ]
    refine any_skip 25 (some 74) rfl rfl (by kernel_rfl) (by kernel_rfl) (by kernel_rfl) (fun _ _ _ h => h) (by rfl) (HI4.out) ?_
    simp only [Act.put, List.setIfInBounds_toArray, List.set_cons_zero, List.set_cons_succ]
    refine any_skip 26 (some 75) rfl rfl (by kernel_rfl) (by kernel_rfl) (by kernel_rfl) (fun _ _ _ h => h) (by rfl) (HI4.out) ?_
    simp only [Act.put, List.setIfInBounds_toArray, List.set_cons_zero, List.set_cons_succ]
    refine any_take 27 (some 76) (.bool true) rfl rfl (by kernel_rfl) (by kernel_rfl) (by kernel_rfl) (fun _ _ _ h => h) (by rfl) (HI4.out) ?_ ?_
    · intro u hSu
      obtain ⟨c0, c1, c2, c3, c4, c5, c6, c7⟩ := cells_sp hSu
      go_simp
    simp only [Act.put, List.setIfInBounds_toArray, List.set_cons_zero, List.set_cons_succ]
    refine any_take 28 (some 48) (.bool true) rfl rfl (by kernel_rfl) (by kernel_rfl) (by kernel_rfl) (fun _ _ _ h => h) (by rfl) (HI4.out) ?_ ?_
    · intro u hSu
      obtain ⟨c0, c1, c2, c3, c4, c5, c6, c7⟩ := cells_sp hSu
      go_simp
    simp only [Act.put, List.setIfInBounds_toArray, List.set_cons_zero, List.set_cons_succ]
    refine wpAnyH_done (by kernel_rfl) ?_ _
    go_wp2_with fail
    go_ret
    exact ⟨by rw [HChk.out, if_pos HS.out]; rfl, HB4.out⟩
  have x2 : decide (s.first < 3) = false := by simpa using h2
  by_cases h3 : s.each < s.first
  · have hs : s.counted = false := by rw [HCn.out]; simp [winE]; omega
    have HS := hide hs
    have x3 : decide (s.each < s.first) = true := by simpa using h3
    clear hs h0 h1 h2 h3
    refine wp_region_held_drew (S := (fun u => Blk u w.heap.size s.cs 30)) (by kernel_rfl) (HI2.out.drew) (fun _ => ?_)
    refine any_take 0 (some 49) (.pointer (some ⟨w.heap.size, 0, none⟩)) rfl rfl (by kernel_rfl) (by kernel_rfl) (by kernel_rfl) (fun _ _ _ h => h) (by rfl) (HI2.out.drew) ?_ ?_
    · intro u hSu
      obtain ⟨c0, c1, c2, c3, c4, c5, c6, c7⟩ := cells_sp hSu
      go_simp
    simp only [Act.put, List.setIfInBounds_toArray, List.set_cons_zero, List.set_cons_succ]
    refine any_take 1 (some 50) (.int .i64 s.ino) rfl rfl (by kernel_rfl) (by kernel_rfl) (by kernel_rfl) (fun _ _ _ h => h) (by rfl) (HI2.out.drew) ?_ ?_
    · intro u hSu
      obtain ⟨c0, c1, c2, c3, c4, c5, c6, c7⟩ := cells_sp hSu
      go_simp
    simp only [Act.put, List.setIfInBounds_toArray, List.set_cons_zero, List.set_cons_succ]
    refine any_take 2 (some 51) (.agg s.cs) rfl rfl (by kernel_rfl) (by kernel_rfl) (by kernel_rfl) (fun _ _ _ h => h) (by rfl) (HI2.out.drew) ?_ ?_
    · intro u hSu
      obtain ⟨c0, c1, c2, c3, c4, c5, c6, c7⟩ := cells_sp hSu
      go_simp
    simp only [Act.put, List.setIfInBounds_toArray, List.set_cons_zero, List.set_cons_succ]
    refine any_take 4 (some 53) (.pointer (some ⟨w.heap.size, 5, none⟩)) rfl rfl (by kernel_rfl) (by kernel_rfl) (by kernel_rfl) (fun _ _ _ h => h) (by rfl) (HI2.out.drew) ?_ ?_
    · intro u hSu
      obtain ⟨c0, c1, c2, c3, c4, c5, c6, c7⟩ := cells_sp hSu
      go_simp
    simp only [Act.put, List.setIfInBounds_toArray, List.set_cons_zero, List.set_cons_succ]
    refine any_take 5 (some 54) (.int .i64 s.each) rfl rfl (by kernel_rfl) (by kernel_rfl) (by kernel_rfl) (fun _ _ _ h => h) (by rfl) (HI2.out.drew) ?_ ?_
    · intro u hSu
      obtain ⟨c0, c1, c2, c3, c4, c5, c6, c7⟩ := cells_sp hSu
      go_simp
    simp only [Act.put, List.setIfInBounds_toArray, List.set_cons_zero, List.set_cons_succ]
    refine wpAnyH_ready (rs := [3]) (by kernel_rfl) (by simp) ?_
    refine AllReadyH.cons (i := 3) rfl (fun K hK => ?_) AllReadyH.nil
    go_simp
    refine (HGr _).out.mono ?_
    rintro e9 w3 ⟨rfl, hb⟩
    have HI3 := hide (HI2.out.drew.below hb)
    have HB3 := hide (HB2.out.drew.trans (hb.mono HB2.out.size))
    clear hb
    go_simp
    refine hK.out _ _ (HI3.out) (fun _ => ?_)
    clear hK K
    try simp only [Act.put, List.setIfInBounds_toArray, List.set_cons_zero, List.set_cons_succ]
    refine any_take 6 (some 55) (.int .i64 GE) rfl rfl (by kernel_rfl) (by kernel_rfl) (by kernel_rfl) (fun _ _ _ h => h) (by rfl) (HI3.out) ?_ ?_
    · intro u hSu
      obtain ⟨c0, c1, c2, c3, c4, c5, c6, c7⟩ := cells_sp hSu
      go_simp
    simp only [Act.put, List.setIfInBounds_toArray, List.set_cons_zero, List.set_cons_succ]
    refine any_take 7 (some 56) (.bool false) rfl rfl (by kernel_rfl) (by kernel_rfl) (by kernel_rfl) (fun _ _ _ h => h) (by rfl) (HI3.out) ?_ ?_
    · intro u hSu
      obtain ⟨c0, c1, c2, c3, c4, c5, c6, c7⟩ := cells_sp hSu
      go_simp
    simp only [Act.put, List.setIfInBounds_toArray, List.set_cons_zero, List.set_cons_succ]
    refine any_take 8 (some 57) (.bool false) rfl rfl (by kernel_rfl) (by kernel_rfl) (by kernel_rfl) (fun _ _ _ h => h) (by rfl) (HI3.out) ?_ ?_
    · intro u hSu
      obtain ⟨c0, c1, c2, c3, c4, c5, c6, c7⟩ := cells_sp hSu
      go_simp
    simp only [Act.put, List.setIfInBounds_toArray, List.set_cons_zero, List.set_cons_succ]
    refine any_take 9 (some 58) (.agg s.cs) rfl rfl (by kernel_rfl) (by kernel_rfl) (by kernel_rfl) (fun _ _ _ h => h) (by rfl) (HI3.out) ?_ ?_
    · intro u hSu
      obtain ⟨c0, c1, c2, c3, c4, c5, c6, c7⟩ := cells_sp hSu
      go_simp
    simp only [Act.put, List.setIfInBounds_toArray, List.set_cons_zero, List.set_cons_succ]
    refine any_take 12 (some 61) (.pointer (some ⟨w.heap.size, 4, none⟩)) rfl rfl (by kernel_rfl) (by kernel_rfl) (by kernel_rfl) (fun _ _ _ h => h) (by rfl) (HI3.out) ?_ ?_
    · intro u hSu
      obtain ⟨c0, c1, c2, c3, c4, c5, c6, c7⟩ := cells_sp hSu
      go_simp
    simp only [Act.put, List.setIfInBounds_toArray, List.set_cons_zero, List.set_cons_succ]
    refine any_take 13 (some 62) (.int .i64 s.per) rfl rfl (by kernel_rfl) (by kernel_rfl) (by kernel_rfl) (fun _ _ _ h => h) (by rfl) (HI3.out) ?_ ?_
    · intro u hSu
      obtain ⟨c0, c1, c2, c3, c4, c5, c6, c7⟩ := cells_sp hSu
      go_simp
    simp only [Act.put, List.setIfInBounds_toArray, List.set_cons_zero, List.set_cons_succ]
    refine wpAnyH_ready (rs := [10]) (by kernel_rfl) (by simp) ?_
    refine AllReadyH.cons (i := 10) rfl (fun K hK => ?_) AllReadyH.nil
    go_simp
    refine (HTa _).out.mono ?_
    rintro e9 w4 ⟨rfl, hb⟩
    have HI4 := hide (HI3.out.below hb)
    have HB4 := hide (HB3.out.trans (hb.mono HB3.out.size))
    clear hb
    go_simp
    refine hK.out _ _ (HI4.out) (fun _ => ?_)
    clear hK K
    try simp only [Act.put, List.setIfInBounds_toArray, List.set_cons_zero, List.set_cons_succ]
    refine any_take 11 (some 60) (.int .i64 (TB + 5)) rfl rfl (by kernel_rfl) (by kernel_rfl) (by kernel_rfl) (fun _ _ _ h => h) (by rfl) (HI4.out) ?_ ?_
    · intro u hSu
      obtain ⟨c0, c1, c2, c3, c4, c5, c6, c7⟩ := cells_sp hSu
      go_simp
    simp only [Act.put, List.setIfInBounds_toArray, List.set_cons_zero, List.set_cons_succ]
    refine any_take 14 (some 63) (.bool false) rfl rfl (by kernel_rfl) (by kernel_rfl) (by kernel_rfl) (fun _ _ _ h => h) (by rfl) (HI4.out) ?_ ?_
    · intro u hSu
      obtain ⟨c0, c1, c2, c3, c4, c5, c6, c7⟩ := cells_sp hSu
      go_simp
    simp only [Act.put, List.setIfInBounds_toArray, List.set_cons_zero, List.set_cons_succ]
    refine any_take 15 (some 64) (.bool false) rfl rfl (by kernel_rfl) (by kernel_rfl) (by kernel_rfl) (fun _ _ _ h => h) (by rfl) (HI4.out) ?_ ?_
    · intro u hSu
      obtain ⟨c0, c1, c2, c3, c4, c5, c6, c7⟩ := cells_sp hSu
      go_simp
    simp only [Act.put, List.setIfInBounds_toArray, List.set_cons_zero, List.set_cons_succ]
    refine any_take 16 (some 65) (.bool false) rfl rfl (by kernel_rfl) (by kernel_rfl) (by kernel_rfl) (fun _ _ _ h => h) (by rfl) (HI4.out) ?_ ?_
    · intro u hSu
      obtain ⟨c0, c1, c2, c3, c4, c5, c6, c7⟩ := cells_sp hSu
      go_simp
    simp only [Act.put, List.setIfInBounds_toArray, List.set_cons_zero, List.set_cons_succ]
    refine any_take 17 (some 66) (.pointer (some ⟨w.heap.size, 6, none⟩)) rfl rfl (by kernel_rfl) (by kernel_rfl) (by kernel_rfl) (fun _ _ _ h => h) (by rfl) (HI4.out) ?_ ?_
    · intro u hSu
      obtain ⟨c0, c1, c2, c3, c4, c5, c6, c7⟩ := cells_sp hSu
      go_simp
    simp only [Act.put, List.setIfInBounds_toArray, List.set_cons_zero, List.set_cons_succ]
    refine any_take 18 (some 67) (.int .i64 s.first) rfl rfl (by kernel_rfl) (by kernel_rfl) (by kernel_rfl) (fun _ _ _ h => h) (by rfl) (HI4.out) ?_ ?_
    · intro u hSu
      obtain ⟨c0, c1, c2, c3, c4, c5, c6, c7⟩ := cells_sp hSu
      go_simp
    simp only [Act.put, List.setIfInBounds_toArray, List.set_cons_zero, List.set_cons_succ]
    refine any_take 19 (some 68) (.bool false) rfl rfl (by kernel_rfl) (by kernel_rfl) (by kernel_rfl) (fun _ _ _ h => h) (by rfl) (HI4.out) ?_ ?_
    · intro u hSu
      obtain ⟨c0, c1, c2, c3, c4, c5, c6, c7⟩ := cells_sp hSu
      go_simp
    simp only [Act.put, List.setIfInBounds_toArray, List.set_cons_zero, List.set_cons_succ]
    refine any_take 20 (some 69) (.bool false) rfl rfl (by kernel_rfl) (by kernel_rfl) (by kernel_rfl) (fun _ _ _ h => h) (by rfl) (HI4.out) ?_ ?_
    · intro u hSu
      obtain ⟨c0, c1, c2, c3, c4, c5, c6, c7⟩ := cells_sp hSu
      go_simp
    simp only [Act.put, List.setIfInBounds_toArray, List.set_cons_zero, List.set_cons_succ]
    refine any_take 21 (some 70) (.bool false) rfl rfl (by kernel_rfl) (by kernel_rfl) (by kernel_rfl) (fun _ _ _ h => h) (by rfl) (HI4.out) ?_ ?_
    · intro u hSu
      obtain ⟨c0, c1, c2, c3, c4, c5, c6, c7⟩ := cells_sp hSu
      go_simp
    simp only [Act.put, List.setIfInBounds_toArray, List.set_cons_zero, List.set_cons_succ]
    refine any_take 22 (some 71) (.pointer (some ⟨w.heap.size, 6, none⟩)) rfl rfl (by kernel_rfl) (by kernel_rfl) (by kernel_rfl) (fun _ _ _ h => h) (by rfl) (HI4.out) ?_ ?_
    · intro u hSu
      obtain ⟨c0, c1, c2, c3, c4, c5, c6, c7⟩ := cells_sp hSu
      go_simp
    simp only [Act.put, List.setIfInBounds_toArray, List.set_cons_zero, List.set_cons_succ]
    refine any_take 23 (some 72) (.int .i64 s.first) rfl rfl (by kernel_rfl) (by kernel_rfl) (by kernel_rfl) (fun _ _ _ h => h) (by rfl) (HI4.out) ?_ ?_
    · intro u hSu
      obtain ⟨c0, c1, c2, c3, c4, c5, c6, c7⟩ := cells_sp hSu
      go_simp
    simp only [Act.put, List.setIfInBounds_toArray, List.set_cons_zero, List.set_cons_succ]
    refine any_take 24 (some 73) (.pointer (some ⟨w.heap.size, 5, none⟩)) rfl rfl (by kernel_rfl) (by kernel_rfl) (by kernel_rfl) (fun _ _ _ h => h) (by rfl) (HI4.out) ?_ ?_
    · intro u hSu
      obtain ⟨c0, c1, c2, c3, c4, c5, c6, c7⟩ := cells_sp hSu
      go_simp
    simp only [Act.put, List.setIfInBounds_toArray, List.set_cons_zero, List.set_cons_succ]
    refine any_take 25 (some 74) (.int .i64 s.each) rfl rfl (by kernel_rfl) (by kernel_rfl) (by kernel_rfl) (fun _ _ _ h => h) (by rfl) (HI4.out) ?_ ?_
    · intro u hSu
      obtain ⟨c0, c1, c2, c3, c4, c5, c6, c7⟩ := cells_sp hSu
      go_simp
    simp only [Act.put, List.setIfInBounds_toArray, List.set_cons_zero, List.set_cons_succ]
    refine any_take 26 (some 75) (.bool true) rfl rfl (by kernel_rfl) (by kernel_rfl) (by kernel_rfl) (fun _ _ _ h => h) (by rfl) (HI4.out) ?_ ?_
    · intro u hSu
      obtain ⟨c0, c1, c2, c3, c4, c5, c6, c7⟩ := cells_sp hSu
      go_simp
    simp only [Act.put, List.setIfInBounds_toArray, List.set_cons_zero, List.set_cons_succ]
    refine any_take 27 (some 76) (.bool true) rfl rfl (by kernel_rfl) (by kernel_rfl) (by kernel_rfl) (fun _ _ _ h => h) (by rfl) (HI4.out) ?_ ?_
    · intro u hSu
      obtain ⟨c0, c1, c2, c3, c4, c5, c6, c7⟩ := cells_sp hSu
      go_simp
    simp only [Act.put, List.setIfInBounds_toArray, List.set_cons_zero, List.set_cons_succ]
    refine any_take 28 (some 48) (.bool true) rfl rfl (by kernel_rfl) (by kernel_rfl) (by kernel_rfl) (fun _ _ _ h => h) (by rfl) (HI4.out) ?_ ?_
    · intro u hSu
      obtain ⟨c0, c1, c2, c3, c4, c5, c6, c7⟩ := cells_sp hSu
      go_simp
    simp only [Act.put, List.setIfInBounds_toArray, List.set_cons_zero, List.set_cons_succ]
    refine wpAnyH_done (by kernel_rfl) ?_ _
    go_wp2_with fail
    go_ret
    exact ⟨by rw [HChk.out, if_pos HS.out]; rfl, HB4.out⟩
  have x3 : decide (s.each < s.first) = false := by simpa using h3
  refine wp_region_held_drew (S := (fun u => Blk u w.heap.size s.cs 30)) (by kernel_rfl) (HI2.out.drew) (fun _ => ?_)
  refine any_take 0 (some 49) (.pointer (some ⟨w.heap.size, 0, none⟩)) rfl rfl (by kernel_rfl) (by kernel_rfl) (by kernel_rfl) (fun _ _ _ h => h) (by rfl) (HI2.out.drew) ?_ ?_
  · intro u hSu
    obtain ⟨c0, c1, c2, c3, c4, c5, c6, c7⟩ := cells_sp hSu
    go_simp
  simp only [Act.put, List.setIfInBounds_toArray, List.set_cons_zero, List.set_cons_succ]
  refine any_take 1 (some 50) (.int .i64 s.ino) rfl rfl (by kernel_rfl) (by kernel_rfl) (by kernel_rfl) (fun _ _ _ h => h) (by rfl) (HI2.out.drew) ?_ ?_
  · intro u hSu
    obtain ⟨c0, c1, c2, c3, c4, c5, c6, c7⟩ := cells_sp hSu
    go_simp
  simp only [Act.put, List.setIfInBounds_toArray, List.set_cons_zero, List.set_cons_succ]
  refine any_take 2 (some 51) (.agg s.cs) rfl rfl (by kernel_rfl) (by kernel_rfl) (by kernel_rfl) (fun _ _ _ h => h) (by rfl) (HI2.out.drew) ?_ ?_
  · intro u hSu
    obtain ⟨c0, c1, c2, c3, c4, c5, c6, c7⟩ := cells_sp hSu
    go_simp
  simp only [Act.put, List.setIfInBounds_toArray, List.set_cons_zero, List.set_cons_succ]
  refine any_take 4 (some 53) (.pointer (some ⟨w.heap.size, 5, none⟩)) rfl rfl (by kernel_rfl) (by kernel_rfl) (by kernel_rfl) (fun _ _ _ h => h) (by rfl) (HI2.out.drew) ?_ ?_
  · intro u hSu
    obtain ⟨c0, c1, c2, c3, c4, c5, c6, c7⟩ := cells_sp hSu
    go_simp
  simp only [Act.put, List.setIfInBounds_toArray, List.set_cons_zero, List.set_cons_succ]
  refine any_take 5 (some 54) (.int .i64 s.each) rfl rfl (by kernel_rfl) (by kernel_rfl) (by kernel_rfl) (fun _ _ _ h => h) (by rfl) (HI2.out.drew) ?_ ?_
  · intro u hSu
    obtain ⟨c0, c1, c2, c3, c4, c5, c6, c7⟩ := cells_sp hSu
    go_simp
  simp only [Act.put, List.setIfInBounds_toArray, List.set_cons_zero, List.set_cons_succ]
  refine wpAnyH_ready (rs := [3]) (by kernel_rfl) (by simp) ?_
  refine AllReadyH.cons (i := 3) rfl (fun K hK => ?_) AllReadyH.nil
  go_simp
  refine (HGr _).out.mono ?_
  rintro e9 w3 ⟨rfl, hb⟩
  have HI3 := hide (HI2.out.drew.below hb)
  have HB3 := hide (HB2.out.drew.trans (hb.mono HB2.out.size))
  clear hb
  go_simp
  refine hK.out _ _ (HI3.out) (fun _ => ?_)
  clear hK K
  try simp only [Act.put, List.setIfInBounds_toArray, List.set_cons_zero, List.set_cons_succ]
  refine any_take 6 (some 55) (.int .i64 GE) rfl rfl (by kernel_rfl) (by kernel_rfl) (by kernel_rfl) (fun _ _ _ h => h) (by rfl) (HI3.out) ?_ ?_
  · intro u hSu
    obtain ⟨c0, c1, c2, c3, c4, c5, c6, c7⟩ := cells_sp hSu
    go_simp
  simp only [Act.put, List.setIfInBounds_toArray, List.set_cons_zero, List.set_cons_succ]
  refine any_take 7 (some 56) (.bool false) rfl rfl (by kernel_rfl) (by kernel_rfl) (by kernel_rfl) (fun _ _ _ h => h) (by rfl) (HI3.out) ?_ ?_
  · intro u hSu
    obtain ⟨c0, c1, c2, c3, c4, c5, c6, c7⟩ := cells_sp hSu
    go_simp
  simp only [Act.put, List.setIfInBounds_toArray, List.set_cons_zero, List.set_cons_succ]
  refine any_take 8 (some 57) (.bool false) rfl rfl (by kernel_rfl) (by kernel_rfl) (by kernel_rfl) (fun _ _ _ h => h) (by rfl) (HI3.out) ?_ ?_
  · intro u hSu
    obtain ⟨c0, c1, c2, c3, c4, c5, c6, c7⟩ := cells_sp hSu
    go_simp
  simp only [Act.put, List.setIfInBounds_toArray, List.set_cons_zero, List.set_cons_succ]
  refine any_take 9 (some 58) (.agg s.cs) rfl rfl (by kernel_rfl) (by kernel_rfl) (by kernel_rfl) (fun _ _ _ h => h) (by rfl) (HI3.out) ?_ ?_
  · intro u hSu
    obtain ⟨c0, c1, c2, c3, c4, c5, c6, c7⟩ := cells_sp hSu
    go_simp
  simp only [Act.put, List.setIfInBounds_toArray, List.set_cons_zero, List.set_cons_succ]
  refine any_take 12 (some 61) (.pointer (some ⟨w.heap.size, 4, none⟩)) rfl rfl (by kernel_rfl) (by kernel_rfl) (by kernel_rfl) (fun _ _ _ h => h) (by rfl) (HI3.out) ?_ ?_
  · intro u hSu
    obtain ⟨c0, c1, c2, c3, c4, c5, c6, c7⟩ := cells_sp hSu
    go_simp
  simp only [Act.put, List.setIfInBounds_toArray, List.set_cons_zero, List.set_cons_succ]
  refine any_take 13 (some 62) (.int .i64 s.per) rfl rfl (by kernel_rfl) (by kernel_rfl) (by kernel_rfl) (fun _ _ _ h => h) (by rfl) (HI3.out) ?_ ?_
  · intro u hSu
    obtain ⟨c0, c1, c2, c3, c4, c5, c6, c7⟩ := cells_sp hSu
    go_simp
  simp only [Act.put, List.setIfInBounds_toArray, List.set_cons_zero, List.set_cons_succ]
  refine wpAnyH_ready (rs := [10]) (by kernel_rfl) (by simp) ?_
  refine AllReadyH.cons (i := 10) rfl (fun K hK => ?_) AllReadyH.nil
  go_simp
  refine (HTa _).out.mono ?_
  rintro e9 w4 ⟨rfl, hb⟩
  have HI4 := hide (HI3.out.below hb)
  have HB4 := hide (HB3.out.trans (hb.mono HB3.out.size))
  clear hb
  go_simp
  refine hK.out _ _ (HI4.out) (fun _ => ?_)
  clear hK K
  try simp only [Act.put, List.setIfInBounds_toArray, List.set_cons_zero, List.set_cons_succ]
  refine any_take 11 (some 60) (.int .i64 (TB + 5)) rfl rfl (by kernel_rfl) (by kernel_rfl) (by kernel_rfl) (fun _ _ _ h => h) (by rfl) (HI4.out) ?_ ?_
  · intro u hSu
    obtain ⟨c0, c1, c2, c3, c4, c5, c6, c7⟩ := cells_sp hSu
    go_simp
  simp only [Act.put, List.setIfInBounds_toArray, List.set_cons_zero, List.set_cons_succ]
  refine any_take 14 (some 63) (.bool false) rfl rfl (by kernel_rfl) (by kernel_rfl) (by kernel_rfl) (fun _ _ _ h => h) (by rfl) (HI4.out) ?_ ?_
  · intro u hSu
    obtain ⟨c0, c1, c2, c3, c4, c5, c6, c7⟩ := cells_sp hSu
    go_simp
  simp only [Act.put, List.setIfInBounds_toArray, List.set_cons_zero, List.set_cons_succ]
  refine any_take 15 (some 64) (.bool false) rfl rfl (by kernel_rfl) (by kernel_rfl) (by kernel_rfl) (fun _ _ _ h => h) (by rfl) (HI4.out) ?_ ?_
  · intro u hSu
    obtain ⟨c0, c1, c2, c3, c4, c5, c6, c7⟩ := cells_sp hSu
    go_simp
  simp only [Act.put, List.setIfInBounds_toArray, List.set_cons_zero, List.set_cons_succ]
  refine any_take 16 (some 65) (.bool false) rfl rfl (by kernel_rfl) (by kernel_rfl) (by kernel_rfl) (fun _ _ _ h => h) (by rfl) (HI4.out) ?_ ?_
  · intro u hSu
    obtain ⟨c0, c1, c2, c3, c4, c5, c6, c7⟩ := cells_sp hSu
    go_simp
  simp only [Act.put, List.setIfInBounds_toArray, List.set_cons_zero, List.set_cons_succ]
  refine any_take 17 (some 66) (.pointer (some ⟨w.heap.size, 6, none⟩)) rfl rfl (by kernel_rfl) (by kernel_rfl) (by kernel_rfl) (fun _ _ _ h => h) (by rfl) (HI4.out) ?_ ?_
  · intro u hSu
    obtain ⟨c0, c1, c2, c3, c4, c5, c6, c7⟩ := cells_sp hSu
    go_simp
  simp only [Act.put, List.setIfInBounds_toArray, List.set_cons_zero, List.set_cons_succ]
  refine any_take 18 (some 67) (.int .i64 s.first) rfl rfl (by kernel_rfl) (by kernel_rfl) (by kernel_rfl) (fun _ _ _ h => h) (by rfl) (HI4.out) ?_ ?_
  · intro u hSu
    obtain ⟨c0, c1, c2, c3, c4, c5, c6, c7⟩ := cells_sp hSu
    go_simp
  simp only [Act.put, List.setIfInBounds_toArray, List.set_cons_zero, List.set_cons_succ]
  refine any_take 19 (some 68) (.bool false) rfl rfl (by kernel_rfl) (by kernel_rfl) (by kernel_rfl) (fun _ _ _ h => h) (by rfl) (HI4.out) ?_ ?_
  · intro u hSu
    obtain ⟨c0, c1, c2, c3, c4, c5, c6, c7⟩ := cells_sp hSu
    go_simp
  simp only [Act.put, List.setIfInBounds_toArray, List.set_cons_zero, List.set_cons_succ]
  refine any_take 20 (some 69) (.bool false) rfl rfl (by kernel_rfl) (by kernel_rfl) (by kernel_rfl) (fun _ _ _ h => h) (by rfl) (HI4.out) ?_ ?_
  · intro u hSu
    obtain ⟨c0, c1, c2, c3, c4, c5, c6, c7⟩ := cells_sp hSu
    go_simp
  simp only [Act.put, List.setIfInBounds_toArray, List.set_cons_zero, List.set_cons_succ]
  refine any_take 21 (some 70) (.bool false) rfl rfl (by kernel_rfl) (by kernel_rfl) (by kernel_rfl) (fun _ _ _ h => h) (by rfl) (HI4.out) ?_ ?_
  · intro u hSu
    obtain ⟨c0, c1, c2, c3, c4, c5, c6, c7⟩ := cells_sp hSu
    go_simp
  simp only [Act.put, List.setIfInBounds_toArray, List.set_cons_zero, List.set_cons_succ]
  refine any_take 22 (some 71) (.pointer (some ⟨w.heap.size, 6, none⟩)) rfl rfl (by kernel_rfl) (by kernel_rfl) (by kernel_rfl) (fun _ _ _ h => h) (by rfl) (HI4.out) ?_ ?_
  · intro u hSu
    obtain ⟨c0, c1, c2, c3, c4, c5, c6, c7⟩ := cells_sp hSu
    go_simp
  simp only [Act.put, List.setIfInBounds_toArray, List.set_cons_zero, List.set_cons_succ]
  refine any_take 23 (some 72) (.int .i64 s.first) rfl rfl (by kernel_rfl) (by kernel_rfl) (by kernel_rfl) (fun _ _ _ h => h) (by rfl) (HI4.out) ?_ ?_
  · intro u hSu
    obtain ⟨c0, c1, c2, c3, c4, c5, c6, c7⟩ := cells_sp hSu
    go_simp
  simp only [Act.put, List.setIfInBounds_toArray, List.set_cons_zero, List.set_cons_succ]
  refine any_take 24 (some 73) (.pointer (some ⟨w.heap.size, 5, none⟩)) rfl rfl (by kernel_rfl) (by kernel_rfl) (by kernel_rfl) (fun _ _ _ h => h) (by rfl) (HI4.out) ?_ ?_
  · intro u hSu
    obtain ⟨c0, c1, c2, c3, c4, c5, c6, c7⟩ := cells_sp hSu
    go_simp
  simp only [Act.put, List.setIfInBounds_toArray, List.set_cons_zero, List.set_cons_succ]
  refine any_take 25 (some 74) (.int .i64 s.each) rfl rfl (by kernel_rfl) (by kernel_rfl) (by kernel_rfl) (fun _ _ _ h => h) (by rfl) (HI4.out) ?_ ?_
  · intro u hSu
    obtain ⟨c0, c1, c2, c3, c4, c5, c6, c7⟩ := cells_sp hSu
    go_simp
  simp only [Act.put, List.setIfInBounds_toArray, List.set_cons_zero, List.set_cons_succ]
  refine any_take 26 (some 75) (.bool false) rfl rfl (by kernel_rfl) (by kernel_rfl) (by kernel_rfl) (fun _ _ _ h => h) (by rfl) (HI4.out) ?_ ?_
  · intro u hSu
    obtain ⟨c0, c1, c2, c3, c4, c5, c6, c7⟩ := cells_sp hSu
    go_simp
  simp only [Act.put, List.setIfInBounds_toArray, List.set_cons_zero, List.set_cons_succ]
  refine any_take 27 (some 76) (.bool false) rfl rfl (by kernel_rfl) (by kernel_rfl) (by kernel_rfl) (fun _ _ _ h => h) (by rfl) (HI4.out) ?_ ?_
  · intro u hSu
    obtain ⟨c0, c1, c2, c3, c4, c5, c6, c7⟩ := cells_sp hSu
    go_simp
  simp only [Act.put, List.setIfInBounds_toArray, List.set_cons_zero, List.set_cons_succ]
  refine any_take 28 (some 48) (.bool false) rfl rfl (by kernel_rfl) (by kernel_rfl) (by kernel_rfl) (fun _ _ _ h => h) (by rfl) (HI4.out) ?_ ?_
  · intro u hSu
    obtain ⟨c0, c1, c2, c3, c4, c5, c6, c7⟩ := cells_sp hSu
    go_simp
  simp only [Act.put, List.setIfInBounds_toArray, List.set_cons_zero, List.set_cons_succ]
  refine wpAnyH_done (by kernel_rfl) ?_ _
  obtain ⟨c0, c1, c2, c3, c4, c5, c6, c7⟩ := cells_sp HI4.out
  by_cases k0 : s.fbl < 0
  · have hs : s.counted = false := by rw [HCn.out]; simp [winE]; omega
    have HS := hide hs
    have y0 : decide (s.fbl < 0) = true := by simpa using k0
    clear hs h0 h1 h2 h3 k0
    go_wp2_with fail
    go_ret
    exact ⟨by rw [HChk.out, if_pos HS.out]; rfl, HB4.out⟩
  have y0 : decide (s.fbl < 0) = false := by simpa using k0
  by_cases k1 : s.blo < s.fbl
  · have hs : s.counted = false := by rw [HCn.out]; simp [winE]; omega
    have HS := hide hs
    have y1 : decide (s.blo < s.fbl) = true := by simpa using k1
    clear hs h0 h1 h2 h3 k0 k1
    go_wp2_with fail
    go_ret
    exact ⟨by rw [HChk.out, if_pos HS.out]; rfl, HB4.out⟩
  have y1 : decide (s.blo < s.fbl) = false := by simpa using k1
  by_cases k2 : s.fin < 0
  · have hs : s.counted = false := by rw [HCn.out]; simp [winE]; omega
    have HS := hide hs
    have y2 : decide (s.fin < 0) = true := by simpa using k2
    clear hs h0 h1 h2 h3 k0 k1 k2
    go_wp2_with fail
    go_ret
    exact ⟨by rw [HChk.out, if_pos HS.out]; rfl, HB4.out⟩
  have y2 : decide (s.fin < 0) = false := by simpa using k2
  by_cases k3 : s.ino < s.fin
  · have hs : s.counted = false := by rw [HCn.out]; simp [winE]; omega
    have HS := hide hs
    have y3 : decide (s.ino < s.fin) = true := by simpa using k3
    clear hs h0 h1 h2 h3 k0 k1 k2 k3
    go_wp2_with fail
    go_ret
    exact ⟨by rw [HChk.out, if_pos HS.out]; rfl, HB4.out⟩
  have y3 : decide (s.ino < s.fin) = false := by simpa using k3
  have hs : s.counted = true := by rw [HCn.out]; simp [winE]; omega
  have HS := hide hs
  clear hs h0 h1 h2 h3 k0 k1 k2 k3
  go_wp2_with fail
  go_ret
  exact ⟨by rw [HChk.out, if_neg (by rw [HS.out]; simp)]; rfl, HB4.out⟩
end Go.Proofs.YtjmajjfknmjifaaDoor.Oct
