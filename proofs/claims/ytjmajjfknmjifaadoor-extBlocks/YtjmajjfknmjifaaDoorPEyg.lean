/- Is a super one? For numbers that are near. -/
import Derived.Test.YtjmajjfknmjifaaDoorPEyb
import Derived.Test.YtjmajjfknmjifaaDoorPTak
namespace Go.Proofs.YtjmajjfknmjifaaDoor.Oct
open Go.RowKit

/-- May a volume, and its groups, be of this size? -/
def Sp.sized (s : Sp) : Bool := (((winE 64 8192 s.per && s.per.tmod 8 == 0) && winE 8 8192 s.each) && s.each.tmod 8 == 0) && winE 8 16384 s.blo

/-- Do its counts fit its size? -/
def Sp.counted (s : Sp) : Bool := (((s.ino == s.grp * s.each && decide (s.tab + 4 + 1 ≤ s.per)) && winE 3 s.each s.first) && winE 0 s.blo s.fbl) && winE 0 s.ino s.fin

/-- Is it one? -/
def Sp.chk (s : Sp) : Int := if s.sized = false then 11 else if 32 < s.grp then 20 else if s.counted = false then 11 else 0

theorem Sp.sized_says {s : Sp} (h : s.sized = true) : 64 ≤ s.per ∧ s.per ≤ 8192 ∧ 8 ≤ s.each ∧ s.each ≤ 8192 ∧ 8 ≤ s.blo ∧ s.blo ≤ 16384 := by
  simp [Sp.sized, winE] at h
  omega

theorem Sp.grp_in {s : Sp} (h : s.sized = true) : 1 ≤ s.grp ∧ s.grp ≤ 20000 := by
  have hs := Sp.sized_says h
  unfold Sp.grp
  have h1 : 0 ≤ (max s.blo 2 - 1 - 1) / max s.per 1 := Int.ediv_nonneg (by omega) (by omega)
  have h2 := Int.ediv_le_self (max s.per 1) (a := max s.blo 2 - 1 - 1) (by omega)
  omega

set_option maxHeartbeats 8000000 in
set_option maxRecDepth 100000 in
theorem sized_any (s : Sp) (w : World) :
    Calls Tryd.prog 62 #[.agg s.cs] w fun e w' => e = .returned (.bool s.sized) ∧ Below w.heap.size w w' := by
  obtain ⟨c0, c1, c2, c3, c4, c5, c6, c7⟩ := cells_sp (Blk.new w s.cs 23)
  have HB := hide ((Below.refl w.heap.size w).alloc (Nat.le_refl _) (.cells s.cs 23))
  have HWi := fun x y n u => hide (within_ext x y n u)
  obtain ⟨r, hr⟩ : ∃ r, r = s.sized := ⟨_, rfl⟩
  rw [← hr]
  have HR := hide hr
  clear hr
  go_enter Tryd.func62, Tryd.ntmps62
  go_wp2_with fail
  refine (HWi _ _ _ _).out.mono ?_
  rintro e9 w2 ⟨rfl, h2⟩
  rw [h2]
  clear h2
  cases g0 : winE 64 8192 s.per
  · have G0 := hide g0
    clear g0
    go_wp2_with fail
    go_ret
    exact ⟨by rw [HR.out]; unfold Sp.sized; rw [G0.out]; rfl, HB.out⟩
  have G0 := hide g0
  clear g0
  cases g1 : (s.per.tmod 8 == 0)
  · have G1 := hide g1
    go_wp2_with fail
    go_ret
    exact ⟨by rw [HR.out]; unfold Sp.sized; rw [G0.out, G1.out]; rfl, HB.out⟩
  have G1 := hide g1
  go_wp2_with fail
  refine (HWi _ _ _ _).out.mono ?_
  rintro e9 w3 ⟨rfl, h2⟩
  rw [h2]
  clear h2 g1
  cases g2 : winE 8 8192 s.each
  · have G2 := hide g2
    clear g2
    go_wp2_with fail
    go_ret
    exact ⟨by rw [HR.out]; unfold Sp.sized; rw [G0.out, G1.out, G2.out]; rfl, HB.out⟩
  have G2 := hide g2
  clear g2
  cases g3 : (s.each.tmod 8 == 0)
  · have G3 := hide g3
    go_wp2_with fail
    go_ret
    exact ⟨by rw [HR.out]; unfold Sp.sized; rw [G0.out, G1.out, G2.out, G3.out]; rfl, HB.out⟩
  have G3 := hide g3
  go_wp2_with fail
  refine (HWi _ _ _ _).out.mono ?_
  rintro e9 w4 ⟨rfl, h2⟩
  rw [h2]
  clear h2 g3
  go_wp2_with fail
  go_ret
  exact ⟨by rw [HR.out]; unfold Sp.sized; rw [G0.out, G1.out, G2.out, G3.out]; rfl, HB.out⟩

set_option maxHeartbeats 16000000 in
set_option maxRecDepth 100000 in
theorem counted_any (s : Sp) (w : World) (hz : s.sized = true) :
    Calls Tryd.prog 63 #[.agg s.cs] w fun e w' => e = .returned (.bool s.counted) ∧ Below w.heap.size w w' := by
  have hs := Sp.sized_says hz
  have hgr := Sp.grp_in hz
  have hnr : s.near ∨ True := Or.inr trivial
  have hgn : ∀ u, Calls Tryd.prog 48 #[.agg s.cs] u fun e w' => e = .returned (.int .i64 s.grp) ∧ Below u.heap.size u w' := fun u => grp_any2 s u ⟨by omega, by omega⟩ ⟨by omega, by omega⟩
  obtain ⟨w1, hw1⟩ : ∃ w1, w1 = w.alloc (.cells s.cs 23) := ⟨_, rfl⟩
  have HI := hide (show Blk w1 w.heap.size s.cs 23 by rw [hw1]; exact Blk.new _ _ _)
  have HB := hide (show Below w.heap.size w w1 by rw [hw1]; exact (Below.refl _ _).alloc (Nat.le_refl _) _)
  have HW1 := hide hw1
  have HGr := fun u => hide (hgn u)
  have HWi := fun x y n u => hide (within_ext x y n u)
  obtain ⟨t, ht⟩ : ∃ t, t = s.tab := ⟨_, rfl⟩
  have htb : 0 ≤ t ∧ t ≤ 8192 := by
    rw [ht]
    unfold Sp.tab
    rw [Int.tdiv_eq_ediv_of_nonneg (by omega)]
    omega
  have HTa := fun u => hide (show Calls Tryd.prog 50 #[.agg s.cs] u fun e w' => e = .returned (.int .i64 t) ∧ Below u.heap.size u w' by
    have h := tab_any s u
    rw [← ht, show IntKind.i64.wrap t = t by rw [IntKind.wrap_i64]; omega] at h
    exact h)
  obtain ⟨GE, hGE⟩ : ∃ GE, GE = s.grp * s.each := ⟨_, rfl⟩
  have hge : 0 ≤ GE ∧ GE ≤ 200000000 := by
    rw [hGE]
    constructor
    · exact Int.mul_nonneg (by omega) (by omega)
    · have h1 : s.grp * s.each ≤ 20000 * 8192 := Int.mul_le_mul (by omega) (by omega) (by omega) (by omega)
      omega
  have m1 : IntKind.i64.wrap (s.grp * s.each) = GE := by rw [← hGE, IntKind.wrap_i64]; omega
  have m2 : IntKind.i64.wrap (t + 4) = t + 4 := by rw [IntKind.wrap_i64]; omega
  have m3 : IntKind.i64.wrap (t + 4 + 1) = t + 4 + 1 := by rw [IntKind.wrap_i64]; omega
  have HC := hide (show s.counted = ((((s.ino == GE && decide (t + 4 + 1 ≤ s.per)) && winE 3 s.each s.first) && winE 0 s.blo s.fbl) && winE 0 s.ino s.fin) by unfold Sp.counted; rw [← hGE, ← ht])
  obtain ⟨r, hr⟩ : ∃ r, r = s.counted := ⟨_, rfl⟩
  rw [← hr] at HC ⊢
  have HXc : ∀ u, Below w1.heap.size w1 u → Blk u w.heap.size s.cs 23 := fun u hu => HI.out.below hu
  clear hs hgr hnr hgn hw1 ht htb hGE hge hr hz
  go_enter Tryd.func63, Tryd.ntmps63
  go_wp2_with fail
  rw [← HW1.out]
  cases g0 : (s.ino == GE)
  · have G0 := hide g0
    refine wp_region_held_drew (S := fun u => Below w1.heap.size w1 u) (by kernel_rfl) ((Below.refl _ _).drew) (fun _ => ?_)
    refine any_take 0 (some 3) (.pointer (some ⟨w.heap.size, 0, none⟩)) rfl rfl (by kernel_rfl) (by kernel_rfl) (by kernel_rfl) (fun _ _ _ h => h) (by rfl) ((Below.refl _ _).drew) ?_ ?_
    · intro u hSu
      obtain ⟨s0, s1, s2, s3, s4, s5, s6, s7⟩ := cells_sp (HXc _ hSu)
      go_simp
    simp only [Act.put, List.setIfInBounds_toArray, List.set_cons_zero, List.set_cons_succ]
    refine any_take 1 (some 4) (.int .i64 s.ino) rfl rfl (by kernel_rfl) (by kernel_rfl) (by kernel_rfl) (fun _ _ _ h => h) (by rfl) ((Below.refl _ _).drew) ?_ ?_
    · intro u hSu
      obtain ⟨s0, s1, s2, s3, s4, s5, s6, s7⟩ := cells_sp (HXc _ hSu)
      go_simp
    simp only [Act.put, List.setIfInBounds_toArray, List.set_cons_zero, List.set_cons_succ]
    refine any_take 2 (some 5) (.agg s.cs) rfl rfl (by kernel_rfl) (by kernel_rfl) (by kernel_rfl) (fun _ _ _ h => h) (by rfl) ((Below.refl _ _).drew) ?_ ?_
    · intro u hSu
      obtain ⟨s0, s1, s2, s3, s4, s5, s6, s7⟩ := cells_sp (HXc _ hSu)
      go_simp
    simp only [Act.put, List.setIfInBounds_toArray, List.set_cons_zero, List.set_cons_succ]
    refine any_take 4 (some 7) (.pointer (some ⟨w.heap.size, 5, none⟩)) rfl rfl (by kernel_rfl) (by kernel_rfl) (by kernel_rfl) (fun _ _ _ h => h) (by rfl) ((Below.refl _ _).drew) ?_ ?_
    · intro u hSu
      obtain ⟨s0, s1, s2, s3, s4, s5, s6, s7⟩ := cells_sp (HXc _ hSu)
      go_simp
    simp only [Act.put, List.setIfInBounds_toArray, List.set_cons_zero, List.set_cons_succ]
    refine any_take 5 (some 8) (.int .i64 s.each) rfl rfl (by kernel_rfl) (by kernel_rfl) (by kernel_rfl) (fun _ _ _ h => h) (by rfl) ((Below.refl _ _).drew) ?_ ?_
    · intro u hSu
      obtain ⟨s0, s1, s2, s3, s4, s5, s6, s7⟩ := cells_sp (HXc _ hSu)
      go_simp
    simp only [Act.put, List.setIfInBounds_toArray, List.set_cons_zero, List.set_cons_succ]
    refine wpAnyH_ready (rs := [3]) (by kernel_rfl) (by simp) ?_
    refine AllReadyH.cons (i := 3) rfl (fun K hK => ?_) AllReadyH.nil
    go_simp
    refine ((HGr _).out).mono ?_
    rintro e9 w5 ⟨rfl, hb5⟩
    have HX5 := hide ((Below.refl w1.heap.size w1).drew.trans hb5)
    clear hb5
    go_simp
    refine hK.out _ _ (HX5.out) (fun _ => ?_)
    clear hK K
    try simp only [Act.put, List.setIfInBounds_toArray, List.set_cons_zero, List.set_cons_succ]
    refine any_take 6 (some 9) (.int .i64 GE) rfl rfl (by kernel_rfl) (by kernel_rfl) (by kernel_rfl) (fun _ _ _ h => h) (by rfl) (HX5.out) ?_ ?_
    · intro u hSu
      obtain ⟨s0, s1, s2, s3, s4, s5, s6, s7⟩ := cells_sp (HXc _ hSu)
      go_simp
    simp only [Act.put, List.setIfInBounds_toArray, List.set_cons_zero, List.set_cons_succ]
    refine any_take 7 (some 10) (.bool false) rfl rfl (by kernel_rfl) (by kernel_rfl) (by kernel_rfl) (fun _ _ _ h => h) (by rfl) (HX5.out) ?_ ?_
    · intro u hSu
      obtain ⟨s0, s1, s2, s3, s4, s5, s6, s7⟩ := cells_sp (HXc _ hSu)
      go_simp
    simp only [Act.put, List.setIfInBounds_toArray, List.set_cons_zero, List.set_cons_succ]
    refine any_take 8 (some 11) (.bool false) rfl rfl (by kernel_rfl) (by kernel_rfl) (by kernel_rfl) (fun _ _ _ h => h) (by rfl) (HX5.out) ?_ ?_
    · intro u hSu
      obtain ⟨s0, s1, s2, s3, s4, s5, s6, s7⟩ := cells_sp (HXc _ hSu)
      go_simp
    simp only [Act.put, List.setIfInBounds_toArray, List.set_cons_zero, List.set_cons_succ]
    refine any_skip 9 (some 12) rfl rfl (by kernel_rfl) (by kernel_rfl) (by kernel_rfl) (fun _ _ _ h => h) (by rfl) (HX5.out) ?_
    simp only [Act.put, List.setIfInBounds_toArray, List.set_cons_zero, List.set_cons_succ]
    refine any_skip 10 (some 13) rfl rfl (by kernel_rfl) (by kernel_rfl) (by kernel_rfl) (fun _ _ _ h => h) (by rfl) (HX5.out) ?_
    simp only [Act.put, List.setIfInBounds_toArray, List.set_cons_zero, List.set_cons_succ]
    refine any_skip 11 (some 14) rfl rfl (by kernel_rfl) (by kernel_rfl) (by kernel_rfl) (fun _ _ _ h => h) (by rfl) (HX5.out) ?_
    simp only [Act.put, List.setIfInBounds_toArray, List.set_cons_zero, List.set_cons_succ]
    refine any_skip 12 (some 15) rfl rfl (by kernel_rfl) (by kernel_rfl) (by kernel_rfl) (fun _ _ _ h => h) (by rfl) (HX5.out) ?_
    simp only [Act.put, List.setIfInBounds_toArray, List.set_cons_zero, List.set_cons_succ]
    refine any_skip 13 (some 16) rfl rfl (by kernel_rfl) (by kernel_rfl) (by kernel_rfl) (fun _ _ _ h => h) (by rfl) (HX5.out) ?_
    simp only [Act.put, List.setIfInBounds_toArray, List.set_cons_zero, List.set_cons_succ]
    refine any_skip 14 (some 17) rfl rfl (by kernel_rfl) (by kernel_rfl) (by kernel_rfl) (fun _ _ _ h => h) (by rfl) (HX5.out) ?_
    simp only [Act.put, List.setIfInBounds_toArray, List.set_cons_zero, List.set_cons_succ]
    refine any_skip 15 (some 18) rfl rfl (by kernel_rfl) (by kernel_rfl) (by kernel_rfl) (fun _ _ _ h => h) (by rfl) (HX5.out) ?_
    simp only [Act.put, List.setIfInBounds_toArray, List.set_cons_zero, List.set_cons_succ]
    refine any_take 16 (some 19) (.bool false) rfl rfl (by kernel_rfl) (by kernel_rfl) (by kernel_rfl) (fun _ _ _ h => h) (by rfl) (HX5.out) ?_ ?_
    · intro u hSu
      obtain ⟨s0, s1, s2, s3, s4, s5, s6, s7⟩ := cells_sp (HXc _ hSu)
      go_simp
    simp only [Act.put, List.setIfInBounds_toArray, List.set_cons_zero, List.set_cons_succ]
    refine any_take 17 (some 20) (.bool false) rfl rfl (by kernel_rfl) (by kernel_rfl) (by kernel_rfl) (fun _ _ _ h => h) (by rfl) (HX5.out) ?_ ?_
    · intro u hSu
      obtain ⟨s0, s1, s2, s3, s4, s5, s6, s7⟩ := cells_sp (HXc _ hSu)
      go_simp
    simp only [Act.put, List.setIfInBounds_toArray, List.set_cons_zero, List.set_cons_succ]
    refine any_skip 18 (some 21) rfl rfl (by kernel_rfl) (by kernel_rfl) (by kernel_rfl) (fun _ _ _ h => h) (by rfl) (HX5.out) ?_
    simp only [Act.put, List.setIfInBounds_toArray, List.set_cons_zero, List.set_cons_succ]
    refine any_skip 19 (some 22) rfl rfl (by kernel_rfl) (by kernel_rfl) (by kernel_rfl) (fun _ _ _ h => h) (by rfl) (HX5.out) ?_
    simp only [Act.put, List.setIfInBounds_toArray, List.set_cons_zero, List.set_cons_succ]
    refine any_skip 20 (some 23) rfl rfl (by kernel_rfl) (by kernel_rfl) (by kernel_rfl) (fun _ _ _ h => h) (by rfl) (HX5.out) ?_
    simp only [Act.put, List.setIfInBounds_toArray, List.set_cons_zero, List.set_cons_succ]
    refine any_skip 21 (some 24) rfl rfl (by kernel_rfl) (by kernel_rfl) (by kernel_rfl) (fun _ _ _ h => h) (by rfl) (HX5.out) ?_
    simp only [Act.put, List.setIfInBounds_toArray, List.set_cons_zero, List.set_cons_succ]
    refine any_skip 22 (some 25) rfl rfl (by kernel_rfl) (by kernel_rfl) (by kernel_rfl) (fun _ _ _ h => h) (by rfl) (HX5.out) ?_
    simp only [Act.put, List.setIfInBounds_toArray, List.set_cons_zero, List.set_cons_succ]
    refine any_take 23 (some 26) (.bool false) rfl rfl (by kernel_rfl) (by kernel_rfl) (by kernel_rfl) (fun _ _ _ h => h) (by rfl) (HX5.out) ?_ ?_
    · intro u hSu
      obtain ⟨s0, s1, s2, s3, s4, s5, s6, s7⟩ := cells_sp (HXc _ hSu)
      go_simp
    simp only [Act.put, List.setIfInBounds_toArray, List.set_cons_zero, List.set_cons_succ]
    refine any_take 24 (some 27) (.bool false) rfl rfl (by kernel_rfl) (by kernel_rfl) (by kernel_rfl) (fun _ _ _ h => h) (by rfl) (HX5.out) ?_ ?_
    · intro u hSu
      obtain ⟨s0, s1, s2, s3, s4, s5, s6, s7⟩ := cells_sp (HXc _ hSu)
      go_simp
    simp only [Act.put, List.setIfInBounds_toArray, List.set_cons_zero, List.set_cons_succ]
    refine any_skip 25 (some 28) rfl rfl (by kernel_rfl) (by kernel_rfl) (by kernel_rfl) (fun _ _ _ h => h) (by rfl) (HX5.out) ?_
    simp only [Act.put, List.setIfInBounds_toArray, List.set_cons_zero, List.set_cons_succ]
    refine any_skip 26 (some 29) rfl rfl (by kernel_rfl) (by kernel_rfl) (by kernel_rfl) (fun _ _ _ h => h) (by rfl) (HX5.out) ?_
    simp only [Act.put, List.setIfInBounds_toArray, List.set_cons_zero, List.set_cons_succ]
    refine any_skip 27 (some 30) rfl rfl (by kernel_rfl) (by kernel_rfl) (by kernel_rfl) (fun _ _ _ h => h) (by rfl) (HX5.out) ?_
    simp only [Act.put, List.setIfInBounds_toArray, List.set_cons_zero, List.set_cons_succ]
    refine any_skip 28 (some 31) rfl rfl (by kernel_rfl) (by kernel_rfl) (by kernel_rfl) (fun _ _ _ h => h) (by rfl) (HX5.out) ?_
    simp only [Act.put, List.setIfInBounds_toArray, List.set_cons_zero, List.set_cons_succ]
    refine any_skip 29 (some 32) rfl rfl (by kernel_rfl) (by kernel_rfl) (by kernel_rfl) (fun _ _ _ h => h) (by rfl) (HX5.out) ?_
    simp only [Act.put, List.setIfInBounds_toArray, List.set_cons_zero, List.set_cons_succ]
    refine any_take 30 (some 33) (.bool false) rfl rfl (by kernel_rfl) (by kernel_rfl) (by kernel_rfl) (fun _ _ _ h => h) (by rfl) (HX5.out) ?_ ?_
    · intro u hSu
      obtain ⟨s0, s1, s2, s3, s4, s5, s6, s7⟩ := cells_sp (HXc _ hSu)
      go_simp
    simp only [Act.put, List.setIfInBounds_toArray, List.set_cons_zero, List.set_cons_succ]
    refine any_take 31 (some 34) (.bool false) rfl rfl (by kernel_rfl) (by kernel_rfl) (by kernel_rfl) (fun _ _ _ h => h) (by rfl) (HX5.out) ?_ ?_
    · intro u hSu
      obtain ⟨s0, s1, s2, s3, s4, s5, s6, s7⟩ := cells_sp (HXc _ hSu)
      go_simp
    simp only [Act.put, List.setIfInBounds_toArray, List.set_cons_zero, List.set_cons_succ]
    refine any_skip 32 (some 35) rfl rfl (by kernel_rfl) (by kernel_rfl) (by kernel_rfl) (fun _ _ _ h => h) (by rfl) (HX5.out) ?_
    simp only [Act.put, List.setIfInBounds_toArray, List.set_cons_zero, List.set_cons_succ]
    refine any_skip 33 (some 36) rfl rfl (by kernel_rfl) (by kernel_rfl) (by kernel_rfl) (fun _ _ _ h => h) (by rfl) (HX5.out) ?_
    simp only [Act.put, List.setIfInBounds_toArray, List.set_cons_zero, List.set_cons_succ]
    refine any_skip 34 (some 37) rfl rfl (by kernel_rfl) (by kernel_rfl) (by kernel_rfl) (fun _ _ _ h => h) (by rfl) (HX5.out) ?_
    simp only [Act.put, List.setIfInBounds_toArray, List.set_cons_zero, List.set_cons_succ]
    refine any_skip 35 (some 38) rfl rfl (by kernel_rfl) (by kernel_rfl) (by kernel_rfl) (fun _ _ _ h => h) (by rfl) (HX5.out) ?_
    simp only [Act.put, List.setIfInBounds_toArray, List.set_cons_zero, List.set_cons_succ]
    refine any_skip 36 (some 39) rfl rfl (by kernel_rfl) (by kernel_rfl) (by kernel_rfl) (fun _ _ _ h => h) (by rfl) (HX5.out) ?_
    simp only [Act.put, List.setIfInBounds_toArray, List.set_cons_zero, List.set_cons_succ]
    refine any_take 37 (some 40) (.bool false) rfl rfl (by kernel_rfl) (by kernel_rfl) (by kernel_rfl) (fun _ _ _ h => h) (by rfl) (HX5.out) ?_ ?_
    · intro u hSu
      obtain ⟨s0, s1, s2, s3, s4, s5, s6, s7⟩ := cells_sp (HXc _ hSu)
      go_simp
    simp only [Act.put, List.setIfInBounds_toArray, List.set_cons_zero, List.set_cons_succ]
    refine any_take 38 (some 2) (.bool false) rfl rfl (by kernel_rfl) (by kernel_rfl) (by kernel_rfl) (fun _ _ _ h => h) (by rfl) (HX5.out) ?_ ?_
    · intro u hSu
      obtain ⟨s0, s1, s2, s3, s4, s5, s6, s7⟩ := cells_sp (HXc _ hSu)
      go_simp
    simp only [Act.put, List.setIfInBounds_toArray, List.set_cons_zero, List.set_cons_succ]
    refine wpAnyH_done (by kernel_rfl) ?_ _
    go_wp2_with fail
    go_ret
    exact ⟨by rw [HC.out, G0.out]; rfl, HB.out.trans (HX5.out.mono HB.out.size)⟩
  have G0 := hide g0
  cases g1 : decide (t + 4 + 1 ≤ s.per)
  · have G1 := hide g1
    refine wp_region_held_drew (S := fun u => Below w1.heap.size w1 u) (by kernel_rfl) ((Below.refl _ _).drew) (fun _ => ?_)
    refine any_take 0 (some 3) (.pointer (some ⟨w.heap.size, 0, none⟩)) rfl rfl (by kernel_rfl) (by kernel_rfl) (by kernel_rfl) (fun _ _ _ h => h) (by rfl) ((Below.refl _ _).drew) ?_ ?_
    · intro u hSu
      obtain ⟨s0, s1, s2, s3, s4, s5, s6, s7⟩ := cells_sp (HXc _ hSu)
      go_simp
    simp only [Act.put, List.setIfInBounds_toArray, List.set_cons_zero, List.set_cons_succ]
    refine any_take 1 (some 4) (.int .i64 s.ino) rfl rfl (by kernel_rfl) (by kernel_rfl) (by kernel_rfl) (fun _ _ _ h => h) (by rfl) ((Below.refl _ _).drew) ?_ ?_
    · intro u hSu
      obtain ⟨s0, s1, s2, s3, s4, s5, s6, s7⟩ := cells_sp (HXc _ hSu)
      go_simp
    simp only [Act.put, List.setIfInBounds_toArray, List.set_cons_zero, List.set_cons_succ]
    refine any_take 2 (some 5) (.agg s.cs) rfl rfl (by kernel_rfl) (by kernel_rfl) (by kernel_rfl) (fun _ _ _ h => h) (by rfl) ((Below.refl _ _).drew) ?_ ?_
    · intro u hSu
      obtain ⟨s0, s1, s2, s3, s4, s5, s6, s7⟩ := cells_sp (HXc _ hSu)
      go_simp
    simp only [Act.put, List.setIfInBounds_toArray, List.set_cons_zero, List.set_cons_succ]
    refine any_take 4 (some 7) (.pointer (some ⟨w.heap.size, 5, none⟩)) rfl rfl (by kernel_rfl) (by kernel_rfl) (by kernel_rfl) (fun _ _ _ h => h) (by rfl) ((Below.refl _ _).drew) ?_ ?_
    · intro u hSu
      obtain ⟨s0, s1, s2, s3, s4, s5, s6, s7⟩ := cells_sp (HXc _ hSu)
      go_simp
    simp only [Act.put, List.setIfInBounds_toArray, List.set_cons_zero, List.set_cons_succ]
    refine any_take 5 (some 8) (.int .i64 s.each) rfl rfl (by kernel_rfl) (by kernel_rfl) (by kernel_rfl) (fun _ _ _ h => h) (by rfl) ((Below.refl _ _).drew) ?_ ?_
    · intro u hSu
      obtain ⟨s0, s1, s2, s3, s4, s5, s6, s7⟩ := cells_sp (HXc _ hSu)
      go_simp
    simp only [Act.put, List.setIfInBounds_toArray, List.set_cons_zero, List.set_cons_succ]
    refine wpAnyH_ready (rs := [3]) (by kernel_rfl) (by simp) ?_
    refine AllReadyH.cons (i := 3) rfl (fun K hK => ?_) AllReadyH.nil
    go_simp
    refine ((HGr _).out).mono ?_
    rintro e9 w5 ⟨rfl, hb5⟩
    have HX5 := hide ((Below.refl w1.heap.size w1).drew.trans hb5)
    clear hb5
    go_simp
    refine hK.out _ _ (HX5.out) (fun _ => ?_)
    clear hK K
    try simp only [Act.put, List.setIfInBounds_toArray, List.set_cons_zero, List.set_cons_succ]
    refine any_take 6 (some 9) (.int .i64 GE) rfl rfl (by kernel_rfl) (by kernel_rfl) (by kernel_rfl) (fun _ _ _ h => h) (by rfl) (HX5.out) ?_ ?_
    · intro u hSu
      obtain ⟨s0, s1, s2, s3, s4, s5, s6, s7⟩ := cells_sp (HXc _ hSu)
      go_simp
    simp only [Act.put, List.setIfInBounds_toArray, List.set_cons_zero, List.set_cons_succ]
    refine any_take 7 (some 10) (.bool true) rfl rfl (by kernel_rfl) (by kernel_rfl) (by kernel_rfl) (fun _ _ _ h => h) (by rfl) (HX5.out) ?_ ?_
    · intro u hSu
      obtain ⟨s0, s1, s2, s3, s4, s5, s6, s7⟩ := cells_sp (HXc _ hSu)
      go_simp
    simp only [Act.put, List.setIfInBounds_toArray, List.set_cons_zero, List.set_cons_succ]
    refine any_take 8 (some 11) (.bool true) rfl rfl (by kernel_rfl) (by kernel_rfl) (by kernel_rfl) (fun _ _ _ h => h) (by rfl) (HX5.out) ?_ ?_
    · intro u hSu
      obtain ⟨s0, s1, s2, s3, s4, s5, s6, s7⟩ := cells_sp (HXc _ hSu)
      go_simp
    simp only [Act.put, List.setIfInBounds_toArray, List.set_cons_zero, List.set_cons_succ]
    refine any_take 9 (some 12) (.agg s.cs) rfl rfl (by kernel_rfl) (by kernel_rfl) (by kernel_rfl) (fun _ _ _ h => h) (by rfl) (HX5.out) ?_ ?_
    · intro u hSu
      obtain ⟨s0, s1, s2, s3, s4, s5, s6, s7⟩ := cells_sp (HXc _ hSu)
      go_simp
    simp only [Act.put, List.setIfInBounds_toArray, List.set_cons_zero, List.set_cons_succ]
    refine any_take 13 (some 16) (.pointer (some ⟨w.heap.size, 4, none⟩)) rfl rfl (by kernel_rfl) (by kernel_rfl) (by kernel_rfl) (fun _ _ _ h => h) (by rfl) (HX5.out) ?_ ?_
    · intro u hSu
      obtain ⟨s0, s1, s2, s3, s4, s5, s6, s7⟩ := cells_sp (HXc _ hSu)
      go_simp
    simp only [Act.put, List.setIfInBounds_toArray, List.set_cons_zero, List.set_cons_succ]
    refine any_take 14 (some 17) (.int .i64 s.per) rfl rfl (by kernel_rfl) (by kernel_rfl) (by kernel_rfl) (fun _ _ _ h => h) (by rfl) (HX5.out) ?_ ?_
    · intro u hSu
      obtain ⟨s0, s1, s2, s3, s4, s5, s6, s7⟩ := cells_sp (HXc _ hSu)
      go_simp
    simp only [Act.put, List.setIfInBounds_toArray, List.set_cons_zero, List.set_cons_succ]
    refine wpAnyH_ready (rs := [10]) (by kernel_rfl) (by simp) ?_
    refine AllReadyH.cons (i := 10) rfl (fun K hK => ?_) AllReadyH.nil
    go_simp
    refine ((HTa _).out).mono ?_
    rintro e9 w6 ⟨rfl, hb6⟩
    have HX6 := hide (HX5.out.trans (hb6.mono HX5.out.size))
    clear hb6
    go_simp
    refine hK.out _ _ (HX6.out) (fun _ => ?_)
    clear hK K
    try simp only [Act.put, List.setIfInBounds_toArray, List.set_cons_zero, List.set_cons_succ]
    refine any_take 11 (some 14) (.int .i64 (t + 4)) rfl rfl (by kernel_rfl) (by kernel_rfl) (by kernel_rfl) (fun _ _ _ h => h) (by rfl) (HX6.out) ?_ ?_
    · intro u hSu
      obtain ⟨s0, s1, s2, s3, s4, s5, s6, s7⟩ := cells_sp (HXc _ hSu)
      go_simp
    simp only [Act.put, List.setIfInBounds_toArray, List.set_cons_zero, List.set_cons_succ]
    refine any_take 12 (some 15) (.int .i64 (t + 4 + 1)) rfl rfl (by kernel_rfl) (by kernel_rfl) (by kernel_rfl) (fun _ _ _ h => h) (by rfl) (HX6.out) ?_ ?_
    · intro u hSu
      obtain ⟨s0, s1, s2, s3, s4, s5, s6, s7⟩ := cells_sp (HXc _ hSu)
      go_simp
    simp only [Act.put, List.setIfInBounds_toArray, List.set_cons_zero, List.set_cons_succ]
    refine any_take 15 (some 18) (.bool false) rfl rfl (by kernel_rfl) (by kernel_rfl) (by kernel_rfl) (fun _ _ _ h => h) (by rfl) (HX6.out) ?_ ?_
    · intro u hSu
      obtain ⟨s0, s1, s2, s3, s4, s5, s6, s7⟩ := cells_sp (HXc _ hSu)
      go_simp
    simp only [Act.put, List.setIfInBounds_toArray, List.set_cons_zero, List.set_cons_succ]
    refine any_take 16 (some 19) (.bool false) rfl rfl (by kernel_rfl) (by kernel_rfl) (by kernel_rfl) (fun _ _ _ h => h) (by rfl) (HX6.out) ?_ ?_
    · intro u hSu
      obtain ⟨s0, s1, s2, s3, s4, s5, s6, s7⟩ := cells_sp (HXc _ hSu)
      go_simp
    simp only [Act.put, List.setIfInBounds_toArray, List.set_cons_zero, List.set_cons_succ]
    refine any_take 17 (some 20) (.bool false) rfl rfl (by kernel_rfl) (by kernel_rfl) (by kernel_rfl) (fun _ _ _ h => h) (by rfl) (HX6.out) ?_ ?_
    · intro u hSu
      obtain ⟨s0, s1, s2, s3, s4, s5, s6, s7⟩ := cells_sp (HXc _ hSu)
      go_simp
    simp only [Act.put, List.setIfInBounds_toArray, List.set_cons_zero, List.set_cons_succ]
    refine any_skip 18 (some 21) rfl rfl (by kernel_rfl) (by kernel_rfl) (by kernel_rfl) (fun _ _ _ h => h) (by rfl) (HX6.out) ?_
    simp only [Act.put, List.setIfInBounds_toArray, List.set_cons_zero, List.set_cons_succ]
    refine any_skip 19 (some 22) rfl rfl (by kernel_rfl) (by kernel_rfl) (by kernel_rfl) (fun _ _ _ h => h) (by rfl) (HX6.out) ?_
    simp only [Act.put, List.setIfInBounds_toArray, List.set_cons_zero, List.set_cons_succ]
    refine any_skip 20 (some 23) rfl rfl (by kernel_rfl) (by kernel_rfl) (by kernel_rfl) (fun _ _ _ h => h) (by rfl) (HX6.out) ?_
    simp only [Act.put, List.setIfInBounds_toArray, List.set_cons_zero, List.set_cons_succ]
    refine any_skip 21 (some 24) rfl rfl (by kernel_rfl) (by kernel_rfl) (by kernel_rfl) (fun _ _ _ h => h) (by rfl) (HX6.out) ?_
    simp only [Act.put, List.setIfInBounds_toArray, List.set_cons_zero, List.set_cons_succ]
    refine any_skip 22 (some 25) rfl rfl (by kernel_rfl) (by kernel_rfl) (by kernel_rfl) (fun _ _ _ h => h) (by rfl) (HX6.out) ?_
    simp only [Act.put, List.setIfInBounds_toArray, List.set_cons_zero, List.set_cons_succ]
    refine any_take 23 (some 26) (.bool false) rfl rfl (by kernel_rfl) (by kernel_rfl) (by kernel_rfl) (fun _ _ _ h => h) (by rfl) (HX6.out) ?_ ?_
    · intro u hSu
      obtain ⟨s0, s1, s2, s3, s4, s5, s6, s7⟩ := cells_sp (HXc _ hSu)
      go_simp
    simp only [Act.put, List.setIfInBounds_toArray, List.set_cons_zero, List.set_cons_succ]
    refine any_take 24 (some 27) (.bool false) rfl rfl (by kernel_rfl) (by kernel_rfl) (by kernel_rfl) (fun _ _ _ h => h) (by rfl) (HX6.out) ?_ ?_
    · intro u hSu
      obtain ⟨s0, s1, s2, s3, s4, s5, s6, s7⟩ := cells_sp (HXc _ hSu)
      go_simp
    simp only [Act.put, List.setIfInBounds_toArray, List.set_cons_zero, List.set_cons_succ]
    refine any_skip 25 (some 28) rfl rfl (by kernel_rfl) (by kernel_rfl) (by kernel_rfl) (fun _ _ _ h => h) (by rfl) (HX6.out) ?_
    simp only [Act.put, List.setIfInBounds_toArray, List.set_cons_zero, List.set_cons_succ]
    refine any_skip 26 (some 29) rfl rfl (by kernel_rfl) (by kernel_rfl) (by kernel_rfl) (fun _ _ _ h => h) (by rfl) (HX6.out) ?_
    simp only [Act.put, List.setIfInBounds_toArray, List.set_cons_zero, List.set_cons_succ]
    refine any_skip 27 (some 30) rfl rfl (by kernel_rfl) (by kernel_rfl) (by kernel_rfl) (fun _ _ _ h => h) (by rfl) (HX6.out) ?_
    simp only [Act.put, List.setIfInBounds_toArray, List.set_cons_zero, List.set_cons_succ]
    refine any_skip 28 (some 31) rfl rfl (by kernel_rfl) (by kernel_rfl) (by kernel_rfl) (fun _ _ _ h => h) (by rfl) (HX6.out) ?_
    simp only [Act.put, List.setIfInBounds_toArray, List.set_cons_zero, List.set_cons_succ]
    refine any_skip 29 (some 32) rfl rfl (by kernel_rfl) (by kernel_rfl) (by kernel_rfl) (fun _ _ _ h => h) (by rfl) (HX6.out) ?_
    simp only [Act.put, List.setIfInBounds_toArray, List.set_cons_zero, List.set_cons_succ]
    refine any_take 30 (some 33) (.bool false) rfl rfl (by kernel_rfl) (by kernel_rfl) (by kernel_rfl) (fun _ _ _ h => h) (by rfl) (HX6.out) ?_ ?_
    · intro u hSu
      obtain ⟨s0, s1, s2, s3, s4, s5, s6, s7⟩ := cells_sp (HXc _ hSu)
      go_simp
    simp only [Act.put, List.setIfInBounds_toArray, List.set_cons_zero, List.set_cons_succ]
    refine any_take 31 (some 34) (.bool false) rfl rfl (by kernel_rfl) (by kernel_rfl) (by kernel_rfl) (fun _ _ _ h => h) (by rfl) (HX6.out) ?_ ?_
    · intro u hSu
      obtain ⟨s0, s1, s2, s3, s4, s5, s6, s7⟩ := cells_sp (HXc _ hSu)
      go_simp
    simp only [Act.put, List.setIfInBounds_toArray, List.set_cons_zero, List.set_cons_succ]
    refine any_skip 32 (some 35) rfl rfl (by kernel_rfl) (by kernel_rfl) (by kernel_rfl) (fun _ _ _ h => h) (by rfl) (HX6.out) ?_
    simp only [Act.put, List.setIfInBounds_toArray, List.set_cons_zero, List.set_cons_succ]
    refine any_skip 33 (some 36) rfl rfl (by kernel_rfl) (by kernel_rfl) (by kernel_rfl) (fun _ _ _ h => h) (by rfl) (HX6.out) ?_
    simp only [Act.put, List.setIfInBounds_toArray, List.set_cons_zero, List.set_cons_succ]
    refine any_skip 34 (some 37) rfl rfl (by kernel_rfl) (by kernel_rfl) (by kernel_rfl) (fun _ _ _ h => h) (by rfl) (HX6.out) ?_
    simp only [Act.put, List.setIfInBounds_toArray, List.set_cons_zero, List.set_cons_succ]
    refine any_skip 35 (some 38) rfl rfl (by kernel_rfl) (by kernel_rfl) (by kernel_rfl) (fun _ _ _ h => h) (by rfl) (HX6.out) ?_
    simp only [Act.put, List.setIfInBounds_toArray, List.set_cons_zero, List.set_cons_succ]
    refine any_skip 36 (some 39) rfl rfl (by kernel_rfl) (by kernel_rfl) (by kernel_rfl) (fun _ _ _ h => h) (by rfl) (HX6.out) ?_
    simp only [Act.put, List.setIfInBounds_toArray, List.set_cons_zero, List.set_cons_succ]
    refine any_take 37 (some 40) (.bool false) rfl rfl (by kernel_rfl) (by kernel_rfl) (by kernel_rfl) (fun _ _ _ h => h) (by rfl) (HX6.out) ?_ ?_
    · intro u hSu
      obtain ⟨s0, s1, s2, s3, s4, s5, s6, s7⟩ := cells_sp (HXc _ hSu)
      go_simp
    simp only [Act.put, List.setIfInBounds_toArray, List.set_cons_zero, List.set_cons_succ]
    refine any_take 38 (some 2) (.bool false) rfl rfl (by kernel_rfl) (by kernel_rfl) (by kernel_rfl) (fun _ _ _ h => h) (by rfl) (HX6.out) ?_ ?_
    · intro u hSu
      obtain ⟨s0, s1, s2, s3, s4, s5, s6, s7⟩ := cells_sp (HXc _ hSu)
      go_simp
    simp only [Act.put, List.setIfInBounds_toArray, List.set_cons_zero, List.set_cons_succ]
    refine wpAnyH_done (by kernel_rfl) ?_ _
    go_wp2_with fail
    go_ret
    exact ⟨by rw [HC.out, G0.out, G1.out]; rfl, HB.out.trans (HX6.out.mono HB.out.size)⟩
  have G1 := hide g1
  cases g2 : winE 3 s.each s.first
  · have G2 := hide g2
    clear g2
    refine wp_region_held_drew (S := fun u => Below w1.heap.size w1 u) (by kernel_rfl) ((Below.refl _ _).drew) (fun _ => ?_)
    refine any_take 0 (some 3) (.pointer (some ⟨w.heap.size, 0, none⟩)) rfl rfl (by kernel_rfl) (by kernel_rfl) (by kernel_rfl) (fun _ _ _ h => h) (by rfl) ((Below.refl _ _).drew) ?_ ?_
    · intro u hSu
      obtain ⟨s0, s1, s2, s3, s4, s5, s6, s7⟩ := cells_sp (HXc _ hSu)
      go_simp
    simp only [Act.put, List.setIfInBounds_toArray, List.set_cons_zero, List.set_cons_succ]
    refine any_take 1 (some 4) (.int .i64 s.ino) rfl rfl (by kernel_rfl) (by kernel_rfl) (by kernel_rfl) (fun _ _ _ h => h) (by rfl) ((Below.refl _ _).drew) ?_ ?_
    · intro u hSu
      obtain ⟨s0, s1, s2, s3, s4, s5, s6, s7⟩ := cells_sp (HXc _ hSu)
      go_simp
    simp only [Act.put, List.setIfInBounds_toArray, List.set_cons_zero, List.set_cons_succ]
    refine any_take 2 (some 5) (.agg s.cs) rfl rfl (by kernel_rfl) (by kernel_rfl) (by kernel_rfl) (fun _ _ _ h => h) (by rfl) ((Below.refl _ _).drew) ?_ ?_
    · intro u hSu
      obtain ⟨s0, s1, s2, s3, s4, s5, s6, s7⟩ := cells_sp (HXc _ hSu)
      go_simp
    simp only [Act.put, List.setIfInBounds_toArray, List.set_cons_zero, List.set_cons_succ]
    refine any_take 4 (some 7) (.pointer (some ⟨w.heap.size, 5, none⟩)) rfl rfl (by kernel_rfl) (by kernel_rfl) (by kernel_rfl) (fun _ _ _ h => h) (by rfl) ((Below.refl _ _).drew) ?_ ?_
    · intro u hSu
      obtain ⟨s0, s1, s2, s3, s4, s5, s6, s7⟩ := cells_sp (HXc _ hSu)
      go_simp
    simp only [Act.put, List.setIfInBounds_toArray, List.set_cons_zero, List.set_cons_succ]
    refine any_take 5 (some 8) (.int .i64 s.each) rfl rfl (by kernel_rfl) (by kernel_rfl) (by kernel_rfl) (fun _ _ _ h => h) (by rfl) ((Below.refl _ _).drew) ?_ ?_
    · intro u hSu
      obtain ⟨s0, s1, s2, s3, s4, s5, s6, s7⟩ := cells_sp (HXc _ hSu)
      go_simp
    simp only [Act.put, List.setIfInBounds_toArray, List.set_cons_zero, List.set_cons_succ]
    refine wpAnyH_ready (rs := [3]) (by kernel_rfl) (by simp) ?_
    refine AllReadyH.cons (i := 3) rfl (fun K hK => ?_) AllReadyH.nil
    go_simp
    refine ((HGr _).out).mono ?_
    rintro e9 w5 ⟨rfl, hb5⟩
    have HX5 := hide ((Below.refl w1.heap.size w1).drew.trans hb5)
    clear hb5
    go_simp
    refine hK.out _ _ (HX5.out) (fun _ => ?_)
    clear hK K
    try simp only [Act.put, List.setIfInBounds_toArray, List.set_cons_zero, List.set_cons_succ]
    refine any_take 6 (some 9) (.int .i64 GE) rfl rfl (by kernel_rfl) (by kernel_rfl) (by kernel_rfl) (fun _ _ _ h => h) (by rfl) (HX5.out) ?_ ?_
    · intro u hSu
      obtain ⟨s0, s1, s2, s3, s4, s5, s6, s7⟩ := cells_sp (HXc _ hSu)
      go_simp
    simp only [Act.put, List.setIfInBounds_toArray, List.set_cons_zero, List.set_cons_succ]
    refine any_take 7 (some 10) (.bool true) rfl rfl (by kernel_rfl) (by kernel_rfl) (by kernel_rfl) (fun _ _ _ h => h) (by rfl) (HX5.out) ?_ ?_
    · intro u hSu
      obtain ⟨s0, s1, s2, s3, s4, s5, s6, s7⟩ := cells_sp (HXc _ hSu)
      go_simp
    simp only [Act.put, List.setIfInBounds_toArray, List.set_cons_zero, List.set_cons_succ]
    refine any_take 8 (some 11) (.bool true) rfl rfl (by kernel_rfl) (by kernel_rfl) (by kernel_rfl) (fun _ _ _ h => h) (by rfl) (HX5.out) ?_ ?_
    · intro u hSu
      obtain ⟨s0, s1, s2, s3, s4, s5, s6, s7⟩ := cells_sp (HXc _ hSu)
      go_simp
    simp only [Act.put, List.setIfInBounds_toArray, List.set_cons_zero, List.set_cons_succ]
    refine any_take 9 (some 12) (.agg s.cs) rfl rfl (by kernel_rfl) (by kernel_rfl) (by kernel_rfl) (fun _ _ _ h => h) (by rfl) (HX5.out) ?_ ?_
    · intro u hSu
      obtain ⟨s0, s1, s2, s3, s4, s5, s6, s7⟩ := cells_sp (HXc _ hSu)
      go_simp
    simp only [Act.put, List.setIfInBounds_toArray, List.set_cons_zero, List.set_cons_succ]
    refine any_take 13 (some 16) (.pointer (some ⟨w.heap.size, 4, none⟩)) rfl rfl (by kernel_rfl) (by kernel_rfl) (by kernel_rfl) (fun _ _ _ h => h) (by rfl) (HX5.out) ?_ ?_
    · intro u hSu
      obtain ⟨s0, s1, s2, s3, s4, s5, s6, s7⟩ := cells_sp (HXc _ hSu)
      go_simp
    simp only [Act.put, List.setIfInBounds_toArray, List.set_cons_zero, List.set_cons_succ]
    refine any_take 14 (some 17) (.int .i64 s.per) rfl rfl (by kernel_rfl) (by kernel_rfl) (by kernel_rfl) (fun _ _ _ h => h) (by rfl) (HX5.out) ?_ ?_
    · intro u hSu
      obtain ⟨s0, s1, s2, s3, s4, s5, s6, s7⟩ := cells_sp (HXc _ hSu)
      go_simp
    simp only [Act.put, List.setIfInBounds_toArray, List.set_cons_zero, List.set_cons_succ]
    refine wpAnyH_ready (rs := [10]) (by kernel_rfl) (by simp) ?_
    refine AllReadyH.cons (i := 10) rfl (fun K hK => ?_) AllReadyH.nil
    go_simp
    refine ((HTa _).out).mono ?_
    rintro e9 w6 ⟨rfl, hb6⟩
    have HX6 := hide (HX5.out.trans (hb6.mono HX5.out.size))
    clear hb6
    go_simp
    refine hK.out _ _ (HX6.out) (fun _ => ?_)
    clear hK K
    try simp only [Act.put, List.setIfInBounds_toArray, List.set_cons_zero, List.set_cons_succ]
    refine any_take 11 (some 14) (.int .i64 (t + 4)) rfl rfl (by kernel_rfl) (by kernel_rfl) (by kernel_rfl) (fun _ _ _ h => h) (by rfl) (HX6.out) ?_ ?_
    · intro u hSu
      obtain ⟨s0, s1, s2, s3, s4, s5, s6, s7⟩ := cells_sp (HXc _ hSu)
      go_simp
    simp only [Act.put, List.setIfInBounds_toArray, List.set_cons_zero, List.set_cons_succ]
    refine any_take 12 (some 15) (.int .i64 (t + 4 + 1)) rfl rfl (by kernel_rfl) (by kernel_rfl) (by kernel_rfl) (fun _ _ _ h => h) (by rfl) (HX6.out) ?_ ?_
    · intro u hSu
      obtain ⟨s0, s1, s2, s3, s4, s5, s6, s7⟩ := cells_sp (HXc _ hSu)
      go_simp
    simp only [Act.put, List.setIfInBounds_toArray, List.set_cons_zero, List.set_cons_succ]
    refine any_take 15 (some 18) (.bool true) rfl rfl (by kernel_rfl) (by kernel_rfl) (by kernel_rfl) (fun _ _ _ h => h) (by rfl) (HX6.out) ?_ ?_
    · intro u hSu
      obtain ⟨s0, s1, s2, s3, s4, s5, s6, s7⟩ := cells_sp (HXc _ hSu)
      go_simp
    simp only [Act.put, List.setIfInBounds_toArray, List.set_cons_zero, List.set_cons_succ]
    refine any_take 16 (some 19) (.bool true) rfl rfl (by kernel_rfl) (by kernel_rfl) (by kernel_rfl) (fun _ _ _ h => h) (by rfl) (HX6.out) ?_ ?_
    · intro u hSu
      obtain ⟨s0, s1, s2, s3, s4, s5, s6, s7⟩ := cells_sp (HXc _ hSu)
      go_simp
    simp only [Act.put, List.setIfInBounds_toArray, List.set_cons_zero, List.set_cons_succ]
    refine any_take 17 (some 20) (.bool true) rfl rfl (by kernel_rfl) (by kernel_rfl) (by kernel_rfl) (fun _ _ _ h => h) (by rfl) (HX6.out) ?_ ?_
    · intro u hSu
      obtain ⟨s0, s1, s2, s3, s4, s5, s6, s7⟩ := cells_sp (HXc _ hSu)
      go_simp
    simp only [Act.put, List.setIfInBounds_toArray, List.set_cons_zero, List.set_cons_succ]
    refine any_take 18 (some 21) (.pointer (some ⟨w.heap.size, 5, none⟩)) rfl rfl (by kernel_rfl) (by kernel_rfl) (by kernel_rfl) (fun _ _ _ h => h) (by rfl) (HX6.out) ?_ ?_
    · intro u hSu
      obtain ⟨s0, s1, s2, s3, s4, s5, s6, s7⟩ := cells_sp (HXc _ hSu)
      go_simp
    simp only [Act.put, List.setIfInBounds_toArray, List.set_cons_zero, List.set_cons_succ]
    refine any_take 19 (some 22) (.int .i64 s.each) rfl rfl (by kernel_rfl) (by kernel_rfl) (by kernel_rfl) (fun _ _ _ h => h) (by rfl) (HX6.out) ?_ ?_
    · intro u hSu
      obtain ⟨s0, s1, s2, s3, s4, s5, s6, s7⟩ := cells_sp (HXc _ hSu)
      go_simp
    simp only [Act.put, List.setIfInBounds_toArray, List.set_cons_zero, List.set_cons_succ]
    refine any_take 20 (some 23) (.pointer (some ⟨w.heap.size, 6, none⟩)) rfl rfl (by kernel_rfl) (by kernel_rfl) (by kernel_rfl) (fun _ _ _ h => h) (by rfl) (HX6.out) ?_ ?_
    · intro u hSu
      obtain ⟨s0, s1, s2, s3, s4, s5, s6, s7⟩ := cells_sp (HXc _ hSu)
      go_simp
    simp only [Act.put, List.setIfInBounds_toArray, List.set_cons_zero, List.set_cons_succ]
    refine any_take 21 (some 24) (.int .i64 s.first) rfl rfl (by kernel_rfl) (by kernel_rfl) (by kernel_rfl) (fun _ _ _ h => h) (by rfl) (HX6.out) ?_ ?_
    · intro u hSu
      obtain ⟨s0, s1, s2, s3, s4, s5, s6, s7⟩ := cells_sp (HXc _ hSu)
      go_simp
    simp only [Act.put, List.setIfInBounds_toArray, List.set_cons_zero, List.set_cons_succ]
    refine wpAnyH_ready (rs := [22]) (by kernel_rfl) (by simp) ?_
    refine AllReadyH.cons (i := 22) rfl (fun K hK => ?_) AllReadyH.nil
    go_simp
    refine ((HWi _ _ _ _).out).mono ?_
    rintro e9 w7 ⟨rfl, h7⟩
    rw [h7, G2.out]
    clear h7
    go_simp
    refine hK.out _ _ (HX6.out) (fun _ => ?_)
    clear hK K
    try simp only [Act.put, List.setIfInBounds_toArray, List.set_cons_zero, List.set_cons_succ]
    refine any_take 23 (some 26) (.bool false) rfl rfl (by kernel_rfl) (by kernel_rfl) (by kernel_rfl) (fun _ _ _ h => h) (by rfl) (HX6.out) ?_ ?_
    · intro u hSu
      obtain ⟨s0, s1, s2, s3, s4, s5, s6, s7⟩ := cells_sp (HXc _ hSu)
      go_simp
    simp only [Act.put, List.setIfInBounds_toArray, List.set_cons_zero, List.set_cons_succ]
    refine any_take 24 (some 27) (.bool false) rfl rfl (by kernel_rfl) (by kernel_rfl) (by kernel_rfl) (fun _ _ _ h => h) (by rfl) (HX6.out) ?_ ?_
    · intro u hSu
      obtain ⟨s0, s1, s2, s3, s4, s5, s6, s7⟩ := cells_sp (HXc _ hSu)
      go_simp
    simp only [Act.put, List.setIfInBounds_toArray, List.set_cons_zero, List.set_cons_succ]
    refine any_skip 25 (some 28) rfl rfl (by kernel_rfl) (by kernel_rfl) (by kernel_rfl) (fun _ _ _ h => h) (by rfl) (HX6.out) ?_
    simp only [Act.put, List.setIfInBounds_toArray, List.set_cons_zero, List.set_cons_succ]
    refine any_skip 26 (some 29) rfl rfl (by kernel_rfl) (by kernel_rfl) (by kernel_rfl) (fun _ _ _ h => h) (by rfl) (HX6.out) ?_
    simp only [Act.put, List.setIfInBounds_toArray, List.set_cons_zero, List.set_cons_succ]
    refine any_skip 27 (some 30) rfl rfl (by kernel_rfl) (by kernel_rfl) (by kernel_rfl) (fun _ _ _ h => h) (by rfl) (HX6.out) ?_
    simp only [Act.put, List.setIfInBounds_toArray, List.set_cons_zero, List.set_cons_succ]
    refine any_skip 28 (some 31) rfl rfl (by kernel_rfl) (by kernel_rfl) (by kernel_rfl) (fun _ _ _ h => h) (by rfl) (HX6.out) ?_
    simp only [Act.put, List.setIfInBounds_toArray, List.set_cons_zero, List.set_cons_succ]
    refine any_skip 29 (some 32) rfl rfl (by kernel_rfl) (by kernel_rfl) (by kernel_rfl) (fun _ _ _ h => h) (by rfl) (HX6.out) ?_
    simp only [Act.put, List.setIfInBounds_toArray, List.set_cons_zero, List.set_cons_succ]
    refine any_take 30 (some 33) (.bool false) rfl rfl (by kernel_rfl) (by kernel_rfl) (by kernel_rfl) (fun _ _ _ h => h) (by rfl) (HX6.out) ?_ ?_
    · intro u hSu
      obtain ⟨s0, s1, s2, s3, s4, s5, s6, s7⟩ := cells_sp (HXc _ hSu)
      go_simp
    simp only [Act.put, List.setIfInBounds_toArray, List.set_cons_zero, List.set_cons_succ]
    refine any_take 31 (some 34) (.bool false) rfl rfl (by kernel_rfl) (by kernel_rfl) (by kernel_rfl) (fun _ _ _ h => h) (by rfl) (HX6.out) ?_ ?_
    · intro u hSu
      obtain ⟨s0, s1, s2, s3, s4, s5, s6, s7⟩ := cells_sp (HXc _ hSu)
      go_simp
    simp only [Act.put, List.setIfInBounds_toArray, List.set_cons_zero, List.set_cons_succ]
    refine any_skip 32 (some 35) rfl rfl (by kernel_rfl) (by kernel_rfl) (by kernel_rfl) (fun _ _ _ h => h) (by rfl) (HX6.out) ?_
    simp only [Act.put, List.setIfInBounds_toArray, List.set_cons_zero, List.set_cons_succ]
    refine any_skip 33 (some 36) rfl rfl (by kernel_rfl) (by kernel_rfl) (by kernel_rfl) (fun _ _ _ h => h) (by rfl) (HX6.out) ?_
    simp only [Act.put, List.setIfInBounds_toArray, List.set_cons_zero, List.set_cons_succ]
    refine any_skip 34 (some 37) rfl rfl (by kernel_rfl) (by kernel_rfl) (by kernel_rfl) (fun _ _ _ h => h) (by rfl) (HX6.out) ?_
    simp only [Act.put, List.setIfInBounds_toArray, List.set_cons_zero, List.set_cons_succ]
    refine any_skip 35 (some 38) rfl rfl (by kernel_rfl) (by kernel_rfl) (by kernel_rfl) (fun _ _ _ h => h) (by rfl) (HX6.out) ?_
    simp only [Act.put, List.setIfInBounds_toArray, List.set_cons_zero, List.set_cons_succ]
    refine any_skip 36 (some 39) rfl rfl (by kernel_rfl) (by kernel_rfl) (by kernel_rfl) (fun _ _ _ h => h) (by rfl) (HX6.out) ?_
    simp only [Act.put, List.setIfInBounds_toArray, List.set_cons_zero, List.set_cons_succ]
    refine any_take 37 (some 40) (.bool false) rfl rfl (by kernel_rfl) (by kernel_rfl) (by kernel_rfl) (fun _ _ _ h => h) (by rfl) (HX6.out) ?_ ?_
    · intro u hSu
      obtain ⟨s0, s1, s2, s3, s4, s5, s6, s7⟩ := cells_sp (HXc _ hSu)
      go_simp
    simp only [Act.put, List.setIfInBounds_toArray, List.set_cons_zero, List.set_cons_succ]
    refine any_take 38 (some 2) (.bool false) rfl rfl (by kernel_rfl) (by kernel_rfl) (by kernel_rfl) (fun _ _ _ h => h) (by rfl) (HX6.out) ?_ ?_
    · intro u hSu
      obtain ⟨s0, s1, s2, s3, s4, s5, s6, s7⟩ := cells_sp (HXc _ hSu)
      go_simp
    simp only [Act.put, List.setIfInBounds_toArray, List.set_cons_zero, List.set_cons_succ]
    refine wpAnyH_done (by kernel_rfl) ?_ _
    go_wp2_with fail
    go_ret
    exact ⟨by rw [HC.out, G0.out, G1.out, G2.out]; rfl, HB.out.trans (HX6.out.mono HB.out.size)⟩
  have G2 := hide g2
  clear g2
  cases g3 : winE 0 s.blo s.fbl
  · have G3 := hide g3
    clear g3
    refine wp_region_held_drew (S := fun u => Below w1.heap.size w1 u) (by kernel_rfl) ((Below.refl _ _).drew) (fun _ => ?_)
    refine any_take 0 (some 3) (.pointer (some ⟨w.heap.size, 0, none⟩)) rfl rfl (by kernel_rfl) (by kernel_rfl) (by kernel_rfl) (fun _ _ _ h => h) (by rfl) ((Below.refl _ _).drew) ?_ ?_
    · intro u hSu
      obtain ⟨s0, s1, s2, s3, s4, s5, s6, s7⟩ := cells_sp (HXc _ hSu)
      go_simp
    simp only [Act.put, List.setIfInBounds_toArray, List.set_cons_zero, List.set_cons_succ]
    refine any_take 1 (some 4) (.int .i64 s.ino) rfl rfl (by kernel_rfl) (by kernel_rfl) (by kernel_rfl) (fun _ _ _ h => h) (by rfl) ((Below.refl _ _).drew) ?_ ?_
    · intro u hSu
      obtain ⟨s0, s1, s2, s3, s4, s5, s6, s7⟩ := cells_sp (HXc _ hSu)
      go_simp
    simp only [Act.put, List.setIfInBounds_toArray, List.set_cons_zero, List.set_cons_succ]
    refine any_take 2 (some 5) (.agg s.cs) rfl rfl (by kernel_rfl) (by kernel_rfl) (by kernel_rfl) (fun _ _ _ h => h) (by rfl) ((Below.refl _ _).drew) ?_ ?_
    · intro u hSu
      obtain ⟨s0, s1, s2, s3, s4, s5, s6, s7⟩ := cells_sp (HXc _ hSu)
      go_simp
    simp only [Act.put, List.setIfInBounds_toArray, List.set_cons_zero, List.set_cons_succ]
    refine any_take 4 (some 7) (.pointer (some ⟨w.heap.size, 5, none⟩)) rfl rfl (by kernel_rfl) (by kernel_rfl) (by kernel_rfl) (fun _ _ _ h => h) (by rfl) ((Below.refl _ _).drew) ?_ ?_
    · intro u hSu
      obtain ⟨s0, s1, s2, s3, s4, s5, s6, s7⟩ := cells_sp (HXc _ hSu)
      go_simp
    simp only [Act.put, List.setIfInBounds_toArray, List.set_cons_zero, List.set_cons_succ]
    refine any_take 5 (some 8) (.int .i64 s.each) rfl rfl (by kernel_rfl) (by kernel_rfl) (by kernel_rfl) (fun _ _ _ h => h) (by rfl) ((Below.refl _ _).drew) ?_ ?_
    · intro u hSu
      obtain ⟨s0, s1, s2, s3, s4, s5, s6, s7⟩ := cells_sp (HXc _ hSu)
      go_simp
    simp only [Act.put, List.setIfInBounds_toArray, List.set_cons_zero, List.set_cons_succ]
    refine wpAnyH_ready (rs := [3]) (by kernel_rfl) (by simp) ?_
    refine AllReadyH.cons (i := 3) rfl (fun K hK => ?_) AllReadyH.nil
    go_simp
    refine ((HGr _).out).mono ?_
    rintro e9 w5 ⟨rfl, hb5⟩
    have HX5 := hide ((Below.refl w1.heap.size w1).drew.trans hb5)
    clear hb5
    go_simp
    refine hK.out _ _ (HX5.out) (fun _ => ?_)
    clear hK K
    try simp only [Act.put, List.setIfInBounds_toArray, List.set_cons_zero, List.set_cons_succ]
    refine any_take 6 (some 9) (.int .i64 GE) rfl rfl (by kernel_rfl) (by kernel_rfl) (by kernel_rfl) (fun _ _ _ h => h) (by rfl) (HX5.out) ?_ ?_
    · intro u hSu
      obtain ⟨s0, s1, s2, s3, s4, s5, s6, s7⟩ := cells_sp (HXc _ hSu)
      go_simp
    simp only [Act.put, List.setIfInBounds_toArray, List.set_cons_zero, List.set_cons_succ]
    refine any_take 7 (some 10) (.bool true) rfl rfl (by kernel_rfl) (by kernel_rfl) (by kernel_rfl) (fun _ _ _ h => h) (by rfl) (HX5.out) ?_ ?_
    · intro u hSu
      obtain ⟨s0, s1, s2, s3, s4, s5, s6, s7⟩ := cells_sp (HXc _ hSu)
      go_simp
    simp only [Act.put, List.setIfInBounds_toArray, List.set_cons_zero, List.set_cons_succ]
    refine any_take 8 (some 11) (.bool true) rfl rfl (by kernel_rfl) (by kernel_rfl) (by kernel_rfl) (fun _ _ _ h => h) (by rfl) (HX5.out) ?_ ?_
    · intro u hSu
      obtain ⟨s0, s1, s2, s3, s4, s5, s6, s7⟩ := cells_sp (HXc _ hSu)
      go_simp
    simp only [Act.put, List.setIfInBounds_toArray, List.set_cons_zero, List.set_cons_succ]
    refine any_take 9 (some 12) (.agg s.cs) rfl rfl (by kernel_rfl) (by kernel_rfl) (by kernel_rfl) (fun _ _ _ h => h) (by rfl) (HX5.out) ?_ ?_
    · intro u hSu
      obtain ⟨s0, s1, s2, s3, s4, s5, s6, s7⟩ := cells_sp (HXc _ hSu)
      go_simp
    simp only [Act.put, List.setIfInBounds_toArray, List.set_cons_zero, List.set_cons_succ]
    refine any_take 13 (some 16) (.pointer (some ⟨w.heap.size, 4, none⟩)) rfl rfl (by kernel_rfl) (by kernel_rfl) (by kernel_rfl) (fun _ _ _ h => h) (by rfl) (HX5.out) ?_ ?_
    · intro u hSu
      obtain ⟨s0, s1, s2, s3, s4, s5, s6, s7⟩ := cells_sp (HXc _ hSu)
      go_simp
    simp only [Act.put, List.setIfInBounds_toArray, List.set_cons_zero, List.set_cons_succ]
    refine any_take 14 (some 17) (.int .i64 s.per) rfl rfl (by kernel_rfl) (by kernel_rfl) (by kernel_rfl) (fun _ _ _ h => h) (by rfl) (HX5.out) ?_ ?_
    · intro u hSu
      obtain ⟨s0, s1, s2, s3, s4, s5, s6, s7⟩ := cells_sp (HXc _ hSu)
      go_simp
    simp only [Act.put, List.setIfInBounds_toArray, List.set_cons_zero, List.set_cons_succ]
    refine wpAnyH_ready (rs := [10]) (by kernel_rfl) (by simp) ?_
    refine AllReadyH.cons (i := 10) rfl (fun K hK => ?_) AllReadyH.nil
    go_simp
    refine ((HTa _).out).mono ?_
    rintro e9 w6 ⟨rfl, hb6⟩
    have HX6 := hide (HX5.out.trans (hb6.mono HX5.out.size))
    clear hb6
    go_simp
    refine hK.out _ _ (HX6.out) (fun _ => ?_)
    clear hK K
    try simp only [Act.put, List.setIfInBounds_toArray, List.set_cons_zero, List.set_cons_succ]
    refine any_take 11 (some 14) (.int .i64 (t + 4)) rfl rfl (by kernel_rfl) (by kernel_rfl) (by kernel_rfl) (fun _ _ _ h => h) (by rfl) (HX6.out) ?_ ?_
    · intro u hSu
      obtain ⟨s0, s1, s2, s3, s4, s5, s6, s7⟩ := cells_sp (HXc _ hSu)
      go_simp
    simp only [Act.put, List.setIfInBounds_toArray, List.set_cons_zero, List.set_cons_succ]
    refine any_take 12 (some 15) (.int .i64 (t + 4 + 1)) rfl rfl (by kernel_rfl) (by kernel_rfl) (by kernel_rfl) (fun _ _ _ h => h) (by rfl) (HX6.out) ?_ ?_
    · intro u hSu
      obtain ⟨s0, s1, s2, s3, s4, s5, s6, s7⟩ := cells_sp (HXc _ hSu)
      go_simp
    simp only [Act.put, List.setIfInBounds_toArray, List.set_cons_zero, List.set_cons_succ]
    refine any_take 15 (some 18) (.bool true) rfl rfl (by kernel_rfl) (by kernel_rfl) (by kernel_rfl) (fun _ _ _ h => h) (by rfl) (HX6.out) ?_ ?_
    · intro u hSu
      obtain ⟨s0, s1, s2, s3, s4, s5, s6, s7⟩ := cells_sp (HXc _ hSu)
      go_simp
    simp only [Act.put, List.setIfInBounds_toArray, List.set_cons_zero, List.set_cons_succ]
    refine any_take 16 (some 19) (.bool true) rfl rfl (by kernel_rfl) (by kernel_rfl) (by kernel_rfl) (fun _ _ _ h => h) (by rfl) (HX6.out) ?_ ?_
    · intro u hSu
      obtain ⟨s0, s1, s2, s3, s4, s5, s6, s7⟩ := cells_sp (HXc _ hSu)
      go_simp
    simp only [Act.put, List.setIfInBounds_toArray, List.set_cons_zero, List.set_cons_succ]
    refine any_take 17 (some 20) (.bool true) rfl rfl (by kernel_rfl) (by kernel_rfl) (by kernel_rfl) (fun _ _ _ h => h) (by rfl) (HX6.out) ?_ ?_
    · intro u hSu
      obtain ⟨s0, s1, s2, s3, s4, s5, s6, s7⟩ := cells_sp (HXc _ hSu)
      go_simp
    simp only [Act.put, List.setIfInBounds_toArray, List.set_cons_zero, List.set_cons_succ]
    refine any_take 18 (some 21) (.pointer (some ⟨w.heap.size, 5, none⟩)) rfl rfl (by kernel_rfl) (by kernel_rfl) (by kernel_rfl) (fun _ _ _ h => h) (by rfl) (HX6.out) ?_ ?_
    · intro u hSu
      obtain ⟨s0, s1, s2, s3, s4, s5, s6, s7⟩ := cells_sp (HXc _ hSu)
      go_simp
    simp only [Act.put, List.setIfInBounds_toArray, List.set_cons_zero, List.set_cons_succ]
    refine any_take 19 (some 22) (.int .i64 s.each) rfl rfl (by kernel_rfl) (by kernel_rfl) (by kernel_rfl) (fun _ _ _ h => h) (by rfl) (HX6.out) ?_ ?_
    · intro u hSu
      obtain ⟨s0, s1, s2, s3, s4, s5, s6, s7⟩ := cells_sp (HXc _ hSu)
      go_simp
    simp only [Act.put, List.setIfInBounds_toArray, List.set_cons_zero, List.set_cons_succ]
    refine any_take 20 (some 23) (.pointer (some ⟨w.heap.size, 6, none⟩)) rfl rfl (by kernel_rfl) (by kernel_rfl) (by kernel_rfl) (fun _ _ _ h => h) (by rfl) (HX6.out) ?_ ?_
    · intro u hSu
      obtain ⟨s0, s1, s2, s3, s4, s5, s6, s7⟩ := cells_sp (HXc _ hSu)
      go_simp
    simp only [Act.put, List.setIfInBounds_toArray, List.set_cons_zero, List.set_cons_succ]
    refine any_take 21 (some 24) (.int .i64 s.first) rfl rfl (by kernel_rfl) (by kernel_rfl) (by kernel_rfl) (fun _ _ _ h => h) (by rfl) (HX6.out) ?_ ?_
    · intro u hSu
      obtain ⟨s0, s1, s2, s3, s4, s5, s6, s7⟩ := cells_sp (HXc _ hSu)
      go_simp
    simp only [Act.put, List.setIfInBounds_toArray, List.set_cons_zero, List.set_cons_succ]
    refine wpAnyH_ready (rs := [22]) (by kernel_rfl) (by simp) ?_
    refine AllReadyH.cons (i := 22) rfl (fun K hK => ?_) AllReadyH.nil
    go_simp
    refine ((HWi _ _ _ _).out).mono ?_
    rintro e9 w7 ⟨rfl, h7⟩
    rw [h7, G2.out]
    clear h7
    go_simp
    refine hK.out _ _ (HX6.out) (fun _ => ?_)
    clear hK K
    try simp only [Act.put, List.setIfInBounds_toArray, List.set_cons_zero, List.set_cons_succ]
    refine any_take 23 (some 26) (.bool true) rfl rfl (by kernel_rfl) (by kernel_rfl) (by kernel_rfl) (fun _ _ _ h => h) (by rfl) (HX6.out) ?_ ?_
    · intro u hSu
      obtain ⟨s0, s1, s2, s3, s4, s5, s6, s7⟩ := cells_sp (HXc _ hSu)
      go_simp
    simp only [Act.put, List.setIfInBounds_toArray, List.set_cons_zero, List.set_cons_succ]
    refine any_take 24 (some 27) (.bool true) rfl rfl (by kernel_rfl) (by kernel_rfl) (by kernel_rfl) (fun _ _ _ h => h) (by rfl) (HX6.out) ?_ ?_
    · intro u hSu
      obtain ⟨s0, s1, s2, s3, s4, s5, s6, s7⟩ := cells_sp (HXc _ hSu)
      go_simp
    simp only [Act.put, List.setIfInBounds_toArray, List.set_cons_zero, List.set_cons_succ]
    refine any_take 25 (some 28) (.pointer (some ⟨w.heap.size, 1, none⟩)) rfl rfl (by kernel_rfl) (by kernel_rfl) (by kernel_rfl) (fun _ _ _ h => h) (by rfl) (HX6.out) ?_ ?_
    · intro u hSu
      obtain ⟨s0, s1, s2, s3, s4, s5, s6, s7⟩ := cells_sp (HXc _ hSu)
      go_simp
    simp only [Act.put, List.setIfInBounds_toArray, List.set_cons_zero, List.set_cons_succ]
    refine any_take 26 (some 29) (.int .i64 s.blo) rfl rfl (by kernel_rfl) (by kernel_rfl) (by kernel_rfl) (fun _ _ _ h => h) (by rfl) (HX6.out) ?_ ?_
    · intro u hSu
      obtain ⟨s0, s1, s2, s3, s4, s5, s6, s7⟩ := cells_sp (HXc _ hSu)
      go_simp
    simp only [Act.put, List.setIfInBounds_toArray, List.set_cons_zero, List.set_cons_succ]
    refine any_take 27 (some 30) (.pointer (some ⟨w.heap.size, 2, none⟩)) rfl rfl (by kernel_rfl) (by kernel_rfl) (by kernel_rfl) (fun _ _ _ h => h) (by rfl) (HX6.out) ?_ ?_
    · intro u hSu
      obtain ⟨s0, s1, s2, s3, s4, s5, s6, s7⟩ := cells_sp (HXc _ hSu)
      go_simp
    simp only [Act.put, List.setIfInBounds_toArray, List.set_cons_zero, List.set_cons_succ]
    refine any_take 28 (some 31) (.int .i64 s.fbl) rfl rfl (by kernel_rfl) (by kernel_rfl) (by kernel_rfl) (fun _ _ _ h => h) (by rfl) (HX6.out) ?_ ?_
    · intro u hSu
      obtain ⟨s0, s1, s2, s3, s4, s5, s6, s7⟩ := cells_sp (HXc _ hSu)
      go_simp
    simp only [Act.put, List.setIfInBounds_toArray, List.set_cons_zero, List.set_cons_succ]
    refine wpAnyH_ready (rs := [29]) (by kernel_rfl) (by simp) ?_
    refine AllReadyH.cons (i := 29) rfl (fun K hK => ?_) AllReadyH.nil
    go_simp
    refine ((HWi _ _ _ _).out).mono ?_
    rintro e9 w8 ⟨rfl, h8⟩
    rw [h8, G3.out]
    clear h8
    go_simp
    refine hK.out _ _ (HX6.out) (fun _ => ?_)
    clear hK K
    try simp only [Act.put, List.setIfInBounds_toArray, List.set_cons_zero, List.set_cons_succ]
    refine any_take 30 (some 33) (.bool false) rfl rfl (by kernel_rfl) (by kernel_rfl) (by kernel_rfl) (fun _ _ _ h => h) (by rfl) (HX6.out) ?_ ?_
    · intro u hSu
      obtain ⟨s0, s1, s2, s3, s4, s5, s6, s7⟩ := cells_sp (HXc _ hSu)
      go_simp
    simp only [Act.put, List.setIfInBounds_toArray, List.set_cons_zero, List.set_cons_succ]
    refine any_take 31 (some 34) (.bool false) rfl rfl (by kernel_rfl) (by kernel_rfl) (by kernel_rfl) (fun _ _ _ h => h) (by rfl) (HX6.out) ?_ ?_
    · intro u hSu
      obtain ⟨s0, s1, s2, s3, s4, s5, s6, s7⟩ := cells_sp (HXc _ hSu)
      go_simp
    simp only [Act.put, List.setIfInBounds_toArray, List.set_cons_zero, List.set_cons_succ]
    refine any_skip 32 (some 35) rfl rfl (by kernel_rfl) (by kernel_rfl) (by kernel_rfl) (fun _ _ _ h => h) (by rfl) (HX6.out) ?_
    simp only [Act.put, List.setIfInBounds_toArray, List.set_cons_zero, List.set_cons_succ]
    refine any_skip 33 (some 36) rfl rfl (by kernel_rfl) (by kernel_rfl) (by kernel_rfl) (fun _ _ _ h => h) (by rfl) (HX6.out) ?_
    simp only [Act.put, List.setIfInBounds_toArray, List.set_cons_zero, List.set_cons_succ]
    refine any_skip 34 (some 37) rfl rfl (by kernel_rfl) (by kernel_rfl) (by kernel_rfl) (fun _ _ _ h => h) (by rfl) (HX6.out) ?_
    simp only [Act.put, List.setIfInBounds_toArray, List.set_cons_zero, List.set_cons_succ]
    refine any_skip 35 (some 38) rfl rfl (by kernel_rfl) (by kernel_rfl) (by kernel_rfl) (fun _ _ _ h => h) (by rfl) (HX6.out) ?_
    simp only [Act.put, List.setIfInBounds_toArray, List.set_cons_zero, List.set_cons_succ]
    refine any_skip 36 (some 39) rfl rfl (by kernel_rfl) (by kernel_rfl) (by kernel_rfl) (fun _ _ _ h => h) (by rfl) (HX6.out) ?_
    simp only [Act.put, List.setIfInBounds_toArray, List.set_cons_zero, List.set_cons_succ]
    refine any_take 37 (some 40) (.bool false) rfl rfl (by kernel_rfl) (by kernel_rfl) (by kernel_rfl) (fun _ _ _ h => h) (by rfl) (HX6.out) ?_ ?_
    · intro u hSu
      obtain ⟨s0, s1, s2, s3, s4, s5, s6, s7⟩ := cells_sp (HXc _ hSu)
      go_simp
    simp only [Act.put, List.setIfInBounds_toArray, List.set_cons_zero, List.set_cons_succ]
    refine any_take 38 (some 2) (.bool false) rfl rfl (by kernel_rfl) (by kernel_rfl) (by kernel_rfl) (fun _ _ _ h => h) (by rfl) (HX6.out) ?_ ?_
    · intro u hSu
      obtain ⟨s0, s1, s2, s3, s4, s5, s6, s7⟩ := cells_sp (HXc _ hSu)
      go_simp
    simp only [Act.put, List.setIfInBounds_toArray, List.set_cons_zero, List.set_cons_succ]
    refine wpAnyH_done (by kernel_rfl) ?_ _
    go_wp2_with fail
    go_ret
    exact ⟨by rw [HC.out, G0.out, G1.out, G2.out, G3.out]; rfl, HB.out.trans (HX6.out.mono HB.out.size)⟩
  have G3 := hide g3
  clear g3
  cases g4 : winE 0 s.ino s.fin
  · have G4 := hide g4
    clear g4
    refine wp_region_held_drew (S := fun u => Below w1.heap.size w1 u) (by kernel_rfl) ((Below.refl _ _).drew) (fun _ => ?_)
    refine any_take 0 (some 3) (.pointer (some ⟨w.heap.size, 0, none⟩)) rfl rfl (by kernel_rfl) (by kernel_rfl) (by kernel_rfl) (fun _ _ _ h => h) (by rfl) ((Below.refl _ _).drew) ?_ ?_
    · intro u hSu
      obtain ⟨s0, s1, s2, s3, s4, s5, s6, s7⟩ := cells_sp (HXc _ hSu)
      go_simp
    simp only [Act.put, List.setIfInBounds_toArray, List.set_cons_zero, List.set_cons_succ]
    refine any_take 1 (some 4) (.int .i64 s.ino) rfl rfl (by kernel_rfl) (by kernel_rfl) (by kernel_rfl) (fun _ _ _ h => h) (by rfl) ((Below.refl _ _).drew) ?_ ?_
    · intro u hSu
      obtain ⟨s0, s1, s2, s3, s4, s5, s6, s7⟩ := cells_sp (HXc _ hSu)
      go_simp
    simp only [Act.put, List.setIfInBounds_toArray, List.set_cons_zero, List.set_cons_succ]
    refine any_take 2 (some 5) (.agg s.cs) rfl rfl (by kernel_rfl) (by kernel_rfl) (by kernel_rfl) (fun _ _ _ h => h) (by rfl) ((Below.refl _ _).drew) ?_ ?_
    · intro u hSu
      obtain ⟨s0, s1, s2, s3, s4, s5, s6, s7⟩ := cells_sp (HXc _ hSu)
      go_simp
    simp only [Act.put, List.setIfInBounds_toArray, List.set_cons_zero, List.set_cons_succ]
    refine any_take 4 (some 7) (.pointer (some ⟨w.heap.size, 5, none⟩)) rfl rfl (by kernel_rfl) (by kernel_rfl) (by kernel_rfl) (fun _ _ _ h => h) (by rfl) ((Below.refl _ _).drew) ?_ ?_
    · intro u hSu
      obtain ⟨s0, s1, s2, s3, s4, s5, s6, s7⟩ := cells_sp (HXc _ hSu)
      go_simp
    simp only [Act.put, List.setIfInBounds_toArray, List.set_cons_zero, List.set_cons_succ]
    refine any_take 5 (some 8) (.int .i64 s.each) rfl rfl (by kernel_rfl) (by kernel_rfl) (by kernel_rfl) (fun _ _ _ h => h) (by rfl) ((Below.refl _ _).drew) ?_ ?_
    · intro u hSu
      obtain ⟨s0, s1, s2, s3, s4, s5, s6, s7⟩ := cells_sp (HXc _ hSu)
      go_simp
    simp only [Act.put, List.setIfInBounds_toArray, List.set_cons_zero, List.set_cons_succ]
    refine wpAnyH_ready (rs := [3]) (by kernel_rfl) (by simp) ?_
    refine AllReadyH.cons (i := 3) rfl (fun K hK => ?_) AllReadyH.nil
    go_simp
    refine ((HGr _).out).mono ?_
    rintro e9 w5 ⟨rfl, hb5⟩
    have HX5 := hide ((Below.refl w1.heap.size w1).drew.trans hb5)
    clear hb5
    go_simp
    refine hK.out _ _ (HX5.out) (fun _ => ?_)
    clear hK K
    try simp only [Act.put, List.setIfInBounds_toArray, List.set_cons_zero, List.set_cons_succ]
    refine any_take 6 (some 9) (.int .i64 GE) rfl rfl (by kernel_rfl) (by kernel_rfl) (by kernel_rfl) (fun _ _ _ h => h) (by rfl) (HX5.out) ?_ ?_
    · intro u hSu
      obtain ⟨s0, s1, s2, s3, s4, s5, s6, s7⟩ := cells_sp (HXc _ hSu)
      go_simp
    simp only [Act.put, List.setIfInBounds_toArray, List.set_cons_zero, List.set_cons_succ]
    refine any_take 7 (some 10) (.bool true) rfl rfl (by kernel_rfl) (by kernel_rfl) (by kernel_rfl) (fun _ _ _ h => h) (by rfl) (HX5.out) ?_ ?_
    · intro u hSu
      obtain ⟨s0, s1, s2, s3, s4, s5, s6, s7⟩ := cells_sp (HXc _ hSu)
      go_simp
    simp only [Act.put, List.setIfInBounds_toArray, List.set_cons_zero, List.set_cons_succ]
    refine any_take 8 (some 11) (.bool true) rfl rfl (by kernel_rfl) (by kernel_rfl) (by kernel_rfl) (fun _ _ _ h => h) (by rfl) (HX5.out) ?_ ?_
    · intro u hSu
      obtain ⟨s0, s1, s2, s3, s4, s5, s6, s7⟩ := cells_sp (HXc _ hSu)
      go_simp
    simp only [Act.put, List.setIfInBounds_toArray, List.set_cons_zero, List.set_cons_succ]
    refine any_take 9 (some 12) (.agg s.cs) rfl rfl (by kernel_rfl) (by kernel_rfl) (by kernel_rfl) (fun _ _ _ h => h) (by rfl) (HX5.out) ?_ ?_
    · intro u hSu
      obtain ⟨s0, s1, s2, s3, s4, s5, s6, s7⟩ := cells_sp (HXc _ hSu)
      go_simp
    simp only [Act.put, List.setIfInBounds_toArray, List.set_cons_zero, List.set_cons_succ]
    refine any_take 13 (some 16) (.pointer (some ⟨w.heap.size, 4, none⟩)) rfl rfl (by kernel_rfl) (by kernel_rfl) (by kernel_rfl) (fun _ _ _ h => h) (by rfl) (HX5.out) ?_ ?_
    · intro u hSu
      obtain ⟨s0, s1, s2, s3, s4, s5, s6, s7⟩ := cells_sp (HXc _ hSu)
      go_simp
    simp only [Act.put, List.setIfInBounds_toArray, List.set_cons_zero, List.set_cons_succ]
    refine any_take 14 (some 17) (.int .i64 s.per) rfl rfl (by kernel_rfl) (by kernel_rfl) (by kernel_rfl) (fun _ _ _ h => h) (by rfl) (HX5.out) ?_ ?_
    · intro u hSu
      obtain ⟨s0, s1, s2, s3, s4, s5, s6, s7⟩ := cells_sp (HXc _ hSu)
      go_simp
    simp only [Act.put, List.setIfInBounds_toArray, List.set_cons_zero, List.set_cons_succ]
    refine wpAnyH_ready (rs := [10]) (by kernel_rfl) (by simp) ?_
    refine AllReadyH.cons (i := 10) rfl (fun K hK => ?_) AllReadyH.nil
    go_simp
    refine ((HTa _).out).mono ?_
    rintro e9 w6 ⟨rfl, hb6⟩
    have HX6 := hide (HX5.out.trans (hb6.mono HX5.out.size))
    clear hb6
    go_simp
    refine hK.out _ _ (HX6.out) (fun _ => ?_)
    clear hK K
    try simp only [Act.put, List.setIfInBounds_toArray, List.set_cons_zero, List.set_cons_succ]
    refine any_take 11 (some 14) (.int .i64 (t + 4)) rfl rfl (by kernel_rfl) (by kernel_rfl) (by kernel_rfl) (fun _ _ _ h => h) (by rfl) (HX6.out) ?_ ?_
    · intro u hSu
      obtain ⟨s0, s1, s2, s3, s4, s5, s6, s7⟩ := cells_sp (HXc _ hSu)
      go_simp
    simp only [Act.put, List.setIfInBounds_toArray, List.set_cons_zero, List.set_cons_succ]
    refine any_take 12 (some 15) (.int .i64 (t + 4 + 1)) rfl rfl (by kernel_rfl) (by kernel_rfl) (by kernel_rfl) (fun _ _ _ h => h) (by rfl) (HX6.out) ?_ ?_
    · intro u hSu
      obtain ⟨s0, s1, s2, s3, s4, s5, s6, s7⟩ := cells_sp (HXc _ hSu)
      go_simp
    simp only [Act.put, List.setIfInBounds_toArray, List.set_cons_zero, List.set_cons_succ]
    refine any_take 15 (some 18) (.bool true) rfl rfl (by kernel_rfl) (by kernel_rfl) (by kernel_rfl) (fun _ _ _ h => h) (by rfl) (HX6.out) ?_ ?_
    · intro u hSu
      obtain ⟨s0, s1, s2, s3, s4, s5, s6, s7⟩ := cells_sp (HXc _ hSu)
      go_simp
    simp only [Act.put, List.setIfInBounds_toArray, List.set_cons_zero, List.set_cons_succ]
    refine any_take 16 (some 19) (.bool true) rfl rfl (by kernel_rfl) (by kernel_rfl) (by kernel_rfl) (fun _ _ _ h => h) (by rfl) (HX6.out) ?_ ?_
    · intro u hSu
      obtain ⟨s0, s1, s2, s3, s4, s5, s6, s7⟩ := cells_sp (HXc _ hSu)
      go_simp
    simp only [Act.put, List.setIfInBounds_toArray, List.set_cons_zero, List.set_cons_succ]
    refine any_take 17 (some 20) (.bool true) rfl rfl (by kernel_rfl) (by kernel_rfl) (by kernel_rfl) (fun _ _ _ h => h) (by rfl) (HX6.out) ?_ ?_
    · intro u hSu
      obtain ⟨s0, s1, s2, s3, s4, s5, s6, s7⟩ := cells_sp (HXc _ hSu)
      go_simp
    simp only [Act.put, List.setIfInBounds_toArray, List.set_cons_zero, List.set_cons_succ]
    refine any_take 18 (some 21) (.pointer (some ⟨w.heap.size, 5, none⟩)) rfl rfl (by kernel_rfl) (by kernel_rfl) (by kernel_rfl) (fun _ _ _ h => h) (by rfl) (HX6.out) ?_ ?_
    · intro u hSu
      obtain ⟨s0, s1, s2, s3, s4, s5, s6, s7⟩ := cells_sp (HXc _ hSu)
      go_simp
    simp only [Act.put, List.setIfInBounds_toArray, List.set_cons_zero, List.set_cons_succ]
    refine any_take 19 (some 22) (.int .i64 s.each) rfl rfl (by kernel_rfl) (by kernel_rfl) (by kernel_rfl) (fun _ _ _ h => h) (by rfl) (HX6.out) ?_ ?_
    · intro u hSu
      obtain ⟨s0, s1, s2, s3, s4, s5, s6, s7⟩ := cells_sp (HXc _ hSu)
      go_simp
    simp only [Act.put, List.setIfInBounds_toArray, List.set_cons_zero, List.set_cons_succ]
    refine any_take 20 (some 23) (.pointer (some ⟨w.heap.size, 6, none⟩)) rfl rfl (by kernel_rfl) (by kernel_rfl) (by kernel_rfl) (fun _ _ _ h => h) (by rfl) (HX6.out) ?_ ?_
    · intro u hSu
      obtain ⟨s0, s1, s2, s3, s4, s5, s6, s7⟩ := cells_sp (HXc _ hSu)
      go_simp
    simp only [Act.put, List.setIfInBounds_toArray, List.set_cons_zero, List.set_cons_succ]
    refine any_take 21 (some 24) (.int .i64 s.first) rfl rfl (by kernel_rfl) (by kernel_rfl) (by kernel_rfl) (fun _ _ _ h => h) (by rfl) (HX6.out) ?_ ?_
    · intro u hSu
      obtain ⟨s0, s1, s2, s3, s4, s5, s6, s7⟩ := cells_sp (HXc _ hSu)
      go_simp
    simp only [Act.put, List.setIfInBounds_toArray, List.set_cons_zero, List.set_cons_succ]
    refine wpAnyH_ready (rs := [22]) (by kernel_rfl) (by simp) ?_
    refine AllReadyH.cons (i := 22) rfl (fun K hK => ?_) AllReadyH.nil
    go_simp
    refine ((HWi _ _ _ _).out).mono ?_
    rintro e9 w7 ⟨rfl, h7⟩
    rw [h7, G2.out]
    clear h7
    go_simp
    refine hK.out _ _ (HX6.out) (fun _ => ?_)
    clear hK K
    try simp only [Act.put, List.setIfInBounds_toArray, List.set_cons_zero, List.set_cons_succ]
    refine any_take 23 (some 26) (.bool true) rfl rfl (by kernel_rfl) (by kernel_rfl) (by kernel_rfl) (fun _ _ _ h => h) (by rfl) (HX6.out) ?_ ?_
    · intro u hSu
      obtain ⟨s0, s1, s2, s3, s4, s5, s6, s7⟩ := cells_sp (HXc _ hSu)
      go_simp
    simp only [Act.put, List.setIfInBounds_toArray, List.set_cons_zero, List.set_cons_succ]
    refine any_take 24 (some 27) (.bool true) rfl rfl (by kernel_rfl) (by kernel_rfl) (by kernel_rfl) (fun _ _ _ h => h) (by rfl) (HX6.out) ?_ ?_
    · intro u hSu
      obtain ⟨s0, s1, s2, s3, s4, s5, s6, s7⟩ := cells_sp (HXc _ hSu)
      go_simp
    simp only [Act.put, List.setIfInBounds_toArray, List.set_cons_zero, List.set_cons_succ]
    refine any_take 25 (some 28) (.pointer (some ⟨w.heap.size, 1, none⟩)) rfl rfl (by kernel_rfl) (by kernel_rfl) (by kernel_rfl) (fun _ _ _ h => h) (by rfl) (HX6.out) ?_ ?_
    · intro u hSu
      obtain ⟨s0, s1, s2, s3, s4, s5, s6, s7⟩ := cells_sp (HXc _ hSu)
      go_simp
    simp only [Act.put, List.setIfInBounds_toArray, List.set_cons_zero, List.set_cons_succ]
    refine any_take 26 (some 29) (.int .i64 s.blo) rfl rfl (by kernel_rfl) (by kernel_rfl) (by kernel_rfl) (fun _ _ _ h => h) (by rfl) (HX6.out) ?_ ?_
    · intro u hSu
      obtain ⟨s0, s1, s2, s3, s4, s5, s6, s7⟩ := cells_sp (HXc _ hSu)
      go_simp
    simp only [Act.put, List.setIfInBounds_toArray, List.set_cons_zero, List.set_cons_succ]
    refine any_take 27 (some 30) (.pointer (some ⟨w.heap.size, 2, none⟩)) rfl rfl (by kernel_rfl) (by kernel_rfl) (by kernel_rfl) (fun _ _ _ h => h) (by rfl) (HX6.out) ?_ ?_
    · intro u hSu
      obtain ⟨s0, s1, s2, s3, s4, s5, s6, s7⟩ := cells_sp (HXc _ hSu)
      go_simp
    simp only [Act.put, List.setIfInBounds_toArray, List.set_cons_zero, List.set_cons_succ]
    refine any_take 28 (some 31) (.int .i64 s.fbl) rfl rfl (by kernel_rfl) (by kernel_rfl) (by kernel_rfl) (fun _ _ _ h => h) (by rfl) (HX6.out) ?_ ?_
    · intro u hSu
      obtain ⟨s0, s1, s2, s3, s4, s5, s6, s7⟩ := cells_sp (HXc _ hSu)
      go_simp
    simp only [Act.put, List.setIfInBounds_toArray, List.set_cons_zero, List.set_cons_succ]
    refine wpAnyH_ready (rs := [29]) (by kernel_rfl) (by simp) ?_
    refine AllReadyH.cons (i := 29) rfl (fun K hK => ?_) AllReadyH.nil
    go_simp
    refine ((HWi _ _ _ _).out).mono ?_
    rintro e9 w8 ⟨rfl, h8⟩
    rw [h8, G3.out]
    clear h8
    go_simp
    refine hK.out _ _ (HX6.out) (fun _ => ?_)
    clear hK K
    try simp only [Act.put, List.setIfInBounds_toArray, List.set_cons_zero, List.set_cons_succ]
    refine any_take 30 (some 33) (.bool true) rfl rfl (by kernel_rfl) (by kernel_rfl) (by kernel_rfl) (fun _ _ _ h => h) (by rfl) (HX6.out) ?_ ?_
    · intro u hSu
      obtain ⟨s0, s1, s2, s3, s4, s5, s6, s7⟩ := cells_sp (HXc _ hSu)
      go_simp
    simp only [Act.put, List.setIfInBounds_toArray, List.set_cons_zero, List.set_cons_succ]
    refine any_take 31 (some 34) (.bool true) rfl rfl (by kernel_rfl) (by kernel_rfl) (by kernel_rfl) (fun _ _ _ h => h) (by rfl) (HX6.out) ?_ ?_
    · intro u hSu
      obtain ⟨s0, s1, s2, s3, s4, s5, s6, s7⟩ := cells_sp (HXc _ hSu)
      go_simp
    simp only [Act.put, List.setIfInBounds_toArray, List.set_cons_zero, List.set_cons_succ]
    refine any_take 32 (some 35) (.pointer (some ⟨w.heap.size, 0, none⟩)) rfl rfl (by kernel_rfl) (by kernel_rfl) (by kernel_rfl) (fun _ _ _ h => h) (by rfl) (HX6.out) ?_ ?_
    · intro u hSu
      obtain ⟨s0, s1, s2, s3, s4, s5, s6, s7⟩ := cells_sp (HXc _ hSu)
      go_simp
    simp only [Act.put, List.setIfInBounds_toArray, List.set_cons_zero, List.set_cons_succ]
    refine any_take 33 (some 36) (.int .i64 s.ino) rfl rfl (by kernel_rfl) (by kernel_rfl) (by kernel_rfl) (fun _ _ _ h => h) (by rfl) (HX6.out) ?_ ?_
    · intro u hSu
      obtain ⟨s0, s1, s2, s3, s4, s5, s6, s7⟩ := cells_sp (HXc _ hSu)
      go_simp
    simp only [Act.put, List.setIfInBounds_toArray, List.set_cons_zero, List.set_cons_succ]
    refine any_take 34 (some 37) (.pointer (some ⟨w.heap.size, 3, none⟩)) rfl rfl (by kernel_rfl) (by kernel_rfl) (by kernel_rfl) (fun _ _ _ h => h) (by rfl) (HX6.out) ?_ ?_
    · intro u hSu
      obtain ⟨s0, s1, s2, s3, s4, s5, s6, s7⟩ := cells_sp (HXc _ hSu)
      go_simp
    simp only [Act.put, List.setIfInBounds_toArray, List.set_cons_zero, List.set_cons_succ]
    refine any_take 35 (some 38) (.int .i64 s.fin) rfl rfl (by kernel_rfl) (by kernel_rfl) (by kernel_rfl) (fun _ _ _ h => h) (by rfl) (HX6.out) ?_ ?_
    · intro u hSu
      obtain ⟨s0, s1, s2, s3, s4, s5, s6, s7⟩ := cells_sp (HXc _ hSu)
      go_simp
    simp only [Act.put, List.setIfInBounds_toArray, List.set_cons_zero, List.set_cons_succ]
    refine wpAnyH_ready (rs := [36]) (by kernel_rfl) (by simp) ?_
    refine AllReadyH.cons (i := 36) rfl (fun K hK => ?_) AllReadyH.nil
    go_simp
    refine ((HWi _ _ _ _).out).mono ?_
    rintro e9 w8 ⟨rfl, h8⟩
    rw [h8, G4.out]
    clear h8
    go_simp
    refine hK.out _ _ (HX6.out) (fun _ => ?_)
    clear hK K
    try simp only [Act.put, List.setIfInBounds_toArray, List.set_cons_zero, List.set_cons_succ]
    refine any_take 37 (some 40) (.bool false) rfl rfl (by kernel_rfl) (by kernel_rfl) (by kernel_rfl) (fun _ _ _ h => h) (by rfl) (HX6.out) ?_ ?_
    · intro u hSu
      obtain ⟨s0, s1, s2, s3, s4, s5, s6, s7⟩ := cells_sp (HXc _ hSu)
      go_simp
    simp only [Act.put, List.setIfInBounds_toArray, List.set_cons_zero, List.set_cons_succ]
    refine any_take 38 (some 2) (.bool false) rfl rfl (by kernel_rfl) (by kernel_rfl) (by kernel_rfl) (fun _ _ _ h => h) (by rfl) (HX6.out) ?_ ?_
    · intro u hSu
      obtain ⟨s0, s1, s2, s3, s4, s5, s6, s7⟩ := cells_sp (HXc _ hSu)
      go_simp
    simp only [Act.put, List.setIfInBounds_toArray, List.set_cons_zero, List.set_cons_succ]
    refine wpAnyH_done (by kernel_rfl) ?_ _
    go_wp2_with fail
    go_ret
    exact ⟨by rw [HC.out, G0.out, G1.out, G2.out, G3.out, G4.out]; rfl, HB.out.trans (HX6.out.mono HB.out.size)⟩
  have G4 := hide g4
  clear g4
  refine wp_region_held_drew (S := fun u => Below w1.heap.size w1 u) (by kernel_rfl) ((Below.refl _ _).drew) (fun _ => ?_)
  refine any_take 0 (some 3) (.pointer (some ⟨w.heap.size, 0, none⟩)) rfl rfl (by kernel_rfl) (by kernel_rfl) (by kernel_rfl) (fun _ _ _ h => h) (by rfl) ((Below.refl _ _).drew) ?_ ?_
  · intro u hSu
    obtain ⟨s0, s1, s2, s3, s4, s5, s6, s7⟩ := cells_sp (HXc _ hSu)
    go_simp
  simp only [Act.put, List.setIfInBounds_toArray, List.set_cons_zero, List.set_cons_succ]
  refine any_take 1 (some 4) (.int .i64 s.ino) rfl rfl (by kernel_rfl) (by kernel_rfl) (by kernel_rfl) (fun _ _ _ h => h) (by rfl) ((Below.refl _ _).drew) ?_ ?_
  · intro u hSu
    obtain ⟨s0, s1, s2, s3, s4, s5, s6, s7⟩ := cells_sp (HXc _ hSu)
    go_simp
  simp only [Act.put, List.setIfInBounds_toArray, List.set_cons_zero, List.set_cons_succ]
  refine any_take 2 (some 5) (.agg s.cs) rfl rfl (by kernel_rfl) (by kernel_rfl) (by kernel_rfl) (fun _ _ _ h => h) (by rfl) ((Below.refl _ _).drew) ?_ ?_
  · intro u hSu
    obtain ⟨s0, s1, s2, s3, s4, s5, s6, s7⟩ := cells_sp (HXc _ hSu)
    go_simp
  simp only [Act.put, List.setIfInBounds_toArray, List.set_cons_zero, List.set_cons_succ]
  refine any_take 4 (some 7) (.pointer (some ⟨w.heap.size, 5, none⟩)) rfl rfl (by kernel_rfl) (by kernel_rfl) (by kernel_rfl) (fun _ _ _ h => h) (by rfl) ((Below.refl _ _).drew) ?_ ?_
  · intro u hSu
    obtain ⟨s0, s1, s2, s3, s4, s5, s6, s7⟩ := cells_sp (HXc _ hSu)
    go_simp
  simp only [Act.put, List.setIfInBounds_toArray, List.set_cons_zero, List.set_cons_succ]
  refine any_take 5 (some 8) (.int .i64 s.each) rfl rfl (by kernel_rfl) (by kernel_rfl) (by kernel_rfl) (fun _ _ _ h => h) (by rfl) ((Below.refl _ _).drew) ?_ ?_
  · intro u hSu
    obtain ⟨s0, s1, s2, s3, s4, s5, s6, s7⟩ := cells_sp (HXc _ hSu)
    go_simp
  simp only [Act.put, List.setIfInBounds_toArray, List.set_cons_zero, List.set_cons_succ]
  refine wpAnyH_ready (rs := [3]) (by kernel_rfl) (by simp) ?_
  refine AllReadyH.cons (i := 3) rfl (fun K hK => ?_) AllReadyH.nil
  go_simp
  refine ((HGr _).out).mono ?_
  rintro e9 w5 ⟨rfl, hb5⟩
  have HX5 := hide ((Below.refl w1.heap.size w1).drew.trans hb5)
  clear hb5
  go_simp
  refine hK.out _ _ (HX5.out) (fun _ => ?_)
  clear hK K
  try simp only [Act.put, List.setIfInBounds_toArray, List.set_cons_zero, List.set_cons_succ]
  refine any_take 6 (some 9) (.int .i64 GE) rfl rfl (by kernel_rfl) (by kernel_rfl) (by kernel_rfl) (fun _ _ _ h => h) (by rfl) (HX5.out) ?_ ?_
  · intro u hSu
    obtain ⟨s0, s1, s2, s3, s4, s5, s6, s7⟩ := cells_sp (HXc _ hSu)
    go_simp
  simp only [Act.put, List.setIfInBounds_toArray, List.set_cons_zero, List.set_cons_succ]
  refine any_take 7 (some 10) (.bool true) rfl rfl (by kernel_rfl) (by kernel_rfl) (by kernel_rfl) (fun _ _ _ h => h) (by rfl) (HX5.out) ?_ ?_
  · intro u hSu
    obtain ⟨s0, s1, s2, s3, s4, s5, s6, s7⟩ := cells_sp (HXc _ hSu)
    go_simp
  simp only [Act.put, List.setIfInBounds_toArray, List.set_cons_zero, List.set_cons_succ]
  refine any_take 8 (some 11) (.bool true) rfl rfl (by kernel_rfl) (by kernel_rfl) (by kernel_rfl) (fun _ _ _ h => h) (by rfl) (HX5.out) ?_ ?_
  · intro u hSu
    obtain ⟨s0, s1, s2, s3, s4, s5, s6, s7⟩ := cells_sp (HXc _ hSu)
    go_simp
  simp only [Act.put, List.setIfInBounds_toArray, List.set_cons_zero, List.set_cons_succ]
  refine any_take 9 (some 12) (.agg s.cs) rfl rfl (by kernel_rfl) (by kernel_rfl) (by kernel_rfl) (fun _ _ _ h => h) (by rfl) (HX5.out) ?_ ?_
  · intro u hSu
    obtain ⟨s0, s1, s2, s3, s4, s5, s6, s7⟩ := cells_sp (HXc _ hSu)
    go_simp
  simp only [Act.put, List.setIfInBounds_toArray, List.set_cons_zero, List.set_cons_succ]
  refine any_take 13 (some 16) (.pointer (some ⟨w.heap.size, 4, none⟩)) rfl rfl (by kernel_rfl) (by kernel_rfl) (by kernel_rfl) (fun _ _ _ h => h) (by rfl) (HX5.out) ?_ ?_
  · intro u hSu
    obtain ⟨s0, s1, s2, s3, s4, s5, s6, s7⟩ := cells_sp (HXc _ hSu)
    go_simp
  simp only [Act.put, List.setIfInBounds_toArray, List.set_cons_zero, List.set_cons_succ]
  refine any_take 14 (some 17) (.int .i64 s.per) rfl rfl (by kernel_rfl) (by kernel_rfl) (by kernel_rfl) (fun _ _ _ h => h) (by rfl) (HX5.out) ?_ ?_
  · intro u hSu
    obtain ⟨s0, s1, s2, s3, s4, s5, s6, s7⟩ := cells_sp (HXc _ hSu)
    go_simp
  simp only [Act.put, List.setIfInBounds_toArray, List.set_cons_zero, List.set_cons_succ]
  refine wpAnyH_ready (rs := [10]) (by kernel_rfl) (by simp) ?_
  refine AllReadyH.cons (i := 10) rfl (fun K hK => ?_) AllReadyH.nil
  go_simp
  refine ((HTa _).out).mono ?_
  rintro e9 w6 ⟨rfl, hb6⟩
  have HX6 := hide (HX5.out.trans (hb6.mono HX5.out.size))
  clear hb6
  go_simp
  refine hK.out _ _ (HX6.out) (fun _ => ?_)
  clear hK K
  try simp only [Act.put, List.setIfInBounds_toArray, List.set_cons_zero, List.set_cons_succ]
  refine any_take 11 (some 14) (.int .i64 (t + 4)) rfl rfl (by kernel_rfl) (by kernel_rfl) (by kernel_rfl) (fun _ _ _ h => h) (by rfl) (HX6.out) ?_ ?_
  · intro u hSu
    obtain ⟨s0, s1, s2, s3, s4, s5, s6, s7⟩ := cells_sp (HXc _ hSu)
    go_simp
  simp only [Act.put, List.setIfInBounds_toArray, List.set_cons_zero, List.set_cons_succ]
  refine any_take 12 (some 15) (.int .i64 (t + 4 + 1)) rfl rfl (by kernel_rfl) (by kernel_rfl) (by kernel_rfl) (fun _ _ _ h => h) (by rfl) (HX6.out) ?_ ?_
  · intro u hSu
    obtain ⟨s0, s1, s2, s3, s4, s5, s6, s7⟩ := cells_sp (HXc _ hSu)
    go_simp
  simp only [Act.put, List.setIfInBounds_toArray, List.set_cons_zero, List.set_cons_succ]
  refine any_take 15 (some 18) (.bool true) rfl rfl (by kernel_rfl) (by kernel_rfl) (by kernel_rfl) (fun _ _ _ h => h) (by rfl) (HX6.out) ?_ ?_
  · intro u hSu
    obtain ⟨s0, s1, s2, s3, s4, s5, s6, s7⟩ := cells_sp (HXc _ hSu)
    go_simp
  simp only [Act.put, List.setIfInBounds_toArray, List.set_cons_zero, List.set_cons_succ]
  refine any_take 16 (some 19) (.bool true) rfl rfl (by kernel_rfl) (by kernel_rfl) (by kernel_rfl) (fun _ _ _ h => h) (by rfl) (HX6.out) ?_ ?_
  · intro u hSu
    obtain ⟨s0, s1, s2, s3, s4, s5, s6, s7⟩ := cells_sp (HXc _ hSu)
    go_simp
  simp only [Act.put, List.setIfInBounds_toArray, List.set_cons_zero, List.set_cons_succ]
  refine any_take 17 (some 20) (.bool true) rfl rfl (by kernel_rfl) (by kernel_rfl) (by kernel_rfl) (fun _ _ _ h => h) (by rfl) (HX6.out) ?_ ?_
  · intro u hSu
    obtain ⟨s0, s1, s2, s3, s4, s5, s6, s7⟩ := cells_sp (HXc _ hSu)
    go_simp
  simp only [Act.put, List.setIfInBounds_toArray, List.set_cons_zero, List.set_cons_succ]
  refine any_take 18 (some 21) (.pointer (some ⟨w.heap.size, 5, none⟩)) rfl rfl (by kernel_rfl) (by kernel_rfl) (by kernel_rfl) (fun _ _ _ h => h) (by rfl) (HX6.out) ?_ ?_
  · intro u hSu
    obtain ⟨s0, s1, s2, s3, s4, s5, s6, s7⟩ := cells_sp (HXc _ hSu)
    go_simp
  simp only [Act.put, List.setIfInBounds_toArray, List.set_cons_zero, List.set_cons_succ]
  refine any_take 19 (some 22) (.int .i64 s.each) rfl rfl (by kernel_rfl) (by kernel_rfl) (by kernel_rfl) (fun _ _ _ h => h) (by rfl) (HX6.out) ?_ ?_
  · intro u hSu
    obtain ⟨s0, s1, s2, s3, s4, s5, s6, s7⟩ := cells_sp (HXc _ hSu)
    go_simp
  simp only [Act.put, List.setIfInBounds_toArray, List.set_cons_zero, List.set_cons_succ]
  refine any_take 20 (some 23) (.pointer (some ⟨w.heap.size, 6, none⟩)) rfl rfl (by kernel_rfl) (by kernel_rfl) (by kernel_rfl) (fun _ _ _ h => h) (by rfl) (HX6.out) ?_ ?_
  · intro u hSu
    obtain ⟨s0, s1, s2, s3, s4, s5, s6, s7⟩ := cells_sp (HXc _ hSu)
    go_simp
  simp only [Act.put, List.setIfInBounds_toArray, List.set_cons_zero, List.set_cons_succ]
  refine any_take 21 (some 24) (.int .i64 s.first) rfl rfl (by kernel_rfl) (by kernel_rfl) (by kernel_rfl) (fun _ _ _ h => h) (by rfl) (HX6.out) ?_ ?_
  · intro u hSu
    obtain ⟨s0, s1, s2, s3, s4, s5, s6, s7⟩ := cells_sp (HXc _ hSu)
    go_simp
  simp only [Act.put, List.setIfInBounds_toArray, List.set_cons_zero, List.set_cons_succ]
  refine wpAnyH_ready (rs := [22]) (by kernel_rfl) (by simp) ?_
  refine AllReadyH.cons (i := 22) rfl (fun K hK => ?_) AllReadyH.nil
  go_simp
  refine ((HWi _ _ _ _).out).mono ?_
  rintro e9 w7 ⟨rfl, h7⟩
  rw [h7, G2.out]
  clear h7
  go_simp
  refine hK.out _ _ (HX6.out) (fun _ => ?_)
  clear hK K
  try simp only [Act.put, List.setIfInBounds_toArray, List.set_cons_zero, List.set_cons_succ]
  refine any_take 23 (some 26) (.bool true) rfl rfl (by kernel_rfl) (by kernel_rfl) (by kernel_rfl) (fun _ _ _ h => h) (by rfl) (HX6.out) ?_ ?_
  · intro u hSu
    obtain ⟨s0, s1, s2, s3, s4, s5, s6, s7⟩ := cells_sp (HXc _ hSu)
    go_simp
  simp only [Act.put, List.setIfInBounds_toArray, List.set_cons_zero, List.set_cons_succ]
  refine any_take 24 (some 27) (.bool true) rfl rfl (by kernel_rfl) (by kernel_rfl) (by kernel_rfl) (fun _ _ _ h => h) (by rfl) (HX6.out) ?_ ?_
  · intro u hSu
    obtain ⟨s0, s1, s2, s3, s4, s5, s6, s7⟩ := cells_sp (HXc _ hSu)
    go_simp
  simp only [Act.put, List.setIfInBounds_toArray, List.set_cons_zero, List.set_cons_succ]
  refine any_take 25 (some 28) (.pointer (some ⟨w.heap.size, 1, none⟩)) rfl rfl (by kernel_rfl) (by kernel_rfl) (by kernel_rfl) (fun _ _ _ h => h) (by rfl) (HX6.out) ?_ ?_
  · intro u hSu
    obtain ⟨s0, s1, s2, s3, s4, s5, s6, s7⟩ := cells_sp (HXc _ hSu)
    go_simp
  simp only [Act.put, List.setIfInBounds_toArray, List.set_cons_zero, List.set_cons_succ]
  refine any_take 26 (some 29) (.int .i64 s.blo) rfl rfl (by kernel_rfl) (by kernel_rfl) (by kernel_rfl) (fun _ _ _ h => h) (by rfl) (HX6.out) ?_ ?_
  · intro u hSu
    obtain ⟨s0, s1, s2, s3, s4, s5, s6, s7⟩ := cells_sp (HXc _ hSu)
    go_simp
  simp only [Act.put, List.setIfInBounds_toArray, List.set_cons_zero, List.set_cons_succ]
  refine any_take 27 (some 30) (.pointer (some ⟨w.heap.size, 2, none⟩)) rfl rfl (by kernel_rfl) (by kernel_rfl) (by kernel_rfl) (fun _ _ _ h => h) (by rfl) (HX6.out) ?_ ?_
  · intro u hSu
    obtain ⟨s0, s1, s2, s3, s4, s5, s6, s7⟩ := cells_sp (HXc _ hSu)
    go_simp
  simp only [Act.put, List.setIfInBounds_toArray, List.set_cons_zero, List.set_cons_succ]
  refine any_take 28 (some 31) (.int .i64 s.fbl) rfl rfl (by kernel_rfl) (by kernel_rfl) (by kernel_rfl) (fun _ _ _ h => h) (by rfl) (HX6.out) ?_ ?_
  · intro u hSu
    obtain ⟨s0, s1, s2, s3, s4, s5, s6, s7⟩ := cells_sp (HXc _ hSu)
    go_simp
  simp only [Act.put, List.setIfInBounds_toArray, List.set_cons_zero, List.set_cons_succ]
  refine wpAnyH_ready (rs := [29]) (by kernel_rfl) (by simp) ?_
  refine AllReadyH.cons (i := 29) rfl (fun K hK => ?_) AllReadyH.nil
  go_simp
  refine ((HWi _ _ _ _).out).mono ?_
  rintro e9 w8 ⟨rfl, h8⟩
  rw [h8, G3.out]
  clear h8
  go_simp
  refine hK.out _ _ (HX6.out) (fun _ => ?_)
  clear hK K
  try simp only [Act.put, List.setIfInBounds_toArray, List.set_cons_zero, List.set_cons_succ]
  refine any_take 30 (some 33) (.bool true) rfl rfl (by kernel_rfl) (by kernel_rfl) (by kernel_rfl) (fun _ _ _ h => h) (by rfl) (HX6.out) ?_ ?_
  · intro u hSu
    obtain ⟨s0, s1, s2, s3, s4, s5, s6, s7⟩ := cells_sp (HXc _ hSu)
    go_simp
  simp only [Act.put, List.setIfInBounds_toArray, List.set_cons_zero, List.set_cons_succ]
  refine any_take 31 (some 34) (.bool true) rfl rfl (by kernel_rfl) (by kernel_rfl) (by kernel_rfl) (fun _ _ _ h => h) (by rfl) (HX6.out) ?_ ?_
  · intro u hSu
    obtain ⟨s0, s1, s2, s3, s4, s5, s6, s7⟩ := cells_sp (HXc _ hSu)
    go_simp
  simp only [Act.put, List.setIfInBounds_toArray, List.set_cons_zero, List.set_cons_succ]
  refine any_take 32 (some 35) (.pointer (some ⟨w.heap.size, 0, none⟩)) rfl rfl (by kernel_rfl) (by kernel_rfl) (by kernel_rfl) (fun _ _ _ h => h) (by rfl) (HX6.out) ?_ ?_
  · intro u hSu
    obtain ⟨s0, s1, s2, s3, s4, s5, s6, s7⟩ := cells_sp (HXc _ hSu)
    go_simp
  simp only [Act.put, List.setIfInBounds_toArray, List.set_cons_zero, List.set_cons_succ]
  refine any_take 33 (some 36) (.int .i64 s.ino) rfl rfl (by kernel_rfl) (by kernel_rfl) (by kernel_rfl) (fun _ _ _ h => h) (by rfl) (HX6.out) ?_ ?_
  · intro u hSu
    obtain ⟨s0, s1, s2, s3, s4, s5, s6, s7⟩ := cells_sp (HXc _ hSu)
    go_simp
  simp only [Act.put, List.setIfInBounds_toArray, List.set_cons_zero, List.set_cons_succ]
  refine any_take 34 (some 37) (.pointer (some ⟨w.heap.size, 3, none⟩)) rfl rfl (by kernel_rfl) (by kernel_rfl) (by kernel_rfl) (fun _ _ _ h => h) (by rfl) (HX6.out) ?_ ?_
  · intro u hSu
    obtain ⟨s0, s1, s2, s3, s4, s5, s6, s7⟩ := cells_sp (HXc _ hSu)
    go_simp
  simp only [Act.put, List.setIfInBounds_toArray, List.set_cons_zero, List.set_cons_succ]
  refine any_take 35 (some 38) (.int .i64 s.fin) rfl rfl (by kernel_rfl) (by kernel_rfl) (by kernel_rfl) (fun _ _ _ h => h) (by rfl) (HX6.out) ?_ ?_
  · intro u hSu
    obtain ⟨s0, s1, s2, s3, s4, s5, s6, s7⟩ := cells_sp (HXc _ hSu)
    go_simp
  simp only [Act.put, List.setIfInBounds_toArray, List.set_cons_zero, List.set_cons_succ]
  refine wpAnyH_ready (rs := [36]) (by kernel_rfl) (by simp) ?_
  refine AllReadyH.cons (i := 36) rfl (fun K hK => ?_) AllReadyH.nil
  go_simp
  refine ((HWi _ _ _ _).out).mono ?_
  rintro e9 w8 ⟨rfl, h8⟩
  rw [h8, G4.out]
  clear h8
  go_simp
  refine hK.out _ _ (HX6.out) (fun _ => ?_)
  clear hK K
  try simp only [Act.put, List.setIfInBounds_toArray, List.set_cons_zero, List.set_cons_succ]
  refine any_take 37 (some 40) (.bool true) rfl rfl (by kernel_rfl) (by kernel_rfl) (by kernel_rfl) (fun _ _ _ h => h) (by rfl) (HX6.out) ?_ ?_
  · intro u hSu
    obtain ⟨s0, s1, s2, s3, s4, s5, s6, s7⟩ := cells_sp (HXc _ hSu)
    go_simp
  simp only [Act.put, List.setIfInBounds_toArray, List.set_cons_zero, List.set_cons_succ]
  refine any_take 38 (some 2) (.bool true) rfl rfl (by kernel_rfl) (by kernel_rfl) (by kernel_rfl) (fun _ _ _ h => h) (by rfl) (HX6.out) ?_ ?_
  · intro u hSu
    obtain ⟨s0, s1, s2, s3, s4, s5, s6, s7⟩ := cells_sp (HXc _ hSu)
    go_simp
  simp only [Act.put, List.setIfInBounds_toArray, List.set_cons_zero, List.set_cons_succ]
  refine wpAnyH_done (by kernel_rfl) ?_ _
  go_wp2_with fail
  go_ret
  exact ⟨by rw [HC.out, G0.out, G1.out, G2.out, G3.out, G4.out]; rfl, HB.out.trans (HX6.out.mono HB.out.size)⟩

set_option maxHeartbeats 8000000 in
set_option maxRecDepth 100000 in
theorem chk_any (s : Sp) (w : World) :
    Calls Tryd.prog 36 #[.agg s.cs] w fun e w' => e = .returned (.int .i64 s.chk) ∧ Below w.heap.size w w' := by
  obtain ⟨w1, hw1⟩ : ∃ w1, w1 = w.alloc (.cells s.cs 23) := ⟨_, rfl⟩
  have HI := hide (show Blk w1 w.heap.size s.cs 23 by rw [hw1]; exact Blk.new _ _ _)
  have HB := hide (show Below w.heap.size w w1 by rw [hw1]; exact (Below.refl _ _).alloc (Nat.le_refl _) _)
  have HW1 := hide hw1
  have HSi := fun u => hide (sized_any s u)
  have HG := hide (fun (h : s.sized = true) u => grp_any2 s u ⟨by have := Sp.sized_says h; omega, by have := Sp.sized_says h; omega⟩ ⟨by have := Sp.sized_says h; omega, by have := Sp.sized_says h; omega⟩)
  have HCo := hide (fun (h : s.sized = true) u => counted_any s u h)
  obtain ⟨r, hr⟩ : ∃ r, r = s.chk := ⟨_, rfl⟩
  rw [← hr]
  have HR := hide hr
  obtain ⟨c0, c1, c2, c3, c4, c5, c6, c7⟩ := cells_sp HI.out
  rw [hw1] at c0 c1 c2 c3 c4 c5 c6 c7
  clear hr hw1
  go_enter Tryd.func36, Tryd.ntmps36
  go_wp2_with fail
  refine (HSi _).out.mono ?_
  rintro e9 w2 ⟨rfl, h2⟩
  rw [← HW1.out] at h2
  have HB2 := hide (HB.out.trans (h2.mono HB.out.size))
  have HI2 := hide (HI.out.below h2)
  clear h2 c0 c1 c2 c3 c4 c5 c6 c7
  obtain ⟨c0, c1, c2, c3, c4, c5, c6, c7⟩ := cells_sp HI2.out
  cases g0 : s.sized
  · have G0 := hide g0
    clear g0
    go_wp2_with fail
    go_ret
    exact ⟨by rw [HR.out]; unfold Sp.chk; rw [if_pos G0.out]; rfl, HB2.out⟩
  have G0 := hide g0
  have HG1 := fun u => hide (HG.out g0 u)
  have HC1 := fun u => hide (HCo.out g0 u)
  clear g0 HG HCo
  go_wp2_with fail
  refine (HG1 _).out.mono ?_
  rintro e9 w3 ⟨rfl, h3⟩
  have HB3 := hide (HB2.out.trans (h3.mono HB2.out.size))
  have HI3 := hide (HI2.out.below h3)
  clear h3 c0 c1 c2 c3 c4 c5 c6 c7
  obtain ⟨c0, c1, c2, c3, c4, c5, c6, c7⟩ := cells_sp HI3.out
  obtain ⟨g, hg⟩ : ∃ g, g = s.grp := ⟨_, rfl⟩
  rw [← hg]
  have HGe := hide hg
  clear hg
  by_cases h32 : 32 < g
  · have d1 : decide (32 < g) = true := by simpa using h32
    have H32 := hide h32
    clear h32
    go_wp2_with fail
    go_ret
    exact ⟨by rw [HR.out]; unfold Sp.chk; rw [if_neg (by rw [G0.out]; simp), if_pos (by rw [← HGe.out]; have := H32.out; omega)]; rfl, HB3.out⟩
  have d1 : decide (32 < g) = false := by simpa using h32
  have H32 := hide h32
  clear h32
  go_wp2_with fail
  refine (HC1 _).out.mono ?_
  rintro e9 w4 ⟨rfl, h4⟩
  have HB4 := hide (HB3.out.trans (h4.mono HB3.out.size))
  clear h4
  cases g1 : s.counted
  · have G1 := hide g1
    clear g1
    go_wp2_with fail
    go_ret
    exact ⟨by rw [HR.out]; unfold Sp.chk; rw [if_neg (by rw [G0.out]; simp), if_neg (by rw [← HGe.out]; have := H32.out; omega), if_pos G1.out]; rfl, HB4.out⟩
  · have G1 := hide g1
    clear g1
    go_wp2_with fail
    go_ret
    exact ⟨by rw [HR.out]; unfold Sp.chk; rw [if_neg (by rw [G0.out]; simp), if_neg (by rw [← HGe.out]; have := H32.out; omega), if_neg (by rw [G1.out]; simp)]; rfl, HB4.out⟩
end Go.Proofs.YtjmajjfknmjifaaDoor.Oct
