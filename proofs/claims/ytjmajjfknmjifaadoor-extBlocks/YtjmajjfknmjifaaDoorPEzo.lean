/- A volume's super, its only group's row. -/
import Derived.Test.YtjmajjfknmjifaaDoorPEzn
namespace Go.Proofs.YtjmajjfknmjifaaDoor.Oct
open Go.RowKit

theorem eight1 {w : World} {H : Nat} (h : Blk w H #[.int .i64 16, .int .i64 128, .int .i64 120, .int .i64 6, .int .i64 128, .int .i64 16, .int .i64 11, .bool true] 23) : w.cell? ⟨H, 0, none⟩ = some (.int .i64 16) ∧ w.cell? ⟨H, 1, none⟩ = some (.int .i64 128) ∧ w.cell? ⟨H, 2, none⟩ = some (.int .i64 120) ∧ w.cell? ⟨H, 3, none⟩ = some (.int .i64 6) ∧ w.cell? ⟨H, 4, none⟩ = some (.int .i64 128) ∧ w.cell? ⟨H, 5, none⟩ = some (.int .i64 16) ∧ w.cell? ⟨H, 6, none⟩ = some (.int .i64 11) ∧ w.cell? ⟨H, 7, none⟩ = some (.bool true) :=
  ⟨h.cell 0 _ rfl, h.cell 1 _ rfl, h.cell 2 _ rfl, h.cell 3 _ rfl, h.cell 4 _ rfl, h.cell 5 _ rfl, h.cell 6 _ rfl, h.cell 7 _ rfl⟩

set_option maxHeartbeats 8000000 in
set_option maxRecDepth 100000 in
theorem esuper_ok (a : Option Addr) (cap m : Nat) (d : List Int) (w : World) (hD : DiskE w a cap d) (hm : m = d.length) (hlen : 131072 ≤ d.length) (hbd : Byts d) (hV : VarX w) (hp : parE (cutE d 1024 1024) = (s1, 0)) :
    Calls Tryd.prog 53 #[(.iface 76 (.slice a m cap))] w fun e w' => e = .returned (.tuple #[.agg #[.int .i64 16, .int .i64 128, .int .i64 120, .int .i64 6, .int .i64 128, .int .i64 16, .int .i64 11, .bool true], .int .i64 0]) ∧ Below w.heap.size w w' := by
  have hlc : (cutE d 1024 1024).length = 1024 := cutE_len (by omega)
  have HRd : ∀ u, DiskE u a cap d → Hid (Calls Tryd.prog 54 #[(.iface 76 (.slice a m cap)), .int .i64 1] u fun e w' => (∃ g c', e = .returned (.tuple #[.slice (some ⟨g, 0, none⟩) 1024 c', .int .i64 0]) ∧ Own w' u.heap.size (.slice (some ⟨g, 0, none⟩) 1024 c') (cutE d 1024 1024)) ∧ Below u.heap.size u w') := fun u h => hide (by
    have h := eread_ok a cap d 1 u h.len h.le h.none h.lies (by omega) (by omega)
    rw [hm]
    exact h)
  have HPa : ∀ (u : World) (g c : Nat), VarX u → Lies u (some ⟨g, 0, none⟩) (cutE d 1024 1024) → Hid (Calls Tryd.prog 8 #[.slice (some ⟨g, 0, none⟩) 1024 c] u fun e w' => e = .returned (.tuple #[.agg #[.int .i64 16, .int .i64 128, .int .i64 120, .int .i64 6, .int .i64 128, .int .i64 16, .int .i64 11, .bool true], .int .i64 0]) ∧ Below u.heap.size u w') := fun u g c hv hl => hide (by
    have h := eparse_any (some ⟨g, 0, none⟩) c (cutE d 1024 1024) u (by rw [hlc]; unfold maxLen; omega) (cutE_byts hbd _ _) hl hv
    rw [hlc, hp] at h
    exact h)
  have HSz := fun u => hide (msize_any a m cap u)
  have hmS : ∀ (u : World) (a : Option Addr) (n c : Nat), (method 274 76 (.slice a n c) "Size").run Tryd.prog u = .ok (125, .slice a n c) u := fun u a n c => by kernel_rfl
  obtain ⟨Z, hZ⟩ : ∃ Z, Z = w.heap.size := ⟨_, rfl⟩
  obtain ⟨w1, hw1⟩ : ∃ w1, w1 = w.alloc (.cells #[.int .i64 0, .int .i64 0, .int .i64 0, .int .i64 0, .int .i64 0, .int .i64 0, .int .i64 0, .bool false] 23) := ⟨_, rfl⟩
  have hb1 : Below w.heap.size w w1 := by rw [hw1]; exact (Below.refl _ _).alloc (Nat.le_refl _) _
  have HZ1 := hide (show Blk w1 Z #[.int .i64 0, .int .i64 0, .int .i64 0, .int .i64 0, .int .i64 0, .int .i64 0, .int .i64 0, .bool false] 23 by rw [hw1, hZ]; exact Blk.new _ _ _)
  have HB1 := hide hb1
  have HV1 := hide (hV.below hb1)
  have HR1 := HRd w1 (hD.below hb1)
  have HW1 := hide hw1
  have HZe := hide hZ
  obtain ⟨z, hz⟩ : ∃ z, z = (m : Int).tdiv 1024 := ⟨_, rfl⟩
  have hz2 : z = (m : Int) / 1024 := by rw [hz, Int.tdiv_eq_ediv_of_nonneg (by omega)]
  have hzw : IntKind.i64.wrap ((m : Int).tdiv 1024) = z := by rw [← hz, IntKind.wrap_i64]; have := hD.len; omega
  have hzw3 : IntKind.i64.wrap ((m : Int) / 1024) = z := by rw [← hz2, IntKind.wrap_i64]; have := hD.len; omega
  have hzl : decide (z < 128) = false := by simp; omega
  have hzl2 : ¬ z < 128 := by omega
  clear hD hm hlen hbd hV hp hb1 hw1 hZ HRd hz hz2 hlc
  go_enter Tryd.func53, Tryd.ntmps53
  go_wp2_with fail
  rw [← HZe.out, ← HW1.out]
  refine HR1.out.mono ?_
  rintro e9 w2 ⟨⟨g, c, rfl, ho⟩, hb2⟩
  have HP2 := HPa w2 g c (HV1.out.below hb2) ho.liesE
  have HZ2 := hide (HZ1.out.below hb2)
  have HB2 := hide (HB1.out.trans (hb2.mono HB1.out.size))
  clear ho hb2 HR1 HPa
  go_wp2_with fail
  refine HP2.out.mono ?_
  rintro e9 w3 ⟨rfl, hb3⟩
  obtain ⟨H, hH⟩ : ∃ H, H = w3.heap.size := ⟨_, rfl⟩
  obtain ⟨w4, hw4⟩ : ∃ w4, w4 = w3.alloc (.cells #[.int .i64 16, .int .i64 128, .int .i64 120, .int .i64 6, .int .i64 128, .int .i64 16, .int .i64 11, .bool true] 23) := ⟨_, rfl⟩
  have hb4 : Below w3.heap.size w3 w4 := by rw [hw4]; exact (Below.refl _ _).alloc (Nat.le_refl _) _
  have hb34 := hb3.trans (hb4.mono hb3.size)
  have HI4 := hide (show Blk w4 H #[.int .i64 16, .int .i64 128, .int .i64 120, .int .i64 6, .int .i64 128, .int .i64 16, .int .i64 11, .bool true] 23 by rw [hw4, hH]; exact Blk.new _ _ _)
  have HZ4 := hide (HZ2.out.below hb34)
  have HB4 := hide (HB2.out.trans (hb34.mono HB2.out.size))
  have HW4 := hide hw4
  have HHe := hide hH
  clear hb3 hb4 hb34 hw4 hH HP2
  go_wp2_with fail
  rw [← HHe.out, ← HW4.out]
  refine b_region (S := (fun u => u.cell? ⟨H, 1, none⟩ = some (.int .i64 128))) (F := (fun _ => true)) (by kernel_rfl) ?_
  refine b_take 0 (some 25) (.pointer (some ⟨H, 1, none⟩)) rfl rfl (by kernel_rfl) (by kernel_rfl) (by kernel_rfl) (by kernel_rfl) (by kernel_rfl) (fun _ _ _ h => h) (by rfl) (HI4.out.drew.cell 1 _ rfl) ?_ ?_
  · intro u hSu
    have sU := hSu
    go_simp
  try simp only [Act.put, List.setIfInBounds_toArray, List.set_cons_zero, List.set_cons_succ]
  refine b_take 1 (some 26) (.int .i64 128) rfl rfl (by kernel_rfl) (by kernel_rfl) (by kernel_rfl) (by kernel_rfl) (by kernel_rfl) (fun _ _ _ h => h) (by rfl) (HI4.out.drew.cell 1 _ rfl) ?_ ?_
  · intro u hSu
    have sU := hSu
    go_simp
  try simp only [Act.put, List.setIfInBounds_toArray, List.set_cons_zero, List.set_cons_succ]
  refine b_take 2 (some 27) ((.iface 76 (.slice a m cap))) rfl rfl (by kernel_rfl) (by kernel_rfl) (by kernel_rfl) (by kernel_rfl) (by kernel_rfl) (fun _ _ _ h => h) (by rfl) (HI4.out.drew.cell 1 _ rfl) ?_ ?_
  · intro u hSu
    have sU := hSu
    go_simp
  try simp only [Act.put, List.setIfInBounds_toArray, List.set_cons_zero, List.set_cons_succ]
  refine b_ready (rs := [3]) (by kernel_rfl) (by simp) ?_
  refine AllReadyB.cons (i := 3) rfl (fun K hK => ?_) AllReadyB.nil
  go_simp
  refine (HSz _).out.mono ?_
  rintro e9 y5 ⟨rfl, h5⟩
  rw [h5]
  clear h5
  go_simp
  refine hK.out _ _ (fun _ => (HI4.out.drew.cell 1 _ rfl)) ?_
  clear hK K
  try simp only [Act.put, List.setIfInBounds_toArray, List.set_cons_zero, List.set_cons_succ]
  refine b_take 4 (some 29) (.int .i64 z) rfl rfl (by kernel_rfl) (by kernel_rfl) (by kernel_rfl) (by kernel_rfl) (by kernel_rfl) (fun _ _ _ h => h) (by rfl) (HI4.out.drew.cell 1 _ rfl) ?_ ?_
  · intro u hSu
    have sU := hSu
    go_simp
  try simp only [Act.put, List.setIfInBounds_toArray, List.set_cons_zero, List.set_cons_succ]
  refine b_take 5 (some 30) (.bool false) rfl rfl (by kernel_rfl) (by kernel_rfl) (by kernel_rfl) (by kernel_rfl) (by kernel_rfl) (fun _ _ _ h => h) (by rfl) (HI4.out.drew.cell 1 _ rfl) ?_ ?_
  · intro u hSu
    have sU := hSu
    go_simp
  try simp only [Act.put, List.setIfInBounds_toArray, List.set_cons_zero, List.set_cons_succ]
  refine b_done (by kernel_rfl) ?_ _
  obtain ⟨w5, hw5⟩ : ∃ w5, w5 = w4.drew := ⟨_, rfl⟩
  have HI5 := hide (show Blk w5 H #[.int .i64 16, .int .i64 128, .int .i64 120, .int .i64 6, .int .i64 128, .int .i64 16, .int .i64 11, .bool true] 23 by rw [hw5]; exact HI4.out.drew)
  have HZ5 := hide (show Blk w5 Z #[.int .i64 0, .int .i64 0, .int .i64 0, .int .i64 0, .int .i64 0, .int .i64 0, .int .i64 0, .bool false] 23 by rw [hw5]; exact HZ4.out.drew)
  have HB5 := hide (show Below w.heap.size w w5 by rw [hw5]; exact HB4.out.drew)
  rw [← hw5]
  clear hw5
  obtain ⟨k0, k1, k2, k3, k4, k5, k6, k7⟩ := eight1 HI5.out
  have z0 := HZ5.out.cell 0 _ rfl
  have f0 := HZ5.out.frozen 0
  have z1 := HZ5.out.cell 1 _ rfl
  have f1 := HZ5.out.frozen 1
  have z2 := HZ5.out.cell 2 _ rfl
  have f2 := HZ5.out.frozen 2
  have z3 := HZ5.out.cell 3 _ rfl
  have f3 := HZ5.out.frozen 3
  have z4 := HZ5.out.cell 4 _ rfl
  have f4 := HZ5.out.frozen 4
  have z5 := HZ5.out.cell 5 _ rfl
  have f5 := HZ5.out.frozen 5
  have z6 := HZ5.out.cell 6 _ rfl
  have f6 := HZ5.out.frozen 6
  have z7 := HZ5.out.cell 7 _ rfl
  have f7 := HZ5.out.frozen 7
  go_wp2_with fail
  obtain ⟨w9, hw9⟩ : ∃ w9, w9 = ((((((((w5.setCell ⟨Z, 0, none⟩ (.int .i64 16)).setCell ⟨Z, 1, none⟩ (.int .i64 128)).setCell ⟨Z, 2, none⟩ (.int .i64 120)).setCell ⟨Z, 3, none⟩ (.int .i64 6)).setCell ⟨Z, 4, none⟩ (.int .i64 128)).setCell ⟨Z, 5, none⟩ (.int .i64 16)).setCell ⟨Z, 6, none⟩ (.int .i64 11)).setCell ⟨Z, 7, none⟩ (.bool true)) := ⟨_, rfl⟩
  have hk9 : Blk w9 Z s1.cs 23 := by rw [hw9]; exact blk8e HZ5.out (.int .i64 16) (.int .i64 128) (.int .i64 120) (.int .i64 6) (.int .i64 128) (.int .i64 16) (.int .i64 11) (.bool true)
  have hb9 : Below w.heap.size w w9 := by rw [hw9]; exact below8e HB5.out (Nat.le_of_eq HZe.out.symm) (.int .i64 16) (.int .i64 128) (.int .i64 120) (.int .i64 6) (.int .i64 128) (.int .i64 16) (.int .i64 11) (.bool true)
  rw [← hw9]
  exact bodyPost_ret (ret_sp rfl _ _ Z s1 _ rfl rfl hk9) rfl ⟨rfl, hb9⟩

/-- A disk that holds the volume of 128 blocks. -/
structure DiskX (d F1 F2 : List Int) : Prop where
  len : 131072 ≤ d.length
  byts : Byts d
  sup : parE (cutE d 1024 1024) = (s1, 0)
  row : rwE (cutE d 2048 1024) 0 = (r1, 0)
  one : cutE d 3072 1024 = F1
  two : cutE d 4096 1024 = F2
  maps : MapsX F1 F2

set_option maxHeartbeats 8000000 in
set_option maxRecDepth 100000 in
theorem open1_ok (R P Q gq cq : Nat) (a : Option Addr) (cap m : Nat) (d F1 F2 : List Int) (w : World) (hD : DiskE w a cap d) (hm : m = d.length) (hX : DiskX d F1 F2) (hDn : ∀ x, a = some x → x.block ≠ R) (hcq : 1024 ≤ cq) (hcm : cq ≤ maxLen)
    (hR : Blk w R (volX s1 (.slice none 0 0) (.slice none 0 0) (.slice none 0 0) (.iface 76 (.slice a m cap))) 82) (hP : w.cell? ⟨P, 0, none⟩ = some (.slice (some ⟨gq, 0, none⟩) 1024 cq)) (hQ : w.cell? ⟨Q, 0, none⟩ = some (.pointer (some ⟨R, 0, none⟩))) (hL : Lies w (some ⟨gq, 0, none⟩) (cutE d 2048 1024)) :
    Calls Tryd.prog 56 #[.int .i64 0, .pointer (some ⟨P, 0, none⟩), .pointer (some ⟨Q, 0, none⟩)] w fun e w' => e = .returned (.int .i64 0) ∧ VolB w' R (.iface 76 (.slice a m cap)) F1 F2 ∧ Chg (fun k => R = k ∨ w.heap.size ≤ k) w w' := by
  have hlc : (cutE d 2048 1024).length = 1024 := cutE_len (by have := hX.len; omega)
  have HPr : Hid (Calls Tryd.prog 16 #[.slice (some ⟨gq, 0, none⟩) 1024 cq, .int .i64 0] w fun e w' => e = .returned (.tuple #[.agg #[.int .i64 3, .int .i64 4, .int .i64 5, .int .i64 120, .int .i64 6, .int .i64 1], .int .i64 0]) ∧ Below w.heap.size w w') := hide (by
    have h := eprow_any (some ⟨gq, 0, none⟩) cq (cutE d 2048 1024) 0 w (by rw [hlc]; omega) (cutE_byts hX.byts _ _) ⟨by rw [hlc]; exact hcq, hcm, (fun e => by cases e), hL⟩ (by omega) (by omega)
    rw [hlc, hX.row] at h
    exact h)
  have HOg := fun u h1 h2 => hide (ogroup_ok R a cap m d F1 F2 u h1 hm hX.len hX.one hX.two hX.maps hDn h2)
  have HD := hide hD
  have HR := hide hR
  have HRl := hide hR.lt
  have HQ := hide hQ
  have q0 : IntKind.i64.wrap 0 = 0 := by decide
  clear hlc hD hm hX hDn hR hL hcq hcm
  go_enter Tryd.func56, Tryd.ntmps56
  go_wp2_with fail
  refine HPr.out.mono ?_
  rintro e9 w1 ⟨rfl, hb1⟩
  obtain ⟨H, hH⟩ : ∃ H, H = w1.heap.size := ⟨_, rfl⟩
  obtain ⟨w2, hw2⟩ : ∃ w2, w2 = w1.alloc (.cells #[.int .i64 3, .int .i64 4, .int .i64 5, .int .i64 120, .int .i64 6, .int .i64 1] 41) := ⟨_, rfl⟩
  have hb2 : Below w1.heap.size w1 w2 := by rw [hw2]; exact (Below.refl _ _).alloc (Nat.le_refl _) _
  have hb12 := hb1.trans (hb2.mono hb1.size)
  have HB2 := hide hb12
  have HOg2 := HOg w2 (HD.out.below hb12) (HR.out.below hb12)
  have c0 : (w1.alloc (.cells #[.int .i64 3, .int .i64 4, .int .i64 5, .int .i64 120, .int .i64 6, .int .i64 1] 41)).cell? ⟨Q, 0, none⟩ = some (.pointer (some ⟨R, 0, none⟩)) := by rw [← hw2]; exact (hb12.cell (p := ⟨Q, 0, none⟩) (lt_of_cell HQ.out)).trans HQ.out
  obtain ⟨u0, u1, u2, u3, u4, u5⟩ := rows_rB (Blk.new w1 #[.int .i64 3, .int .i64 4, .int .i64 5, .int .i64 120, .int .i64 6, .int .i64 1] 41)
  have HW2 := hide hw2
  have HHe := hide hH
  clear hb1 hb2 hb12 hw2 hH hQ hP
  go_wp2_with fail
  rw [← HW2.out]
  clear u0 u1 u2 u3 u4 u5 c0
  refine HOg2.out.mono ?_
  rintro e9 w3 ⟨rfl, hv3, hc3⟩
  have HV3 := hide hv3
  have HC3 := hide ((Chg.of_below (X := fun k => R = k ∨ w.heap.size ≤ k) HB2.out).andThen hc3 (fun i hi e => by have := HB2.out.size; rcases e with e | e; exact Or.inl e; exact Or.inr (by omega)))
  clear hv3 hc3
  go_wp2_with fail
  go_ret
  exact ⟨rfl, HV3.out, HC3.out⟩

set_option maxHeartbeats 8000000 in
set_option maxRecDepth 100000 in
theorem through_ok (R P Q : Nat) (dv : Value) (F1 F2 : List Int) (w : World) (hC : ∀ u, Below w.heap.size w u → Calls Tryd.prog 56 #[.int .i64 0, .pointer (some ⟨P, 0, none⟩), .pointer (some ⟨Q, 0, none⟩)] u fun e w' => e = .returned (.int .i64 0) ∧ VolB w' R dv F1 F2 ∧ Chg (fun k => R = k ∨ u.heap.size ≤ k) u w') :
    Calls Tryd.prog 55 #[.agg #[.int .i64 16, .int .i64 128, .int .i64 120, .int .i64 6, .int .i64 128, .int .i64 16, .int .i64 11, .bool true], .func (.func 56) #[] #[.pointer (some ⟨P, 0, none⟩), .pointer (some ⟨Q, 0, none⟩)]] w fun e w' => e = .returned (.int .i64 0) ∧ VolB w' R dv F1 F2 ∧ Chg (fun k => R = k ∨ w.heap.size ≤ k) w w' := by
  have HG : ∀ u, Hid (Calls Tryd.prog 48 #[.agg #[.int .i64 16, .int .i64 128, .int .i64 120, .int .i64 6, .int .i64 128, .int .i64 16, .int .i64 11, .bool true]] u fun e w' => e = .returned (.int .i64 1) ∧ Below u.heap.size u w') := fun u => hide (grp_any2 s1 u (by decide) (by decide))
  have HC := fun u hu => hide (hC u hu)
  have hb1 : Below w.heap.size w (w.alloc (.cells #[.int .i64 16, .int .i64 128, .int .i64 120, .int .i64 6, .int .i64 128, .int .i64 16, .int .i64 11, .bool true] 23)) := (Below.refl _ _).alloc (Nat.le_refl _) _
  have HB1 := hide hb1
  obtain ⟨k0, k1, k2, k3, k4, k5, k6, k7⟩ := eight1 (Blk.new w #[.int .i64 16, .int .i64 128, .int .i64 120, .int .i64 6, .int .i64 128, .int .i64 16, .int .i64 11, .bool true] 23)
  clear hC hb1
  go_enter Tryd.func55, Tryd.ntmps55
  go_wp2_with fail
  clear k0 k1 k2 k3 k4 k5 k6 k7
  refine (HG _).out.mono ?_
  rintro e9 w2 ⟨rfl, hb2⟩
  have HB2 := hide (HB1.out.trans (hb2.mono HB1.out.size))
  clear hb2
  go_wp2_with fail
  go_loopw [9] (fun i wr => ∃ j : Nat, i = .int .i64 (j : Int) ∧ ((j = 0 ∧ Below w.heap.size w wr) ∨ (j = 1 ∧ VolB wr R dv F1 F2 ∧ Chg (fun k => R = k ∨ w.heap.size ≤ k) w wr))) (fun i _ => 1 - (intOf i).toNat)
  case atStart => exact ⟨0, rfl, Or.inl ⟨rfl, HB2.out⟩⟩
  case round =>
    obtain ⟨j, rfl, hj⟩ := hrel
    rcases hj with ⟨rfl, hb⟩ | ⟨rfl, hv, hc⟩
    · have HCj := HC wr hb
      have HBj := hide hb
      clear hb
      go_wp2_with fail
      refine HCj.out.mono ?_
      rintro e9 w3 ⟨rfl, hv3, hc3⟩
      have HV3 := hide hv3
      have HC3 := hide ((Chg.of_below (X := fun k => R = k ∨ w.heap.size ≤ k) HBj.out).andThen hc3 (fun i hi e => by have := HBj.out.size; rcases e with e | e; exact Or.inl e; exact Or.inr (by omega)))
      clear hv3 hc3
      go_wp2_with fail
      go_roundw
      case rel => exact ⟨1, by go_num, Or.inr ⟨rfl, HV3.out, HC3.out⟩⟩
      case measure => simp [intOf]
    · have HV3 := hide hv
      have HC3 := hide hc
      clear hv hc
      go_wp2_with fail
      go_ret
      exact ⟨rfl, HV3.out, HC3.out⟩
end Go.Proofs.YtjmajjfknmjifaaDoor.Oct
