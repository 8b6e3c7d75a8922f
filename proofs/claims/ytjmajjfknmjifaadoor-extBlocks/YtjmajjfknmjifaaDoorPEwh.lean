/- ExtBlocks: a super is parsed, and put, as the document says. -/
import Derived.Test.YtjmajjfknmjifaaDoorPEzs
import Derived.Test.YtjmajjfknmjifaaDoorPEwd
import Derived.Test.YtjmajjfknmjifaaDoorPEwe
import Derived.Test.YtjmajjfknmjifaaDoorPEwfEwg
namespace Go.Proofs.YtjmajjfknmjifaaDoor.Oct
open Go.RowKit

theorem Sp.all_near {s : Sp} (h : s.all) : s.near := by
  obtain ⟨h0, h1, _, _, h4, h5, _⟩ := h
  exact ⟨h1, h4, h5, h0⟩

theorem Sl.chgE {X : Nat → Prop} {w w' : World} {a : Option Addr} {cap : Nat} {l : List Int} (h : Sl w a cap l) (hc : Chg X w w') (hne : ∀ x, a = some x → ¬ X x.block) : Sl w' a cap l := ⟨h.le, h.max, h.none, h.lies.chg hc hne⟩

set_option maxHeartbeats 16000000 in
set_option maxRecDepth 100000 in
theorem eblocks_walk (s : Sp) (a : Option Addr) (cap : Nat) (l : List Int) (w : World) (hb : Byts l) (hs : Sl w a cap l) (hV : VarX w) :
    Calls Tryd.prog 3 #[.agg s.cs, .slice a l.length cap] w fun e w' => e = .returned (.bool true) ∧ Below w.heap.size w w' := by
  obtain ⟨w1, hw1⟩ : ∃ w1, w1 = w.alloc (.cells s.cs 23) := ⟨_, rfl⟩
  have hb1 : Below w.heap.size w w1 := by rw [hw1]; exact (Below.refl _ _).alloc (Nat.le_refl _) _
  have HI1 := hide (show Blk w1 w.heap.size s.cs 23 by rw [hw1]; exact Blk.new _ _ _)
  have HMd := fun (u : World) (h : VarX u) => hide (emade_any u h)
  have HV1 := hide (hV.below hb1)
  have HS1 := hide (hs.below hb1)
  have HB1 := hide hb1
  have HW1 := hide hw1
  obtain ⟨c0, c1, c2, c3, c4, c5, c6, c7⟩ := cells_sp (Blk.new w s.cs 23)
  by_cases h11 : 1100 < l.length
  · have hd : decide ((1100 : Int) < (l.length : Int)) = true := by simp; omega
    obtain ⟨n, hn⟩ : ∃ n, n = l.length := ⟨_, rfl⟩
    rw [← hn] at hd ⊢
    clear hn h11 hw1 hb1 hb hs hV
    go_enter Tryd.func3, Tryd.ntmps3
    go_wp2_with fail
    rw [← HW1.out]
    refine (HMd w1 HV1.out).out.mono ?_
    rintro e9 w2 ⟨rfl, hb2⟩
    have HB2 := hide (HB1.out.trans (hb2.mono HB1.out.size))
    clear hb2
    go_wp2_with fail
    go_ret
    exact ⟨rfl, HB2.out⟩
  have hd : decide ((1100 : Int) < (l.length : Int)) = false := by simp; omega
  have hl6 : l.length ≤ 1000000 := by omega
  obtain ⟨X, hX⟩ : ∃ X, X = (parE l).1 := ⟨_, rfl⟩
  obtain ⟨E, hE⟩ : ∃ E, E = (parE l).2 := ⟨_, rfl⟩
  have HFa := fun u => hide (efar_any s u)
  have HPa : ∀ u, VarX u → Lies u a l → Hid (Calls Tryd.prog 8 #[.slice a l.length cap] u fun e w' => e = .returned (.tuple #[.agg X.cs, .int .i64 E]) ∧ Below u.heap.size u w') := fun u hv h => hide (by rw [hX, hE]; exact eparse_any a cap l u (by unfold maxLen; omega) hb h hv)
  have HPr : ∀ u, Lies u a l → Hid (Calls Tryd.prog 9 #[.slice a l.length cap] u fun e w' => e = .returned (.tuple #[.agg X.cs, .int .i64 E]) ∧ Below u.heap.size u w') := fun u h => hide (by rw [hX, hE]; exact rparse_any a cap l u hl6 hb h)
  have HOf := fun (s : Sp) (u : World) => hide (eof_any s u)
  have HPt := fun u (h : Sl u a cap l) => hide (Part_any a cap l u hl6 h)
  have HSa := fun (a' : Option Addr) (cap' : Nat) (u : World) (h1 : Lies u a' l) (h2 : Lies u a l) => hide (same_self a' a cap' cap l u h1 h2)
  have HBy := hide hb
  obtain ⟨n, hn⟩ : ∃ n, n = l.length := ⟨_, rfl⟩
  have HN := hide hn
  have HL6 := hide h11
  rw [← hn] at hd HPa HPr HPt HSa ⊢
  clear hX hE hl6 h11 hn hw1 hb1 hb hs hV
  go_enter Tryd.func3, Tryd.ntmps3
  go_wp2_with fail
  rw [← HW1.out]
  clear c0 c1 c2 c3 c4 c5 c6 c7
  refine (HFa _).out.mono ?_
  rintro e9 w2 ⟨⟨r, rfl, hr⟩, hb2⟩
  have HI2 := hide (HI1.out.below hb2)
  have HV2 := hide (HV1.out.below hb2)
  have HS2 := hide (HS1.out.below hb2)
  have HB2 := hide (HB1.out.trans (hb2.mono HB1.out.size))
  have HR := hide hr
  clear hb2 hr
  cases r
  rotate_left
  · go_wp2_with fail
    refine (HMd _ HV2.out).out.mono ?_
    rintro e9 w3 ⟨rfl, hb3⟩
    have HB3 := hide (HB2.out.trans (hb3.mono HB2.out.size))
    clear hb3
    go_wp2_with fail
    go_ret
    exact ⟨rfl, HB3.out⟩
  have HAl := hide (HR.out rfl)
  go_wp2_with fail
  refine (HPa _ HV2.out HS2.out.lies).out.mono ?_
  rintro e9 w3 ⟨rfl, hb3⟩
  obtain ⟨P, hP⟩ : ∃ P, P = w3.heap.size := ⟨_, rfl⟩
  obtain ⟨w4, hw4⟩ : ∃ w4, w4 = w3.alloc (.cells X.cs 23) := ⟨_, rfl⟩
  have hb4 : Below w3.heap.size w3 w4 := by rw [hw4]; exact (Below.refl _ _).alloc (Nat.le_refl _) _
  have hb34 := hb3.trans (hb4.mono hb3.size)
  have HP4 := hide (show Blk w4 P X.cs 23 by rw [hw4, hP]; exact Blk.new _ _ _)
  have HI4 := hide (HI2.out.below hb34)
  have HV4 := hide (HV2.out.below hb34)
  have HS4 := hide (HS2.out.below hb34)
  have HB4 := hide (HB2.out.trans (hb34.mono HB2.out.size))
  have HW4 := hide hw4
  have HPe := hide hP
  clear hb3 hb4 hb34 hw4 hP
  go_wp2_with fail
  rw [← HPe.out, ← HW4.out]
  refine (HPr _ HS4.out.lies).out.mono ?_
  rintro e9 w5 ⟨rfl, hb5⟩
  obtain ⟨Q, hQ⟩ : ∃ Q, Q = w5.heap.size := ⟨_, rfl⟩
  obtain ⟨w6, hw6⟩ : ∃ w6, w6 = w5.alloc (.cells X.cs 30) := ⟨_, rfl⟩
  have hb6 : Below w5.heap.size w5 w6 := by rw [hw6]; exact (Below.refl _ _).alloc (Nat.le_refl _) _
  have hb56 := hb5.trans (hb6.mono hb5.size)
  have HQ6 := hide (show Blk w6 Q X.cs 30 by rw [hw6, hQ]; exact Blk.new _ _ _)
  have HP6 := hide (HP4.out.below hb56)
  have HI6 := hide (HI4.out.below hb56)
  have HV6 := hide (HV4.out.below hb56)
  have HS6 := hide (HS4.out.below hb56)
  have HB6 := hide (HB4.out.trans (hb56.mono HB4.out.size))
  have HW6 := hide hw6
  have HQe := hide hQ
  clear hb5 hb6 hb56 hw6 hQ
  go_wp2_with fail
  rw [← HQe.out, ← HW6.out]
  refine b_region (S := (fun u => Blk u P X.cs 23 ∧ Blk u Q X.cs 30)) (F := (fun _ => true)) (by kernel_rfl) ?_
  refine b_ready (rs := [0]) (by kernel_rfl) (by simp) ?_
  refine AllReadyB.cons (i := 0) rfl (fun K hK => ?_) AllReadyB.nil
  go_simp
  refine (HMd _ (HV6.out.below (Below.refl _ _).drew)).out.mono ?_
  rintro e9 w7 ⟨rfl, hb7⟩
  have HP7 := hide (HP6.out.drew.below hb7)
  have HQ7 := hide (HQ6.out.drew.below hb7)
  have HI7 := hide (HI6.out.drew.below hb7)
  have HV7 := hide ((HV6.out.below (Below.refl _ _).drew).below hb7)
  have HS7 := hide ((HS6.out.below (Below.refl _ _).drew).below hb7)
  have HB7 := hide (HB6.out.drew.trans (hb7.mono HB6.out.size))
  clear hb7
  go_simp
  refine hK.out _ _ (fun _ => ⟨HP7.out, HQ7.out⟩) ?_
  clear hK K
  try simp only [Act.put, List.setIfInBounds_toArray, List.set_cons_zero, List.set_cons_succ]
  refine b_take 1 (some 33) (.bool false) rfl rfl (by kernel_rfl) (by kernel_rfl) (by kernel_rfl) (by kernel_rfl) (by kernel_rfl) (fun _ _ _ h => h) (by rfl) ⟨HP7.out, HQ7.out⟩ ?_ ?_
  · intro u hSu
    obtain ⟨sU, tU⟩ := hSu
    go_simp
  try simp only [Act.put, List.setIfInBounds_toArray, List.set_cons_zero, List.set_cons_succ]
  refine b_take 2 (some 34) (.bool false) rfl rfl (by kernel_rfl) (by kernel_rfl) (by kernel_rfl) (by kernel_rfl) (by kernel_rfl) (fun _ _ _ h => h) (by rfl) ⟨HP7.out, HQ7.out⟩ ?_ ?_
  · intro u hSu
    obtain ⟨sU, tU⟩ := hSu
    go_simp
  try simp only [Act.put, List.setIfInBounds_toArray, List.set_cons_zero, List.set_cons_succ]
  refine b_take 3 (some 35) (.int .i64 E) rfl rfl (by kernel_rfl) (by kernel_rfl) (by kernel_rfl) (by kernel_rfl) (by kernel_rfl) (fun _ _ _ h => h) (by rfl) ⟨HP7.out, HQ7.out⟩ ?_ ?_
  · intro u hSu
    obtain ⟨sU, tU⟩ := hSu
    go_simp
  try simp only [Act.put, List.setIfInBounds_toArray, List.set_cons_zero, List.set_cons_succ]
  refine b_take 4 (some 36) (.int .i64 E) rfl rfl (by kernel_rfl) (by kernel_rfl) (by kernel_rfl) (by kernel_rfl) (by kernel_rfl) (fun _ _ _ h => h) (by rfl) ⟨HP7.out, HQ7.out⟩ ?_ ?_
  · intro u hSu
    obtain ⟨sU, tU⟩ := hSu
    go_simp
  try simp only [Act.put, List.setIfInBounds_toArray, List.set_cons_zero, List.set_cons_succ]
  refine b_take 5 (some 37) (.bool false) rfl rfl (by kernel_rfl) (by kernel_rfl) (by kernel_rfl) (by kernel_rfl) (by kernel_rfl) (fun _ _ _ h => h) (by rfl) ⟨HP7.out, HQ7.out⟩ ?_ ?_
  · intro u hSu
    obtain ⟨sU, tU⟩ := hSu
    go_simp
  try simp only [Act.put, List.setIfInBounds_toArray, List.set_cons_zero, List.set_cons_succ]
  refine b_take 6 (some 38) (.bool false) rfl rfl (by kernel_rfl) (by kernel_rfl) (by kernel_rfl) (by kernel_rfl) (by kernel_rfl) (fun _ _ _ h => h) (by rfl) ⟨HP7.out, HQ7.out⟩ ?_ ?_
  · intro u hSu
    obtain ⟨sU, tU⟩ := hSu
    go_simp
  try simp only [Act.put, List.setIfInBounds_toArray, List.set_cons_zero, List.set_cons_succ]
  refine b_take 7 (some 39) (.bool false) rfl rfl (by kernel_rfl) (by kernel_rfl) (by kernel_rfl) (by kernel_rfl) (by kernel_rfl) (fun _ _ _ h => h) (by rfl) ⟨HP7.out, HQ7.out⟩ ?_ ?_
  · intro u hSu
    obtain ⟨sU, tU⟩ := hSu
    go_simp
  try simp only [Act.put, List.setIfInBounds_toArray, List.set_cons_zero, List.set_cons_succ]
  refine b_take 8 (some 40) (.agg X.cs) rfl rfl (by kernel_rfl) (by kernel_rfl) (by kernel_rfl) (by kernel_rfl) (by kernel_rfl) (fun _ _ _ h => h) (by rfl) ⟨HP7.out, HQ7.out⟩ ?_ ?_
  · intro u hSu
    obtain ⟨sU, tU⟩ := hSu
    obtain ⟨u0, u1, u2, u3, u4, u5, u6, u7⟩ := cells_sp sU
    go_simp
  try simp only [Act.put, List.setIfInBounds_toArray, List.set_cons_zero, List.set_cons_succ]
  refine b_take 10 (some 42) (.agg X.cs) rfl rfl (by kernel_rfl) (by kernel_rfl) (by kernel_rfl) (by kernel_rfl) (by kernel_rfl) (fun _ _ _ h => h) (by rfl) ⟨HP7.out, HQ7.out⟩ ?_ ?_
  · intro u hSu
    obtain ⟨sU, tU⟩ := hSu
    obtain ⟨u0, u1, u2, u3, u4, u5, u6, u7⟩ := cells_sp tU
    go_simp
  try simp only [Act.put, List.setIfInBounds_toArray, List.set_cons_zero, List.set_cons_succ]
  refine b_ready (rs := [9]) (by kernel_rfl) (by simp) ?_
  refine AllReadyB.cons (i := 9) rfl (fun K hK => ?_) AllReadyB.nil
  go_simp
  refine (HOf X _).out.mono ?_
  rintro e9 w8 ⟨rfl, hb8⟩
  have HP8 := hide (HP7.out.below hb8)
  have HQ8 := hide (HQ7.out.below hb8)
  have HI8 := hide (HI7.out.below hb8)
  have HV8 := hide ((HV7.out.below (Below.refl _ _)).below hb8)
  have HS8 := hide ((HS7.out.below (Below.refl _ _)).below hb8)
  have HB8 := hide (HB7.out.trans (hb8.mono HB7.out.size))
  clear hb8
  go_simp
  refine hK.out _ _ (fun _ => ⟨HP8.out, HQ8.out⟩) ?_
  clear hK K
  try simp only [Act.put, List.setIfInBounds_toArray, List.set_cons_zero, List.set_cons_succ]
  refine b_take 11 (some 43) (.bool false) rfl rfl (by kernel_rfl) (by kernel_rfl) (by kernel_rfl) (by kernel_rfl) (by kernel_rfl) (fun _ _ _ h => h) (by rfl) ⟨HP8.out, HQ8.out⟩ ?_ ?_
  · intro u hSu
    obtain ⟨sU, tU⟩ := hSu
    have hq := neq_Sr u X
    have hgd := fun (p q : Operand) => guard_Sr u .neq p q X.cs X.cs
    go_simp
  try simp only [Act.put, List.setIfInBounds_toArray, List.set_cons_zero, List.set_cons_succ]
  refine b_take 12 (some 44) (.bool false) rfl rfl (by kernel_rfl) (by kernel_rfl) (by kernel_rfl) (by kernel_rfl) (by kernel_rfl) (fun _ _ _ h => h) (by rfl) ⟨HP8.out, HQ8.out⟩ ?_ ?_
  · intro u hSu
    obtain ⟨sU, tU⟩ := hSu
    go_simp
  try simp only [Act.put, List.setIfInBounds_toArray, List.set_cons_zero, List.set_cons_succ]
  refine b_done (by kernel_rfl) ?_ _
  go_wp2_with fail
  refine (HPt _ HS8.out).out.mono ?_
  rintro e9 w9 ⟨v, rfl, ho9, hb9⟩
  have HI9 := hide (HI8.out.below hb9)
  have HV9 := hide (HV8.out.below hb9)
  have HS9 := hide (HS8.out.below hb9)
  have HB9 := hide (HB8.out.trans (hb9.mono HB8.out.size))
  have HNe := hide (show ∀ x, a = some x → l ≠ [] → x.block < w8.heap.size from fun x hx hne => by
    rcases HS8.out.lies with h | ⟨b, off, e, hlt, _⟩
    · exact absurd h hne
    · rw [hx] at e; cases e; exact hlt)
  have HO9 := hide ho9
  obtain ⟨a', k', rfl, hsl, hg9⟩ := ho9.sl
  have HC9 := hide hsl
  have HG9 := hide hg9
  rw [← HN.out] at HO9 ⊢
  obtain ⟨c0, c1, c2, c3, c4, c5, c6, c7⟩ := cells_sp HI9.out
  clear ho9 hb9 hsl hg9
  by_cases hz : n = 1024
  rotate_left
  · have HPu := hide (spput_off s a' n k' w9 hz)
    have hzI : ((n : Int) != 1024) = true := by simp; omega
    have hzJ : ¬ (n : Int) = 1024 := by omega
    clear hz
    go_wp2_with fail
    clear c0 c1 c2 c3 c4 c5 c6 c7
    refine HPu.out.mono ?_
    rintro e9 x1 ⟨rfl, hb1⟩
    have HSm := HSa a' k' x1 (HC9.out.lies.below hb1) (HS9.out.lies.below hb1)
    have HBx := hide (HB9.out.trans (hb1.mono HB9.out.size))
    clear hb1 HPu
    go_wp2_with fail
    refine HSm.out.mono ?_
    rintro e9 x2 ⟨rfl, h2⟩
    rw [h2]
    clear h2
    go_wp2_with fail
    go_ret
    exact ⟨rfl, HBx.out⟩
  subst hz
  have hne : l ≠ [] := fun e => by have := HN.out; rw [e] at this; simp at this
  have HCk := fun u => hide (rchk_any s u (Sp.all_near HAl.out))
  by_cases hk : s.chk = 0
  rotate_left
  · have HPu := hide (spput_bad s a' k' w9 hk)
    obtain ⟨K, hK⟩ : ∃ K, K = s.chk := ⟨_, rfl⟩
    rw [← hK] at HPu HCk hk
    have x0 : (K != 0) = true := by simpa using hk
    clear hK hk hne
    go_wp2_with fail
    clear c0 c1 c2 c3 c4 c5 c6 c7
    refine HPu.out.mono ?_
    rintro e9 x1 ⟨rfl, hb1⟩
    have HIx := hide (HI9.out.below hb1)
    have HCx := hide (HC9.out.below hb1)
    have HSx := hide (HS9.out.below hb1)
    have HBx := hide (HB9.out.trans (hb1.mono HB9.out.size))
    obtain ⟨c0, c1, c2, c3, c4, c5, c6, c7⟩ := cells_sp HIx.out
    clear hb1 HPu
    go_wp2_with fail
    clear c0 c1 c2 c3 c4 c5 c6 c7
    refine (HOf s _).out.mono ?_
    rintro e9 x2 ⟨rfl, hb2⟩
    have HCy := hide (HCx.out.below hb2)
    have HSy := hide (HSx.out.below hb2)
    have HBy2 := hide (HBx.out.trans (hb2.mono HBx.out.size))
    clear hb2
    go_wp2_with fail
    refine (HCk _).out.mono ?_
    rintro e9 x3 ⟨rfl, hb3⟩
    have HSm := HSa a' k' x3 (HCy.out.lies.below hb3) (HSy.out.lies.below hb3)
    have HBz := hide (HBy2.out.trans (hb3.mono HBy2.out.size))
    clear hb3
    go_wp2_with fail
    refine HSm.out.mono ?_
    rintro e9 x4 ⟨rfl, h2⟩
    rw [h2]
    clear h2
    go_wp2_with fail
    go_ret
    exact ⟨rfl, HBz.out⟩
  obtain ⟨g, rfl, hg0, hg1⟩ := HG9.out hne
  have HPu : Hid (Calls Tryd.prog 12 #[.agg s.cs, .slice (some ⟨g, 0, none⟩) 1024 k'] w9 fun e w' => e = .returned (.int .i64 0) ∧ Own w' w8.heap.size (.slice (some ⟨g, 0, none⟩) 1024 k') (spB s l 0) ∧ Chg (fun k => some k = some g) w9 w') := hide (by
    have h := spput_yes s w8.heap.size g k' 0 k' l w9 HV9.out (by have := HN.out; omega) (by have := HN.out; omega) (Nat.le_of_lt (Nat.lt_of_le_of_lt hg0 hg1)) (by have := HV8.out.lt; omega) hk (by rw [← HN.out]; exact HO9.out)
    rw [← HN.out] at h
    exact h)
  rw [hk] at HCk
  have hlB : (spB s l 0).length = 1024 := by rw [spB_len]; exact HN.out.symm
  have HPs := hide (par_spB s l HN.out.symm hk)
  have HPc : ∀ u, VarX u → Lies u (some ⟨g, 0, none⟩) (spB s l 0) → Hid (Calls Tryd.prog 8 #[.slice (some ⟨g, 0, none⟩) 1024 k'] u fun e w' => e = .returned (.tuple #[.agg s.cs, .int .i64 0]) ∧ Below u.heap.size u w') := fun u hv h => hide (by
    have h := eparse_any (some ⟨g, 0, none⟩) k' (spB s l 0) u (by rw [hlB]; unfold maxLen; omega) (spB_byts s HBy.out 0) h hv
    rw [hlB, HPs.out] at h
    exact h)
  have HRp : ∀ u, Sl u a cap l → Hid (Calls Tryd.prog 15 #[.agg s.cs, .slice a 1024 cap] u fun e w' => ∃ v, e = .returned v ∧ Own w' u.heap.size v (spB s l 0) ∧ Below u.heap.size u w') := fun u h => hide (rsput_any s a cap l u HN.out.symm h hk)
  obtain ⟨M, hM⟩ : ∃ M, M = spB s l 0 := ⟨_, rfl⟩
  rw [← hM] at HPu HPc HRp hlB
  have HSm := fun (a1 a2 : Option Addr) (k1 k2 : Nat) (u : World) (h1 : Lies u a1 M) (h2 : Lies u a2 M) => hide (same_self a1 a2 k1 k2 M u h1 h2)
  rw [hlB] at HSm
  have HlB := hide hlB
  have HGr := hide (And.intro hg0 (And.intro hg1 hne))
  clear hk hne hg0 hg1 hM hlB
  go_wp2_with fail
  clear c0 c1 c2 c3 c4 c5 c6 c7
  refine HPu.out.mono ?_
  rintro e9 x1 ⟨rfl, ho1, hc1⟩
  have HIx := hide (HI9.out.chg hc1 (fun e => by have h1 := Option.some.inj e; have h2 := HI8.out.lt; have h3 := HGr.out.1; omega))
  have HVx := hide (HV9.out.chg hc1 (fun e => by have h1 := Option.some.inj e; have h2 := HV8.out.lt; have h3 := HGr.out.1; omega))
  have HSx := hide (HS9.out.chgE hc1 (fun x hx e => by have h1 := Option.some.inj e; have h2 := HNe.out x hx HGr.out.2.2; have h3 := HGr.out.1; omega))
  have HBx := hide (HB9.out.trans (Chg.below w.heap.size hc1 HB9.out.size (fun i hi e => by have h1 := Option.some.inj e; have h2 := HB8.out.size; have h3 := HGr.out.1; omega)))
  have HMx := hide ho1.liesE
  obtain ⟨c0, c1, c2, c3, c4, c5, c6, c7⟩ := cells_sp HIx.out
  clear ho1 hc1 HPu
  go_wp2_with fail
  clear c0 c1 c2 c3 c4 c5 c6 c7
  refine (HOf s _).out.mono ?_
  rintro e9 x2 ⟨rfl, hb2⟩
  have HIy := hide (HIx.out.below hb2)
  have HVy := hide (HVx.out.below hb2)
  have HSy := hide (HSx.out.below hb2)
  have HMy := hide (HMx.out.below hb2)
  have HBy2 := hide (HBx.out.trans (hb2.mono HBx.out.size))
  clear hb2
  go_wp2_with fail
  refine (HCk _).out.mono ?_
  rintro e9 x3 ⟨rfl, hb3⟩
  have HIz := hide (HIy.out.below hb3)
  have HVz := hide (HVy.out.below hb3)
  have HSz := hide (HSy.out.below hb3)
  have HMz := hide (HMy.out.below hb3)
  have HBz := hide (HBy2.out.trans (hb3.mono HBy2.out.size))
  clear hb3
  go_wp2_with fail
  refine (HPc _ HVz.out HMz.out).out.mono ?_
  rintro e9 x4 ⟨rfl, hb4⟩
  obtain ⟨D, hD⟩ : ∃ D, D = x4.heap.size := ⟨_, rfl⟩
  obtain ⟨x5, hx5⟩ : ∃ x5, x5 = x4.alloc (.cells s.cs 23) := ⟨_, rfl⟩
  have hb5 : Below x4.heap.size x4 x5 := by rw [hx5]; exact (Below.refl _ _).alloc (Nat.le_refl _) _
  have hb45 := hb4.trans (hb5.mono hb4.size)
  have HD5 := hide (show Blk x5 D s.cs 23 by rw [hx5, hD]; exact Blk.new _ _ _)
  have HI5 := hide (HIz.out.below hb45)
  have HS5 := hide (HSz.out.below hb45)
  have HM5 := hide (HMz.out.below hb45)
  have HB5 := hide (HBz.out.trans (hb45.mono HBz.out.size))
  have HX5 := hide hx5
  have HDe := hide hD
  obtain ⟨c0, c1, c2, c3, c4, c5, c6, c7⟩ := cells_sp HI5.out
  rw [hx5] at c0 c1 c2 c3 c4 c5 c6 c7
  clear hb4 hb5 hb45 hx5 hD
  go_wp2_with fail
  rw [← HDe.out, ← HX5.out]
  clear c0 c1 c2 c3 c4 c5 c6 c7
  refine (HOf s _).out.mono ?_
  rintro e9 x6 ⟨rfl, hb6⟩
  have HD6 := hide (HD5.out.below hb6)
  have HI6' := hide (HI5.out.below hb6)
  have HS6' := hide (HS5.out.below hb6)
  have HM6 := hide (HM5.out.below hb6)
  have HB6' := hide (HB5.out.trans (hb6.mono HB5.out.size))
  clear hb6
  go_wp2_with fail
  refine (HRp _ HS6'.out).out.mono ?_
  rintro e9 x7 ⟨v7, rfl, ho7, hb7⟩
  obtain ⟨a7, k7, rfl, hsl7, _⟩ := ho7.sl
  rw [HlB.out]
  have HD7 := hide (HD6.out.below hb7)
  have HI7' := hide (HI6'.out.below hb7)
  have HB7' := hide (HB6'.out.trans (hb7.mono HB6'.out.size))
  have HSm7 := HSm (some ⟨g, 0, none⟩) a7 k' k7 x7 (HM6.out.below hb7) hsl7.lies
  obtain ⟨c0, c1, c2, c3, c4, c5, c6, c7⟩ := cells_sp HI7'.out
  obtain ⟨d0, d1, d2, d3, d4, d5, d6, d7⟩ := cells_sp HD7.out
  have hq := fun u => eql_Se u s
  have hgd := fun (u : World) (p q : Operand) => guard_Se u .eql p q s.cs s.cs
  clear ho7 hsl7 hb7
  go_wp2_with fail
  refine HSm7.out.mono ?_
  rintro e9 x8 ⟨rfl, h2⟩
  rw [h2]
  clear h2
  go_wp2_with fail
  go_ret
  exact ⟨rfl, HB7'.out⟩
end Go.Proofs.YtjmajjfknmjifaaDoor.Oct
