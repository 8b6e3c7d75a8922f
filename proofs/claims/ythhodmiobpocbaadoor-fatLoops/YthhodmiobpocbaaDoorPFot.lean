/- A volume is opened: its counts, its table. -/
import Derived.Test.YthhodmiobpocbaaDoorPFob
namespace Go.Proofs.YthhodmiobpocbaaDoor.Oct
open Go.RowKit

set_option maxHeartbeats 8000000 in
set_option maxRecDepth 100000 in
theorem counts_ok (a : Option Addr) (cap : Nat) (d : List Int) (b : Bt) (f x : Int) (w : World) (hd : d.length ≤ 1000000000) (hcap : d.length ≤ cap) (hno : a = none → cap = 0) (hl : Lies w a d) (hbd : Byts d) (hV : Vars w)
    (hi : 0 ≤ b.info) (hf : (b.info + 1) * 512 ≤ d.length) (hp : parC (secs d b.info 1) = (f, x, 0)) :
    Calls Tryd.prog 24 #[.agg b.cs, .iface 34 (.slice a d.length cap)] w fun e w' => e = .returned (.tuple #[.agg #[.int .i64 f, .int .i64 x], .int .i64 0]) ∧ Below w.heap.size w w' := by
  obtain ⟨w1, hw1⟩ : ∃ w1, w1 = w.alloc (.cells b.cs 64) := ⟨_, rfl⟩
  obtain ⟨w2, hw2⟩ : ∃ w2, w2 = w1.alloc (.cells #[.int .i64 0, .int .i64 0] 67) := ⟨_, rfl⟩
  have hs1 : w1.heap.size = w.heap.size + 1 := by rw [hw1]; simp
  have hb1 : Below w.heap.size w w1 := by rw [hw1]; exact (Below.refl _ _).alloc (Nat.le_refl _) _
  have hb2 : Below w1.heap.size w1 w2 := by rw [hw2]; exact (Below.refl _ _).alloc (Nat.le_refl _) _
  have HK2 := hide (show Blk w2 (w.heap.size + 1) #[.int .i64 0, .int .i64 0] 67 by rw [hw2, ← hs1]; exact Blk.new _ _ _)
  have HI2 := hide ((show Blk w1 w.heap.size b.cs 64 by rw [hw1]; exact Blk.new _ _ _).below hb2)
  have hl2 := (hl.below hb1).below hb2
  have HV2 := hide ((hV.below hb1).below hb2)
  have HB2 := hide (hb1.trans (hb2.mono hb1.size))
  have HR := hide (rd1_ok a cap d b.info w2 hd hcap hno hl2 hi hf)
  have HPa : ∀ (u : World) (y : Option Addr) (c : Nat), Lies u y (secs d b.info 1) → Vars u → Hid (Calls Tryd.prog 49 #[.slice y 512 c] u fun e w' => e = .returned (.tuple #[.agg #[.int .i64 f, .int .i64 x], .int .i64 0]) ∧ Below u.heap.size u w') := fun u y c hu hv => hide (by
    have hln := secs_len (d := d) (s := b.info) (n := 1) hi (by omega) hf
    have h := parc_any y c (secs d b.info 1) u (by rw [hln]; unfold maxLen; decide) (hbd.secs _ _) hu hv
    rw [hln, hp] at h
    exact h)
  have HW2 := hide (show w2 = (w.alloc (.cells b.cs 64)).alloc (.cells #[.int .i64 0, .int .i64 0] 67) by rw [hw2, hw1])
  obtain ⟨c0, c1, c2, c3, c4, c5, c6, c7⟩ := cells_of HI2.out
  rw [HW2.out] at c6
  obtain ⟨m, hm⟩ : ∃ m, m = d.length := ⟨_, rfl⟩
  rw [← hm] at HR ⊢
  clear hd hcap hno hl hbd hV hi hf hp hw1 hw2 hb1 hb2 hl2 hs1 hm c0 c1 c2 c3 c4 c5 c7
  go_enter Tryd.func24, Tryd.ntmps24
  go_wp2_with fail
  rw [← HW2.out]
  clear c6
  refine HR.out.mono ?_
  rintro e9 w3 ⟨⟨a3, cc3, rfl, hl3, hc3⟩, hb3⟩
  have HP3 := HPa w3 a3 cc3 hl3 (HV2.out.below hb3)
  have HK3 := hide (HK2.out.below hb3)
  have HB3 := hide (HB2.out.trans (hb3.mono HB2.out.size))
  clear hl3 hc3 hb3 HPa HR
  go_wp2_with fail
  refine HP3.out.mono ?_
  rintro e9 w4 ⟨rfl, hb4⟩
  have HK4 := hide (HK3.out.below hb4)
  have HB4 := hide (HB3.out.trans (hb4.mono HB3.out.size))
  clear hb4
  have z0 := HK4.out.cell 0 _ rfl
  have z1 := HK4.out.cell 1 _ rfl
  have f0 := HK4.out.frozen 0
  have f1 := HK4.out.frozen 1
  go_wp2_with fail
  refine bodyPost_ret (ret_cnt rfl _ _ (w.heap.size + 1) f x _ rfl rfl ((HK4.out.set 0 (.int .i64 f)).set 1 (.int .i64 x))) rfl ⟨rfl, ?_⟩
  exact (HB4.out.setCell (p := ⟨w.heap.size + 1, 0, none⟩) (by show w.heap.size ≤ w.heap.size + 1; omega) _).setCell (p := ⟨w.heap.size + 1, 1, none⟩) (by show w.heap.size ≤ w.heap.size + 1; omega) _

set_option maxHeartbeats 8000000 in
set_option maxRecDepth 100000 in
theorem table_ok (a : Option Addr) (cap : Nat) (d : List Int) (b : Bt) (w : World) (hd : d.length ≤ 1000000000) (hcap : d.length ≤ cap) (hno : a = none → cap = 0) (hl : Lies w a d) (hbd : Byts d)
    (ha : 0 ≤ b.ahead) (hlo : 0 ≤ b.long) (hf : (b.ahead + b.long) * 512 ≤ d.length) (h2 : b.tabs = 1 ∨ ((b.ahead + b.long + b.long) * 512 ≤ d.length ∧ secs d (b.ahead + b.long) b.long = secs d b.ahead b.long)) :
    Calls Tryd.prog 25 #[.agg b.cs, .iface 34 (.slice a d.length cap)] w fun e w' => (∃ a' c', e = .returned (.tuple #[.slice a' (b.long * 512).toNat c', .int .i64 0]) ∧ Lies w' a' (secs d b.ahead b.long)) ∧ Below w.heap.size w w' := by
  obtain ⟨w1, hw1⟩ : ∃ w1, w1 = w.alloc (.cells b.cs 64) := ⟨_, rfl⟩
  have hb1 : Below w.heap.size w w1 := by rw [hw1]; exact (Below.refl _ _).alloc (Nat.le_refl _) _
  have HI1 := hide (show Blk w1 w.heap.size b.cs 64 by rw [hw1]; exact Blk.new _ _ _)
  have hl1 := hl.below hb1
  have hln := secs_len (d := d) (s := b.ahead) (n := b.long) ha hlo hf
  have HR := hide (rd_ok a cap d b.ahead b.long w1 hd hcap hno hl1 ha hlo hf)
  have HR2 := fun (hne : ¬ b.tabs = 1) (u : World) (hu : Lies u a d) => hide (rd_ok a cap d (b.ahead + b.long) b.long u hd hcap hno hu (by omega) hlo (h2.resolve_left hne).1)
  have HEq : ∀ (hne : ¬ b.tabs = 1) (u : World) (x y : Option Addr) (c c' : Nat), Lies u x (secs d b.ahead b.long) → Lies u y (secs d (b.ahead + b.long) b.long) → Hid (Calls Tryd.prog 48 #[.slice x (b.long * 512).toNat c, .slice y (b.long * 512).toNat c'] u fun e w' => e = .returned (.bool true) ∧ w' = u) := fun hne u x y c c' hu hu' => hide (by
    have h3 := h2.resolve_left hne
    rw [h3.2] at hu'
    have h := Equal_any x y c c' _ _ u hu hu' (hbd.secs _ _) (hbd.secs _ _)
    rw [hln, decide_eq_true rfl] at h
    exact h)
  have hwa : IntKind.i64.wrap (b.ahead + b.long) = b.ahead + b.long := by rw [IntKind.wrap_i64]; omega
  have HW1 := hide hw1
  have HB1 := hide hb1
  have HD1 := hide hl1
  have hc0 := cells_of (Blk.new w b.cs 64)
  obtain ⟨m, hm⟩ : ∃ m, m = d.length := ⟨_, rfl⟩
  rw [← hm] at HR HR2 ⊢
  obtain ⟨z, hz⟩ : ∃ z, z = (b.long * 512).toNat := ⟨_, rfl⟩
  rw [← hz] at HR HR2 HEq ⊢
  clear hd hcap hno hl hbd ha hlo hf hw1 hb1 hl1 hm hln hz h2
  obtain ⟨c0, c1, c2, c3, c4, c5, c6, c7⟩ := hc0
  go_enter Tryd.func25, Tryd.ntmps25
  go_wp2_with fail
  rw [← HW1.out]
  clear c0 c1 c2 c3 c4 c5 c6 c7
  refine HR.out.mono ?_
  rintro e9 w2 ⟨⟨a2, cc2, rfl, hl2, hc2⟩, hb2⟩
  have HL2 := hide hl2
  have HI2 := hide (HI1.out.below hb2)
  have HD2 := hide (HD1.out.below hb2)
  have HB2 := hide (HB1.out.trans (hb2.mono HB1.out.size))
  clear hl2 hc2 hb2 HR
  obtain ⟨c0, c1, c2, c3, c4, c5, c6, c7⟩ := cells_of HI2.out
  by_cases ht : b.tabs = 1
  · have hq : (b.tabs == 1) = true := by simpa using ht
    clear ht HR2 HEq
    go_wp2_with fail
    go_ret2
    exact ⟨⟨a2, cc2, rfl, HL2.out⟩, HB2.out⟩
  · have hq : (b.tabs == 1) = false := by simpa using ht
    have HR3 := HR2 ht w2 HD2.out
    have HE3 := HEq ht
    clear ht HR2 HEq
    go_wp2_with fail
    refine HR3.out.mono ?_
    rintro e9 w3 ⟨⟨a3, cc3, rfl, hl3, hc3⟩, hb3⟩
    have HE4 := HE3 w3 a2 a3 cc2 cc3 (HL2.out.below hb3) hl3
    have HL3 := hide (HL2.out.below hb3)
    have HB3 := hide (HB2.out.trans (hb3.mono HB2.out.size))
    clear hl3 hc3 hb3 HE3 HR3 c0 c1 c2 c3 c4 c5 c6 c7
    go_wp2_with fail
    refine HE4.out.mono ?_
    rintro e9 w4 ⟨rfl, h4⟩
    rw [h4]
    clear h4
    go_wp2_with fail
    go_ret2
    exact ⟨⟨a2, cc2, rfl, HL3.out⟩, HB3.out⟩
end Go.Proofs.YthhodmiobpocbaaDoor.Oct
