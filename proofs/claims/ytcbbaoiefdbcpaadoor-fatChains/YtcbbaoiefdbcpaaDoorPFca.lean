/- A partition that holds no volume: which error is told: of its first sector, its copy, its counts, its table. -/
import Derived.Test.YtcbbaoiefdbcpaaDoorPFobFotFon
namespace Go.Proofs.YtcbbaoiefdbcpaaDoor.Oct
open Go.RowKit

set_option maxHeartbeats 8000000 in
set_option maxRecDepth 100000 in
theorem oboot_a (a : Option Addr) (cap : Nat) (d : List Int) (b : Bt) (w : World) (hd : d.length ≤ 1000000000) (hcap : d.length ≤ cap) (hno : a = none → cap = 0) (hl : Lies w a d) (hbd : Byts d) (hV : Vars w)
    (h0 : 512 ≤ d.length) (ck : Int) (hp : parB (secs d 0 1) = (b, ck)) (hne : ck ≠ 0) :
    Calls Tryd.prog 22 #[.iface 34 (.slice a d.length cap)] w fun e w' => e = .returned (.tuple #[.agg bt0.cs, .int .i64 ck]) ∧ Below w.heap.size w w' := by
  obtain ⟨w1, hw1⟩ : ∃ w1, w1 = w.alloc (.cells #[.int .i64 0, .int .i64 0, .int .i64 0, .int .i64 0, .int .i64 0, .int .i64 0, .int .i64 0, .int .i64 0] 63) := ⟨_, rfl⟩
  have hb1 : Below w.heap.size w w1 := by rw [hw1]; exact (Below.refl _ _).alloc (Nat.le_refl _) _
  have HK1 := hide (show Blk w1 w.heap.size #[.int .i64 0, .int .i64 0, .int .i64 0, .int .i64 0, .int .i64 0, .int .i64 0, .int .i64 0, .int .i64 0] 63 by rw [hw1]; exact Blk.new _ _ _)
  have hl1 := hl.below hb1
  have HR := fun (s : Int) (u : World) (hu : Lies u a d) (hs : 0 ≤ s) (hf : (s + 1) * 512 ≤ d.length) => hide (rd1_ok a cap d s u hd hcap hno hu hs hf)
  have HPa : ∀ (u : World) (x : Option Addr) (c : Nat), Lies u x (secs d 0 1) → 512 ≤ c → Vars u → Hid (Calls Tryd.prog 46 #[.slice x 512 c] u fun e w' => e = .returned (.tuple #[.agg b.cs, .int .i64 ck]) ∧ Below u.heap.size u w') := fun u x c hu hc hv => hide (by
    have hln := secs_len (d := d) (s := 0) (n := 1) (by omega) (by omega) (by omega)
    have h := parse_any x c (secs d 0 1) u (by rw [hln]; unfold maxLen; decide) (by rw [hln]; exact hc) (hbd.secs 0 1) hu hv
    rw [hln, hp] at h
    exact h)
  have hR0 := HR 0 w1 hl1 (by omega) (by omega)
  have hck : (ck != 0) = true := by simpa using hne
  have HV1 := hide (hV.below hb1)
  have HL1 := hide hl1
  have HW1 := hide hw1
  have HB1 := hide hb1
  obtain ⟨m, hm⟩ : ∃ m, m = d.length := ⟨_, rfl⟩
  rw [← hm] at hR0 ⊢
  clear HR hd hcap hno hl hbd hV h0 hp hw1 hb1 hl1 hm hne
  go_enter Tryd.func22, Tryd.ntmps22
  go_wp2_with fail
  rw [← HW1.out]
  refine hR0.out.mono ?_
  rintro e9 w2 ⟨⟨a2, c2, rfl, hl2, hc2⟩, hb2⟩
  have HP2 := HPa w2 a2 c2 hl2 hc2 (HV1.out.below hb2)
  have HL2 := hide hl2
  have HK2 := hide (HK1.out.below hb2)
  have HB2 := hide (HB1.out.trans (hb2.mono HB1.out.size))
  clear hl2 hc2 hb2 HPa hR0
  go_wp2_with fail
  refine HP2.out.mono ?_
  rintro e9 w3 ⟨rfl, hb3⟩
  obtain ⟨w4, hw4⟩ : ∃ w4, w4 = w3.alloc (.cells b.cs 63) := ⟨_, rfl⟩
  have hb4 : Below w3.heap.size w3 w4 := by rw [hw4]; exact (Below.refl _ _).alloc (Nat.le_refl _) _
  have HK4 := hide ((HK2.out.below hb3).below hb4)
  have HB4 := hide ((HB2.out.trans (hb3.mono HB2.out.size)).trans (hb4.mono (HB2.out.trans (hb3.mono HB2.out.size)).size))
  have HW4 := hide hw4
  rw [hw4] at HK4 HB4
  have z0 := HK4.out.cell 0 _ rfl
  have z1 := HK4.out.cell 1 _ rfl
  have z2 := HK4.out.cell 2 _ rfl
  have z3 := HK4.out.cell 3 _ rfl
  have z4 := HK4.out.cell 4 _ rfl
  have z5 := HK4.out.cell 5 _ rfl
  have z6 := HK4.out.cell 6 _ rfl
  have z7 := HK4.out.cell 7 _ rfl
  have f0 := HK4.out.frozen 0
  have f1 := HK4.out.frozen 1
  have f2 := HK4.out.frozen 2
  have f3 := HK4.out.frozen 3
  have f4 := HK4.out.frozen 4
  have f5 := HK4.out.frozen 5
  have f6 := HK4.out.frozen 6
  have f7 := HK4.out.frozen 7
  clear hb3 hb4 hw4 HP2
  go_wp2_with fail
  obtain ⟨w9, hw9⟩ : ∃ w9, w9 = (((((((((w3.alloc (.cells b.cs 63)).setCell ⟨w.heap.size, 0, none⟩ (.int .i64 0)).setCell ⟨w.heap.size, 1, none⟩ (.int .i64 0)).setCell ⟨w.heap.size, 2, none⟩ (.int .i64 0)).setCell ⟨w.heap.size, 3, none⟩ (.int .i64 0)).setCell ⟨w.heap.size, 4, none⟩ (.int .i64 0)).setCell ⟨w.heap.size, 5, none⟩ (.int .i64 0)).setCell ⟨w.heap.size, 6, none⟩ (.int .i64 0)).setCell ⟨w.heap.size, 7, none⟩ (.int .i64 0)) := ⟨_, rfl⟩
  have hk9 : Blk w9 w.heap.size bt0.cs 63 := by rw [hw9]; exact blk8 HK4.out (.int .i64 0) (.int .i64 0) (.int .i64 0) (.int .i64 0) (.int .i64 0) (.int .i64 0) (.int .i64 0) (.int .i64 0)
  have hb9 : Below w.heap.size w w9 := by rw [hw9]; exact below8 HB4.out (Nat.le_refl _) (.int .i64 0) (.int .i64 0) (.int .i64 0) (.int .i64 0) (.int .i64 0) (.int .i64 0) (.int .i64 0) (.int .i64 0)
  rw [← hw9]
  exact bodyPost_ret (ret_bt rfl _ _ w.heap.size bt0 _ rfl rfl hk9) rfl ⟨rfl, hb9⟩

set_option maxHeartbeats 8000000 in
set_option maxRecDepth 100000 in
theorem oboot_b (a : Option Addr) (cap : Nat) (d : List Int) (b : Bt) (w : World) (hd : d.length ≤ 1000000000) (hcap : d.length ≤ cap) (hno : a = none → cap = 0) (hl : Lies w a d) (hbd : Byts d) (hV : Vars w)
    (h0 : 512 ≤ d.length) (hp : parB (secs d 0 1) = (b, 0)) (hsz : (d.length : Int) < b.secs * 512) :
    Calls Tryd.prog 22 #[.iface 34 (.slice a d.length cap)] w fun e w' => e = .returned (.tuple #[.agg bt0.cs, .int .i64 4]) ∧ Below w.heap.size w w' := by
  obtain ⟨w1, hw1⟩ : ∃ w1, w1 = w.alloc (.cells #[.int .i64 0, .int .i64 0, .int .i64 0, .int .i64 0, .int .i64 0, .int .i64 0, .int .i64 0, .int .i64 0] 63) := ⟨_, rfl⟩
  have hb1 : Below w.heap.size w w1 := by rw [hw1]; exact (Below.refl _ _).alloc (Nat.le_refl _) _
  have HK1 := hide (show Blk w1 w.heap.size #[.int .i64 0, .int .i64 0, .int .i64 0, .int .i64 0, .int .i64 0, .int .i64 0, .int .i64 0, .int .i64 0] 63 by rw [hw1]; exact Blk.new _ _ _)
  have hl1 := hl.below hb1
  have hk := parB_chk hp
  obtain ⟨hfo, _⟩ := chk_says hk
  obtain ⟨q0, q1, q2, q3, q4, q5, q6, q7, q8, q9, q10, q11, q12, q13, _⟩ := Bt.form_says hfo
  obtain ⟨q14, q15⟩ := chk_data hk
  have hcl : 0 ≤ b.clus * b.each := by have := (Bt.clus_says hfo).1; exact Int.mul_nonneg this (by omega)
  have HR := fun (s : Int) (u : World) (hu : Lies u a d) (hs : 0 ≤ s) (hf : (s + 1) * 512 ≤ d.length) => hide (rd1_ok a cap d s u hd hcap hno hu hs hf)
  have HPa : ∀ (u : World) (x : Option Addr) (c : Nat), Lies u x (secs d 0 1) → 512 ≤ c → Vars u → Hid (Calls Tryd.prog 46 #[.slice x 512 c] u fun e w' => e = .returned (.tuple #[.agg #[.int .i64 b.each, .int .i64 b.ahead, .int .i64 b.tabs, .int .i64 b.secs, .int .i64 b.long, .int .i64 b.root, .int .i64 b.info, .int .i64 b.copy], .int .i64 0]) ∧ Below u.heap.size u w') := fun u x c hu hc hv => hide (by
    have hln := secs_len (d := d) (s := 0) (n := 1) (by omega) (by omega) (by omega)
    have h := parse_any x c (secs d 0 1) u (by rw [hln]; unfold maxLen; decide) (by rw [hln]; exact hc) (hbd.secs 0 1) hu hv
    rw [hln, hp] at h
    exact h)
  have hR0 := HR 0 w1 hl1 (by omega) (by omega)
  have hmS : ∀ (u : World) (a : Option Addr) (n c : Nat), (method 270 34 (.slice a n c) "Size").run Tryd.prog u = .ok (107, .slice a n c) u := fun u a n c => by kernel_rfl
  have HS := fun (u : World) => hide (msize_any a d.length cap u)
  have hqd : IntKind.i64.wrap ((d.length : Int) / 512) = (d.length : Int) / 512 := by rw [IntKind.wrap_i64]; omega
  have hqs : (d.length : Int) / 512 < b.secs := by omega
  have HV1 := hide (hV.below hb1)
  have HL1 := hide hl1
  have HW1 := hide hw1
  have HB1 := hide hb1
  obtain ⟨m, hm⟩ : ∃ m, m = d.length := ⟨_, rfl⟩
  rw [← hm] at hR0 HS hqd hqs ⊢
  clear HR hd hcap hno hl hbd hV h0 hp hsz hw1 hb1 hl1 hk hfo q0 q1 q2 q3 q4 q5 q6 q7 q8 q9 q10 q11 q12 q13 q14 q15 hcl hm
  go_enter Tryd.func22, Tryd.ntmps22
  go_wp2_with fail
  rw [← HW1.out]
  refine hR0.out.mono ?_
  rintro e9 w2 ⟨⟨a2, c2, rfl, hl2, hc2⟩, hb2⟩
  have HP2 := HPa w2 a2 c2 hl2 hc2 (HV1.out.below hb2)
  have HL2 := hide hl2
  have HD2 := hide (HL1.out.below hb2)
  have HK2 := hide (HK1.out.below hb2)
  have HB2 := hide (HB1.out.trans (hb2.mono HB1.out.size))
  clear hl2 hc2 hb2 HPa hR0
  go_wp2_with fail
  refine HP2.out.mono ?_
  rintro e9 w3 ⟨rfl, hb3⟩
  obtain ⟨w4, hw4⟩ : ∃ w4, w4 = w3.alloc (.cells #[.int .i64 b.each, .int .i64 b.ahead, .int .i64 b.tabs, .int .i64 b.secs, .int .i64 b.long, .int .i64 b.root, .int .i64 b.info, .int .i64 b.copy] 63) := ⟨_, rfl⟩
  have hb4 : Below w3.heap.size w3 w4 := by rw [hw4]; exact (Below.refl _ _).alloc (Nat.le_refl _) _
  have HN4 := hide (show Blk w4 w3.heap.size #[.int .i64 b.each, .int .i64 b.ahead, .int .i64 b.tabs, .int .i64 b.secs, .int .i64 b.long, .int .i64 b.root, .int .i64 b.info, .int .i64 b.copy] 63 by rw [hw4]; exact Blk.new _ _ _)
  have HL4 := hide ((HL2.out.below hb3).below hb4)
  have HD4 := hide ((HD2.out.below hb3).below hb4)
  have HK4 := hide ((HK2.out.below hb3).below hb4)
  have HB4 := hide ((HB2.out.trans (hb3.mono HB2.out.size)).trans (hb4.mono (HB2.out.trans (hb3.mono HB2.out.size)).size))
  have HW4 := hide hw4
  clear hb3 hb4 hw4 HP2
  go_wp2_with fail
  rw [← HW4.out]
  have d0 := HN4.out.cell 0 _ rfl
  have d1 := HN4.out.cell 1 _ rfl
  have d2 := HN4.out.cell 2 _ rfl
  have d3 := HN4.out.cell 3 _ rfl
  have d4 := HN4.out.cell 4 _ rfl
  have d5 := HN4.out.cell 5 _ rfl
  have d6 := HN4.out.cell 6 _ rfl
  have d7 := HN4.out.cell 7 _ rfl
  have HN := hide HN4.out.drew
  have dd0 := HN.out.cell 0 _ rfl
  have dd1 := HN.out.cell 1 _ rfl
  have dd2 := HN.out.cell 2 _ rfl
  have dd3 := HN.out.cell 3 _ rfl
  have dd4 := HN.out.cell 4 _ rfl
  have dd5 := HN.out.cell 5 _ rfl
  have dd6 := HN.out.cell 6 _ rfl
  have dd7 := HN.out.cell 7 _ rfl
  go_region_held3 (fun u => u.cell? ⟨w3.heap.size, 3, none⟩ = some (.int .i64 b.secs)) (first | go_keep | exact dd3) (first | (go_at_call 107; refine ((HS _).out).mono ?_; rintro e9 w8 ⟨rfl, h8⟩; rw [h8]; clear h8))
  all_goals
    obtain ⟨w5, hw5⟩ : ∃ w5, w5 = w4.drew := ⟨_, rfl⟩
    have HK5 := hide (show Blk w5 w.heap.size #[.int .i64 0, .int .i64 0, .int .i64 0, .int .i64 0, .int .i64 0, .int .i64 0, .int .i64 0, .int .i64 0] 63 by rw [hw5]; exact HK4.out.drew)
    have HB5 := hide (show Below w.heap.size w w5 by rw [hw5]; exact HB4.out.drew)
    rw [← hw5]
    clear hw5 d0 d1 d2 d3 d4 d5 d6 d7 dd0 dd1 dd2 dd3 dd4 dd5 dd6 dd7
    have z0 := HK5.out.cell 0 _ rfl
    have z1 := HK5.out.cell 1 _ rfl
    have z2 := HK5.out.cell 2 _ rfl
    have z3 := HK5.out.cell 3 _ rfl
    have z4 := HK5.out.cell 4 _ rfl
    have z5 := HK5.out.cell 5 _ rfl
    have z6 := HK5.out.cell 6 _ rfl
    have z7 := HK5.out.cell 7 _ rfl
    have f0 := HK5.out.frozen 0
    have f1 := HK5.out.frozen 1
    have f2 := HK5.out.frozen 2
    have f3 := HK5.out.frozen 3
    have f4 := HK5.out.frozen 4
    have f5 := HK5.out.frozen 5
    have f6 := HK5.out.frozen 6
    have f7 := HK5.out.frozen 7
    go_wp2_with fail
    obtain ⟨w9, hw9⟩ : ∃ w9, w9 = ((((((((w5.setCell ⟨w.heap.size, 0, none⟩ (.int .i64 0)).setCell ⟨w.heap.size, 1, none⟩ (.int .i64 0)).setCell ⟨w.heap.size, 2, none⟩ (.int .i64 0)).setCell ⟨w.heap.size, 3, none⟩ (.int .i64 0)).setCell ⟨w.heap.size, 4, none⟩ (.int .i64 0)).setCell ⟨w.heap.size, 5, none⟩ (.int .i64 0)).setCell ⟨w.heap.size, 6, none⟩ (.int .i64 0)).setCell ⟨w.heap.size, 7, none⟩ (.int .i64 0)) := ⟨_, rfl⟩
    have hk9 : Blk w9 w.heap.size bt0.cs 63 := by rw [hw9]; exact blk8 HK5.out (.int .i64 0) (.int .i64 0) (.int .i64 0) (.int .i64 0) (.int .i64 0) (.int .i64 0) (.int .i64 0) (.int .i64 0)
    have hb9 : Below w.heap.size w w9 := by rw [hw9]; exact below8 HB5.out (Nat.le_refl _) (.int .i64 0) (.int .i64 0) (.int .i64 0) (.int .i64 0) (.int .i64 0) (.int .i64 0) (.int .i64 0) (.int .i64 0)
    rw [← hw9]
    exact bodyPost_ret (ret_bt rfl _ _ w.heap.size bt0 _ rfl rfl hk9) rfl ⟨rfl, hb9⟩

set_option maxHeartbeats 8000000 in
set_option maxRecDepth 100000 in
theorem oboot_c (a : Option Addr) (cap : Nat) (d : List Int) (b : Bt) (w : World) (hd : d.length ≤ 1000000000) (hcap : d.length ≤ cap) (hno : a = none → cap = 0) (hl : Lies w a d) (hbd : Byts d) (hV : Vars w)
    (h0 : 512 ≤ d.length) (hp : parB (secs d 0 1) = (b, 0)) (hsz : b.secs * 512 ≤ d.length) (hc : b.copy ≠ 0 ∧ secs d b.copy 1 ≠ secs d 0 1) :
    Calls Tryd.prog 22 #[.iface 34 (.slice a d.length cap)] w fun e w' => e = .returned (.tuple #[.agg bt0.cs, .int .i64 11]) ∧ Below w.heap.size w w' := by
  obtain ⟨w1, hw1⟩ : ∃ w1, w1 = w.alloc (.cells #[.int .i64 0, .int .i64 0, .int .i64 0, .int .i64 0, .int .i64 0, .int .i64 0, .int .i64 0, .int .i64 0] 63) := ⟨_, rfl⟩
  have hb1 : Below w.heap.size w w1 := by rw [hw1]; exact (Below.refl _ _).alloc (Nat.le_refl _) _
  have HK1 := hide (show Blk w1 w.heap.size #[.int .i64 0, .int .i64 0, .int .i64 0, .int .i64 0, .int .i64 0, .int .i64 0, .int .i64 0, .int .i64 0] 63 by rw [hw1]; exact Blk.new _ _ _)
  have hl1 := hl.below hb1
  have hk := parB_chk hp
  obtain ⟨hfo, _⟩ := chk_says hk
  obtain ⟨q0, q1, q2, q3, q4, q5, q6, q7, q8, q9, q10, q11, q12, q13, _⟩ := Bt.form_says hfo
  obtain ⟨q14, q15⟩ := chk_data hk
  have hcl : 0 ≤ b.clus * b.each := by have := (Bt.clus_says hfo).1; exact Int.mul_nonneg this (by omega)
  have HR := fun (s : Int) (u : World) (hu : Lies u a d) (hs : 0 ≤ s) (hf : (s + 1) * 512 ≤ d.length) => hide (rd1_ok a cap d s u hd hcap hno hu hs hf)
  have HPa : ∀ (u : World) (x : Option Addr) (c : Nat), Lies u x (secs d 0 1) → 512 ≤ c → Vars u → Hid (Calls Tryd.prog 46 #[.slice x 512 c] u fun e w' => e = .returned (.tuple #[.agg #[.int .i64 b.each, .int .i64 b.ahead, .int .i64 b.tabs, .int .i64 b.secs, .int .i64 b.long, .int .i64 b.root, .int .i64 b.info, .int .i64 b.copy], .int .i64 0]) ∧ Below u.heap.size u w') := fun u x c hu hc hv => hide (by
    have hln := secs_len (d := d) (s := 0) (n := 1) (by omega) (by omega) (by omega)
    have h := parse_any x c (secs d 0 1) u (by rw [hln]; unfold maxLen; decide) (by rw [hln]; exact hc) (hbd.secs 0 1) hu hv
    rw [hln, hp] at h
    exact h)
  have HEq : ∀ (u : World) (x y : Option Addr) (c c' : Nat), Lies u x (secs d 0 1) → Lies u y (secs d b.copy 1) → Hid (b.copy ≠ 0 → Calls Tryd.prog 47 #[.slice x 512 c, .slice y 512 c'] u fun e w' => e = .returned (.bool false) ∧ w' = u) := fun u x y c c' hu hu' => hide (fun hne => by
    have hln := secs_len (d := d) (s := 0) (n := 1) (by omega) (by omega) (by omega)
    have hln2 := secs_len (d := d) (s := b.copy) (n := 1) (by omega) (by omega) (by omega)
    have hcc : ¬ secs d 0 1 = secs d b.copy 1 := fun e => hc.2 e.symm
    have h := Equal_any x y c c' (secs d 0 1) (secs d b.copy 1) u hu hu' (hbd.secs 0 1) (hbd.secs b.copy 1)
    rw [hln, hln2, decide_eq_false hcc] at h
    exact h)
  have hR0 := HR 0 w1 hl1 (by omega) (by omega)
  have HR2 := fun u hu => HR b.copy u hu (by omega) (by omega)
  have hmS : ∀ (u : World) (a : Option Addr) (n c : Nat), (method 270 34 (.slice a n c) "Size").run Tryd.prog u = .ok (107, .slice a n c) u := fun u a n c => by kernel_rfl
  have HS := fun (u : World) => hide (msize_any a d.length cap u)
  have hqd : IntKind.i64.wrap ((d.length : Int) / 512) = (d.length : Int) / 512 := by rw [IntKind.wrap_i64]; omega
  have hqs : ¬ (d.length : Int) / 512 < b.secs := by omega
  have HV1 := hide (hV.below hb1)
  have HL1 := hide hl1
  have HW1 := hide hw1
  have HB1 := hide hb1
  obtain ⟨m, hm⟩ : ∃ m, m = d.length := ⟨_, rfl⟩
  rw [← hm] at hR0 HR2 HS hqd hqs ⊢
  have HCz := hide hc.1
  clear HR hd hcap hno hl hbd hV h0 hp hsz hc hw1 hb1 hl1 hk hfo q0 q1 q2 q3 q4 q5 q6 q7 q8 q9 q10 q11 q12 q13 q14 q15 hcl hm
  go_enter Tryd.func22, Tryd.ntmps22
  go_wp2_with fail
  rw [← HW1.out]
  refine hR0.out.mono ?_
  rintro e9 w2 ⟨⟨a2, c2, rfl, hl2, hc2⟩, hb2⟩
  have HP2 := HPa w2 a2 c2 hl2 hc2 (HV1.out.below hb2)
  have HL2 := hide hl2
  have HD2 := hide (HL1.out.below hb2)
  have HK2 := hide (HK1.out.below hb2)
  have HB2 := hide (HB1.out.trans (hb2.mono HB1.out.size))
  clear hl2 hc2 hb2 HPa hR0
  go_wp2_with fail
  refine HP2.out.mono ?_
  rintro e9 w3 ⟨rfl, hb3⟩
  obtain ⟨w4, hw4⟩ : ∃ w4, w4 = w3.alloc (.cells #[.int .i64 b.each, .int .i64 b.ahead, .int .i64 b.tabs, .int .i64 b.secs, .int .i64 b.long, .int .i64 b.root, .int .i64 b.info, .int .i64 b.copy] 63) := ⟨_, rfl⟩
  have hb4 : Below w3.heap.size w3 w4 := by rw [hw4]; exact (Below.refl _ _).alloc (Nat.le_refl _) _
  have HN4 := hide (show Blk w4 w3.heap.size #[.int .i64 b.each, .int .i64 b.ahead, .int .i64 b.tabs, .int .i64 b.secs, .int .i64 b.long, .int .i64 b.root, .int .i64 b.info, .int .i64 b.copy] 63 by rw [hw4]; exact Blk.new _ _ _)
  have HL4 := hide ((HL2.out.below hb3).below hb4)
  have HD4 := hide ((HD2.out.below hb3).below hb4)
  have HK4 := hide ((HK2.out.below hb3).below hb4)
  have HB4 := hide ((HB2.out.trans (hb3.mono HB2.out.size)).trans (hb4.mono (HB2.out.trans (hb3.mono HB2.out.size)).size))
  have HW4 := hide hw4
  clear hb3 hb4 hw4 HP2
  go_wp2_with fail
  rw [← HW4.out]
  have d0 := HN4.out.cell 0 _ rfl
  have d1 := HN4.out.cell 1 _ rfl
  have d2 := HN4.out.cell 2 _ rfl
  have d3 := HN4.out.cell 3 _ rfl
  have d4 := HN4.out.cell 4 _ rfl
  have d5 := HN4.out.cell 5 _ rfl
  have d6 := HN4.out.cell 6 _ rfl
  have d7 := HN4.out.cell 7 _ rfl
  have HN := hide HN4.out.drew
  have dd0 := HN.out.cell 0 _ rfl
  have dd1 := HN.out.cell 1 _ rfl
  have dd2 := HN.out.cell 2 _ rfl
  have dd3 := HN.out.cell 3 _ rfl
  have dd4 := HN.out.cell 4 _ rfl
  have dd5 := HN.out.cell 5 _ rfl
  have dd6 := HN.out.cell 6 _ rfl
  have dd7 := HN.out.cell 7 _ rfl
  go_region_held3 (fun u => u.cell? ⟨w3.heap.size, 3, none⟩ = some (.int .i64 b.secs)) (first | go_keep | exact dd3) (first | (go_at_call 107; refine ((HS _).out).mono ?_; rintro e9 w8 ⟨rfl, h8⟩; rw [h8]; clear h8))
  all_goals
    obtain ⟨w5, hw5⟩ : ∃ w5, w5 = w4.drew := ⟨_, rfl⟩
    have HN5 := hide (show Blk w5 w3.heap.size #[.int .i64 b.each, .int .i64 b.ahead, .int .i64 b.tabs, .int .i64 b.secs, .int .i64 b.long, .int .i64 b.root, .int .i64 b.info, .int .i64 b.copy] 63 by rw [hw5]; exact HN4.out.drew)
    have HK5 := hide (show Blk w5 w.heap.size #[.int .i64 0, .int .i64 0, .int .i64 0, .int .i64 0, .int .i64 0, .int .i64 0, .int .i64 0, .int .i64 0] 63 by rw [hw5]; exact HK4.out.drew)
    have HD5 := hide (show Lies w5 a d by rw [hw5]; exact HD4.out.drew)
    have HL5 := hide (show Lies w5 a2 (secs d 0 1) by rw [hw5]; exact HL4.out.drew)
    have HB5 := hide (show Below w.heap.size w w5 by rw [hw5]; exact HB4.out.drew)
    rw [← hw5]
    clear hw5 d0 d1 d2 d3 d4 d5 d6 d7 dd0 dd1 dd2 dd3 dd4 dd5 dd6 dd7
    have d0 := HN5.out.cell 0 _ rfl
    have d1 := HN5.out.cell 1 _ rfl
    have d2 := HN5.out.cell 2 _ rfl
    have d3 := HN5.out.cell 3 _ rfl
    have d4 := HN5.out.cell 4 _ rfl
    have d5 := HN5.out.cell 5 _ rfl
    have d6 := HN5.out.cell 6 _ rfl
    have d7 := HN5.out.cell 7 _ rfl
    have z0 := HK5.out.cell 0 _ rfl
    have z1 := HK5.out.cell 1 _ rfl
    have z2 := HK5.out.cell 2 _ rfl
    have z3 := HK5.out.cell 3 _ rfl
    have z4 := HK5.out.cell 4 _ rfl
    have z5 := HK5.out.cell 5 _ rfl
    have z6 := HK5.out.cell 6 _ rfl
    have z7 := HK5.out.cell 7 _ rfl
    have f0 := HK5.out.frozen 0
    have f1 := HK5.out.frozen 1
    have f2 := HK5.out.frozen 2
    have f3 := HK5.out.frozen 3
    have f4 := HK5.out.frozen 4
    have f5 := HK5.out.frozen 5
    have f6 := HK5.out.frozen 6
    have f7 := HK5.out.frozen 7
    have hq : (b.copy == 0) = false := by simpa using HCz.out
    have HZ := HCz
    have HR5 := HR2 w5 HD5.out
    go_wp2_with fail
    refine HR5.out.mono ?_
    rintro e9 w6 ⟨⟨a6, c6, rfl, hl6, hc6⟩, hb6⟩
    have HE6 := (HEq w6 a2 a6 c2 c6 (HL5.out.below hb6) hl6).out HZ.out
    have HE6 := hide HE6
    have HN6 := hide (HN5.out.below hb6)
    have HK6 := hide (HK5.out.below hb6)
    have HB6 := hide (HB5.out.trans (hb6.mono HB5.out.size))
    clear hl6 hc6 hb6 d0 d1 d2 d3 d4 d5 d6 d7 z0 z1 z2 z3 z4 z5 z6 z7 f0 f1 f2 f3 f4 f5 f6 f7
    go_wp2_with fail
    refine HE6.out.mono ?_
    rintro e9 w7 ⟨rfl, h7⟩
    rw [h7]
    clear h7
    have d0 := HN6.out.cell 0 _ rfl
    have d1 := HN6.out.cell 1 _ rfl
    have d2 := HN6.out.cell 2 _ rfl
    have d3 := HN6.out.cell 3 _ rfl
    have d4 := HN6.out.cell 4 _ rfl
    have d5 := HN6.out.cell 5 _ rfl
    have d6 := HN6.out.cell 6 _ rfl
    have d7 := HN6.out.cell 7 _ rfl
    have z0 := HK6.out.cell 0 _ rfl
    have z1 := HK6.out.cell 1 _ rfl
    have z2 := HK6.out.cell 2 _ rfl
    have z3 := HK6.out.cell 3 _ rfl
    have z4 := HK6.out.cell 4 _ rfl
    have z5 := HK6.out.cell 5 _ rfl
    have z6 := HK6.out.cell 6 _ rfl
    have z7 := HK6.out.cell 7 _ rfl
    have f0 := HK6.out.frozen 0
    have f1 := HK6.out.frozen 1
    have f2 := HK6.out.frozen 2
    have f3 := HK6.out.frozen 3
    have f4 := HK6.out.frozen 4
    have f5 := HK6.out.frozen 5
    have f6 := HK6.out.frozen 6
    have f7 := HK6.out.frozen 7
    go_wp2_with fail
    obtain ⟨w9, hw9⟩ : ∃ w9, w9 = ((((((((w6.setCell ⟨w.heap.size, 0, none⟩ (.int .i64 0)).setCell ⟨w.heap.size, 1, none⟩ (.int .i64 0)).setCell ⟨w.heap.size, 2, none⟩ (.int .i64 0)).setCell ⟨w.heap.size, 3, none⟩ (.int .i64 0)).setCell ⟨w.heap.size, 4, none⟩ (.int .i64 0)).setCell ⟨w.heap.size, 5, none⟩ (.int .i64 0)).setCell ⟨w.heap.size, 6, none⟩ (.int .i64 0)).setCell ⟨w.heap.size, 7, none⟩ (.int .i64 0)) := ⟨_, rfl⟩
    have hk9 : Blk w9 w.heap.size bt0.cs 63 := by rw [hw9]; exact blk8 HK6.out (.int .i64 0) (.int .i64 0) (.int .i64 0) (.int .i64 0) (.int .i64 0) (.int .i64 0) (.int .i64 0) (.int .i64 0)
    have hb9 : Below w.heap.size w w9 := by rw [hw9]; exact below8 HB6.out (Nat.le_refl _) (.int .i64 0) (.int .i64 0) (.int .i64 0) (.int .i64 0) (.int .i64 0) (.int .i64 0) (.int .i64 0) (.int .i64 0)
    rw [← hw9]
    exact bodyPost_ret (ret_bt rfl _ _ w.heap.size bt0 _ rfl rfl hk9) rfl ⟨rfl, hb9⟩

set_option maxHeartbeats 8000000 in
set_option maxRecDepth 100000 in
theorem counts_any (a : Option Addr) (cap : Nat) (d : List Int) (b : Bt) (f x z : Int) (w : World) (hd : d.length ≤ 1000000000) (hcap : d.length ≤ cap) (hno : a = none → cap = 0) (hl : Lies w a d) (hbd : Byts d) (hV : Vars w)
    (hi : 0 ≤ b.info) (hf : (b.info + 1) * 512 ≤ d.length) (hp : parC (secs d b.info 1) = (f, x, z)) :
    Calls Tryd.prog 23 #[.agg b.cs, .iface 34 (.slice a d.length cap)] w fun e w' => e = .returned (.tuple #[.agg #[.int .i64 f, .int .i64 x], .int .i64 z]) ∧ Below w.heap.size w w' := by
  obtain ⟨w1, hw1⟩ : ∃ w1, w1 = w.alloc (.cells b.cs 63) := ⟨_, rfl⟩
  obtain ⟨w2, hw2⟩ : ∃ w2, w2 = w1.alloc (.cells #[.int .i64 0, .int .i64 0] 66) := ⟨_, rfl⟩
  have hs1 : w1.heap.size = w.heap.size + 1 := by rw [hw1]; simp
  have hb1 : Below w.heap.size w w1 := by rw [hw1]; exact (Below.refl _ _).alloc (Nat.le_refl _) _
  have hb2 : Below w1.heap.size w1 w2 := by rw [hw2]; exact (Below.refl _ _).alloc (Nat.le_refl _) _
  have HK2 := hide (show Blk w2 (w.heap.size + 1) #[.int .i64 0, .int .i64 0] 66 by rw [hw2, ← hs1]; exact Blk.new _ _ _)
  have HI2 := hide ((show Blk w1 w.heap.size b.cs 63 by rw [hw1]; exact Blk.new _ _ _).below hb2)
  have hl2 := (hl.below hb1).below hb2
  have HV2 := hide ((hV.below hb1).below hb2)
  have HB2 := hide (hb1.trans (hb2.mono hb1.size))
  have HR := hide (rd1_ok a cap d b.info w2 hd hcap hno hl2 hi hf)
  have HPa : ∀ (u : World) (y : Option Addr) (c : Nat), Lies u y (secs d b.info 1) → Vars u → Hid (Calls Tryd.prog 48 #[.slice y 512 c] u fun e w' => e = .returned (.tuple #[.agg #[.int .i64 f, .int .i64 x], .int .i64 z]) ∧ Below u.heap.size u w') := fun u y c hu hv => hide (by
    have hln := secs_len (d := d) (s := b.info) (n := 1) hi (by omega) hf
    have h := parc_any y c (secs d b.info 1) u (by rw [hln]; unfold maxLen; decide) (hbd.secs _ _) hu hv
    rw [hln, hp] at h
    exact h)
  have HW2 := hide (show w2 = (w.alloc (.cells b.cs 63)).alloc (.cells #[.int .i64 0, .int .i64 0] 66) by rw [hw2, hw1])
  obtain ⟨c0, c1, c2, c3, c4, c5, c6, c7⟩ := cells_of HI2.out
  rw [HW2.out] at c6
  obtain ⟨m, hm⟩ : ∃ m, m = d.length := ⟨_, rfl⟩
  rw [← hm] at HR ⊢
  clear hd hcap hno hl hbd hV hi hf hp hw1 hw2 hb1 hb2 hl2 hs1 hm c0 c1 c2 c3 c4 c5 c7
  go_enter Tryd.func23, Tryd.ntmps23
  go_wp2_with fail
  rw [← HW2.out]
  clear c6
  refine HR.out.mono ?_
  rintro e9 w3 ⟨⟨a3, cc3, rfl, hl3, hc3⟩, hb3⟩
  have HP3 := HPa w3 a3 cc3 hl3 (HV2.out.below hb3)
  have HK3 := hide (HK2.out.below hb3)
  have HB3 := hide (HB2.out.trans (hb3.mono HB2.out.size))
  clear hl3 hc3 hb3 HPa HR
  go_wp2_with fail
  refine HP3.out.mono ?_
  rintro e9 w4 ⟨rfl, hb4⟩
  have HK4 := hide (HK3.out.below hb4)
  have HB4 := hide (HB3.out.trans (hb4.mono HB3.out.size))
  clear hb4
  have z0 := HK4.out.cell 0 _ rfl
  have z1 := HK4.out.cell 1 _ rfl
  have f0 := HK4.out.frozen 0
  have f1 := HK4.out.frozen 1
  go_wp2_with fail
  refine bodyPost_ret (ret_cnt rfl _ _ (w.heap.size + 1) f x _ rfl rfl ((HK4.out.set 0 (.int .i64 f)).set 1 (.int .i64 x))) rfl ⟨rfl, ?_⟩
  exact (HB4.out.setCell (p := ⟨w.heap.size + 1, 0, none⟩) (by show w.heap.size ≤ w.heap.size + 1; omega) _).setCell (p := ⟨w.heap.size + 1, 1, none⟩) (by show w.heap.size ≤ w.heap.size + 1; omega) _

set_option maxHeartbeats 8000000 in
set_option maxRecDepth 100000 in
theorem table_bad (a : Option Addr) (cap : Nat) (d : List Int) (b : Bt) (w : World) (hd : d.length ≤ 1000000000) (hcap : d.length ≤ cap) (hno : a = none → cap = 0) (hl : Lies w a d) (hbd : Byts d)
    (ha : 0 ≤ b.ahead) (hlo : 0 ≤ b.long) (hf : (b.ahead + b.long) * 512 ≤ d.length) (ht0 : ¬ b.tabs = 1) (h2 : (b.ahead + b.long + b.long) * 512 ≤ d.length ∧ secs d (b.ahead + b.long) b.long ≠ secs d b.ahead b.long) :
    Calls Tryd.prog 24 #[.agg b.cs, .iface 34 (.slice a d.length cap)] w fun e w' => e = .returned (.tuple #[.slice none 0 0, .int .i64 11]) ∧ Below w.heap.size w w' := by
  obtain ⟨w1, hw1⟩ : ∃ w1, w1 = w.alloc (.cells b.cs 63) := ⟨_, rfl⟩
  have hb1 : Below w.heap.size w w1 := by rw [hw1]; exact (Below.refl _ _).alloc (Nat.le_refl _) _
  have HI1 := hide (show Blk w1 w.heap.size b.cs 63 by rw [hw1]; exact Blk.new _ _ _)
  have hl1 := hl.below hb1
  have hln := secs_len (d := d) (s := b.ahead) (n := b.long) ha hlo hf
  have HR := hide (rd_ok a cap d b.ahead b.long w1 hd hcap hno hl1 ha hlo hf)
  have HR2 := fun (hne : ¬ b.tabs = 1) (u : World) (hu : Lies u a d) => hide (rd_ok a cap d (b.ahead + b.long) b.long u hd hcap hno hu (by omega) hlo h2.1)
  have HEq : ∀ (hne : ¬ b.tabs = 1) (u : World) (x y : Option Addr) (c c' : Nat), Lies u x (secs d b.ahead b.long) → Lies u y (secs d (b.ahead + b.long) b.long) → Hid (Calls Tryd.prog 47 #[.slice x (b.long * 512).toNat c, .slice y (b.long * 512).toNat c'] u fun e w' => e = .returned (.bool false) ∧ w' = u) := fun hne u x y c c' hu hu' => hide (by
    have hln2 := secs_len (d := d) (s := b.ahead + b.long) (n := b.long) (by omega) hlo h2.1
    have h := Equal_any x y c c' _ _ u hu hu' (hbd.secs _ _) (hbd.secs _ _)
    rw [hln, hln2, decide_eq_false (fun e => h2.2 e.symm)] at h
    exact h)
  have hwa : IntKind.i64.wrap (b.ahead + b.long) = b.ahead + b.long := by rw [IntKind.wrap_i64]; omega
  have HW1 := hide hw1
  have HB1 := hide hb1
  have HD1 := hide hl1
  have hc0 := cells_of (Blk.new w b.cs 63)
  obtain ⟨m, hm⟩ : ∃ m, m = d.length := ⟨_, rfl⟩
  rw [← hm] at HR HR2 ⊢
  obtain ⟨z, hz⟩ : ∃ z, z = (b.long * 512).toNat := ⟨_, rfl⟩
  rw [← hz] at HR HR2 HEq
  have HT0 := hide ht0
  clear ht0 hd hcap hno hl hbd ha hlo hf hw1 hb1 hl1 hm hln hz h2
  obtain ⟨c0, c1, c2, c3, c4, c5, c6, c7⟩ := hc0
  go_enter Tryd.func24, Tryd.ntmps24
  go_wp2_with fail
  rw [← HW1.out]
  clear c0 c1 c2 c3 c4 c5 c6 c7
  refine HR.out.mono ?_
  rintro e9 w2 ⟨⟨a2, cc2, rfl, hl2, hc2⟩, hb2⟩
  have HL2 := hide hl2
  have HI2 := hide (HI1.out.below hb2)
  have HD2 := hide (HD1.out.below hb2)
  have HB2 := hide (HB1.out.trans (hb2.mono HB1.out.size))
  clear hl2 hc2 hb2 HR
  obtain ⟨c0, c1, c2, c3, c4, c5, c6, c7⟩ := cells_of HI2.out
  have hq : (b.tabs == 1) = false := by simpa using HT0.out
  have HR3 := HR2 HT0.out w2 HD2.out
  have HE3 := HEq HT0.out
  clear HR2 HEq
  go_wp2_with fail
  refine HR3.out.mono ?_
  rintro e9 w3 ⟨⟨a3, cc3, rfl, hl3, hc3⟩, hb3⟩
  have HE4 := HE3 w3 a2 a3 cc2 cc3 (HL2.out.below hb3) hl3
  have HL3 := hide (HL2.out.below hb3)
  have HB3 := hide (HB2.out.trans (hb3.mono HB2.out.size))
  clear hl3 hc3 hb3 HE3 HR3 c0 c1 c2 c3 c4 c5 c6 c7
  go_wp2_with fail
  refine HE4.out.mono ?_
  rintro e9 w4 ⟨rfl, h4⟩
  rw [h4]
  clear h4
  go_wp2_with fail
  go_ret2
  exact ⟨rfl, HB3.out⟩
end Go.Proofs.YtcbbaoiefdbcpaaDoor.Oct
