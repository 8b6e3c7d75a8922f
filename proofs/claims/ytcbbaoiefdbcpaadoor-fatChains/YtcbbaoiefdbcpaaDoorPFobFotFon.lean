/- A volume is opened: the numbers of its table. -/
import Derived.Test.YtcbbaoiefdbcpaaDoorPFmrJbkFrd
import Derived.Test.YtcbbaoiefdbcpaaDoorPFpa
namespace Go.Proofs.YtcbbaoiefdbcpaaDoor.Oct
open Go.RowKit

theorem parB_chk {s : List Int} {b : Bt} (h : parB s = (b, 0)) : b.chk = 0 := by
  unfold parB at h
  split at h
  · split at h
    · split at h
      · split at h
        · rename_i h1
          cases h
          exact h1
        · rename_i h1
          simp at h
          exact absurd h.2 h1
      · simp at h
    · simp at h
  · simp at h

theorem chk_says {b : Bt} (h : b.chk = 0) : b.form = true ∧ 1 ≤ b.clus ∧ b.clus ≤ 128 * b.long - 2 ∧ 2 ≤ b.root ∧ b.root ≤ b.clus + 1 := by
  unfold Bt.chk at h
  split at h
  · simp at h
  split at h
  · simp at h
  split at h
  · simp at h
  split at h
  · simp at h
  rename_i h1 h2 h3 h4
  simp [witN] at h4
  simp at h1
  exact ⟨h1, by omega, by omega, by omega, by omega⟩

/-- A volume's sectors hold its tables, and its clusters. -/
theorem chk_data {b : Bt} (h : b.chk = 0) : b.ahead + b.tabs * b.long + b.clus * b.each ≤ b.secs ∧ 1 ≤ b.tabs * b.long := by
  obtain ⟨hf, h1, _⟩ := chk_says h
  obtain ⟨q0, q1, q2, q3, q4, q5, q6, q7, q8, q9, _⟩ := Bt.form_says hf
  have hn := (Bt.form_near hf).2.1
  refine ⟨?_, hn⟩
  unfold Bt.clus Bt.data at *
  rw [show max b.each 1 = b.each by omega] at *
  by_cases hx : 0 ≤ b.secs - (b.ahead + b.tabs * b.long)
  · rw [show max (b.secs - (b.ahead + b.tabs * b.long)) 0 = b.secs - (b.ahead + b.tabs * b.long) by omega] at *
    have := Int.ediv_mul_le (b.secs - (b.ahead + b.tabs * b.long)) (b := b.each) (by omega)
    omega
  · rw [show max (b.secs - (b.ahead + b.tabs * b.long)) 0 = 0 by omega] at h1
    simp at h1

theorem rd1_ok (a : Option Addr) (cap : Nat) (d : List Int) (s : Int) (w : World) (hd : d.length ≤ 1000000000) (hcap : d.length ≤ cap) (hno : a = none → cap = 0) (hl : Lies w a d) (hs : 0 ≤ s) (hf : (s + 1) * 512 ≤ d.length) :
    Calls Tryd.prog 45 #[.iface 34 (.slice a d.length cap), .int .i64 s, .int .i64 1] w fun e w' => (∃ a' c', e = .returned (.tuple #[.slice a' 512 c', .int .i64 0]) ∧ Lies w' a' (secs d s 1) ∧ 512 ≤ c') ∧ Below w.heap.size w w' := rd_ok a cap d s 1 w hd hcap hno hl hs (by omega) hf

theorem Byts.secs {d : List Int} (h : Byts d) (s n : Int) : Byts (secs d s n) := (h.drop _).take _

set_option maxHeartbeats 8000000 in
set_option maxRecDepth 100000 in
theorem oboot_ok (a : Option Addr) (cap : Nat) (d : List Int) (b : Bt) (w : World) (hd : d.length ≤ 1000000000) (hcap : d.length ≤ cap) (hno : a = none → cap = 0) (hl : Lies w a d) (hbd : Byts d) (hV : Vars w)
    (h0 : 512 ≤ d.length) (hp : parB (secs d 0 1) = (b, 0)) (hsz : b.secs * 512 ≤ d.length) (hc : b.copy = 0 ∨ secs d b.copy 1 = secs d 0 1) :
    Calls Tryd.prog 22 #[.iface 34 (.slice a d.length cap)] w fun e w' => e = .returned (.tuple #[.agg b.cs, .int .i64 0]) ∧ Below w.heap.size w w' := by
  obtain ⟨w1, hw1⟩ : ∃ w1, w1 = w.alloc (.cells #[.int .i64 0, .int .i64 0, .int .i64 0, .int .i64 0, .int .i64 0, .int .i64 0, .int .i64 0, .int .i64 0] 63) := ⟨_, rfl⟩
  have hb1 : Below w.heap.size w w1 := by rw [hw1]; exact (Below.refl _ _).alloc (Nat.le_refl _) _
  have HK1 := hide (show Blk w1 w.heap.size #[.int .i64 0, .int .i64 0, .int .i64 0, .int .i64 0, .int .i64 0, .int .i64 0, .int .i64 0, .int .i64 0] 63 by rw [hw1]; exact Blk.new _ _ _)
  have hl1 := hl.below hb1
  have hk := parB_chk hp
  obtain ⟨hfo, _⟩ := chk_says hk
  obtain ⟨q0, q1, q2, q3, q4, q5, q6, q7, q8, q9, q10, q11, q12, q13, _⟩ := Bt.form_says hfo
  obtain ⟨q14, q15⟩ := chk_data hk
  have hcl : 0 ≤ b.clus * b.each := by have := (Bt.clus_says hfo).1; exact Int.mul_nonneg this (by omega)
  have HR := fun (s : Int) (u : World) (hu : Lies u a d) (hs : 0 ≤ s) (hf : (s + 1) * 512 ≤ d.length) => hide (rd1_ok a cap d s u hd hcap hno hu hs hf)
  have HPa : ∀ (u : World) (x : Option Addr) (c : Nat), Lies u x (secs d 0 1) → 512 ≤ c → Vars u → Hid (Calls Tryd.prog 46 #[.slice x 512 c] u fun e w' => e = .returned (.tuple #[.agg #[.int .i64 b.each, .int .i64 b.ahead, .int .i64 b.tabs, .int .i64 b.secs, .int .i64 b.long, .int .i64 b.root, .int .i64 b.info, .int .i64 b.copy], .int .i64 0]) ∧ Below u.heap.size u w') := fun u x c hu hc hv => hide (by
    have hln := secs_len (d := d) (s := 0) (n := 1) (by omega) (by omega) (by omega)
    have h := parse_any x c (secs d 0 1) u (by rw [hln]; unfold maxLen; decide) (by rw [hln]; exact hc) (hbd.secs 0 1) hu hv
    rw [hln, hp] at h
    exact h)
  have HEq : ∀ (u : World) (x y : Option Addr) (c c' : Nat), Lies u x (secs d 0 1) → Lies u y (secs d b.copy 1) → Hid (b.copy ≠ 0 → Calls Tryd.prog 47 #[.slice x 512 c, .slice y 512 c'] u fun e w' => e = .returned (.bool true) ∧ w' = u) := fun u x y c c' hu hu' => hide (fun hne => by
    have hln := secs_len (d := d) (s := 0) (n := 1) (by omega) (by omega) (by omega)
    have hln2 := secs_len (d := d) (s := b.copy) (n := 1) (by omega) (by omega) (by omega)
    have hcc := hc.resolve_left hne
    have h := Equal_any x y c c' (secs d 0 1) (secs d b.copy 1) u hu hu' (hbd.secs 0 1) (hbd.secs b.copy 1)
    rw [hln, hln2, decide_eq_true hcc.symm] at h
    exact h)
  have hR0 := HR 0 w1 hl1 (by omega) (by omega)
  have HR2 := fun u hu => HR b.copy u hu (by omega) (by omega)
  have hmS : ∀ (u : World) (a : Option Addr) (n c : Nat), (method 270 34 (.slice a n c) "Size").run Tryd.prog u = .ok (107, .slice a n c) u := fun u a n c => by kernel_rfl
  have HS := fun (u : World) => hide (msize_any a d.length cap u)
  have hqd : IntKind.i64.wrap ((d.length : Int) / 512) = (d.length : Int) / 512 := by rw [IntKind.wrap_i64]; omega
  have hqs : ¬ (d.length : Int) / 512 < b.secs := by omega
  have HV1 := hide (hV.below hb1)
  have HL1 := hide hl1
  have HW1 := hide hw1
  have HB1 := hide hb1
  obtain ⟨m, hm⟩ : ∃ m, m = d.length := ⟨_, rfl⟩
  rw [← hm] at hR0 HR2 HS hqd hqs ⊢
  clear HR hd hcap hno hl hbd hV h0 hp hsz hc hw1 hb1 hl1 hk hfo q0 q1 q2 q3 q4 q5 q6 q7 q8 q9 q10 q11 q12 q13 q14 q15 hcl hm
  go_enter Tryd.func22, Tryd.ntmps22
  go_wp2_with fail
  rw [← HW1.out]
  refine hR0.out.mono ?_
  rintro e9 w2 ⟨⟨a2, c2, rfl, hl2, hc2⟩, hb2⟩
  have HP2 := HPa w2 a2 c2 hl2 hc2 (HV1.out.below hb2)
  have HL2 := hide hl2
  have HD2 := hide (HL1.out.below hb2)
  have HK2 := hide (HK1.out.below hb2)
  have HB2 := hide (HB1.out.trans (hb2.mono HB1.out.size))
  clear hl2 hc2 hb2 HPa hR0
  go_wp2_with fail
  refine HP2.out.mono ?_
  rintro e9 w3 ⟨rfl, hb3⟩
  obtain ⟨w4, hw4⟩ : ∃ w4, w4 = w3.alloc (.cells #[.int .i64 b.each, .int .i64 b.ahead, .int .i64 b.tabs, .int .i64 b.secs, .int .i64 b.long, .int .i64 b.root, .int .i64 b.info, .int .i64 b.copy] 63) := ⟨_, rfl⟩
  have hb4 : Below w3.heap.size w3 w4 := by rw [hw4]; exact (Below.refl _ _).alloc (Nat.le_refl _) _
  have HN4 := hide (show Blk w4 w3.heap.size #[.int .i64 b.each, .int .i64 b.ahead, .int .i64 b.tabs, .int .i64 b.secs, .int .i64 b.long, .int .i64 b.root, .int .i64 b.info, .int .i64 b.copy] 63 by rw [hw4]; exact Blk.new _ _ _)
  have HL4 := hide ((HL2.out.below hb3).below hb4)
  have HD4 := hide ((HD2.out.below hb3).below hb4)
  have HK4 := hide ((HK2.out.below hb3).below hb4)
  have HB4 := hide ((HB2.out.trans (hb3.mono HB2.out.size)).trans (hb4.mono (HB2.out.trans (hb3.mono HB2.out.size)).size))
  have HW4 := hide hw4
  clear hb3 hb4 hw4 HP2
  go_wp2_with fail
  rw [← HW4.out]
  have d0 := HN4.out.cell 0 _ rfl
  have d1 := HN4.out.cell 1 _ rfl
  have d2 := HN4.out.cell 2 _ rfl
  have d3 := HN4.out.cell 3 _ rfl
  have d4 := HN4.out.cell 4 _ rfl
  have d5 := HN4.out.cell 5 _ rfl
  have d6 := HN4.out.cell 6 _ rfl
  have d7 := HN4.out.cell 7 _ rfl
  have HN := hide HN4.out.drew
  have dd0 := HN.out.cell 0 _ rfl
  have dd1 := HN.out.cell 1 _ rfl
  have dd2 := HN.out.cell 2 _ rfl
  have dd3 := HN.out.cell 3 _ rfl
  have dd4 := HN.out.cell 4 _ rfl
  have dd5 := HN.out.cell 5 _ rfl
  have dd6 := HN.out.cell 6 _ rfl
  have dd7 := HN.out.cell 7 _ rfl
  go_region_held3 (fun u => u.cell? ⟨w3.heap.size, 3, none⟩ = some (.int .i64 b.secs)) (first | go_keep | exact dd3) (first | (go_at_call 107; refine ((HS _).out).mono ?_; rintro e9 w8 ⟨rfl, h8⟩; rw [h8]; clear h8))
  all_goals
    obtain ⟨w5, hw5⟩ : ∃ w5, w5 = w4.drew := ⟨_, rfl⟩
    have HN5 := hide (show Blk w5 w3.heap.size #[.int .i64 b.each, .int .i64 b.ahead, .int .i64 b.tabs, .int .i64 b.secs, .int .i64 b.long, .int .i64 b.root, .int .i64 b.info, .int .i64 b.copy] 63 by rw [hw5]; exact HN4.out.drew)
    have HK5 := hide (show Blk w5 w.heap.size #[.int .i64 0, .int .i64 0, .int .i64 0, .int .i64 0, .int .i64 0, .int .i64 0, .int .i64 0, .int .i64 0] 63 by rw [hw5]; exact HK4.out.drew)
    have HD5 := hide (show Lies w5 a d by rw [hw5]; exact HD4.out.drew)
    have HL5 := hide (show Lies w5 a2 (secs d 0 1) by rw [hw5]; exact HL4.out.drew)
    have HB5 := hide (show Below w.heap.size w w5 by rw [hw5]; exact HB4.out.drew)
    rw [← hw5]
    clear hw5 d0 d1 d2 d3 d4 d5 d6 d7 dd0 dd1 dd2 dd3 dd4 dd5 dd6 dd7
    have d0 := HN5.out.cell 0 _ rfl
    have d1 := HN5.out.cell 1 _ rfl
    have d2 := HN5.out.cell 2 _ rfl
    have d3 := HN5.out.cell 3 _ rfl
    have d4 := HN5.out.cell 4 _ rfl
    have d5 := HN5.out.cell 5 _ rfl
    have d6 := HN5.out.cell 6 _ rfl
    have d7 := HN5.out.cell 7 _ rfl
    have z0 := HK5.out.cell 0 _ rfl
    have z1 := HK5.out.cell 1 _ rfl
    have z2 := HK5.out.cell 2 _ rfl
    have z3 := HK5.out.cell 3 _ rfl
    have z4 := HK5.out.cell 4 _ rfl
    have z5 := HK5.out.cell 5 _ rfl
    have z6 := HK5.out.cell 6 _ rfl
    have z7 := HK5.out.cell 7 _ rfl
    have f0 := HK5.out.frozen 0
    have f1 := HK5.out.frozen 1
    have f2 := HK5.out.frozen 2
    have f3 := HK5.out.frozen 3
    have f4 := HK5.out.frozen 4
    have f5 := HK5.out.frozen 5
    have f6 := HK5.out.frozen 6
    have f7 := HK5.out.frozen 7
    by_cases hz : b.copy = 0
    · have hq : (b.copy == 0) = true := by simpa using hz
      clear hz
      go_wp2_with fail
      obtain ⟨w9, hw9⟩ : ∃ w9, w9 = ((((((((w5.setCell ⟨w.heap.size, 0, none⟩ (.int .i64 b.each)).setCell ⟨w.heap.size, 1, none⟩ (.int .i64 b.ahead)).setCell ⟨w.heap.size, 2, none⟩ (.int .i64 b.tabs)).setCell ⟨w.heap.size, 3, none⟩ (.int .i64 b.secs)).setCell ⟨w.heap.size, 4, none⟩ (.int .i64 b.long)).setCell ⟨w.heap.size, 5, none⟩ (.int .i64 b.root)).setCell ⟨w.heap.size, 6, none⟩ (.int .i64 b.info)).setCell ⟨w.heap.size, 7, none⟩ (.int .i64 b.copy)) := ⟨_, rfl⟩
      have hk9 : Blk w9 w.heap.size b.cs 63 := by rw [hw9]; exact blk8 HK5.out (.int .i64 b.each) (.int .i64 b.ahead) (.int .i64 b.tabs) (.int .i64 b.secs) (.int .i64 b.long) (.int .i64 b.root) (.int .i64 b.info) (.int .i64 b.copy)
      have hb9 : Below w.heap.size w w9 := by rw [hw9]; exact below8 HB5.out (Nat.le_refl _) (.int .i64 b.each) (.int .i64 b.ahead) (.int .i64 b.tabs) (.int .i64 b.secs) (.int .i64 b.long) (.int .i64 b.root) (.int .i64 b.info) (.int .i64 b.copy)
      rw [← hw9]
      exact bodyPost_ret (ret_bt rfl _ _ w.heap.size b _ rfl rfl hk9) rfl ⟨rfl, hb9⟩
    · have hq : (b.copy == 0) = false := by simpa using hz
      have HZ := hide hz
      have HR5 := HR2 w5 HD5.out
      clear hz
      go_wp2_with fail
      refine HR5.out.mono ?_
      rintro e9 w6 ⟨⟨a6, c6, rfl, hl6, hc6⟩, hb6⟩
      have HE6 := (HEq w6 a2 a6 c2 c6 (HL5.out.below hb6) hl6).out HZ.out
      have HE6 := hide HE6
      have HN6 := hide (HN5.out.below hb6)
      have HK6 := hide (HK5.out.below hb6)
      have HB6 := hide (HB5.out.trans (hb6.mono HB5.out.size))
      clear hl6 hc6 hb6 d0 d1 d2 d3 d4 d5 d6 d7 z0 z1 z2 z3 z4 z5 z6 z7 f0 f1 f2 f3 f4 f5 f6 f7
      go_wp2_with fail
      refine HE6.out.mono ?_
      rintro e9 w7 ⟨rfl, h7⟩
      rw [h7]
      clear h7
      have d0 := HN6.out.cell 0 _ rfl
      have d1 := HN6.out.cell 1 _ rfl
      have d2 := HN6.out.cell 2 _ rfl
      have d3 := HN6.out.cell 3 _ rfl
      have d4 := HN6.out.cell 4 _ rfl
      have d5 := HN6.out.cell 5 _ rfl
      have d6 := HN6.out.cell 6 _ rfl
      have d7 := HN6.out.cell 7 _ rfl
      have z0 := HK6.out.cell 0 _ rfl
      have z1 := HK6.out.cell 1 _ rfl
      have z2 := HK6.out.cell 2 _ rfl
      have z3 := HK6.out.cell 3 _ rfl
      have z4 := HK6.out.cell 4 _ rfl
      have z5 := HK6.out.cell 5 _ rfl
      have z6 := HK6.out.cell 6 _ rfl
      have z7 := HK6.out.cell 7 _ rfl
      have f0 := HK6.out.frozen 0
      have f1 := HK6.out.frozen 1
      have f2 := HK6.out.frozen 2
      have f3 := HK6.out.frozen 3
      have f4 := HK6.out.frozen 4
      have f5 := HK6.out.frozen 5
      have f6 := HK6.out.frozen 6
      have f7 := HK6.out.frozen 7
      go_wp2_with fail
      obtain ⟨w9, hw9⟩ : ∃ w9, w9 = ((((((((w6.setCell ⟨w.heap.size, 0, none⟩ (.int .i64 b.each)).setCell ⟨w.heap.size, 1, none⟩ (.int .i64 b.ahead)).setCell ⟨w.heap.size, 2, none⟩ (.int .i64 b.tabs)).setCell ⟨w.heap.size, 3, none⟩ (.int .i64 b.secs)).setCell ⟨w.heap.size, 4, none⟩ (.int .i64 b.long)).setCell ⟨w.heap.size, 5, none⟩ (.int .i64 b.root)).setCell ⟨w.heap.size, 6, none⟩ (.int .i64 b.info)).setCell ⟨w.heap.size, 7, none⟩ (.int .i64 b.copy)) := ⟨_, rfl⟩
      have hk9 : Blk w9 w.heap.size b.cs 63 := by rw [hw9]; exact blk8 HK6.out (.int .i64 b.each) (.int .i64 b.ahead) (.int .i64 b.tabs) (.int .i64 b.secs) (.int .i64 b.long) (.int .i64 b.root) (.int .i64 b.info) (.int .i64 b.copy)
      have hb9 : Below w.heap.size w w9 := by rw [hw9]; exact below8 HB6.out (Nat.le_refl _) (.int .i64 b.each) (.int .i64 b.ahead) (.int .i64 b.tabs) (.int .i64 b.secs) (.int .i64 b.long) (.int .i64 b.root) (.int .i64 b.info) (.int .i64 b.copy)
      rw [← hw9]
      exact bodyPost_ret (ret_bt rfl _ _ w.heap.size b _ rfl rfl hk9) rfl ⟨rfl, hb9⟩
end Go.Proofs.YtcbbaoiefdbcpaaDoor.Oct

namespace Go.Proofs.YtcbbaoiefdbcpaaDoor.Oct
open Go.RowKit

set_option maxHeartbeats 8000000 in
set_option maxRecDepth 100000 in
theorem counts_ok (a : Option Addr) (cap : Nat) (d : List Int) (b : Bt) (f x : Int) (w : World) (hd : d.length ≤ 1000000000) (hcap : d.length ≤ cap) (hno : a = none → cap = 0) (hl : Lies w a d) (hbd : Byts d) (hV : Vars w)
    (hi : 0 ≤ b.info) (hf : (b.info + 1) * 512 ≤ d.length) (hp : parC (secs d b.info 1) = (f, x, 0)) :
    Calls Tryd.prog 23 #[.agg b.cs, .iface 34 (.slice a d.length cap)] w fun e w' => e = .returned (.tuple #[.agg #[.int .i64 f, .int .i64 x], .int .i64 0]) ∧ Below w.heap.size w w' := by
  obtain ⟨w1, hw1⟩ : ∃ w1, w1 = w.alloc (.cells b.cs 63) := ⟨_, rfl⟩
  obtain ⟨w2, hw2⟩ : ∃ w2, w2 = w1.alloc (.cells #[.int .i64 0, .int .i64 0] 66) := ⟨_, rfl⟩
  have hs1 : w1.heap.size = w.heap.size + 1 := by rw [hw1]; simp
  have hb1 : Below w.heap.size w w1 := by rw [hw1]; exact (Below.refl _ _).alloc (Nat.le_refl _) _
  have hb2 : Below w1.heap.size w1 w2 := by rw [hw2]; exact (Below.refl _ _).alloc (Nat.le_refl _) _
  have HK2 := hide (show Blk w2 (w.heap.size + 1) #[.int .i64 0, .int .i64 0] 66 by rw [hw2, ← hs1]; exact Blk.new _ _ _)
  have HI2 := hide ((show Blk w1 w.heap.size b.cs 63 by rw [hw1]; exact Blk.new _ _ _).below hb2)
  have hl2 := (hl.below hb1).below hb2
  have HV2 := hide ((hV.below hb1).below hb2)
  have HB2 := hide (hb1.trans (hb2.mono hb1.size))
  have HR := hide (rd1_ok a cap d b.info w2 hd hcap hno hl2 hi hf)
  have HPa : ∀ (u : World) (y : Option Addr) (c : Nat), Lies u y (secs d b.info 1) → Vars u → Hid (Calls Tryd.prog 48 #[.slice y 512 c] u fun e w' => e = .returned (.tuple #[.agg #[.int .i64 f, .int .i64 x], .int .i64 0]) ∧ Below u.heap.size u w') := fun u y c hu hv => hide (by
    have hln := secs_len (d := d) (s := b.info) (n := 1) hi (by omega) hf
    have h := parc_any y c (secs d b.info 1) u (by rw [hln]; unfold maxLen; decide) (hbd.secs _ _) hu hv
    rw [hln, hp] at h
    exact h)
  have HW2 := hide (show w2 = (w.alloc (.cells b.cs 63)).alloc (.cells #[.int .i64 0, .int .i64 0] 66) by rw [hw2, hw1])
  obtain ⟨c0, c1, c2, c3, c4, c5, c6, c7⟩ := cells_of HI2.out
  rw [HW2.out] at c6
  obtain ⟨m, hm⟩ : ∃ m, m = d.length := ⟨_, rfl⟩
  rw [← hm] at HR ⊢
  clear hd hcap hno hl hbd hV hi hf hp hw1 hw2 hb1 hb2 hl2 hs1 hm c0 c1 c2 c3 c4 c5 c7
  go_enter Tryd.func23, Tryd.ntmps23
  go_wp2_with fail
  rw [← HW2.out]
  clear c6
  refine HR.out.mono ?_
  rintro e9 w3 ⟨⟨a3, cc3, rfl, hl3, hc3⟩, hb3⟩
  have HP3 := HPa w3 a3 cc3 hl3 (HV2.out.below hb3)
  have HK3 := hide (HK2.out.below hb3)
  have HB3 := hide (HB2.out.trans (hb3.mono HB2.out.size))
  clear hl3 hc3 hb3 HPa HR
  go_wp2_with fail
  refine HP3.out.mono ?_
  rintro e9 w4 ⟨rfl, hb4⟩
  have HK4 := hide (HK3.out.below hb4)
  have HB4 := hide (HB3.out.trans (hb4.mono HB3.out.size))
  clear hb4
  have z0 := HK4.out.cell 0 _ rfl
  have z1 := HK4.out.cell 1 _ rfl
  have f0 := HK4.out.frozen 0
  have f1 := HK4.out.frozen 1
  go_wp2_with fail
  refine bodyPost_ret (ret_cnt rfl _ _ (w.heap.size + 1) f x _ rfl rfl ((HK4.out.set 0 (.int .i64 f)).set 1 (.int .i64 x))) rfl ⟨rfl, ?_⟩
  exact (HB4.out.setCell (p := ⟨w.heap.size + 1, 0, none⟩) (by show w.heap.size ≤ w.heap.size + 1; omega) _).setCell (p := ⟨w.heap.size + 1, 1, none⟩) (by show w.heap.size ≤ w.heap.size + 1; omega) _

set_option maxHeartbeats 8000000 in
set_option maxRecDepth 100000 in
theorem table_ok (a : Option Addr) (cap : Nat) (d : List Int) (b : Bt) (w : World) (hd : d.length ≤ 1000000000) (hcap : d.length ≤ cap) (hno : a = none → cap = 0) (hl : Lies w a d) (hbd : Byts d)
    (ha : 0 ≤ b.ahead) (hlo : 0 ≤ b.long) (hf : (b.ahead + b.long) * 512 ≤ d.length) (h2 : b.tabs = 1 ∨ ((b.ahead + b.long + b.long) * 512 ≤ d.length ∧ secs d (b.ahead + b.long) b.long = secs d b.ahead b.long)) :
    Calls Tryd.prog 24 #[.agg b.cs, .iface 34 (.slice a d.length cap)] w fun e w' => (∃ a' c', e = .returned (.tuple #[.slice a' (b.long * 512).toNat c', .int .i64 0]) ∧ Lies w' a' (secs d b.ahead b.long)) ∧ Below w.heap.size w w' := by
  obtain ⟨w1, hw1⟩ : ∃ w1, w1 = w.alloc (.cells b.cs 63) := ⟨_, rfl⟩
  have hb1 : Below w.heap.size w w1 := by rw [hw1]; exact (Below.refl _ _).alloc (Nat.le_refl _) _
  have HI1 := hide (show Blk w1 w.heap.size b.cs 63 by rw [hw1]; exact Blk.new _ _ _)
  have hl1 := hl.below hb1
  have hln := secs_len (d := d) (s := b.ahead) (n := b.long) ha hlo hf
  have HR := hide (rd_ok a cap d b.ahead b.long w1 hd hcap hno hl1 ha hlo hf)
  have HR2 := fun (hne : ¬ b.tabs = 1) (u : World) (hu : Lies u a d) => hide (rd_ok a cap d (b.ahead + b.long) b.long u hd hcap hno hu (by omega) hlo (h2.resolve_left hne).1)
  have HEq : ∀ (hne : ¬ b.tabs = 1) (u : World) (x y : Option Addr) (c c' : Nat), Lies u x (secs d b.ahead b.long) → Lies u y (secs d (b.ahead + b.long) b.long) → Hid (Calls Tryd.prog 47 #[.slice x (b.long * 512).toNat c, .slice y (b.long * 512).toNat c'] u fun e w' => e = .returned (.bool true) ∧ w' = u) := fun hne u x y c c' hu hu' => hide (by
    have h3 := h2.resolve_left hne
    rw [h3.2] at hu'
    have h := Equal_any x y c c' _ _ u hu hu' (hbd.secs _ _) (hbd.secs _ _)
    rw [hln, decide_eq_true rfl] at h
    exact h)
  have hwa : IntKind.i64.wrap (b.ahead + b.long) = b.ahead + b.long := by rw [IntKind.wrap_i64]; omega
  have HW1 := hide hw1
  have HB1 := hide hb1
  have HD1 := hide hl1
  have hc0 := cells_of (Blk.new w b.cs 63)
  obtain ⟨m, hm⟩ : ∃ m, m = d.length := ⟨_, rfl⟩
  rw [← hm] at HR HR2 ⊢
  obtain ⟨z, hz⟩ : ∃ z, z = (b.long * 512).toNat := ⟨_, rfl⟩
  rw [← hz] at HR HR2 HEq ⊢
  clear hd hcap hno hl hbd ha hlo hf hw1 hb1 hl1 hm hln hz h2
  obtain ⟨c0, c1, c2, c3, c4, c5, c6, c7⟩ := hc0
  go_enter Tryd.func24, Tryd.ntmps24
  go_wp2_with fail
  rw [← HW1.out]
  clear c0 c1 c2 c3 c4 c5 c6 c7
  refine HR.out.mono ?_
  rintro e9 w2 ⟨⟨a2, cc2, rfl, hl2, hc2⟩, hb2⟩
  have HL2 := hide hl2
  have HI2 := hide (HI1.out.below hb2)
  have HD2 := hide (HD1.out.below hb2)
  have HB2 := hide (HB1.out.trans (hb2.mono HB1.out.size))
  clear hl2 hc2 hb2 HR
  obtain ⟨c0, c1, c2, c3, c4, c5, c6, c7⟩ := cells_of HI2.out
  by_cases ht : b.tabs = 1
  · have hq : (b.tabs == 1) = true := by simpa using ht
    clear ht HR2 HEq
    go_wp2_with fail
    go_ret2
    exact ⟨⟨a2, cc2, rfl, HL2.out⟩, HB2.out⟩
  · have hq : (b.tabs == 1) = false := by simpa using ht
    have HR3 := HR2 ht w2 HD2.out
    have HE3 := HEq ht
    clear ht HR2 HEq
    go_wp2_with fail
    refine HR3.out.mono ?_
    rintro e9 w3 ⟨⟨a3, cc3, rfl, hl3, hc3⟩, hb3⟩
    have HE4 := HE3 w3 a2 a3 cc2 cc3 (HL2.out.below hb3) hl3
    have HL3 := hide (HL2.out.below hb3)
    have HB3 := hide (HB2.out.trans (hb3.mono HB2.out.size))
    clear hl3 hc3 hb3 HE3 HR3 c0 c1 c2 c3 c4 c5 c6 c7
    go_wp2_with fail
    refine HE4.out.mono ?_
    rintro e9 w4 ⟨rfl, h4⟩
    rw [h4]
    clear h4
    go_wp2_with fail
    go_ret2
    exact ⟨⟨a2, cc2, rfl, HL3.out⟩, HB3.out⟩
end Go.Proofs.YtcbbaoiefdbcpaaDoor.Oct

namespace Go.Proofs.YtcbbaoiefdbcpaaDoor.Oct
open Go.RowKit

/-- A row of numbers of the call's own. -/
def OwnU (w : World) (B : Nat) (v : Value) (l : List Int) : Prop := w.ownsRow B 96 1 v l.length (l.map (Value.int .u32))

theorem OwnU.below {w w' : World} {B : Nat} {v : Value} {l : List Int} (h : OwnU w B v l) (hb : Below w.heap.size w w') : OwnU w' B v l :=
  World.ownsRow.kept (row := none) h ⟨hb.os, hb.tape, hb.output, hb.size, fun k hk _ => hb.block k hk⟩ (by cases v.ownBlock <;> simp)

theorem OwnU.mono {w : World} {B B' : Nat} {v : Value} {l : List Int} (h : OwnU w B v l) (hb : B' ≤ B) : OwnU w B' v l := by
  refine ⟨h.1, ?_⟩
  rcases h.2 with h1 | ⟨g, cap, cur, h1, hg, hr⟩
  · exact Or.inl h1
  · exact Or.inr ⟨g, cap, cur, h1, Nat.le_trans hb hg, hr⟩

theorem OwnU.cell {w : World} {B g n cap : Nat} {l : List Int} (h : OwnU w B (.slice (some ⟨g, 0, none⟩) n cap) l) (j : Nat) (hj : j < l.length) :
    w.cell? ⟨g, j, none⟩ = some (.int .u32 (l.getD j 0)) := by
  have hcs := World.ownsRow.cells (g := g) h rfl
  have := hcs j (.int .u32 (l.getD j 0)) (by simp [hj])
  rw [Go.WideShapes.add_plain, Nat.zero_add] at this
  exact this

theorem OwnU.free {w : World} {B g n cap : Nat} {l : List Int} (h : OwnU w B (.slice (some ⟨g, 0, none⟩) n cap) l) (hn : n = l.length) (j : Nat) : w.frozen? ⟨g, j, none⟩ = false := by
  subst hn
  exact World.ownsRow.frozenAt h j

theorem OwnU.set {w : World} {B g n cap : Nat} {l : List Int} (h : OwnU w B (.slice (some ⟨g, 0, none⟩) n cap) l) (hn : n = l.length) (j : Nat) (x : Int) :
    OwnU (w.setCell ⟨g, j, none⟩ (.int .u32 x)) B (.slice (some ⟨g, 0, none⟩) n cap) (l.set j x) ∧ w.grownBy (w.setCell ⟨g, j, none⟩ (.int .u32 x)) (some g) := by
  subst hn
  have := World.ownsRow.stored h j (.int .u32 x)
  rw [show (l.map (Value.int .u32)).set j (.int .u32 x) = (l.set j x).map (Value.int .u32) from by rw [List.map_set]] at this
  refine ⟨?_, this.2⟩
  unfold OwnU
  rw [List.length_set]
  exact this.1

theorem info_u32 : (Tryd.prog.info? 96).map (fun i => (i.zero, i.size, i.bytes)) = some (some (.int .u32 0), 1, 4) := by kernel_rfl

theorem made_u32 (w : World) (n : Nat) (hn : n ≤ 100000) : ∃ w', (Instr.makeSlice 64 (.int .i64 (n : Int)) (.int .i64 (n : Int))).run Tryd.prog w = .ok (.slice (some ⟨w.heap.size, 0, none⟩) n n) w' ∧ OwnU w' w.heap.size (.slice (some ⟨w.heap.size, 0, none⟩) n n) (List.replicate n 0) ∧ Below w.heap.size w w' := by
  obtain ⟨i, hi, hz0, hz1, hz2⟩ := info_parts info_u32
  obtain ⟨w', h1, h2, h3⟩ := run_make_full (P := Tryd.prog) (w := w) w.heap.size 64 96 i (.int .u32 0) 1 Tryd.underlying64 hi hz0 hz1 .i64 .i64 n (by rw [hz2]; omega) (by unfold maxLen; omega) (Nat.le_refl _)
  refine ⟨w', h1, ?_, ⟨h3.os, h3.tape, h3.output, h3.size, fun k hk => h3.block k hk (by simp)⟩⟩
  unfold OwnU
  have e : (madeCells (Value.int .u32 0).cells (n * 1)).toList = (List.replicate n (0 : Int)).map (Value.int .u32) := by
    simp [Value.cells]
    exact toList_madeCells_one _ _
  rw [e] at h2
  simpa using h2

/-- What a table says of a cluster, from 2 on. -/
def nxt (T : List Int) (i : Nat) : Int := num T ((i + 2) * 4) 4 % 268435456

/-- The numbers of the first clusters. -/
def numsF (T : List Int) (k : Nat) : List Int := (List.range k).map (nxt T)

theorem numsF_len (T : List Int) (k : Nat) : (numsF T k).length = k := by simp [numsF]

theorem numsF_step (T : List Int) (j k : Nat) (h : j < k) : (numsF T j ++ List.replicate (k - j) 0).set j (nxt T j) = numsF T (j + 1) ++ List.replicate (k - (j + 1)) 0 := by
  rw [List.set_append_right _ _ (by rw [numsF_len]; omega), numsF_len, Nat.sub_self, show k - j = (k - (j + 1)) + 1 by omega, List.replicate_succ, List.set_cons_zero]
  unfold numsF
  rw [List.range_succ, List.map_append]
  simp

theorem mask28 (x : Int) (h0 : 0 ≤ x) (h1 : x < 4294967296) : bits .and .u32 x 268435455 = x % 268435456 := by
  obtain ⟨a, rfl⟩ := Int.eq_ofNat_of_zero_le h0
  have h := u32_and_nat a 268435455 (by omega) (by omega)
  have e : a &&& 268435455 = a % 268435456 := Nat.and_two_pow_sub_one_eq_mod a 28
  rw [e] at h
  simpa using h

set_option maxHeartbeats 8000000 in
set_option maxRecDepth 100000 in
theorem numbers_any (b : Bt) (y : Option Addr) (c k : Nat) (T : List Int) (w : World) (hn : b.near) (hk : b.clus = (k : Int)) (hk2 : k ≤ 40000) (hT : Lies w y T) (hbT : Byts T) (hlT : T.length ≤ maxLen) (hfit : (k + 2) * 4 ≤ T.length) :
    Calls Tryd.prog 25 #[.agg b.cs, .slice y T.length c] w fun e w' => (∃ g, e = .returned (.slice (some ⟨g, 0, none⟩) k k) ∧ w.heap.size ≤ g ∧ OwnU w' w.heap.size (.slice (some ⟨g, 0, none⟩) k k) (numsF T k)) ∧ Below w.heap.size w w' := by
  obtain ⟨w1, hw1⟩ : ∃ w1, w1 = w.alloc (.cells b.cs 63) := ⟨_, rfl⟩
  have hb1 : Below w.heap.size w w1 := by rw [hw1]; exact (Below.refl _ _).alloc (Nat.le_refl _) _
  have hc0 := cells_of (Blk.new w b.cs 63)
  have HCl := hide (clus_any b w1 hn)
  rw [hk] at HCl
  have HU : ∀ (j : Nat) (u : World), j < k → Lies u y T → Hid (Calls Tryd.prog 49 #[.slice y T.length c, .int .i64 (((j : Int) + 2) * 4)] u fun e w' => e = .returned (.tuple #[.int .u32 (num T ((j + 2) * 4) 4), .bool true]) ∧ w' = u) := fun j u hj hu => hide (by
    have h := U32_at y c T ((j + 2) * 4) u hlT hbT hu (by omega)
    push_cast at h
    exact h)
  have HT1 := hide (hT.below hb1)
  have hTne : ¬ T = [] := fun e => by rw [e] at hfit; simp at hfit
  have HBy := hide hbT
  have HK2 := hide hk2
  have HW1 := hide hw1
  have HB1 := hide hb1
  obtain ⟨tl, htl⟩ : ∃ tl, tl = T.length := ⟨_, rfl⟩
  rw [← htl] at HU ⊢
  clear hn hk hk2 hT hbT hlT hfit hw1 hb1 htl
  obtain ⟨c0, c1, c2, c3, c4, c5, c6, c7⟩ := hc0
  go_enter Tryd.func25, Tryd.ntmps25
  go_wp2_with fail
  rw [← HW1.out]
  clear c0 c1 c2 c3 c4 c5 c6 c7
  refine HCl.out.mono ?_
  rintro e9 w2 ⟨rfl, hb2⟩
  obtain ⟨w3, hmk, ho3, hb3⟩ := made_u32 w2 k (by have := HK2.out; omega)
  have HT3 := hide ((HT1.out.below hb2).below hb3)
  have hs2 : w.heap.size ≤ w2.heap.size := (HB1.out.trans (hb2.mono HB1.out.size)).size
  have HB3 := hide ((HB1.out.trans (hb2.mono HB1.out.size)).trans (hb3.mono hs2))
  have HO3 := hide ho3
  have HS2 := hide hs2
  have HNy := hide (show ∀ z, y = some z → z.block ≠ w2.heap.size from fun z hz => by
    have h := HT1.out.below hb2
    rcases h with h | ⟨b9, o9, h9, h8, _⟩
    · exact absurd h hTne
    · rw [hz] at h9; cases h9; show b9 ≠ _; omega)
  clear hb2 hb3 ho3 hs2 HCl
  go_wp2_with fail
  go_loopw [14] (fun i wr => ∃ j : Nat, j ≤ k ∧ i = .int .i64 (j : Int) ∧ OwnU wr w2.heap.size (.slice (some ⟨w2.heap.size, 0, none⟩) k k) (numsF T j ++ List.replicate (k - j) 0) ∧ Lies wr y T ∧ Below w.heap.size w wr) (fun i _ => k - (intOf i).toNat)
  case atStart => exact ⟨0, by omega, rfl, by simpa [numsF] using HO3.out, HT3.out, HB3.out⟩
  case round =>
    obtain ⟨j, hj, rfl, ho, ht, hbr⟩ := hrel
    have HO := hide ho
    have HT := hide ht
    have HBr := hide hbr
    clear ho ht hbr
    by_cases hjk : j < k
    · have hk3 := HK2.out
      have hq1 : IntKind.i64.wrap ((j : Int) + 2) = (j : Int) + 2 := by rw [IntKind.wrap_i64]; omega
      have hq2 : IntKind.i64.wrap (((j : Int) + 2) * 4) = ((j : Int) + 2) * 4 := by rw [IntKind.wrap_i64]; omega
      have hq3 : IntKind.i64.wrap ((j : Int) + 1) = (j : Int) + 1 := by rw [IntKind.wrap_i64]; omega
      have hlt : (j : Int) < (k : Int) := by omega
      have HUj := HU j wr hjk HT.out
      have hlen : (numsF T j ++ List.replicate (k - j) 0).length = k := by rw [List.length_append, numsF_len, List.length_replicate]; omega
      have cj := HO.out.cell j (by rw [hlen]; exact hjk)
      have fj := HO.out.free hlen.symm j
      have HLn := hide hlen
      have HJ := hide hjk
      clear hjk hk3 hlen HU hj
      go_wp2_with fail
      refine HUj.out.mono ?_
      rintro e9 w4 ⟨rfl, h4⟩
      rw [h4]
      clear h4
      go_wp2_with fail
      go_roundw
      case rel =>
        have hnum := num_lt T ((j + 2) * 4) HBy.out 4
        have hm : bits .and .u32 (num T ((j + 2) * 4) 4) 268435455 = nxt T j := mask28 _ hnum.1 (by have := hnum.2; simp at this; omega)
        rw [hm]
        obtain ⟨h1, h2⟩ := HO.out.set HLn.out.symm j (nxt T j)
        rw [numsF_step T j k HJ.out] at h1
        have hg := h2
        have hbl := Below.trans HBr.out (Chg.below (X := fun q => some q = some w2.heap.size) w.heap.size (Chg.of_grown hg) HBr.out.size (fun i hi e => by cases e; have := HS2.out; omega))
        refine ⟨j + 1, by have := HJ.out; omega, by push_cast; rfl, h1, ?_, hbl⟩
        exact HT.out.chg (Chg.of_grown hg) (fun z hz e => HNy.out z hz (Option.some.inj e))
      case measure =>
        have := HJ.out
        simp [intOf]
        omega
    · obtain rfl : j = k := by omega
      clear hjk
      have hnlt : ¬ ((j : Int) < (j : Int)) := by omega
      go_wp2_with fail
      go_ret
      refine ⟨⟨w2.heap.size, rfl, HS2.out, ?_⟩, HBr.out⟩
      have h := HO.out
      rw [Nat.sub_self, List.replicate_zero, List.append_nil] at h
      exact OwnU.mono h HS2.out

/-- A volume's cells: what its first sector says, its numbers, its counts. -/
abbrev volC (b : Bt) (g k : Nat) (f x : Int) : Array Value := #[.int .i64 b.each, .int .i64 b.ahead, .int .i64 b.tabs, .int .i64 b.secs, .int .i64 b.long, .int .i64 b.root, .int .i64 b.info, .int .i64 b.copy, .slice (some ⟨g, 0, none⟩) k k, .int .i64 f, .int .i64 x]

/-- How many clusters of the first are free. -/
def frees (L : List Int) (j : Nat) : Int := (((L.take j).filter (fun v => v == 0)).length : Int)

theorem frees_step (L : List Int) (j : Nat) (h : j < L.length) : frees L (j + 1) = if L.getD j 0 = 0 then frees L j + 1 else frees L j := by
  unfold frees
  have e : L.take (j + 1) = L.take j ++ [L[j]] := by rw [List.take_add_one, List.getElem?_eq_getElem h]; rfl
  rw [e, List.filter_append, List.length_append, List.getD_eq_getElem?_getD, List.getElem?_eq_getElem h]
  by_cases h0 : L[j] = 0
  · simp [h0]
  · simp [h0]

theorem frees_le (L : List Int) (j : Nat) : 0 ≤ frees L j ∧ frees L j ≤ j := by
  unfold frees
  have h1 := List.length_filter_le (fun v : Int => v == 0) (L.take j)
  have h2 := List.length_take_le j L
  omega

set_option maxHeartbeats 8000000 in
set_option maxRecDepth 100000 in
theorem free_any (b : Bt) (R g k : Nat) (f x : Int) (L : List Int) (w : World) (hk : L.length = k) (hk2 : k ≤ 40000) (hR : Blk w R (volC b g k f x) 68) (hL : ∀ j, j < k → w.cell? ⟨g, j, none⟩ = some (.int .u32 (L.getD j 0))) :
    Calls Tryd.prog 26 #[.pointer (some ⟨R, 0, none⟩)] w fun e w' => e = .returned (.int .i64 (frees L k)) ∧ w' = w := by
  have c8 : w.cell? ⟨R, 8, none⟩ = some (.slice (some ⟨g, 0, none⟩) k k) := hR.cell 8 _ rfl
  have HK := hide (And.intro hk hk2)
  have HL := hide hL
  clear hk hk2 hR hL
  go_enter Tryd.func26, Tryd.ntmps26
  go_wp2_with fail
  go_loopw [3, 11] (fun s i wr => ∃ j : Nat, j ≤ k ∧ i = .int .i64 (j : Int) ∧ s = .int .i64 (frees L j) ∧ wr = w) (fun _ i _ => k - (intOf i).toNat)
  case atStart => exact ⟨0, by omega, rfl, by simp [frees], rfl⟩
  case round =>
    obtain ⟨j, hj, rfl, rfl, rfl⟩ := hrel
    by_cases hjk : j < k
    · have cj := HL.out j hjk
      have hst := frees_step L j (by have := HK.out.1; omega)
      have hle := frees_le L j
      have hk3 := HK.out.2
      have hq3 : IntKind.i64.wrap ((j : Int) + 1) = (j : Int) + 1 := by rw [IntKind.wrap_i64]; omega
      have hq4 : IntKind.i64.wrap (frees L j + 1) = frees L j + 1 := by rw [IntKind.wrap_i64]; omega
      have hlt : (j : Int) < (k : Int) := by omega
      have HJ := hide hjk
      have HST := hide hst
      clear hjk hst hle hk3 hj
      by_cases h0 : L.getD j 0 = 0
      · have h1 := HST.out
        rw [if_pos h0] at h1
        have H1 := hide h1
        rw [h0] at cj
        clear h1 h0 HST
        go_wp2_with fail
        go_roundw
        case rel => exact ⟨j + 1, by have := HJ.out; omega, by push_cast; rfl, by rw [H1.out], trivial⟩
        case measure => have := HJ.out; simp [intOf]; omega
      · have h1 := HST.out
        rw [if_neg h0] at h1
        have H1 := hide h1
        have hq : (L.getD j 0 == 0) = false := by simpa using h0
        generalize L.getD j 0 = v at *
        clear h1 h0 HST
        go_wp2_with fail
        go_roundw
        case rel => exact ⟨j + 1, by have := HJ.out; omega, by push_cast; rfl, by rw [H1.out], trivial⟩
        case measure => have := HJ.out; simp [intOf]; omega
    · obtain rfl : j = k := by omega
      clear hjk
      have hnlt : ¬ ((j : Int) < (j : Int)) := by omega
      go_wp2_with fail
      go_ret
      exact ⟨rfl, rfl⟩
end Go.Proofs.YtcbbaoiefdbcpaaDoor.Oct
