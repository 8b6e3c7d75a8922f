/- A volume is opened: what its first sector, and its copy, say. -/
import Derived.Test.YthhodmiobpocbaaDoorPFrd
import Derived.Test.YthhodmiobpocbaaDoorPFpa
namespace Go.Proofs.YthhodmiobpocbaaDoor.Oct
open Go.RowKit

theorem parB_chk {s : List Int} {b : Bt} (h : parB s = (b, 0)) : b.chk = 0 := by
  unfold parB at h
  split at h
  · split at h
    · split at h
      · split at h
        · rename_i h1
          cases h
          exact h1
        · rename_i h1
          simp at h
          exact absurd h.2 h1
      · simp at h
    · simp at h
  · simp at h

theorem chk_says {b : Bt} (h : b.chk = 0) : b.form = true ∧ 1 ≤ b.clus ∧ b.clus ≤ 128 * b.long - 2 ∧ 2 ≤ b.root ∧ b.root ≤ b.clus + 1 := by
  unfold Bt.chk at h
  split at h
  · simp at h
  split at h
  · simp at h
  split at h
  · simp at h
  split at h
  · simp at h
  rename_i h1 h2 h3 h4
  simp [witN] at h4
  simp at h1
  exact ⟨h1, by omega, by omega, by omega, by omega⟩

/-- A volume's sectors hold its tables, and its clusters. -/
theorem chk_data {b : Bt} (h : b.chk = 0) : b.ahead + b.tabs * b.long + b.clus * b.each ≤ b.secs ∧ 1 ≤ b.tabs * b.long := by
  obtain ⟨hf, h1, _⟩ := chk_says h
  obtain ⟨q0, q1, q2, q3, q4, q5, q6, q7, q8, q9, _⟩ := Bt.form_says hf
  have hn := (Bt.form_near hf).2.1
  refine ⟨?_, hn⟩
  unfold Bt.clus Bt.data at *
  rw [show max b.each 1 = b.each by omega] at *
  by_cases hx : 0 ≤ b.secs - (b.ahead + b.tabs * b.long)
  · rw [show max (b.secs - (b.ahead + b.tabs * b.long)) 0 = b.secs - (b.ahead + b.tabs * b.long) by omega] at *
    have := Int.ediv_mul_le (b.secs - (b.ahead + b.tabs * b.long)) (b := b.each) (by omega)
    omega
  · rw [show max (b.secs - (b.ahead + b.tabs * b.long)) 0 = 0 by omega] at h1
    simp at h1

theorem rd1_ok (a : Option Addr) (cap : Nat) (d : List Int) (s : Int) (w : World) (hd : d.length ≤ 1000000000) (hcap : d.length ≤ cap) (hno : a = none → cap = 0) (hl : Lies w a d) (hs : 0 ≤ s) (hf : (s + 1) * 512 ≤ d.length) :
    Calls Tryd.prog 46 #[.iface 34 (.slice a d.length cap), .int .i64 s, .int .i64 1] w fun e w' => (∃ a' c', e = .returned (.tuple #[.slice a' 512 c', .int .i64 0]) ∧ Lies w' a' (secs d s 1) ∧ 512 ≤ c') ∧ Below w.heap.size w w' := rd_ok a cap d s 1 w hd hcap hno hl hs (by omega) hf

theorem Byts.secs {d : List Int} (h : Byts d) (s n : Int) : Byts (secs d s n) := (h.drop _).take _

set_option maxHeartbeats 8000000 in
set_option maxRecDepth 100000 in
theorem oboot_ok (a : Option Addr) (cap : Nat) (d : List Int) (b : Bt) (w : World) (hd : d.length ≤ 1000000000) (hcap : d.length ≤ cap) (hno : a = none → cap = 0) (hl : Lies w a d) (hbd : Byts d) (hV : Vars w)
    (h0 : 512 ≤ d.length) (hp : parB (secs d 0 1) = (b, 0)) (hsz : b.secs * 512 ≤ d.length) (hc : b.copy = 0 ∨ secs d b.copy 1 = secs d 0 1) :
    Calls Tryd.prog 23 #[.iface 34 (.slice a d.length cap)] w fun e w' => e = .returned (.tuple #[.agg b.cs, .int .i64 0]) ∧ Below w.heap.size w w' := by
  obtain ⟨w1, hw1⟩ : ∃ w1, w1 = w.alloc (.cells #[.int .i64 0, .int .i64 0, .int .i64 0, .int .i64 0, .int .i64 0, .int .i64 0, .int .i64 0, .int .i64 0] 64) := ⟨_, rfl⟩
  have hb1 : Below w.heap.size w w1 := by rw [hw1]; exact (Below.refl _ _).alloc (Nat.le_refl _) _
  have HK1 := hide (show Blk w1 w.heap.size #[.int .i64 0, .int .i64 0, .int .i64 0, .int .i64 0, .int .i64 0, .int .i64 0, .int .i64 0, .int .i64 0] 64 by rw [hw1]; exact Blk.new _ _ _)
  have hl1 := hl.below hb1
  have hk := parB_chk hp
  obtain ⟨hfo, _⟩ := chk_says hk
  obtain ⟨q0, q1, q2, q3, q4, q5, q6, q7, q8, q9, q10, q11, q12, q13, _⟩ := Bt.form_says hfo
  obtain ⟨q14, q15⟩ := chk_data hk
  have hcl : 0 ≤ b.clus * b.each := by have := (Bt.clus_says hfo).1; exact Int.mul_nonneg this (by omega)
  have HR := fun (s : Int) (u : World) (hu : Lies u a d) (hs : 0 ≤ s) (hf : (s + 1) * 512 ≤ d.length) => hide (rd1_ok a cap d s u hd hcap hno hu hs hf)
  have HPa : ∀ (u : World) (x : Option Addr) (c : Nat), Lies u x (secs d 0 1) → 512 ≤ c → Vars u → Hid (Calls Tryd.prog 47 #[.slice x 512 c] u fun e w' => e = .returned (.tuple #[.agg #[.int .i64 b.each, .int .i64 b.ahead, .int .i64 b.tabs, .int .i64 b.secs, .int .i64 b.long, .int .i64 b.root, .int .i64 b.info, .int .i64 b.copy], .int .i64 0]) ∧ Below u.heap.size u w') := fun u x c hu hc hv => hide (by
    have hln := secs_len (d := d) (s := 0) (n := 1) (by omega) (by omega) (by omega)
    have h := parse_any x c (secs d 0 1) u (by rw [hln]; unfold maxLen; decide) (by rw [hln]; exact hc) (hbd.secs 0 1) hu hv
    rw [hln, hp] at h
    exact h)
  have HEq : ∀ (u : World) (x y : Option Addr) (c c' : Nat), Lies u x (secs d 0 1) → Lies u y (secs d b.copy 1) → Hid (b.copy ≠ 0 → Calls Tryd.prog 48 #[.slice x 512 c, .slice y 512 c'] u fun e w' => e = .returned (.bool true) ∧ w' = u) := fun u x y c c' hu hu' => hide (fun hne => by
    have hln := secs_len (d := d) (s := 0) (n := 1) (by omega) (by omega) (by omega)
    have hln2 := secs_len (d := d) (s := b.copy) (n := 1) (by omega) (by omega) (by omega)
    have hcc := hc.resolve_left hne
    have h := Equal_any x y c c' (secs d 0 1) (secs d b.copy 1) u hu hu' (hbd.secs 0 1) (hbd.secs b.copy 1)
    rw [hln, hln2, decide_eq_true hcc.symm] at h
    exact h)
  have hR0 := HR 0 w1 hl1 (by omega) (by omega)
  have HR2 := fun u hu => HR b.copy u hu (by omega) (by omega)
  have hmS : ∀ (u : World) (a : Option Addr) (n c : Nat), (method 271 34 (.slice a n c) "Size").run Tryd.prog u = .ok (108, .slice a n c) u := fun u a n c => by kernel_rfl
  have HS := fun (u : World) => hide (msize_any a d.length cap u)
  have hqd : IntKind.i64.wrap ((d.length : Int) / 512) = (d.length : Int) / 512 := by rw [IntKind.wrap_i64]; omega
  have hqs : ¬ (d.length : Int) / 512 < b.secs := by omega
  have HV1 := hide (hV.below hb1)
  have HL1 := hide hl1
  have HW1 := hide hw1
  have HB1 := hide hb1
  obtain ⟨m, hm⟩ : ∃ m, m = d.length := ⟨_, rfl⟩
  rw [← hm] at hR0 HR2 HS hqd hqs ⊢
  clear HR hd hcap hno hl hbd hV h0 hp hsz hc hw1 hb1 hl1 hk hfo q0 q1 q2 q3 q4 q5 q6 q7 q8 q9 q10 q11 q12 q13 q14 q15 hcl hm
  go_enter Tryd.func23, Tryd.ntmps23
  go_wp2_with fail
  rw [← HW1.out]
  refine hR0.out.mono ?_
  rintro e9 w2 ⟨⟨a2, c2, rfl, hl2, hc2⟩, hb2⟩
  have HP2 := HPa w2 a2 c2 hl2 hc2 (HV1.out.below hb2)
  have HL2 := hide hl2
  have HD2 := hide (HL1.out.below hb2)
  have HK2 := hide (HK1.out.below hb2)
  have HB2 := hide (HB1.out.trans (hb2.mono HB1.out.size))
  clear hl2 hc2 hb2 HPa hR0
  go_wp2_with fail
  refine HP2.out.mono ?_
  rintro e9 w3 ⟨rfl, hb3⟩
  obtain ⟨w4, hw4⟩ : ∃ w4, w4 = w3.alloc (.cells #[.int .i64 b.each, .int .i64 b.ahead, .int .i64 b.tabs, .int .i64 b.secs, .int .i64 b.long, .int .i64 b.root, .int .i64 b.info, .int .i64 b.copy] 64) := ⟨_, rfl⟩
  have hb4 : Below w3.heap.size w3 w4 := by rw [hw4]; exact (Below.refl _ _).alloc (Nat.le_refl _) _
  have HN4 := hide (show Blk w4 w3.heap.size #[.int .i64 b.each, .int .i64 b.ahead, .int .i64 b.tabs, .int .i64 b.secs, .int .i64 b.long, .int .i64 b.root, .int .i64 b.info, .int .i64 b.copy] 64 by rw [hw4]; exact Blk.new _ _ _)
  have HL4 := hide ((HL2.out.below hb3).below hb4)
  have HD4 := hide ((HD2.out.below hb3).below hb4)
  have HK4 := hide ((HK2.out.below hb3).below hb4)
  have HB4 := hide ((HB2.out.trans (hb3.mono HB2.out.size)).trans (hb4.mono (HB2.out.trans (hb3.mono HB2.out.size)).size))
  have HW4 := hide hw4
  clear hb3 hb4 hw4 HP2
  go_wp2_with fail
  rw [← HW4.out]
  have d0 := HN4.out.cell 0 _ rfl
  have d1 := HN4.out.cell 1 _ rfl
  have d2 := HN4.out.cell 2 _ rfl
  have d3 := HN4.out.cell 3 _ rfl
  have d4 := HN4.out.cell 4 _ rfl
  have d5 := HN4.out.cell 5 _ rfl
  have d6 := HN4.out.cell 6 _ rfl
  have d7 := HN4.out.cell 7 _ rfl
  have HN := hide HN4.out.drew
  have dd0 := HN.out.cell 0 _ rfl
  have dd1 := HN.out.cell 1 _ rfl
  have dd2 := HN.out.cell 2 _ rfl
  have dd3 := HN.out.cell 3 _ rfl
  have dd4 := HN.out.cell 4 _ rfl
  have dd5 := HN.out.cell 5 _ rfl
  have dd6 := HN.out.cell 6 _ rfl
  have dd7 := HN.out.cell 7 _ rfl
  go_region_held3 (fun u => u.cell? ⟨w3.heap.size, 3, none⟩ = some (.int .i64 b.secs)) (first | go_keep | exact dd3) (first | (go_at_call 108; refine ((HS _).out).mono ?_; rintro e9 w8 ⟨rfl, h8⟩; rw [h8]; clear h8))
  all_goals
    obtain ⟨w5, hw5⟩ : ∃ w5, w5 = w4.drew := ⟨_, rfl⟩
    have HN5 := hide (show Blk w5 w3.heap.size #[.int .i64 b.each, .int .i64 b.ahead, .int .i64 b.tabs, .int .i64 b.secs, .int .i64 b.long, .int .i64 b.root, .int .i64 b.info, .int .i64 b.copy] 64 by rw [hw5]; exact HN4.out.drew)
    have HK5 := hide (show Blk w5 w.heap.size #[.int .i64 0, .int .i64 0, .int .i64 0, .int .i64 0, .int .i64 0, .int .i64 0, .int .i64 0, .int .i64 0] 64 by rw [hw5]; exact HK4.out.drew)
    have HD5 := hide (show Lies w5 a d by rw [hw5]; exact HD4.out.drew)
    have HL5 := hide (show Lies w5 a2 (secs d 0 1) by rw [hw5]; exact HL4.out.drew)
    have HB5 := hide (show Below w.heap.size w w5 by rw [hw5]; exact HB4.out.drew)
    rw [← hw5]
    clear hw5 d0 d1 d2 d3 d4 d5 d6 d7 dd0 dd1 dd2 dd3 dd4 dd5 dd6 dd7
    have d0 := HN5.out.cell 0 _ rfl
    have d1 := HN5.out.cell 1 _ rfl
    have d2 := HN5.out.cell 2 _ rfl
    have d3 := HN5.out.cell 3 _ rfl
    have d4 := HN5.out.cell 4 _ rfl
    have d5 := HN5.out.cell 5 _ rfl
    have d6 := HN5.out.cell 6 _ rfl
    have d7 := HN5.out.cell 7 _ rfl
    have z0 := HK5.out.cell 0 _ rfl
    have z1 := HK5.out.cell 1 _ rfl
    have z2 := HK5.out.cell 2 _ rfl
    have z3 := HK5.out.cell 3 _ rfl
    have z4 := HK5.out.cell 4 _ rfl
    have z5 := HK5.out.cell 5 _ rfl
    have z6 := HK5.out.cell 6 _ rfl
    have z7 := HK5.out.cell 7 _ rfl
    have f0 := HK5.out.frozen 0
    have f1 := HK5.out.frozen 1
    have f2 := HK5.out.frozen 2
    have f3 := HK5.out.frozen 3
    have f4 := HK5.out.frozen 4
    have f5 := HK5.out.frozen 5
    have f6 := HK5.out.frozen 6
    have f7 := HK5.out.frozen 7
    by_cases hz : b.copy = 0
    · have hq : (b.copy == 0) = true := by simpa using hz
      clear hz
      go_wp2_with fail
      obtain ⟨w9, hw9⟩ : ∃ w9, w9 = ((((((((w5.setCell ⟨w.heap.size, 0, none⟩ (.int .i64 b.each)).setCell ⟨w.heap.size, 1, none⟩ (.int .i64 b.ahead)).setCell ⟨w.heap.size, 2, none⟩ (.int .i64 b.tabs)).setCell ⟨w.heap.size, 3, none⟩ (.int .i64 b.secs)).setCell ⟨w.heap.size, 4, none⟩ (.int .i64 b.long)).setCell ⟨w.heap.size, 5, none⟩ (.int .i64 b.root)).setCell ⟨w.heap.size, 6, none⟩ (.int .i64 b.info)).setCell ⟨w.heap.size, 7, none⟩ (.int .i64 b.copy)) := ⟨_, rfl⟩
      have hk9 : Blk w9 w.heap.size b.cs 64 := by rw [hw9]; exact blk8 HK5.out (.int .i64 b.each) (.int .i64 b.ahead) (.int .i64 b.tabs) (.int .i64 b.secs) (.int .i64 b.long) (.int .i64 b.root) (.int .i64 b.info) (.int .i64 b.copy)
      have hb9 : Below w.heap.size w w9 := by rw [hw9]; exact below8 HB5.out (Nat.le_refl _) (.int .i64 b.each) (.int .i64 b.ahead) (.int .i64 b.tabs) (.int .i64 b.secs) (.int .i64 b.long) (.int .i64 b.root) (.int .i64 b.info) (.int .i64 b.copy)
      rw [← hw9]
      exact bodyPost_ret (ret_bt rfl _ _ w.heap.size b _ rfl rfl hk9) rfl ⟨rfl, hb9⟩
    · have hq : (b.copy == 0) = false := by simpa using hz
      have HZ := hide hz
      have HR5 := HR2 w5 HD5.out
      clear hz
      go_wp2_with fail
      refine HR5.out.mono ?_
      rintro e9 w6 ⟨⟨a6, c6, rfl, hl6, hc6⟩, hb6⟩
      have HE6 := (HEq w6 a2 a6 c2 c6 (HL5.out.below hb6) hl6).out HZ.out
      have HE6 := hide HE6
      have HN6 := hide (HN5.out.below hb6)
      have HK6 := hide (HK5.out.below hb6)
      have HB6 := hide (HB5.out.trans (hb6.mono HB5.out.size))
      clear hl6 hc6 hb6 d0 d1 d2 d3 d4 d5 d6 d7 z0 z1 z2 z3 z4 z5 z6 z7 f0 f1 f2 f3 f4 f5 f6 f7
      go_wp2_with fail
      refine HE6.out.mono ?_
      rintro e9 w7 ⟨rfl, h7⟩
      rw [h7]
      clear h7
      have d0 := HN6.out.cell 0 _ rfl
      have d1 := HN6.out.cell 1 _ rfl
      have d2 := HN6.out.cell 2 _ rfl
      have d3 := HN6.out.cell 3 _ rfl
      have d4 := HN6.out.cell 4 _ rfl
      have d5 := HN6.out.cell 5 _ rfl
      have d6 := HN6.out.cell 6 _ rfl
      have d7 := HN6.out.cell 7 _ rfl
      have z0 := HK6.out.cell 0 _ rfl
      have z1 := HK6.out.cell 1 _ rfl
      have z2 := HK6.out.cell 2 _ rfl
      have z3 := HK6.out.cell 3 _ rfl
      have z4 := HK6.out.cell 4 _ rfl
      have z5 := HK6.out.cell 5 _ rfl
      have z6 := HK6.out.cell 6 _ rfl
      have z7 := HK6.out.cell 7 _ rfl
      have f0 := HK6.out.frozen 0
      have f1 := HK6.out.frozen 1
      have f2 := HK6.out.frozen 2
      have f3 := HK6.out.frozen 3
      have f4 := HK6.out.frozen 4
      have f5 := HK6.out.frozen 5
      have f6 := HK6.out.frozen 6
      have f7 := HK6.out.frozen 7
      go_wp2_with fail
      obtain ⟨w9, hw9⟩ : ∃ w9, w9 = ((((((((w6.setCell ⟨w.heap.size, 0, none⟩ (.int .i64 b.each)).setCell ⟨w.heap.size, 1, none⟩ (.int .i64 b.ahead)).setCell ⟨w.heap.size, 2, none⟩ (.int .i64 b.tabs)).setCell ⟨w.heap.size, 3, none⟩ (.int .i64 b.secs)).setCell ⟨w.heap.size, 4, none⟩ (.int .i64 b.long)).setCell ⟨w.heap.size, 5, none⟩ (.int .i64 b.root)).setCell ⟨w.heap.size, 6, none⟩ (.int .i64 b.info)).setCell ⟨w.heap.size, 7, none⟩ (.int .i64 b.copy)) := ⟨_, rfl⟩
      have hk9 : Blk w9 w.heap.size b.cs 64 := by rw [hw9]; exact blk8 HK6.out (.int .i64 b.each) (.int .i64 b.ahead) (.int .i64 b.tabs) (.int .i64 b.secs) (.int .i64 b.long) (.int .i64 b.root) (.int .i64 b.info) (.int .i64 b.copy)
      have hb9 : Below w.heap.size w w9 := by rw [hw9]; exact below8 HB6.out (Nat.le_refl _) (.int .i64 b.each) (.int .i64 b.ahead) (.int .i64 b.tabs) (.int .i64 b.secs) (.int .i64 b.long) (.int .i64 b.root) (.int .i64 b.info) (.int .i64 b.copy)
      rw [← hw9]
      exact bodyPost_ret (ret_bt rfl _ _ w.heap.size b _ rfl rfl hk9) rfl ⟨rfl, hb9⟩
end Go.Proofs.YthhodmiobpocbaaDoor.Oct
