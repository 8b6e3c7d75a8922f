/- The document's Put: what a super says is written into bytes. -/
import Derived.Test.YtjmajjfknmjifaaDoorPEwc
import Derived.Test.YtjmajjfknmjifaaDoorPEyo
namespace Go.Proofs.YtjmajjfknmjifaaDoor.Oct
open Go.RowKit
set_option maxHeartbeats 8000000 in
set_option maxRecDepth 100000 in
theorem rsput_true (s : Sp) (a : Option Addr) (cap : Nat) (l : List Int) (w : World) (hl : l.length = 1024) (hs : Sl w a cap l) (hk : s.chk = 0) (hty : s.ty = true) :
    Calls Tryd.prog 15 #[.agg s.cs, .slice a 1024 cap] w fun e w' => ∃ v, e = .returned v ∧ Own w' w.heap.size v (puts s ordD l) ∧ Below w.heap.size w w' := by
  obtain ⟨w1, hw1⟩ : ∃ w1, w1 = w.alloc (.cells s.cs 30) := ⟨_, rfl⟩
  have hb1 : Below w.heap.size w w1 := by rw [hw1]; exact (Below.refl w.heap.size w).alloc (Nat.le_refl _) _
  have HI1 := hide (show Blk w1 w.heap.size s.cs 30 by rw [hw1]; exact Blk.new w s.cs 30)
  have HW1 := hide hw1
  have HB1 := hide hb1
  obtain ⟨b0, b1, b2, b3, b4, b5, b6⟩ := Sp.nums hk
  obtain ⟨L0, hL0⟩ : ∃ L0, L0 = l := ⟨_, rfl⟩
  have n0 : L0.length = 1024 := by rw [hL0]; exact hl
  obtain ⟨L1, hL1⟩ : ∃ L1, L1 = putN L0 0 s.ino 4 := ⟨_, rfl⟩
  have n1 : L1.length = 1024 := by rw [hL1, putN_length]; exact n0
  have HP0 : ∀ (a : Option Addr) (c : Nat) (u : World), Sl u a c L0 → Hid (Calls Tryd.prog 42 #[.slice a 1024 c, .int .i64 0, .int .i64 (s.ino)] u fun e w' => ∃ r, e = .returned r ∧ Own w' u.heap.size r L1 ∧ Below u.heap.size u w') := fun a c u h => hide (by
    have h := word_any a c L0 0 (s.ino) u (by rw [n0]; omega) (by rw [n0]; omega) h (by omega) (by omega)
    rw [n0, ← hL1] at h
    exact h)
  obtain ⟨L2, hL2⟩ : ∃ L2, L2 = putN L1 4 s.blo 4 := ⟨_, rfl⟩
  have n2 : L2.length = 1024 := by rw [hL2, putN_length]; exact n1
  have HP1 : ∀ (a : Option Addr) (c : Nat) (u : World), Sl u a c L1 → Hid (Calls Tryd.prog 42 #[.slice a 1024 c, .int .i64 4, .int .i64 (s.blo)] u fun e w' => ∃ r, e = .returned r ∧ Own w' u.heap.size r L2 ∧ Below u.heap.size u w') := fun a c u h => hide (by
    have h := word_any a c L1 4 (s.blo) u (by rw [n1]; omega) (by rw [n1]; omega) h (by omega) (by omega)
    rw [n1, ← hL2] at h
    exact h)
  obtain ⟨L3, hL3⟩ : ∃ L3, L3 = putN L2 12 s.fbl 4 := ⟨_, rfl⟩
  have n3 : L3.length = 1024 := by rw [hL3, putN_length]; exact n2
  have HP2 : ∀ (a : Option Addr) (c : Nat) (u : World), Sl u a c L2 → Hid (Calls Tryd.prog 42 #[.slice a 1024 c, .int .i64 12, .int .i64 (s.fbl)] u fun e w' => ∃ r, e = .returned r ∧ Own w' u.heap.size r L3 ∧ Below u.heap.size u w') := fun a c u h => hide (by
    have h := word_any a c L2 12 (s.fbl) u (by rw [n2]; omega) (by rw [n2]; omega) h (by omega) (by omega)
    rw [n2, ← hL3] at h
    exact h)
  obtain ⟨L4, hL4⟩ : ∃ L4, L4 = putN L3 16 s.fin 4 := ⟨_, rfl⟩
  have n4 : L4.length = 1024 := by rw [hL4, putN_length]; exact n3
  have HP3 : ∀ (a : Option Addr) (c : Nat) (u : World), Sl u a c L3 → Hid (Calls Tryd.prog 42 #[.slice a 1024 c, .int .i64 16, .int .i64 (s.fin)] u fun e w' => ∃ r, e = .returned r ∧ Own w' u.heap.size r L4 ∧ Below u.heap.size u w') := fun a c u h => hide (by
    have h := word_any a c L3 16 (s.fin) u (by rw [n3]; omega) (by rw [n3]; omega) h (by omega) (by omega)
    rw [n3, ← hL4] at h
    exact h)
  obtain ⟨L5, hL5⟩ : ∃ L5, L5 = putN L4 20 1 4 := ⟨_, rfl⟩
  have n5 : L5.length = 1024 := by rw [hL5, putN_length]; exact n4
  have HP4 : ∀ (a : Option Addr) (c : Nat) (u : World), Sl u a c L4 → Hid (Calls Tryd.prog 42 #[.slice a 1024 c, .int .i64 20, .int .i64 1] u fun e w' => ∃ r, e = .returned r ∧ Own w' u.heap.size r L5 ∧ Below u.heap.size u w') := fun a c u h => hide (by
    have h := word_any a c L4 20 1 u (by rw [n4]; omega) (by rw [n4]; omega) h (by omega) (by omega)
    rw [n4, ← hL5] at h
    exact h)
  obtain ⟨L6, hL6⟩ : ∃ L6, L6 = putN L5 24 0 4 := ⟨_, rfl⟩
  have n6 : L6.length = 1024 := by rw [hL6, putN_length]; exact n5
  have HP5 : ∀ (a : Option Addr) (c : Nat) (u : World), Sl u a c L5 → Hid (Calls Tryd.prog 42 #[.slice a 1024 c, .int .i64 24, .int .i64 0] u fun e w' => ∃ r, e = .returned r ∧ Own w' u.heap.size r L6 ∧ Below u.heap.size u w') := fun a c u h => hide (by
    have h := word_any a c L5 24 0 u (by rw [n5]; omega) (by rw [n5]; omega) h (by omega) (by omega)
    rw [n5, ← hL6] at h
    exact h)
  obtain ⟨L7, hL7⟩ : ∃ L7, L7 = putN L6 32 s.per 4 := ⟨_, rfl⟩
  have n7 : L7.length = 1024 := by rw [hL7, putN_length]; exact n6
  have HP6 : ∀ (a : Option Addr) (c : Nat) (u : World), Sl u a c L6 → Hid (Calls Tryd.prog 42 #[.slice a 1024 c, .int .i64 32, .int .i64 (s.per)] u fun e w' => ∃ r, e = .returned r ∧ Own w' u.heap.size r L7 ∧ Below u.heap.size u w') := fun a c u h => hide (by
    have h := word_any a c L6 32 (s.per) u (by rw [n6]; omega) (by rw [n6]; omega) h (by omega) (by omega)
    rw [n6, ← hL7] at h
    exact h)
  obtain ⟨L8, hL8⟩ : ∃ L8, L8 = putN L7 36 s.per 4 := ⟨_, rfl⟩
  have n8 : L8.length = 1024 := by rw [hL8, putN_length]; exact n7
  have HP7 : ∀ (a : Option Addr) (c : Nat) (u : World), Sl u a c L7 → Hid (Calls Tryd.prog 42 #[.slice a 1024 c, .int .i64 36, .int .i64 (s.per)] u fun e w' => ∃ r, e = .returned r ∧ Own w' u.heap.size r L8 ∧ Below u.heap.size u w') := fun a c u h => hide (by
    have h := word_any a c L7 36 (s.per) u (by rw [n7]; omega) (by rw [n7]; omega) h (by omega) (by omega)
    rw [n7, ← hL8] at h
    exact h)
  obtain ⟨L9, hL9⟩ : ∃ L9, L9 = putN L8 40 s.each 4 := ⟨_, rfl⟩
  have n9 : L9.length = 1024 := by rw [hL9, putN_length]; exact n8
  have HP8 : ∀ (a : Option Addr) (c : Nat) (u : World), Sl u a c L8 → Hid (Calls Tryd.prog 42 #[.slice a 1024 c, .int .i64 40, .int .i64 (s.each)] u fun e w' => ∃ r, e = .returned r ∧ Own w' u.heap.size r L9 ∧ Below u.heap.size u w') := fun a c u h => hide (by
    have h := word_any a c L8 40 (s.each) u (by rw [n8]; omega) (by rw [n8]; omega) h (by omega) (by omega)
    rw [n8, ← hL9] at h
    exact h)
  obtain ⟨L10, hL10⟩ : ∃ L10, L10 = putN L9 76 1 4 := ⟨_, rfl⟩
  have n10 : L10.length = 1024 := by rw [hL10, putN_length]; exact n9
  have HP9 : ∀ (a : Option Addr) (c : Nat) (u : World), Sl u a c L9 → Hid (Calls Tryd.prog 42 #[.slice a 1024 c, .int .i64 76, .int .i64 1] u fun e w' => ∃ r, e = .returned r ∧ Own w' u.heap.size r L10 ∧ Below u.heap.size u w') := fun a c u h => hide (by
    have h := word_any a c L9 76 1 u (by rw [n9]; omega) (by rw [n9]; omega) h (by omega) (by omega)
    rw [n9, ← hL10] at h
    exact h)
  obtain ⟨L11, hL11⟩ : ∃ L11, L11 = putN L10 84 s.first 4 := ⟨_, rfl⟩
  have n11 : L11.length = 1024 := by rw [hL11, putN_length]; exact n10
  have HP10 : ∀ (a : Option Addr) (c : Nat) (u : World), Sl u a c L10 → Hid (Calls Tryd.prog 42 #[.slice a 1024 c, .int .i64 84, .int .i64 (s.first)] u fun e w' => ∃ r, e = .returned r ∧ Own w' u.heap.size r L11 ∧ Below u.heap.size u w') := fun a c u h => hide (by
    have h := word_any a c L10 84 (s.first) u (by rw [n10]; omega) (by rw [n10]; omega) h (by omega) (by omega)
    rw [n10, ← hL11] at h
    exact h)
  obtain ⟨L12, hL12⟩ : ∃ L12, L12 = putN L11 96 2 4 := ⟨_, rfl⟩
  have n12 : L12.length = 1024 := by rw [hL12, putN_length]; exact n11
  have HP11 : ∀ (a : Option Addr) (c : Nat) (u : World), Sl u a c L11 → Hid (Calls Tryd.prog 42 #[.slice a 1024 c, .int .i64 96, .int .i64 2] u fun e w' => ∃ r, e = .returned r ∧ Own w' u.heap.size r L12 ∧ Below u.heap.size u w') := fun a c u h => hide (by
    have h := word_any a c L11 96 2 u (by rw [n11]; omega) (by rw [n11]; omega) h (by omega) (by omega)
    rw [n11, ← hL12] at h
    exact h)
  obtain ⟨L13, hL13⟩ : ∃ L13, L13 = putN L12 100 0 4 := ⟨_, rfl⟩
  have n13 : L13.length = 1024 := by rw [hL13, putN_length]; exact n12
  have HP12 : ∀ (a : Option Addr) (c : Nat) (u : World), Sl u a c L12 → Hid (Calls Tryd.prog 42 #[.slice a 1024 c, .int .i64 100, .int .i64 0] u fun e w' => ∃ r, e = .returned r ∧ Own w' u.heap.size r L13 ∧ Below u.heap.size u w') := fun a c u h => hide (by
    have h := word_any a c L12 100 0 u (by rw [n12]; omega) (by rw [n12]; omega) h (by omega) (by omega)
    rw [n12, ← hL13] at h
    exact h)
  obtain ⟨L14, hL14⟩ : ∃ L14, L14 = putN L13 56 61267 2 := ⟨_, rfl⟩
  have n14 : L14.length = 1024 := by rw [hL14, putN_length]; exact n13
  have HB2_13 : ∀ (u : World), Hid (Calls Tryd.prog 44 #[.int .u64 61267, .int .i64 2] u fun e w' => ∃ r, e = .returned r ∧ Own w' u.heap.size r (bytesOf 61267 2) ∧ Below u.heap.size u w') := fun u => hide (Bytes_any 61267 2 u (by omega) (by omega) (by omega))
  have HP13 : ∀ (a : Option Addr) (c : Nat) (a' : Option Addr) (c' : Nat) (u : World), Sl u a c L13 → Sl u a' c' (bytesOf 61267 2) → Hid (Calls Tryd.prog 43 #[.slice a 1024 c, .int .i64 56, .slice a' 2 c'] u fun e w' => ∃ r, e = .returned r ∧ Own w' u.heap.size r L14 ∧ Below u.heap.size u w') := fun a c a' c' u h h' => hide (by
    have h := rput2_any a c L13 a' c' 56 61267 u (by rw [n13]; omega) (by rw [n13]; omega) h h'
    rw [n13, ← hL14] at h
    exact h)
  obtain ⟨L15, hL15⟩ : ∃ L15, L15 = putN L14 88 128 2 := ⟨_, rfl⟩
  have n15 : L15.length = 1024 := by rw [hL15, putN_length]; exact n14
  have HB2_14 : ∀ (u : World), Hid (Calls Tryd.prog 44 #[.int .u64 128, .int .i64 2] u fun e w' => ∃ r, e = .returned r ∧ Own w' u.heap.size r (bytesOf 128 2) ∧ Below u.heap.size u w') := fun u => hide (Bytes_any 128 2 u (by omega) (by omega) (by omega))
  have HP14 : ∀ (a : Option Addr) (c : Nat) (a' : Option Addr) (c' : Nat) (u : World), Sl u a c L14 → Sl u a' c' (bytesOf 128 2) → Hid (Calls Tryd.prog 43 #[.slice a 1024 c, .int .i64 88, .slice a' 2 c'] u fun e w' => ∃ r, e = .returned r ∧ Own w' u.heap.size r L15 ∧ Below u.heap.size u w') := fun a c a' c' u h h' => hide (by
    have h := rput2_any a c L14 a' c' 88 128 u (by rw [n14]; omega) (by rw [n14]; omega) h h'
    rw [n14, ← hL15] at h
    exact h)
  have hfin : puts s ordD l = L15 := by
    unfold puts ordD
    simp only [List.foldl_cons, List.foldl_nil, fpos, fwid, fval, hty]
    rw [hL15, hL14, hL13, hL12, hL11, hL10, hL9, hL8, hL7, hL6, hL5, hL4, hL3, hL2, hL1, hL0]
    rfl
  rw [hfin]
  have HS0 := hide (show Sl w1 a cap L0 by rw [hL0]; exact hs.below hb1)
  have HN0 := hide n0
  have HN1 := hide n1
  have HN2 := hide n2
  have HN3 := hide n3
  have HN4 := hide n4
  have HN5 := hide n5
  have HN6 := hide n6
  have HN7 := hide n7
  have HN8 := hide n8
  have HN9 := hide n9
  have HN10 := hide n10
  have HN11 := hide n11
  have HN12 := hide n12
  have HN13 := hide n13
  have HN14 := hide n14
  have HN15 := hide n15
  obtain ⟨c0, c1, c2, c3, c4, c5, c6, c7⟩ := cells_sp (Blk.new w s.cs 30)
  clear hL15 n15 hL14 n14 hL13 n13 hL12 n12 hL11 n11 hL10 n10 hL9 n9 hL8 n8 hL7 n7 hL6 n6 hL5 n5 hL4 n4 hL3 n3 hL2 n2 hL1 n1 hL0 n0 hfin hl hs hk b0 b1 b2 b3 b4 b5 b6 hb1 hw1
  go_enter Tryd.func15, Tryd.ntmps15
  go_wp2_with fail
  rw [← HW1.out]
  clear c0 c1 c2 c3 c4 c5 c6 c7
  have HC := HP0 a cap w1 HS0.out
  refine HC.out.mono ?_
  rintro e9 y1 ⟨r0, rfl, ho, h⟩
  have hlo := ho
  obtain ⟨a1, k1, rfl, hs1, _⟩ := ho.sl
  rw [HN1.out] at hlo ⊢
  have HS1 := hide hs1
  have HB2 := hide (HB1.out.trans (h.mono HB1.out.size))
  have HI2 := hide (HI1.out.below h)
  clear ho h hs1 hlo HC
  have c1 : y1.cell? ⟨w.heap.size, 1, none⟩ = some (.int .i64 s.blo) := HI2.out.cell 1 _ rfl
  have HC := HP1 a1 k1 y1 HS1.out
  go_wp2_with fail
  clear c1
  refine HC.out.mono ?_
  rintro e9 y2 ⟨r1, rfl, ho, h⟩
  have hlo := ho
  obtain ⟨a2, k2, rfl, hs2, _⟩ := ho.sl
  rw [HN2.out] at hlo ⊢
  have HS2 := hide hs2
  have HB3 := hide (HB2.out.trans (h.mono HB2.out.size))
  have HI3 := hide (HI2.out.below h)
  clear ho h hs2 hlo HC
  have c2 : y2.cell? ⟨w.heap.size, 2, none⟩ = some (.int .i64 s.fbl) := HI3.out.cell 2 _ rfl
  have HC := HP2 a2 k2 y2 HS2.out
  go_wp2_with fail
  clear c2
  refine HC.out.mono ?_
  rintro e9 y3 ⟨r2, rfl, ho, h⟩
  have hlo := ho
  obtain ⟨a3, k3, rfl, hs3, _⟩ := ho.sl
  rw [HN3.out] at hlo ⊢
  have HS3 := hide hs3
  have HB4 := hide (HB3.out.trans (h.mono HB3.out.size))
  have HI4 := hide (HI3.out.below h)
  clear ho h hs3 hlo HC
  have c3 : y3.cell? ⟨w.heap.size, 3, none⟩ = some (.int .i64 s.fin) := HI4.out.cell 3 _ rfl
  have HC := HP3 a3 k3 y3 HS3.out
  go_wp2_with fail
  clear c3
  refine HC.out.mono ?_
  rintro e9 y4 ⟨r3, rfl, ho, h⟩
  have hlo := ho
  obtain ⟨a4, k4, rfl, hs4, _⟩ := ho.sl
  rw [HN4.out] at hlo ⊢
  have HS4 := hide hs4
  have HB5 := hide (HB4.out.trans (h.mono HB4.out.size))
  have HI5 := hide (HI4.out.below h)
  clear ho h hs4 hlo HC
  have HC := HP4 a4 k4 y4 HS4.out
  go_wp2_with fail
  refine HC.out.mono ?_
  rintro e9 y5 ⟨r4, rfl, ho, h⟩
  have hlo := ho
  obtain ⟨a5, k5, rfl, hs5, _⟩ := ho.sl
  rw [HN5.out] at hlo ⊢
  have HS5 := hide hs5
  have HB6 := hide (HB5.out.trans (h.mono HB5.out.size))
  have HI6 := hide (HI5.out.below h)
  clear ho h hs5 hlo HC
  have HC := HP5 a5 k5 y5 HS5.out
  go_wp2_with fail
  refine HC.out.mono ?_
  rintro e9 y6 ⟨r5, rfl, ho, h⟩
  have hlo := ho
  obtain ⟨a6, k6, rfl, hs6, _⟩ := ho.sl
  rw [HN6.out] at hlo ⊢
  have HS6 := hide hs6
  have HB7 := hide (HB6.out.trans (h.mono HB6.out.size))
  have HI7 := hide (HI6.out.below h)
  clear ho h hs6 hlo HC
  have c4 : y6.cell? ⟨w.heap.size, 4, none⟩ = some (.int .i64 s.per) := HI7.out.cell 4 _ rfl
  have HC := HP6 a6 k6 y6 HS6.out
  go_wp2_with fail
  clear c4
  refine HC.out.mono ?_
  rintro e9 y7 ⟨r6, rfl, ho, h⟩
  have hlo := ho
  obtain ⟨a7, k7, rfl, hs7, _⟩ := ho.sl
  rw [HN7.out] at hlo ⊢
  have HS7 := hide hs7
  have HB8 := hide (HB7.out.trans (h.mono HB7.out.size))
  have HI8 := hide (HI7.out.below h)
  clear ho h hs7 hlo HC
  have c4 : y7.cell? ⟨w.heap.size, 4, none⟩ = some (.int .i64 s.per) := HI8.out.cell 4 _ rfl
  have HC := HP7 a7 k7 y7 HS7.out
  go_wp2_with fail
  clear c4
  refine HC.out.mono ?_
  rintro e9 y8 ⟨r7, rfl, ho, h⟩
  have hlo := ho
  obtain ⟨a8, k8, rfl, hs8, _⟩ := ho.sl
  rw [HN8.out] at hlo ⊢
  have HS8 := hide hs8
  have HB9 := hide (HB8.out.trans (h.mono HB8.out.size))
  have HI9 := hide (HI8.out.below h)
  clear ho h hs8 hlo HC
  have c5 : y8.cell? ⟨w.heap.size, 5, none⟩ = some (.int .i64 s.each) := HI9.out.cell 5 _ rfl
  have HC := HP8 a8 k8 y8 HS8.out
  go_wp2_with fail
  clear c5
  refine HC.out.mono ?_
  rintro e9 y9 ⟨r8, rfl, ho, h⟩
  have hlo := ho
  obtain ⟨a9, k9, rfl, hs9, _⟩ := ho.sl
  rw [HN9.out] at hlo ⊢
  have HS9 := hide hs9
  have HB10 := hide (HB9.out.trans (h.mono HB9.out.size))
  have HI10 := hide (HI9.out.below h)
  clear ho h hs9 hlo HC
  have HC := HP9 a9 k9 y9 HS9.out
  go_wp2_with fail
  refine HC.out.mono ?_
  rintro e9 y10 ⟨r9, rfl, ho, h⟩
  have hlo := ho
  obtain ⟨a10, k10, rfl, hs10, _⟩ := ho.sl
  rw [HN10.out] at hlo ⊢
  have HS10 := hide hs10
  have HB11 := hide (HB10.out.trans (h.mono HB10.out.size))
  have HI11 := hide (HI10.out.below h)
  clear ho h hs10 hlo HC
  have c6 : y10.cell? ⟨w.heap.size, 6, none⟩ = some (.int .i64 s.first) := HI11.out.cell 6 _ rfl
  have HC := HP10 a10 k10 y10 HS10.out
  go_wp2_with fail
  clear c6
  refine HC.out.mono ?_
  rintro e9 y11 ⟨r10, rfl, ho, h⟩
  have hlo := ho
  obtain ⟨a11, k11, rfl, hs11, _⟩ := ho.sl
  rw [HN11.out] at hlo ⊢
  have HS11 := hide hs11
  have HB12 := hide (HB11.out.trans (h.mono HB11.out.size))
  have HI12 := hide (HI11.out.below h)
  clear ho h hs11 hlo HC
  have c7 : y11.cell? ⟨w.heap.size, 7, none⟩ = some (.bool true) := by rw [← hty]; exact HI12.out.cell 7 _ rfl
  have HC := HP11 a11 k11 y11 HS11.out
  go_wp2_with fail
  clear c7
  refine HC.out.mono ?_
  rintro e9 y12 ⟨r11, rfl, ho, h⟩
  have hlo := ho
  obtain ⟨a12, k12, rfl, hs12, _⟩ := ho.sl
  rw [HN12.out] at hlo ⊢
  have HS12 := hide hs12
  have HB13 := hide (HB12.out.trans (h.mono HB12.out.size))
  have HI13 := hide (HI12.out.below h)
  clear ho h hs12 hlo HC
  have HC := HP12 a12 k12 y12 HS12.out
  go_wp2_with fail
  refine HC.out.mono ?_
  rintro e9 y13 ⟨r12, rfl, ho, h⟩
  have hlo := ho
  obtain ⟨a13, k13, rfl, hs13, _⟩ := ho.sl
  rw [HN13.out] at hlo ⊢
  have HS13 := hide hs13
  have HB14 := hide (HB13.out.trans (h.mono HB13.out.size))
  have HI14 := hide (HI13.out.below h)
  clear ho h hs13 hlo HC
  go_wp2_with fail
  refine (HB2_13 _).out.mono ?_
  rintro e9 x13 ⟨r2, rfl, ho2, h2⟩
  obtain ⟨a2, c2, rfl, hs2, _⟩ := ho2.sl
  rw [bytesOf_length]
  have HC := HP13 a13 k13 a2 c2 x13 (HS13.out.below h2) hs2
  have HX13 := hide (HB14.out.trans (h2.mono HB14.out.size))
  clear ho2 hs2 h2
  go_wp2_with fail
  refine HC.out.mono ?_
  rintro e9 y14 ⟨r13, rfl, ho, h⟩
  have hlo := ho
  obtain ⟨a14, k14, rfl, hs14, _⟩ := ho.sl
  rw [HN14.out] at hlo ⊢
  have HS14 := hide hs14
  have HB15 := hide (HX13.out.trans (h.mono HX13.out.size))
  clear ho h hs14 hlo HC
  go_wp2_with fail
  refine (HB2_14 _).out.mono ?_
  rintro e9 x14 ⟨r2, rfl, ho2, h2⟩
  obtain ⟨a2, c2, rfl, hs2, _⟩ := ho2.sl
  rw [bytesOf_length]
  have HC := HP14 a14 k14 a2 c2 x14 (HS14.out.below h2) hs2
  have HX14 := hide (HB15.out.trans (h2.mono HB15.out.size))
  clear ho2 hs2 h2
  go_wp2_with fail
  refine HC.out.mono ?_
  rintro e9 y15 ⟨r14, rfl, ho, h⟩
  have hlo := ho
  obtain ⟨a15, k15, rfl, hs15, _⟩ := ho.sl
  rw [HN15.out] at hlo ⊢
  have HS15 := hide hs15
  have HB16 := hide (HX14.out.trans (h.mono HX14.out.size))
  have HF := hide (hlo.mono HX14.out.size)
  clear ho h hs15 hlo HC
  go_wp2_with fail
  go_ret
  exact ⟨_, rfl, HF.out, HB16.out⟩
set_option maxHeartbeats 8000000 in
set_option maxRecDepth 100000 in
theorem rsput_false (s : Sp) (a : Option Addr) (cap : Nat) (l : List Int) (w : World) (hl : l.length = 1024) (hs : Sl w a cap l) (hk : s.chk = 0) (hty : s.ty = false) :
    Calls Tryd.prog 15 #[.agg s.cs, .slice a 1024 cap] w fun e w' => ∃ v, e = .returned v ∧ Own w' w.heap.size v (puts s ordD l) ∧ Below w.heap.size w w' := by
  obtain ⟨w1, hw1⟩ : ∃ w1, w1 = w.alloc (.cells s.cs 30) := ⟨_, rfl⟩
  have hb1 : Below w.heap.size w w1 := by rw [hw1]; exact (Below.refl w.heap.size w).alloc (Nat.le_refl _) _
  have HI1 := hide (show Blk w1 w.heap.size s.cs 30 by rw [hw1]; exact Blk.new w s.cs 30)
  have HW1 := hide hw1
  have HB1 := hide hb1
  obtain ⟨b0, b1, b2, b3, b4, b5, b6⟩ := Sp.nums hk
  obtain ⟨L0, hL0⟩ : ∃ L0, L0 = l := ⟨_, rfl⟩
  have n0 : L0.length = 1024 := by rw [hL0]; exact hl
  obtain ⟨L1, hL1⟩ : ∃ L1, L1 = putN L0 0 s.ino 4 := ⟨_, rfl⟩
  have n1 : L1.length = 1024 := by rw [hL1, putN_length]; exact n0
  have HP0 : ∀ (a : Option Addr) (c : Nat) (u : World), Sl u a c L0 → Hid (Calls Tryd.prog 42 #[.slice a 1024 c, .int .i64 0, .int .i64 (s.ino)] u fun e w' => ∃ r, e = .returned r ∧ Own w' u.heap.size r L1 ∧ Below u.heap.size u w') := fun a c u h => hide (by
    have h := word_any a c L0 0 (s.ino) u (by rw [n0]; omega) (by rw [n0]; omega) h (by omega) (by omega)
    rw [n0, ← hL1] at h
    exact h)
  obtain ⟨L2, hL2⟩ : ∃ L2, L2 = putN L1 4 s.blo 4 := ⟨_, rfl⟩
  have n2 : L2.length = 1024 := by rw [hL2, putN_length]; exact n1
  have HP1 : ∀ (a : Option Addr) (c : Nat) (u : World), Sl u a c L1 → Hid (Calls Tryd.prog 42 #[.slice a 1024 c, .int .i64 4, .int .i64 (s.blo)] u fun e w' => ∃ r, e = .returned r ∧ Own w' u.heap.size r L2 ∧ Below u.heap.size u w') := fun a c u h => hide (by
    have h := word_any a c L1 4 (s.blo) u (by rw [n1]; omega) (by rw [n1]; omega) h (by omega) (by omega)
    rw [n1, ← hL2] at h
    exact h)
  obtain ⟨L3, hL3⟩ : ∃ L3, L3 = putN L2 12 s.fbl 4 := ⟨_, rfl⟩
  have n3 : L3.length = 1024 := by rw [hL3, putN_length]; exact n2
  have HP2 : ∀ (a : Option Addr) (c : Nat) (u : World), Sl u a c L2 → Hid (Calls Tryd.prog 42 #[.slice a 1024 c, .int .i64 12, .int .i64 (s.fbl)] u fun e w' => ∃ r, e = .returned r ∧ Own w' u.heap.size r L3 ∧ Below u.heap.size u w') := fun a c u h => hide (by
    have h := word_any a c L2 12 (s.fbl) u (by rw [n2]; omega) (by rw [n2]; omega) h (by omega) (by omega)
    rw [n2, ← hL3] at h
    exact h)
  obtain ⟨L4, hL4⟩ : ∃ L4, L4 = putN L3 16 s.fin 4 := ⟨_, rfl⟩
  have n4 : L4.length = 1024 := by rw [hL4, putN_length]; exact n3
  have HP3 : ∀ (a : Option Addr) (c : Nat) (u : World), Sl u a c L3 → Hid (Calls Tryd.prog 42 #[.slice a 1024 c, .int .i64 16, .int .i64 (s.fin)] u fun e w' => ∃ r, e = .returned r ∧ Own w' u.heap.size r L4 ∧ Below u.heap.size u w') := fun a c u h => hide (by
    have h := word_any a c L3 16 (s.fin) u (by rw [n3]; omega) (by rw [n3]; omega) h (by omega) (by omega)
    rw [n3, ← hL4] at h
    exact h)
  obtain ⟨L5, hL5⟩ : ∃ L5, L5 = putN L4 20 1 4 := ⟨_, rfl⟩
  have n5 : L5.length = 1024 := by rw [hL5, putN_length]; exact n4
  have HP4 : ∀ (a : Option Addr) (c : Nat) (u : World), Sl u a c L4 → Hid (Calls Tryd.prog 42 #[.slice a 1024 c, .int .i64 20, .int .i64 1] u fun e w' => ∃ r, e = .returned r ∧ Own w' u.heap.size r L5 ∧ Below u.heap.size u w') := fun a c u h => hide (by
    have h := word_any a c L4 20 1 u (by rw [n4]; omega) (by rw [n4]; omega) h (by omega) (by omega)
    rw [n4, ← hL5] at h
    exact h)
  obtain ⟨L6, hL6⟩ : ∃ L6, L6 = putN L5 24 0 4 := ⟨_, rfl⟩
  have n6 : L6.length = 1024 := by rw [hL6, putN_length]; exact n5
  have HP5 : ∀ (a : Option Addr) (c : Nat) (u : World), Sl u a c L5 → Hid (Calls Tryd.prog 42 #[.slice a 1024 c, .int .i64 24, .int .i64 0] u fun e w' => ∃ r, e = .returned r ∧ Own w' u.heap.size r L6 ∧ Below u.heap.size u w') := fun a c u h => hide (by
    have h := word_any a c L5 24 0 u (by rw [n5]; omega) (by rw [n5]; omega) h (by omega) (by omega)
    rw [n5, ← hL6] at h
    exact h)
  obtain ⟨L7, hL7⟩ : ∃ L7, L7 = putN L6 32 s.per 4 := ⟨_, rfl⟩
  have n7 : L7.length = 1024 := by rw [hL7, putN_length]; exact n6
  have HP6 : ∀ (a : Option Addr) (c : Nat) (u : World), Sl u a c L6 → Hid (Calls Tryd.prog 42 #[.slice a 1024 c, .int .i64 32, .int .i64 (s.per)] u fun e w' => ∃ r, e = .returned r ∧ Own w' u.heap.size r L7 ∧ Below u.heap.size u w') := fun a c u h => hide (by
    have h := word_any a c L6 32 (s.per) u (by rw [n6]; omega) (by rw [n6]; omega) h (by omega) (by omega)
    rw [n6, ← hL7] at h
    exact h)
  obtain ⟨L8, hL8⟩ : ∃ L8, L8 = putN L7 36 s.per 4 := ⟨_, rfl⟩
  have n8 : L8.length = 1024 := by rw [hL8, putN_length]; exact n7
  have HP7 : ∀ (a : Option Addr) (c : Nat) (u : World), Sl u a c L7 → Hid (Calls Tryd.prog 42 #[.slice a 1024 c, .int .i64 36, .int .i64 (s.per)] u fun e w' => ∃ r, e = .returned r ∧ Own w' u.heap.size r L8 ∧ Below u.heap.size u w') := fun a c u h => hide (by
    have h := word_any a c L7 36 (s.per) u (by rw [n7]; omega) (by rw [n7]; omega) h (by omega) (by omega)
    rw [n7, ← hL8] at h
    exact h)
  obtain ⟨L9, hL9⟩ : ∃ L9, L9 = putN L8 40 s.each 4 := ⟨_, rfl⟩
  have n9 : L9.length = 1024 := by rw [hL9, putN_length]; exact n8
  have HP8 : ∀ (a : Option Addr) (c : Nat) (u : World), Sl u a c L8 → Hid (Calls Tryd.prog 42 #[.slice a 1024 c, .int .i64 40, .int .i64 (s.each)] u fun e w' => ∃ r, e = .returned r ∧ Own w' u.heap.size r L9 ∧ Below u.heap.size u w') := fun a c u h => hide (by
    have h := word_any a c L8 40 (s.each) u (by rw [n8]; omega) (by rw [n8]; omega) h (by omega) (by omega)
    rw [n8, ← hL9] at h
    exact h)
  obtain ⟨L10, hL10⟩ : ∃ L10, L10 = putN L9 76 1 4 := ⟨_, rfl⟩
  have n10 : L10.length = 1024 := by rw [hL10, putN_length]; exact n9
  have HP9 : ∀ (a : Option Addr) (c : Nat) (u : World), Sl u a c L9 → Hid (Calls Tryd.prog 42 #[.slice a 1024 c, .int .i64 76, .int .i64 1] u fun e w' => ∃ r, e = .returned r ∧ Own w' u.heap.size r L10 ∧ Below u.heap.size u w') := fun a c u h => hide (by
    have h := word_any a c L9 76 1 u (by rw [n9]; omega) (by rw [n9]; omega) h (by omega) (by omega)
    rw [n9, ← hL10] at h
    exact h)
  obtain ⟨L11, hL11⟩ : ∃ L11, L11 = putN L10 84 s.first 4 := ⟨_, rfl⟩
  have n11 : L11.length = 1024 := by rw [hL11, putN_length]; exact n10
  have HP10 : ∀ (a : Option Addr) (c : Nat) (u : World), Sl u a c L10 → Hid (Calls Tryd.prog 42 #[.slice a 1024 c, .int .i64 84, .int .i64 (s.first)] u fun e w' => ∃ r, e = .returned r ∧ Own w' u.heap.size r L11 ∧ Below u.heap.size u w') := fun a c u h => hide (by
    have h := word_any a c L10 84 (s.first) u (by rw [n10]; omega) (by rw [n10]; omega) h (by omega) (by omega)
    rw [n10, ← hL11] at h
    exact h)
  obtain ⟨L12, hL12⟩ : ∃ L12, L12 = putN L11 96 0 4 := ⟨_, rfl⟩
  have n12 : L12.length = 1024 := by rw [hL12, putN_length]; exact n11
  have HP11 : ∀ (a : Option Addr) (c : Nat) (u : World), Sl u a c L11 → Hid (Calls Tryd.prog 42 #[.slice a 1024 c, .int .i64 96, .int .i64 0] u fun e w' => ∃ r, e = .returned r ∧ Own w' u.heap.size r L12 ∧ Below u.heap.size u w') := fun a c u h => hide (by
    have h := word_any a c L11 96 0 u (by rw [n11]; omega) (by rw [n11]; omega) h (by omega) (by omega)
    rw [n11, ← hL12] at h
    exact h)
  obtain ⟨L13, hL13⟩ : ∃ L13, L13 = putN L12 100 0 4 := ⟨_, rfl⟩
  have n13 : L13.length = 1024 := by rw [hL13, putN_length]; exact n12
  have HP12 : ∀ (a : Option Addr) (c : Nat) (u : World), Sl u a c L12 → Hid (Calls Tryd.prog 42 #[.slice a 1024 c, .int .i64 100, .int .i64 0] u fun e w' => ∃ r, e = .returned r ∧ Own w' u.heap.size r L13 ∧ Below u.heap.size u w') := fun a c u h => hide (by
    have h := word_any a c L12 100 0 u (by rw [n12]; omega) (by rw [n12]; omega) h (by omega) (by omega)
    rw [n12, ← hL13] at h
    exact h)
  obtain ⟨L14, hL14⟩ : ∃ L14, L14 = putN L13 56 61267 2 := ⟨_, rfl⟩
  have n14 : L14.length = 1024 := by rw [hL14, putN_length]; exact n13
  have HB2_13 : ∀ (u : World), Hid (Calls Tryd.prog 44 #[.int .u64 61267, .int .i64 2] u fun e w' => ∃ r, e = .returned r ∧ Own w' u.heap.size r (bytesOf 61267 2) ∧ Below u.heap.size u w') := fun u => hide (Bytes_any 61267 2 u (by omega) (by omega) (by omega))
  have HP13 : ∀ (a : Option Addr) (c : Nat) (a' : Option Addr) (c' : Nat) (u : World), Sl u a c L13 → Sl u a' c' (bytesOf 61267 2) → Hid (Calls Tryd.prog 43 #[.slice a 1024 c, .int .i64 56, .slice a' 2 c'] u fun e w' => ∃ r, e = .returned r ∧ Own w' u.heap.size r L14 ∧ Below u.heap.size u w') := fun a c a' c' u h h' => hide (by
    have h := rput2_any a c L13 a' c' 56 61267 u (by rw [n13]; omega) (by rw [n13]; omega) h h'
    rw [n13, ← hL14] at h
    exact h)
  obtain ⟨L15, hL15⟩ : ∃ L15, L15 = putN L14 88 128 2 := ⟨_, rfl⟩
  have n15 : L15.length = 1024 := by rw [hL15, putN_length]; exact n14
  have HB2_14 : ∀ (u : World), Hid (Calls Tryd.prog 44 #[.int .u64 128, .int .i64 2] u fun e w' => ∃ r, e = .returned r ∧ Own w' u.heap.size r (bytesOf 128 2) ∧ Below u.heap.size u w') := fun u => hide (Bytes_any 128 2 u (by omega) (by omega) (by omega))
  have HP14 : ∀ (a : Option Addr) (c : Nat) (a' : Option Addr) (c' : Nat) (u : World), Sl u a c L14 → Sl u a' c' (bytesOf 128 2) → Hid (Calls Tryd.prog 43 #[.slice a 1024 c, .int .i64 88, .slice a' 2 c'] u fun e w' => ∃ r, e = .returned r ∧ Own w' u.heap.size r L15 ∧ Below u.heap.size u w') := fun a c a' c' u h h' => hide (by
    have h := rput2_any a c L14 a' c' 88 128 u (by rw [n14]; omega) (by rw [n14]; omega) h h'
    rw [n14, ← hL15] at h
    exact h)
  have hfin : puts s ordD l = L15 := by
    unfold puts ordD
    simp only [List.foldl_cons, List.foldl_nil, fpos, fwid, fval, hty]
    rw [hL15, hL14, hL13, hL12, hL11, hL10, hL9, hL8, hL7, hL6, hL5, hL4, hL3, hL2, hL1, hL0]
    rfl
  rw [hfin]
  have HS0 := hide (show Sl w1 a cap L0 by rw [hL0]; exact hs.below hb1)
  have HN0 := hide n0
  have HN1 := hide n1
  have HN2 := hide n2
  have HN3 := hide n3
  have HN4 := hide n4
  have HN5 := hide n5
  have HN6 := hide n6
  have HN7 := hide n7
  have HN8 := hide n8
  have HN9 := hide n9
  have HN10 := hide n10
  have HN11 := hide n11
  have HN12 := hide n12
  have HN13 := hide n13
  have HN14 := hide n14
  have HN15 := hide n15
  obtain ⟨c0, c1, c2, c3, c4, c5, c6, c7⟩ := cells_sp (Blk.new w s.cs 30)
  clear hL15 n15 hL14 n14 hL13 n13 hL12 n12 hL11 n11 hL10 n10 hL9 n9 hL8 n8 hL7 n7 hL6 n6 hL5 n5 hL4 n4 hL3 n3 hL2 n2 hL1 n1 hL0 n0 hfin hl hs hk b0 b1 b2 b3 b4 b5 b6 hb1 hw1
  go_enter Tryd.func15, Tryd.ntmps15
  go_wp2_with fail
  rw [← HW1.out]
  clear c0 c1 c2 c3 c4 c5 c6 c7
  have HC := HP0 a cap w1 HS0.out
  refine HC.out.mono ?_
  rintro e9 y1 ⟨r0, rfl, ho, h⟩
  have hlo := ho
  obtain ⟨a1, k1, rfl, hs1, _⟩ := ho.sl
  rw [HN1.out] at hlo ⊢
  have HS1 := hide hs1
  have HB2 := hide (HB1.out.trans (h.mono HB1.out.size))
  have HI2 := hide (HI1.out.below h)
  clear ho h hs1 hlo HC
  have c1 : y1.cell? ⟨w.heap.size, 1, none⟩ = some (.int .i64 s.blo) := HI2.out.cell 1 _ rfl
  have HC := HP1 a1 k1 y1 HS1.out
  go_wp2_with fail
  clear c1
  refine HC.out.mono ?_
  rintro e9 y2 ⟨r1, rfl, ho, h⟩
  have hlo := ho
  obtain ⟨a2, k2, rfl, hs2, _⟩ := ho.sl
  rw [HN2.out] at hlo ⊢
  have HS2 := hide hs2
  have HB3 := hide (HB2.out.trans (h.mono HB2.out.size))
  have HI3 := hide (HI2.out.below h)
  clear ho h hs2 hlo HC
  have c2 : y2.cell? ⟨w.heap.size, 2, none⟩ = some (.int .i64 s.fbl) := HI3.out.cell 2 _ rfl
  have HC := HP2 a2 k2 y2 HS2.out
  go_wp2_with fail
  clear c2
  refine HC.out.mono ?_
  rintro e9 y3 ⟨r2, rfl, ho, h⟩
  have hlo := ho
  obtain ⟨a3, k3, rfl, hs3, _⟩ := ho.sl
  rw [HN3.out] at hlo ⊢
  have HS3 := hide hs3
  have HB4 := hide (HB3.out.trans (h.mono HB3.out.size))
  have HI4 := hide (HI3.out.below h)
  clear ho h hs3 hlo HC
  have c3 : y3.cell? ⟨w.heap.size, 3, none⟩ = some (.int .i64 s.fin) := HI4.out.cell 3 _ rfl
  have HC := HP3 a3 k3 y3 HS3.out
  go_wp2_with fail
  clear c3
  refine HC.out.mono ?_
  rintro e9 y4 ⟨r3, rfl, ho, h⟩
  have hlo := ho
  obtain ⟨a4, k4, rfl, hs4, _⟩ := ho.sl
  rw [HN4.out] at hlo ⊢
  have HS4 := hide hs4
  have HB5 := hide (HB4.out.trans (h.mono HB4.out.size))
  have HI5 := hide (HI4.out.below h)
  clear ho h hs4 hlo HC
  have HC := HP4 a4 k4 y4 HS4.out
  go_wp2_with fail
  refine HC.out.mono ?_
  rintro e9 y5 ⟨r4, rfl, ho, h⟩
  have hlo := ho
  obtain ⟨a5, k5, rfl, hs5, _⟩ := ho.sl
  rw [HN5.out] at hlo ⊢
  have HS5 := hide hs5
  have HB6 := hide (HB5.out.trans (h.mono HB5.out.size))
  have HI6 := hide (HI5.out.below h)
  clear ho h hs5 hlo HC
  have HC := HP5 a5 k5 y5 HS5.out
  go_wp2_with fail
  refine HC.out.mono ?_
  rintro e9 y6 ⟨r5, rfl, ho, h⟩
  have hlo := ho
  obtain ⟨a6, k6, rfl, hs6, _⟩ := ho.sl
  rw [HN6.out] at hlo ⊢
  have HS6 := hide hs6
  have HB7 := hide (HB6.out.trans (h.mono HB6.out.size))
  have HI7 := hide (HI6.out.below h)
  clear ho h hs6 hlo HC
  have c4 : y6.cell? ⟨w.heap.size, 4, none⟩ = some (.int .i64 s.per) := HI7.out.cell 4 _ rfl
  have HC := HP6 a6 k6 y6 HS6.out
  go_wp2_with fail
  clear c4
  refine HC.out.mono ?_
  rintro e9 y7 ⟨r6, rfl, ho, h⟩
  have hlo := ho
  obtain ⟨a7, k7, rfl, hs7, _⟩ := ho.sl
  rw [HN7.out] at hlo ⊢
  have HS7 := hide hs7
  have HB8 := hide (HB7.out.trans (h.mono HB7.out.size))
  have HI8 := hide (HI7.out.below h)
  clear ho h hs7 hlo HC
  have c4 : y7.cell? ⟨w.heap.size, 4, none⟩ = some (.int .i64 s.per) := HI8.out.cell 4 _ rfl
  have HC := HP7 a7 k7 y7 HS7.out
  go_wp2_with fail
  clear c4
  refine HC.out.mono ?_
  rintro e9 y8 ⟨r7, rfl, ho, h⟩
  have hlo := ho
  obtain ⟨a8, k8, rfl, hs8, _⟩ := ho.sl
  rw [HN8.out] at hlo ⊢
  have HS8 := hide hs8
  have HB9 := hide (HB8.out.trans (h.mono HB8.out.size))
  have HI9 := hide (HI8.out.below h)
  clear ho h hs8 hlo HC
  have c5 : y8.cell? ⟨w.heap.size, 5, none⟩ = some (.int .i64 s.each) := HI9.out.cell 5 _ rfl
  have HC := HP8 a8 k8 y8 HS8.out
  go_wp2_with fail
  clear c5
  refine HC.out.mono ?_
  rintro e9 y9 ⟨r8, rfl, ho, h⟩
  have hlo := ho
  obtain ⟨a9, k9, rfl, hs9, _⟩ := ho.sl
  rw [HN9.out] at hlo ⊢
  have HS9 := hide hs9
  have HB10 := hide (HB9.out.trans (h.mono HB9.out.size))
  have HI10 := hide (HI9.out.below h)
  clear ho h hs9 hlo HC
  have HC := HP9 a9 k9 y9 HS9.out
  go_wp2_with fail
  refine HC.out.mono ?_
  rintro e9 y10 ⟨r9, rfl, ho, h⟩
  have hlo := ho
  obtain ⟨a10, k10, rfl, hs10, _⟩ := ho.sl
  rw [HN10.out] at hlo ⊢
  have HS10 := hide hs10
  have HB11 := hide (HB10.out.trans (h.mono HB10.out.size))
  have HI11 := hide (HI10.out.below h)
  clear ho h hs10 hlo HC
  have c6 : y10.cell? ⟨w.heap.size, 6, none⟩ = some (.int .i64 s.first) := HI11.out.cell 6 _ rfl
  have HC := HP10 a10 k10 y10 HS10.out
  go_wp2_with fail
  clear c6
  refine HC.out.mono ?_
  rintro e9 y11 ⟨r10, rfl, ho, h⟩
  have hlo := ho
  obtain ⟨a11, k11, rfl, hs11, _⟩ := ho.sl
  rw [HN11.out] at hlo ⊢
  have HS11 := hide hs11
  have HB12 := hide (HB11.out.trans (h.mono HB11.out.size))
  have HI12 := hide (HI11.out.below h)
  clear ho h hs11 hlo HC
  have c7 : y11.cell? ⟨w.heap.size, 7, none⟩ = some (.bool false) := by rw [← hty]; exact HI12.out.cell 7 _ rfl
  have HC := HP11 a11 k11 y11 HS11.out
  go_wp2_with fail
  clear c7
  refine HC.out.mono ?_
  rintro e9 y12 ⟨r11, rfl, ho, h⟩
  have hlo := ho
  obtain ⟨a12, k12, rfl, hs12, _⟩ := ho.sl
  rw [HN12.out] at hlo ⊢
  have HS12 := hide hs12
  have HB13 := hide (HB12.out.trans (h.mono HB12.out.size))
  have HI13 := hide (HI12.out.below h)
  clear ho h hs12 hlo HC
  have HC := HP12 a12 k12 y12 HS12.out
  go_wp2_with fail
  refine HC.out.mono ?_
  rintro e9 y13 ⟨r12, rfl, ho, h⟩
  have hlo := ho
  obtain ⟨a13, k13, rfl, hs13, _⟩ := ho.sl
  rw [HN13.out] at hlo ⊢
  have HS13 := hide hs13
  have HB14 := hide (HB13.out.trans (h.mono HB13.out.size))
  have HI14 := hide (HI13.out.below h)
  clear ho h hs13 hlo HC
  go_wp2_with fail
  refine (HB2_13 _).out.mono ?_
  rintro e9 x13 ⟨r2, rfl, ho2, h2⟩
  obtain ⟨a2, c2, rfl, hs2, _⟩ := ho2.sl
  rw [bytesOf_length]
  have HC := HP13 a13 k13 a2 c2 x13 (HS13.out.below h2) hs2
  have HX13 := hide (HB14.out.trans (h2.mono HB14.out.size))
  clear ho2 hs2 h2
  go_wp2_with fail
  refine HC.out.mono ?_
  rintro e9 y14 ⟨r13, rfl, ho, h⟩
  have hlo := ho
  obtain ⟨a14, k14, rfl, hs14, _⟩ := ho.sl
  rw [HN14.out] at hlo ⊢
  have HS14 := hide hs14
  have HB15 := hide (HX13.out.trans (h.mono HX13.out.size))
  clear ho h hs14 hlo HC
  go_wp2_with fail
  refine (HB2_14 _).out.mono ?_
  rintro e9 x14 ⟨r2, rfl, ho2, h2⟩
  obtain ⟨a2, c2, rfl, hs2, _⟩ := ho2.sl
  rw [bytesOf_length]
  have HC := HP14 a14 k14 a2 c2 x14 (HS14.out.below h2) hs2
  have HX14 := hide (HB15.out.trans (h2.mono HB15.out.size))
  clear ho2 hs2 h2
  go_wp2_with fail
  refine HC.out.mono ?_
  rintro e9 y15 ⟨r14, rfl, ho, h⟩
  have hlo := ho
  obtain ⟨a15, k15, rfl, hs15, _⟩ := ho.sl
  rw [HN15.out] at hlo ⊢
  have HS15 := hide hs15
  have HB16 := hide (HX14.out.trans (h.mono HX14.out.size))
  have HF := hide (hlo.mono HX14.out.size)
  clear ho h hs15 hlo HC
  go_wp2_with fail
  go_ret
  exact ⟨_, rfl, HF.out, HB16.out⟩
theorem rsput_any (s : Sp) (a : Option Addr) (cap : Nat) (l : List Int) (w : World) (hl : l.length = 1024) (hs : Sl w a cap l) (hk : s.chk = 0) :
    Calls Tryd.prog 15 #[.agg s.cs, .slice a 1024 cap] w fun e w' => ∃ v, e = .returned v ∧ Own w' w.heap.size v (spB s l 0) ∧ Below w.heap.size w w' := by
  rw [← spB_doc s l (by omega)]
  cases hty : s.ty with
  | true => exact rsput_true s a cap l w hl hs hk hty
  | false => exact rsput_false s a cap l w hl hs hk hty
end Go.Proofs.YtjmajjfknmjifaaDoor.Oct
