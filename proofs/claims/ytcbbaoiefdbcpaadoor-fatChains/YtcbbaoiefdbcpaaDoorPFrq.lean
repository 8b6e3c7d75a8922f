/- What a first sector says: the document's Put. -/
import Derived.Test.YtcbbaoiefdbcpaaDoorPFsl
import Derived.Test.YtcbbaoiefdbcpaaDoorPFbo
namespace Go.Proofs.YtcbbaoiefdbcpaaDoor.Oct
open Go.RowKit

theorem lies_two (w : World) : Lies (w.alloc (.cells #[.int .u8 85, .int .u8 170] 5)) (some ⟨w.heap.size, 0, none⟩) [85, 170] := by
  have h1 : Lies (w.alloc (.cells (([85, 170] : List Int).map (Value.int .u8)).toArray 5)) (some ⟨w.heap.size, 0, none⟩) [85, 170] := by
    refine Lies.mk fun k hk => ?_
    have h := heap_alloc_new w (.cells (([85, 170] : List Int).map (Value.int .u8)).toArray 5)
    unfold World.cell?
    simp only [h]
    match k, hk with
    | 0, _ => rfl
    | 1, _ => rfl
  exact h1

set_option maxHeartbeats 16000000 in
set_option maxRecDepth 100000 in
theorem rput_any (b : Bt) (a0 : Option Addr) (c0 : Nat) (l : List Int) (w : World) (h5 : l.length = 512) (hs : Sl w a0 c0 l) (hf : b.form = true) (hr : 0 ≤ b.root ∧ b.root ≤ 1000000) :
    Calls Tryd.prog 37 #[.agg b.cs, .slice a0 512 c0] w fun e w' => (∃ a c, e = .returned (.slice a 512 c) ∧ Lies w' a (ps14 b l)) ∧ Below w.heap.size w w' := by
  have hfs := Bt.form_says hf
  have u_each : IntKind.u64.wrap b.each = b.each := by simp [IntKind.wrap, IntKind.signed, IntKind.bits]; omega
  have u_ahead : IntKind.u64.wrap b.ahead = b.ahead := by simp [IntKind.wrap, IntKind.signed, IntKind.bits]; omega
  have u_tabs : IntKind.u64.wrap b.tabs = b.tabs := by simp [IntKind.wrap, IntKind.signed, IntKind.bits]; omega
  have u_secs : IntKind.u64.wrap b.secs = b.secs := by simp [IntKind.wrap, IntKind.signed, IntKind.bits]; omega
  have u_long : IntKind.u64.wrap b.long = b.long := by simp [IntKind.wrap, IntKind.signed, IntKind.bits]; omega
  have u_root : IntKind.u64.wrap b.root = b.root := by simp [IntKind.wrap, IntKind.signed, IntKind.bits]; omega
  have u_info : IntKind.u64.wrap b.info = b.info := by simp [IntKind.wrap, IntKind.signed, IntKind.bits]; omega
  have u_copy : IntKind.u64.wrap b.copy = b.copy := by simp [IntKind.wrap, IntKind.signed, IntKind.bits]; omega
  obtain ⟨y0, hy0⟩ : ∃ y0, y0 = w.alloc (.cells b.cs 36) := ⟨_, rfl⟩
  have hb0 : Below w.heap.size w y0 := by rw [hy0]; exact (Below.refl _ _).alloc (Nat.le_refl _) _
  have HI := hide (show Blk y0 w.heap.size b.cs 36 by rw [hy0]; exact Blk.new _ _ _)
  have HS0 := hide (show Sl y0 a0 c0 (ps0 b l) from hs.below hb0)
  have HB0 := hide hb0
  have HF := hide hfs
  have HR := hide hr
  have HY := hide hy0
  have H5 := hide h5
  clear hs hb0 hy0 hfs hf hr h5
  go_enter Tryd.func37, Tryd.ntmps37
  go_wp2_with fail
  rw [← HY.out]
  clear HY
  refine (hide (Bytes_any 512 2 y0 (by omega) (by omega) (by omega))).out.mono ?_
  rintro e9 z0 ⟨r0, rfl, hr0, hzb0⟩
  obtain ⟨b0, d0, rfl, hbs0, _⟩ := hr0.sl
  have HW0 := hide (With_any a0 c0 (ps0 b l) b0 d0 (bytesOf 512 2) 11 z0 (by rw [(psP0_len b l H5.out)]; omega) (by rw [bytesOf_length]; omega) (by rw [(psP0_len b l H5.out), bytesOf_length]; omega) (HS0.out.below hzb0) hbs0)
  rw [(psP0_len b l H5.out), bytesOf_length] at HW0
  rw [bytesOf_length]
  have HI := hide (HI.out.below hzb0)
  have HBz0 := hide (HB0.out.trans (hzb0.mono HB0.out.size))
  clear hr0 hzb0 hbs0
  push_cast at HW0
  go_wp2_with fail
  refine HW0.out.mono ?_
  rintro e9 y1 ⟨v1, rfl, ho1, hb1⟩
  have hq1 : Own y1 z0.heap.size v1 (ps1 b l) := ho1
  obtain ⟨a1, c1, hv1, hs1, _⟩ := hq1.sl
  rw [psP1_len b l H5.out] at hv1
  subst hv1
  have HS1 := hide hs1
  have HI := hide (HI.out.below hb1)
  have HB1 := hide (HBz0.out.trans (hb1.mono HBz0.out.size))
  clear ho1 hb1 hq1 hs1 HW0 HBz0 HB0 HS0
  obtain ⟨k0, k1, k2, k3, k4, k5, k6, k7⟩ := cells_of HI.out
  go_wp2_with fail
  clear k0 k1 k2 k3 k4 k5 k6 k7
  refine (hide (Bytes_any (b.each) 1 y1 (by omega) (by have := HF.out; have := HR.out; omega) (by have := HF.out; have := HR.out; omega))).out.mono ?_
  rintro e9 z1 ⟨r1, rfl, hr1, hzb1⟩
  obtain ⟨b1, d1, rfl, hbs1, _⟩ := hr1.sl
  have HW1 := hide (With_any a1 c1 (ps1 b l) b1 d1 (bytesOf b.each 1) 13 z1 (by rw [(psP1_len b l H5.out)]; omega) (by rw [bytesOf_length]; omega) (by rw [(psP1_len b l H5.out), bytesOf_length]; omega) (HS1.out.below hzb1) hbs1)
  rw [(psP1_len b l H5.out), bytesOf_length] at HW1
  rw [bytesOf_length]
  have HI := hide (HI.out.below hzb1)
  have HBz1 := hide (HB1.out.trans (hzb1.mono HB1.out.size))
  clear hr1 hzb1 hbs1
  push_cast at HW1
  go_wp2_with fail
  refine HW1.out.mono ?_
  rintro e9 y2 ⟨v2, rfl, ho2, hb2⟩
  have hq2 : Own y2 z1.heap.size v2 (ps2 b l) := ho2
  obtain ⟨a2, c2, hv2, hs2, _⟩ := hq2.sl
  rw [psP2_len b l H5.out] at hv2
  subst hv2
  have HS2 := hide hs2
  have HI := hide (HI.out.below hb2)
  have HB2 := hide (HBz1.out.trans (hb2.mono HBz1.out.size))
  clear ho2 hb2 hq2 hs2 HW1 HBz1 HB1 HS1
  obtain ⟨k0, k1, k2, k3, k4, k5, k6, k7⟩ := cells_of HI.out
  go_wp2_with fail
  clear k0 k1 k2 k3 k4 k5 k6 k7
  refine (hide (Bytes_any (b.ahead) 2 y2 (by omega) (by have := HF.out; have := HR.out; omega) (by have := HF.out; have := HR.out; omega))).out.mono ?_
  rintro e9 z2 ⟨r2, rfl, hr2, hzb2⟩
  obtain ⟨b2, d2, rfl, hbs2, _⟩ := hr2.sl
  have HW2 := hide (With_any a2 c2 (ps2 b l) b2 d2 (bytesOf b.ahead 2) 14 z2 (by rw [(psP2_len b l H5.out)]; omega) (by rw [bytesOf_length]; omega) (by rw [(psP2_len b l H5.out), bytesOf_length]; omega) (HS2.out.below hzb2) hbs2)
  rw [(psP2_len b l H5.out), bytesOf_length] at HW2
  rw [bytesOf_length]
  have HI := hide (HI.out.below hzb2)
  have HBz2 := hide (HB2.out.trans (hzb2.mono HB2.out.size))
  clear hr2 hzb2 hbs2
  push_cast at HW2
  go_wp2_with fail
  refine HW2.out.mono ?_
  rintro e9 y3 ⟨v3, rfl, ho3, hb3⟩
  have hq3 : Own y3 z2.heap.size v3 (ps3 b l) := ho3
  obtain ⟨a3, c3, hv3, hs3, _⟩ := hq3.sl
  rw [psP3_len b l H5.out] at hv3
  subst hv3
  have HS3 := hide hs3
  have HI := hide (HI.out.below hb3)
  have HB3 := hide (HBz2.out.trans (hb3.mono HBz2.out.size))
  clear ho3 hb3 hq3 hs3 HW2 HBz2 HB2 HS2
  obtain ⟨k0, k1, k2, k3, k4, k5, k6, k7⟩ := cells_of HI.out
  go_wp2_with fail
  clear k0 k1 k2 k3 k4 k5 k6 k7
  refine (hide (Bytes_any (b.tabs) 1 y3 (by omega) (by have := HF.out; have := HR.out; omega) (by have := HF.out; have := HR.out; omega))).out.mono ?_
  rintro e9 z3 ⟨r3, rfl, hr3, hzb3⟩
  obtain ⟨b3, d3, rfl, hbs3, _⟩ := hr3.sl
  have HW3 := hide (With_any a3 c3 (ps3 b l) b3 d3 (bytesOf b.tabs 1) 16 z3 (by rw [(psP3_len b l H5.out)]; omega) (by rw [bytesOf_length]; omega) (by rw [(psP3_len b l H5.out), bytesOf_length]; omega) (HS3.out.below hzb3) hbs3)
  rw [(psP3_len b l H5.out), bytesOf_length] at HW3
  rw [bytesOf_length]
  have HI := hide (HI.out.below hzb3)
  have HBz3 := hide (HB3.out.trans (hzb3.mono HB3.out.size))
  clear hr3 hzb3 hbs3
  push_cast at HW3
  go_wp2_with fail
  refine HW3.out.mono ?_
  rintro e9 y4 ⟨v4, rfl, ho4, hb4⟩
  have hq4 : Own y4 z3.heap.size v4 (ps4 b l) := ho4
  obtain ⟨a4, c4, hv4, hs4, _⟩ := hq4.sl
  rw [psP4_len b l H5.out] at hv4
  subst hv4
  have HS4 := hide hs4
  have HI := hide (HI.out.below hb4)
  have HB4 := hide (HBz3.out.trans (hb4.mono HBz3.out.size))
  clear ho4 hb4 hq4 hs4 HW3 HBz3 HB3 HS3
  go_wp2_with fail
  have HZ4 : Hid (Calls Tryd.prog 36 #[.int .i64 4] y4 fun e w' => ∃ v, e = .returned v ∧ Own w' y4.heap.size v (List.replicate 4 0) ∧ Below y4.heap.size y4 w') := hide (Zeros_any 4 y4 (by omega))
  refine HZ4.out.mono ?_
  rintro e9 z4 ⟨r4, rfl, hr4, hzb4⟩
  obtain ⟨b4, d4, rfl, hbs4, _⟩ := hr4.sl
  have HW4 := hide (With_any a4 c4 (ps4 b l) b4 d4 (List.replicate 4 0) 17 z4 (by rw [(psP4_len b l H5.out)]; omega) (by rw [List.length_replicate]; omega) (by rw [(psP4_len b l H5.out), List.length_replicate]; omega) (HS4.out.below hzb4) hbs4)
  rw [(psP4_len b l H5.out), List.length_replicate] at HW4
  rw [List.length_replicate]
  have HI := hide (HI.out.below hzb4)
  have HBz4 := hide (HB4.out.trans (hzb4.mono HB4.out.size))
  clear hr4 hzb4 hbs4
  rw [show ((17 : Nat) : Int) = 17 from rfl] at HW4
  go_wp2_with fail
  refine HW4.out.mono ?_
  rintro e9 y5 ⟨v5, rfl, ho5, hb5⟩
  have hq5 : Own y5 z4.heap.size v5 (ps5 b l) := ho5
  obtain ⟨a5, c5, hv5, hs5, _⟩ := hq5.sl
  rw [psP5_len b l H5.out] at hv5
  subst hv5
  have HS5 := hide hs5
  have HI := hide (HI.out.below hb5)
  have HB5 := hide (HBz4.out.trans (hb5.mono HBz4.out.size))
  clear ho5 hb5 hq5 hs5 HW4 HBz4 HB4 HS4
  go_wp2_with fail
  have HZ5 : Hid (Calls Tryd.prog 36 #[.int .i64 2] y5 fun e w' => ∃ v, e = .returned v ∧ Own w' y5.heap.size v (List.replicate 2 0) ∧ Below y5.heap.size y5 w') := hide (Zeros_any 2 y5 (by omega))
  refine HZ5.out.mono ?_
  rintro e9 z5 ⟨r5, rfl, hr5, hzb5⟩
  obtain ⟨b5, d5, rfl, hbs5, _⟩ := hr5.sl
  have HW5 := hide (With_any a5 c5 (ps5 b l) b5 d5 (List.replicate 2 0) 22 z5 (by rw [(psP5_len b l H5.out)]; omega) (by rw [List.length_replicate]; omega) (by rw [(psP5_len b l H5.out), List.length_replicate]; omega) (HS5.out.below hzb5) hbs5)
  rw [(psP5_len b l H5.out), List.length_replicate] at HW5
  rw [List.length_replicate]
  have HI := hide (HI.out.below hzb5)
  have HBz5 := hide (HB5.out.trans (hzb5.mono HB5.out.size))
  clear hr5 hzb5 hbs5
  rw [show ((22 : Nat) : Int) = 22 from rfl] at HW5
  go_wp2_with fail
  refine HW5.out.mono ?_
  rintro e9 y6 ⟨v6, rfl, ho6, hb6⟩
  have hq6 : Own y6 z5.heap.size v6 (ps6 b l) := ho6
  obtain ⟨a6, c6, hv6, hs6, _⟩ := hq6.sl
  rw [psP6_len b l H5.out] at hv6
  subst hv6
  have HS6 := hide hs6
  have HI := hide (HI.out.below hb6)
  have HB6 := hide (HBz5.out.trans (hb6.mono HBz5.out.size))
  clear ho6 hb6 hq6 hs6 HW5 HBz5 HB5 HS5
  obtain ⟨k0, k1, k2, k3, k4, k5, k6, k7⟩ := cells_of HI.out
  go_wp2_with fail
  clear k0 k1 k2 k3 k4 k5 k6 k7
  refine (hide (Bytes_any (b.secs) 4 y6 (by omega) (by have := HF.out; have := HR.out; omega) (by have := HF.out; have := HR.out; omega))).out.mono ?_
  rintro e9 z6 ⟨r6, rfl, hr6, hzb6⟩
  obtain ⟨b6, d6, rfl, hbs6, _⟩ := hr6.sl
  have HW6 := hide (With_any a6 c6 (ps6 b l) b6 d6 (bytesOf b.secs 4) 32 z6 (by rw [(psP6_len b l H5.out)]; omega) (by rw [bytesOf_length]; omega) (by rw [(psP6_len b l H5.out), bytesOf_length]; omega) (HS6.out.below hzb6) hbs6)
  rw [(psP6_len b l H5.out), bytesOf_length] at HW6
  rw [bytesOf_length]
  have HI := hide (HI.out.below hzb6)
  have HBz6 := hide (HB6.out.trans (hzb6.mono HB6.out.size))
  clear hr6 hzb6 hbs6
  push_cast at HW6
  go_wp2_with fail
  refine HW6.out.mono ?_
  rintro e9 y7 ⟨v7, rfl, ho7, hb7⟩
  have hq7 : Own y7 z6.heap.size v7 (ps7 b l) := ho7
  obtain ⟨a7, c7, hv7, hs7, _⟩ := hq7.sl
  rw [psP7_len b l H5.out] at hv7
  subst hv7
  have HS7 := hide hs7
  have HI := hide (HI.out.below hb7)
  have HB7 := hide (HBz6.out.trans (hb7.mono HBz6.out.size))
  clear ho7 hb7 hq7 hs7 HW6 HBz6 HB6 HS6
  obtain ⟨k0, k1, k2, k3, k4, k5, k6, k7⟩ := cells_of HI.out
  go_wp2_with fail
  clear k0 k1 k2 k3 k4 k5 k6 k7
  refine (hide (Bytes_any (b.long) 4 y7 (by omega) (by have := HF.out; have := HR.out; omega) (by have := HF.out; have := HR.out; omega))).out.mono ?_
  rintro e9 z7 ⟨r7, rfl, hr7, hzb7⟩
  obtain ⟨b7, d7, rfl, hbs7, _⟩ := hr7.sl
  have HW7 := hide (With_any a7 c7 (ps7 b l) b7 d7 (bytesOf b.long 4) 36 z7 (by rw [(psP7_len b l H5.out)]; omega) (by rw [bytesOf_length]; omega) (by rw [(psP7_len b l H5.out), bytesOf_length]; omega) (HS7.out.below hzb7) hbs7)
  rw [(psP7_len b l H5.out), bytesOf_length] at HW7
  rw [bytesOf_length]
  have HI := hide (HI.out.below hzb7)
  have HBz7 := hide (HB7.out.trans (hzb7.mono HB7.out.size))
  clear hr7 hzb7 hbs7
  push_cast at HW7
  go_wp2_with fail
  refine HW7.out.mono ?_
  rintro e9 y8 ⟨v8, rfl, ho8, hb8⟩
  have hq8 : Own y8 z7.heap.size v8 (ps8 b l) := ho8
  obtain ⟨a8, c8, hv8, hs8, _⟩ := hq8.sl
  rw [psP8_len b l H5.out] at hv8
  subst hv8
  have HS8 := hide hs8
  have HI := hide (HI.out.below hb8)
  have HB8 := hide (HBz7.out.trans (hb8.mono HBz7.out.size))
  clear ho8 hb8 hq8 hs8 HW7 HBz7 HB7 HS7
  go_wp2_with fail
  have HZ8 : Hid (Calls Tryd.prog 36 #[.int .i64 4] y8 fun e w' => ∃ v, e = .returned v ∧ Own w' y8.heap.size v (List.replicate 4 0) ∧ Below y8.heap.size y8 w') := hide (Zeros_any 4 y8 (by omega))
  refine HZ8.out.mono ?_
  rintro e9 z8 ⟨r8, rfl, hr8, hzb8⟩
  obtain ⟨b8, d8, rfl, hbs8, _⟩ := hr8.sl
  have HW8 := hide (With_any a8 c8 (ps8 b l) b8 d8 (List.replicate 4 0) 40 z8 (by rw [(psP8_len b l H5.out)]; omega) (by rw [List.length_replicate]; omega) (by rw [(psP8_len b l H5.out), List.length_replicate]; omega) (HS8.out.below hzb8) hbs8)
  rw [(psP8_len b l H5.out), List.length_replicate] at HW8
  rw [List.length_replicate]
  have HI := hide (HI.out.below hzb8)
  have HBz8 := hide (HB8.out.trans (hzb8.mono HB8.out.size))
  clear hr8 hzb8 hbs8
  rw [show ((40 : Nat) : Int) = 40 from rfl] at HW8
  go_wp2_with fail
  refine HW8.out.mono ?_
  rintro e9 y9 ⟨v9, rfl, ho9, hb9⟩
  have hq9 : Own y9 z8.heap.size v9 (ps9 b l) := ho9
  obtain ⟨a9, c9, hv9, hs9, _⟩ := hq9.sl
  rw [psP9_len b l H5.out] at hv9
  subst hv9
  have HS9 := hide hs9
  have HI := hide (HI.out.below hb9)
  have HB9 := hide (HBz8.out.trans (hb9.mono HBz8.out.size))
  clear ho9 hb9 hq9 hs9 HW8 HBz8 HB8 HS8
  obtain ⟨k0, k1, k2, k3, k4, k5, k6, k7⟩ := cells_of HI.out
  go_wp2_with fail
  clear k0 k1 k2 k3 k4 k5 k6 k7
  refine (hide (Bytes_any (b.root) 4 y9 (by omega) (by have := HF.out; have := HR.out; omega) (by have := HF.out; have := HR.out; omega))).out.mono ?_
  rintro e9 z9 ⟨r9, rfl, hr9, hzb9⟩
  obtain ⟨b9, d9, rfl, hbs9, _⟩ := hr9.sl
  have HW9 := hide (With_any a9 c9 (ps9 b l) b9 d9 (bytesOf b.root 4) 44 z9 (by rw [(psP9_len b l H5.out)]; omega) (by rw [bytesOf_length]; omega) (by rw [(psP9_len b l H5.out), bytesOf_length]; omega) (HS9.out.below hzb9) hbs9)
  rw [(psP9_len b l H5.out), bytesOf_length] at HW9
  rw [bytesOf_length]
  have HI := hide (HI.out.below hzb9)
  have HBz9 := hide (HB9.out.trans (hzb9.mono HB9.out.size))
  clear hr9 hzb9 hbs9
  push_cast at HW9
  go_wp2_with fail
  refine HW9.out.mono ?_
  rintro e9 y10 ⟨v10, rfl, ho10, hb10⟩
  have hq10 : Own y10 z9.heap.size v10 (ps10 b l) := ho10
  obtain ⟨a10, c10, hv10, hs10, _⟩ := hq10.sl
  rw [psP10_len b l H5.out] at hv10
  subst hv10
  have HS10 := hide hs10
  have HI := hide (HI.out.below hb10)
  have HB10 := hide (HBz9.out.trans (hb10.mono HBz9.out.size))
  clear ho10 hb10 hq10 hs10 HW9 HBz9 HB9 HS9
  obtain ⟨k0, k1, k2, k3, k4, k5, k6, k7⟩ := cells_of HI.out
  go_wp2_with fail
  clear k0 k1 k2 k3 k4 k5 k6 k7
  refine (hide (Bytes_any (b.info) 2 y10 (by omega) (by have := HF.out; have := HR.out; omega) (by have := HF.out; have := HR.out; omega))).out.mono ?_
  rintro e9 z10 ⟨r10, rfl, hr10, hzb10⟩
  obtain ⟨b10, d10, rfl, hbs10, _⟩ := hr10.sl
  have HW10 := hide (With_any a10 c10 (ps10 b l) b10 d10 (bytesOf b.info 2) 48 z10 (by rw [(psP10_len b l H5.out)]; omega) (by rw [bytesOf_length]; omega) (by rw [(psP10_len b l H5.out), bytesOf_length]; omega) (HS10.out.below hzb10) hbs10)
  rw [(psP10_len b l H5.out), bytesOf_length] at HW10
  rw [bytesOf_length]
  have HI := hide (HI.out.below hzb10)
  have HBz10 := hide (HB10.out.trans (hzb10.mono HB10.out.size))
  clear hr10 hzb10 hbs10
  push_cast at HW10
  go_wp2_with fail
  refine HW10.out.mono ?_
  rintro e9 y11 ⟨v11, rfl, ho11, hb11⟩
  have hq11 : Own y11 z10.heap.size v11 (ps11 b l) := ho11
  obtain ⟨a11, c11, hv11, hs11, _⟩ := hq11.sl
  rw [psP11_len b l H5.out] at hv11
  subst hv11
  have HS11 := hide hs11
  have HI := hide (HI.out.below hb11)
  have HB11 := hide (HBz10.out.trans (hb11.mono HBz10.out.size))
  clear ho11 hb11 hq11 hs11 HW10 HBz10 HB10 HS10
  obtain ⟨k0, k1, k2, k3, k4, k5, k6, k7⟩ := cells_of HI.out
  go_wp2_with fail
  clear k0 k1 k2 k3 k4 k5 k6 k7
  refine (hide (Bytes_any (b.copy) 2 y11 (by omega) (by have := HF.out; have := HR.out; omega) (by have := HF.out; have := HR.out; omega))).out.mono ?_
  rintro e9 z11 ⟨r11, rfl, hr11, hzb11⟩
  obtain ⟨b11, d11, rfl, hbs11, _⟩ := hr11.sl
  have HW11 := hide (With_any a11 c11 (ps11 b l) b11 d11 (bytesOf b.copy 2) 50 z11 (by rw [(psP11_len b l H5.out)]; omega) (by rw [bytesOf_length]; omega) (by rw [(psP11_len b l H5.out), bytesOf_length]; omega) (HS11.out.below hzb11) hbs11)
  rw [(psP11_len b l H5.out), bytesOf_length] at HW11
  rw [bytesOf_length]
  have HI := hide (HI.out.below hzb11)
  have HBz11 := hide (HB11.out.trans (hzb11.mono HB11.out.size))
  clear hr11 hzb11 hbs11
  push_cast at HW11
  go_wp2_with fail
  refine HW11.out.mono ?_
  rintro e9 y12 ⟨v12, rfl, ho12, hb12⟩
  have hq12 : Own y12 z11.heap.size v12 (ps12 b l) := ho12
  obtain ⟨a12, c12, hv12, hs12, _⟩ := hq12.sl
  rw [psP12_len b l H5.out] at hv12
  subst hv12
  have HS12 := hide hs12
  have HI := hide (HI.out.below hb12)
  have HB12 := hide (HBz11.out.trans (hb12.mono HBz11.out.size))
  clear ho12 hb12 hq12 hs12 HW11 HBz11 HB11 HS11
  have hcv := Go.Lib.run_convert_bytes_const y12 26 5 #[.int .u8 70, .int .u8 65, .int .u8 84, .int .u8 51, .int .u8 50, .int .u8 32, .int .u8 32, .int .u8 32] 8 8 Tryd.underlying26 Tryd.underlying5
  obtain ⟨z12, hz12⟩ : ∃ z, z = y12.alloc (.cells #[.int .u8 70, .int .u8 65, .int .u8 84, .int .u8 51, .int .u8 50, .int .u8 32, .int .u8 32, .int .u8 32] 5 (8, 9)) := ⟨_, rfl⟩
  have hbs12 : Sl z12 (some ⟨y12.heap.size, 0, none⟩) 8 nmB := ⟨by decide, by unfold maxLen; decide, (fun h => by cases h), by rw [hz12]; exact lies_nm y12⟩
  have hzb12 : Below y12.heap.size y12 z12 := by rw [hz12]; exact (Below.refl _ _).alloc (Nat.le_refl _) _
  have HW12 := hide (With_any a12 c12 (ps12 b l) (some ⟨y12.heap.size, 0, none⟩) 8 nmB 82 z12 (by rw [(psP12_len b l H5.out)]; omega) (by rw [nmB_len]; omega) (by rw [(psP12_len b l H5.out), nmB_len]; omega) (HS12.out.below hzb12) hbs12)
  rw [(psP12_len b l H5.out), nmB_len] at HW12
  have HI := hide (HI.out.below hzb12)
  have HBz12 := hide (HB12.out.trans (hzb12.mono HB12.out.size))
  have HZ12 := hide hz12
  clear hzb12 hbs12 hz12
  push_cast at HW12
  go_wp2_with fail
  rw [← HZ12.out]
  clear hcv
  refine HW12.out.mono ?_
  rintro e9 y13 ⟨v13, rfl, ho13, hb13⟩
  have hq13 : Own y13 z12.heap.size v13 (ps13 b l) := ho13
  obtain ⟨a13, c13, hv13, hs13, _⟩ := hq13.sl
  rw [psP13_len b l H5.out] at hv13
  subst hv13
  have HS13 := hide hs13
  have HI := hide (HI.out.below hb13)
  have HB13 := hide (HBz12.out.trans (hb13.mono HBz12.out.size))
  clear ho13 hb13 hq13 hs13 HW12 HBz12 HB12 HS12
  obtain ⟨z13, hz13⟩ : ∃ z, z = y13.alloc (.cells #[.int .u8 85, .int .u8 170] 5) := ⟨_, rfl⟩
  have hbs13 : Sl z13 (some ⟨y13.heap.size, 0, none⟩) 2 [85, 170] := ⟨by decide, by unfold maxLen; decide, (fun h => by cases h), by rw [hz13]; exact lies_two y13⟩
  have hzb13 : Below y13.heap.size y13 z13 := by rw [hz13]; exact (Below.refl _ _).alloc (Nat.le_refl _) _
  have HW13 := hide (With_any a13 c13 (ps13 b l) (some ⟨y13.heap.size, 0, none⟩) 2 [85, 170] 510 z13 (by rw [(psP13_len b l H5.out)]; omega) (by rw [show ([85, 170] : List Int).length = 2 from rfl]; omega) (by rw [(psP13_len b l H5.out), show ([85, 170] : List Int).length = 2 from rfl]; omega) (HS13.out.below hzb13) hbs13)
  rw [(psP13_len b l H5.out), show ([85, 170] : List Int).length = 2 from rfl] at HW13
  have HI := hide (HI.out.below hzb13)
  have HBz13 := hide (HB13.out.trans (hzb13.mono HB13.out.size))
  have HZ13 := hide hz13
  clear hzb13 hbs13 hz13
  push_cast at HW13
  go_wp2_with fail
  rw [← HZ13.out]
  refine HW13.out.mono ?_
  rintro e9 y14 ⟨v14, rfl, ho14, hb14⟩
  have hq14 : Own y14 z13.heap.size v14 (ps14 b l) := ho14
  obtain ⟨a14, c14, hv14, hs14, _⟩ := hq14.sl
  rw [psP14_len b l H5.out] at hv14
  subst hv14
  have HS14 := hide hs14
  have HI := hide (HI.out.below hb14)
  have HB14 := hide (HBz13.out.trans (hb14.mono HBz13.out.size))
  clear ho14 hb14 hq14 hs14 HW13 HBz13 HB13 HS13
  go_wp2_with fail
  go_ret
  exact ⟨⟨a14, c14, rfl, HS14.out.lies⟩, HB14.out⟩
end Go.Proofs.YtcbbaoiefdbcpaaDoor.Oct
