/- MbrPuts, for all bytes, places and entries: an entry that is written into a sector stands there, and nothing else is changed; one that doesn't fit isn't written (no condition). -/
import Derived.Test.YtgpggohkapdjpaaMbu
import Derived.Test.YtgpggohkapdjpaaMbx
import Derived.Test.YtgpggohkapdjpaaRows
import Derived.Deep.RegionHeld3
namespace Go.Proofs.Ytgpggohkapdjpaa.Oct
open Go.RowKit Go.ChangeShapes Go.WideShapes Go.ChangeAt

set_option maxHeartbeats 16000000 in
set_option maxRecDepth 100000 in
theorem mputs_walk (a : Option Addr) (cap : Nat) (l : List Int) (i x1 x2 x3 : Int) (w : World) (hby : Byts l) (hs : Sl w a cap l) :
    Calls Try.prog 4 #[.slice a l.length cap, .int .i64 i, .agg #[.int .i64 x1, .int .i64 x2, .int .i64 x3]] w fun e w' => e = .returned (.bool true) ∧ Below w.heap.size w w' := by
  have HCh := fun u => hide (chained_any sort_says u)
  obtain ⟨w0, hw0⟩ : ∃ w0, w0 = w.alloc (.cells #[.int .i64 x1, .int .i64 x2, .int .i64 x3] 32) := ⟨_, rfl⟩
  have hb0 : Below w.heap.size w w0 := by rw [hw0]; exact (Below.refl _ _).alloc (Nat.le_refl _) _
  have hx0 : Blk w0 w.heap.size #[.int .i64 x1, .int .i64 x2, .int .i64 x3] 32 := by rw [hw0]; exact Blk.new _ _ _
  have HB0 := hide hb0
  have HX0 := hide hx0
  have HW0 := hide hw0
  clear hw0 hx0
  by_cases h1 : 1000 < l.length
  · have hd : (1000 : Int) < (l.length : Int) := by omega
    clear hs hby hb0
    go_enter Try.func4, Try.ntmps4
    go_wp2_with fail
    rw [← HW0.out]
    refine ((HCh _).out).mono ?_
    rintro e9 w1 ⟨rfl, hb1⟩
    have HB1 := hide (HB0.out.trans (hb1.mono HB0.out.size))
    clear hb1
    go_wp2_with fail
    go_ret
    exact ⟨rfl, HB1.out⟩
  · have hd : ¬ (1000 : Int) < (l.length : Int) := by omega
    have HPa := hide (Part_any a cap l w0 (by omega) (hs.below hb0))
    have HSl : Hid (∀ u, Below w.heap.size w u → Sl u a cap l) := hide (fun u hu => hs.below hu)
    have HLi : Hid (∀ u, Below w.heap.size w u → Lies u a l) := hide (fun u hu => hs.lies.below hu)
    have HBy := hide hby
    obtain ⟨n, hn⟩ : ∃ n, n = l.length := ⟨_, rfl⟩
    have HN := hide hn
    rw [← hn] at HPa hd h1 ⊢
    clear hs hby hb0 hn
    by_cases hA : ¬ (n = 512 ∧ 0 ≤ i ∧ i ≤ 3)
    · go_enter Try.func4, Try.ntmps4
      go_wp2_with fail
      rw [← HW0.out]
      refine HPa.out.mono ?_
      rintro e9 w1 ⟨v1, rfl, ho1, hb1⟩
      obtain ⟨a1, c1, hv1, hs1, _⟩ := ho1.sl
      subst hv1
      rw [← HN.out]
      have hx1 := HX0.out.below hb1
      have k0 : w1.cell? ⟨w.heap.size, 0, none⟩ = some (.int .i64 x1) := hx1.cell 0 _ rfl
      have k1 : w1.cell? ⟨w.heap.size, 1, none⟩ = some (.int .i64 x2) := hx1.cell 1 _ rfl
      have k2 : w1.cell? ⟨w.heap.size, 2, none⟩ = some (.int .i64 x3) := hx1.cell 2 _ rfl
      have HL1 := hide hs1.lies
      have HB1 := hide (HB0.out.trans (hb1.mono HB0.out.size))
      have HPu := fun u => hide (put_no4 a1 n c1 i x1 x2 x3 u hA)
      clear ho1 hs1 hb1 hx1
      go_wp2_with fail
      refine ((HPu _).out).mono ?_
      rintro e9 w2 ⟨rfl, hb2⟩
      have HL2 := hide (HL1.out.below hb2)
      have HB2 := hide (HB1.out.trans (hb2.mono HB1.out.size))
      clear hb2
      have h3 : ¬ n = 512 ∨ (n = 512 ∧ i < 0) ∨ (n = 512 ∧ ¬ i < 0 ∧ 3 < i) := by omega
      clear hA HPu
      rcases h3 with h3 | ⟨h3, h4⟩ | ⟨h3, h4, h5⟩
      · have hne : ((n : Int) != 512) = true := by simp; omega
        go_wp2_with fail
        refine ((HCh _).out).mono ?_
        rintro e9 w3 ⟨rfl, hb3⟩
        have HB3 := hide (HB2.out.trans (hb3.mono HB2.out.size))
        have HSa := hide (Same_any a1 a c1 cap l l w3 (HL2.out.below hb3) (HLi.out w3 HB3.out) HBy.out HBy.out)
        rw [← HN.out, decide_eq_true rfl] at HSa
        clear hb3
        go_wp2_with fail
        refine HSa.out.mono ?_
        rintro e9 w4 ⟨rfl, h4⟩
        have h4 := h4.symm
        subst h4
        go_wp2_with fail
        go_ret
        exact ⟨rfl, HB3.out⟩
      all_goals
        subst h3
        go_wp2_with fail
        refine ((HCh _).out).mono ?_
        rintro e9 w3 ⟨rfl, hb3⟩
        have HB3 := hide (HB2.out.trans (hb3.mono HB2.out.size))
        have HSa := hide (Same_any a1 a c1 cap l l w3 (HL2.out.below hb3) (HLi.out w3 HB3.out) HBy.out HBy.out)
        rw [← HN.out, decide_eq_true rfl] at HSa
        clear hb3
        go_wp2_with fail
        refine HSa.out.mono ?_
        rintro e9 w4 ⟨rfl, h4⟩
        have h4 := h4.symm
        subst h4
        go_wp2_with fail
        go_ret
        exact ⟨rfl, HB3.out⟩
    · have hA' : n = 512 ∧ 0 ≤ i ∧ i ≤ 3 := by omega
      obtain ⟨h5, hi0, hi3⟩ := hA'
      subst h5
      obtain ⟨k, hk⟩ : ∃ k : Nat, i = (k : Int) := ⟨i.toNat, by omega⟩
      subst hk
      have hk4 : k < 4 := by omega
      have hi1 : ¬ (k : Int) < 0 := by omega
      have hi2 : ¬ (3 : Int) < (k : Int) := by omega
      have hlf := fun u => hide (lfits_any x1 x2 x3 u)
      cases hfit : fitM x1 x2 x3 with
      | false =>
        rw [hfit] at hlf
        have HPu := fun u (a1 : Option Addr) c1 => hide (put_no20 a1 c1 (k : Int) x1 x2 x3 u (by omega) hfit)
        clear hfit hA
        go_enter Try.func4, Try.ntmps4
        go_wp2_with fail
        rw [← HW0.out]
        refine HPa.out.mono ?_
        rintro e9 w1 ⟨v1, rfl, ho1, hb1⟩
        obtain ⟨a1, c1, hv1, hs1, _⟩ := ho1.sl
        subst hv1
        rw [← HN.out]
        have HX1 := hide (HX0.out.below hb1)
        have k0 : w1.cell? ⟨w.heap.size, 0, none⟩ = some (.int .i64 x1) := HX1.out.cell 0 _ rfl
        have k1 : w1.cell? ⟨w.heap.size, 1, none⟩ = some (.int .i64 x2) := HX1.out.cell 1 _ rfl
        have k2 : w1.cell? ⟨w.heap.size, 2, none⟩ = some (.int .i64 x3) := HX1.out.cell 2 _ rfl
        have HL1 := hide hs1.lies
        have HB1 := hide (HB0.out.trans (hb1.mono HB0.out.size))
        clear ho1 hs1 hb1
        go_wp2_with fail
        refine ((HPu _ a1 c1).out).mono ?_
        rintro e9 w2 ⟨rfl, hb2⟩
        have HL2 := hide (HL1.out.below hb2)
        have HB2 := hide (HB1.out.trans (hb2.mono HB1.out.size))
        have HX2 := hide (HX1.out.below hb2)
        have j0 : w2.cell? ⟨w.heap.size, 0, none⟩ = some (.int .i64 x1) := HX2.out.cell 0 _ rfl
        have j1 : w2.cell? ⟨w.heap.size, 1, none⟩ = some (.int .i64 x2) := HX2.out.cell 1 _ rfl
        have j2 : w2.cell? ⟨w.heap.size, 2, none⟩ = some (.int .i64 x3) := HX2.out.cell 2 _ rfl
        clear hb2 HPu k0 k1 k2
        go_wp2_with fail
        refine ((hlf _).out).mono ?_
        rintro e9 w5 ⟨rfl, hb5⟩
        have HL5 := hide (HL2.out.below hb5)
        have HB5 := hide (HB2.out.trans (hb5.mono HB2.out.size))
        clear hb5 j0 j1 j2
        go_wp2_with fail
        refine ((HCh _).out).mono ?_
        rintro e9 w3 ⟨rfl, hb3⟩
        have HB3 := hide (HB5.out.trans (hb3.mono HB5.out.size))
        have HSa := hide (Same_any a1 a c1 cap l l w3 (HL5.out.below hb3) (HLi.out w3 HB3.out) HBy.out HBy.out)
        rw [← HN.out, decide_eq_true rfl] at HSa
        clear hb3
        go_wp2_with fail
        refine HSa.out.mono ?_
        rintro e9 w4 ⟨rfl, h4⟩
        have h4 := h4.symm
        subst h4
        go_wp2_with fail
        go_ret
        exact ⟨rfl, HB3.out⟩
      | true =>
        rw [hfit] at hlf
        have hx : (0 ≤ x1 ∧ x1 ≤ 255) ∧ (0 ≤ x2 ∧ x2 ≤ 4294967295) ∧ (0 ≤ x3 ∧ x3 ≤ 4294967295) := by
          unfold fitM at hfit
          simp at hfit
          omega
        have HEq := hide (putM_eq l (446 + 16 * k) x1 x2 x3 (by have := HN.out; omega) hx.1 hx.2.1 hx.2.2)
        have e1 : x1 % 256 = x1 := by omega
        have e2 : x2 % p64 = x2 := by unfold p64; omega
        have e3 : x3 % p64 = x3 := by unfold p64; omega
        rw [e1, e2, e3] at HEq
        have hxb : 0 ≤ x1 ∧ x1 ≤ 255 := hx.1
        have hwx1 : IntKind.u8.wrap x1 = x1 := by rw [IntKind.wrap_u8]; omega
        have hwx2 : IntKind.u64.wrap x2 = x2 := by rw [IntKind.wrap_u64]; omega
        have hwx3 : IntKind.u64.wrap x3 = x3 := by rw [IntKind.wrap_u64]; omega
        have HB2y := fun u => hide (Bytes_any x2 4 u (by omega) (by omega) (by omega))
        have HB3y := fun u => hide (Bytes_any x3 4 u (by omega) (by omega) (by omega))
        have hz4 : ((4 : Nat) : Int) = 4 := rfl
        rw [hz4] at HB2y HB3y
        have HPy := fun (g c1 B : Nat) u (hu : Own u B (.slice (some ⟨g, 0, none⟩) 512 c1) l) => hide (put_yes B g c1 l k x1 x2 x3 u HN.out.symm hk4 hfit hu)
        have hm : IntKind.i64.wrap (16 * (k : Int)) = 16 * (k : Int) := by rw [IntKind.wrap_i64]; omega
        obtain ⟨t, ht⟩ : ∃ t : Nat, t = 446 + 16 * k := ⟨_, rfl⟩
        have htc : (446 : Int) + 16 * (k : Int) = (t : Int) := by omega
        have hn1 : IntKind.i64.wrap (t : Int) = (t : Int) := by rw [IntKind.wrap_i64]; omega
        have hn2 : IntKind.i64.wrap ((t : Int) + 4) = (t : Int) + 4 := by rw [IntKind.wrap_i64]; omega
        have hn3 : IntKind.i64.wrap ((t : Int) + 8) = (t : Int) + 8 := by rw [IntKind.wrap_i64]; omega
        rw [← ht] at HEq HPy
        have htl : t + 16 ≤ 512 := by omega
        clear hfit hA hx e1 e2 e3 hz4 ht
        go_enter Try.func4, Try.ntmps4
        go_wp2_with fail
        rw [← HW0.out]
        refine HPa.out.mono ?_
        rintro e9 w1 ⟨v1, rfl, ho1, hb1⟩
        obtain ⟨a1, c1, hv1, hs1, hg1⟩ := ho1.sl
        obtain ⟨g, ha1, hgB, hgl⟩ := hg1 (fun e => by have := HN.out; rw [e] at this; simp at this)
        subst ha1
        subst hv1
        rw [← HN.out] at ho1 ⊢
        have HX1 := hide (HX0.out.below hb1)
        have k0 : w1.cell? ⟨w.heap.size, 0, none⟩ = some (.int .i64 x1) := HX1.out.cell 0 _ rfl
        have k1 : w1.cell? ⟨w.heap.size, 1, none⟩ = some (.int .i64 x2) := HX1.out.cell 1 _ rfl
        have k2 : w1.cell? ⟨w.heap.size, 2, none⟩ = some (.int .i64 x3) := HX1.out.cell 2 _ rfl
        have HB1 := hide (HB0.out.trans (hb1.mono HB0.out.size))
        have HPu := HPy g c1 _ w1 ho1
        have HGn : Hid (w.heap.size ≠ g ∧ w.heap.size < g) := hide (by have := HX0.out.lt; omega)
        clear ho1 hs1 hb1 hg1 hgB hgl HPy HPa
        go_wp2_with fail
        refine HPu.out.mono ?_
        rintro e9 w2 ⟨rfl, ho2, hc2⟩
        have HO2 := hide ho2
        have HX2 := hide (HX1.out.chg hc2 HGn.out.1)
        have HB2 : Hid (Below w.heap.size w w2) := hide (HB1.out.trans (Chg.below w.heap.size hc2 HB1.out.size (fun i hi e => by have := HGn.out.2; omega)))
        have j0 : w2.cell? ⟨w.heap.size, 0, none⟩ = some (.int .i64 x1) := HX2.out.cell 0 _ rfl
        have j1 : w2.cell? ⟨w.heap.size, 1, none⟩ = some (.int .i64 x2) := HX2.out.cell 1 _ rfl
        have j2 : w2.cell? ⟨w.heap.size, 2, none⟩ = some (.int .i64 x3) := HX2.out.cell 2 _ rfl
        clear ho2 hc2 HPu k0 k1 k2
        go_wp2_with fail
        refine ((hlf _).out).mono ?_
        rintro e9 w5 ⟨rfl, hb5⟩
        have HO5 := hide (HO2.out.below hb5)
        have HB5 := hide (HB2.out.trans (hb5.mono HB2.out.size))
        have HX5 := hide (HX2.out.below hb5)
        have i0 : w5.cell? ⟨w.heap.size, 0, none⟩ = some (.int .i64 x1) := HX5.out.cell 0 _ rfl
        have hba := (Below.refl w5.heap.size w5).alloc (Nat.le_refl _) (.cells #[.int .u8 x1] 5)
        have HBa := hide (HB5.out.trans (hba.mono HB5.out.size))
        have HWi := hide (With_any a cap l (some ⟨w5.heap.size, 0, none⟩) 1 [x1] (t + 4) (w5.alloc (.cells #[.int .u8 x1] 5)) (by rw [← HN.out]; omega) (by simp) (by rw [← HN.out]; simp; omega) (HSl.out _ HBa.out) ⟨by simp, by unfold maxLen; omega, fun e => (by cases e), lies_one _ _⟩)
        have hl1 : ([x1] : List Int).length = 1 := rfl
        have ht4 : (((t + 4 : Nat)) : Int) = (t : Int) + 4 := by omega
        rw [hl1, ht4, ← HN.out] at HWi
        have HOa := hide (HO5.out.below hba)
        have HXa := hide (HX5.out.below hba)
        clear hb5 j0 j1 j2 hba hl1 ht4
        go_wp2_with fail
        refine HWi.out.mono ?_
        rintro e9 w6 ⟨v6, rfl, ho6, hb6⟩
        obtain ⟨W1, hW1⟩ : ∃ W1, W1 = over l (t + 4) [x1] := ⟨_, rfl⟩
        rw [← hW1] at ho6
        have hW1l : W1.length = 512 := by rw [hW1, over_length (by rw [← HN.out]; simp; omega), ← HN.out]
        obtain ⟨a6, c6, hv6, hs6, _⟩ := ho6.sl
        subst hv6
        rw [hW1l]
        have HS6 := hide hs6
        have HO6 := hide (HOa.out.below hb6)
        have HX6 := hide (HXa.out.below hb6)
        have HB6 := hide (HBa.out.trans (hb6.mono HBa.out.size))
        have HW1 := hide hW1
        have HW1l := hide hW1l
        have m1 : w6.drew.cell? ⟨w.heap.size, 1, none⟩ = some (.int .i64 x2) := HX6.out.cell 1 _ rfl
        have m2 : w6.drew.cell? ⟨w.heap.size, 2, none⟩ = some (.int .i64 x3) := HX6.out.cell 2 _ rfl
        have hlt6 : w.heap.size < w6.drew.heap.size := HX6.out.lt
        have HB := hide (Below.refl w6.drew.heap.size w6.drew)
        have HWw : ∀ u (a9 : Option Addr) (c9 : Nat), Below w6.drew.heap.size w6.drew u → Sl u a9 c9 (bytesOf x2 4 ++ bytesOf x3 4) → Hid (Calls Try.prog 14 #[.slice a6 512 c6, .int .i64 ((t : Int) + 8), .slice a9 8 c9] u fun e w' => ∃ v, e = .returned v ∧ Own w' u.heap.size v (over W1 (t + 8) (bytesOf x2 4 ++ bytesOf x3 4)) ∧ Below u.heap.size u w') := fun u a9 c9 hu hs9 => hide (by
          have hb8 : (bytesOf x2 4 ++ bytesOf x3 4).length = 8 := by simp [bytesOf_length]
          have := With_any a6 c6 W1 a9 c9 (bytesOf x2 4 ++ bytesOf x3 4) (t + 8) u (by rw [HW1l.out]; omega) (by rw [hb8]; omega) (by rw [HW1l.out, hb8]; omega) (Sl.below (w := w6.drew) ⟨HS6.out.le, HS6.out.max, HS6.out.none, HS6.out.lies.drew⟩ hu) hs9
          rw [HW1l.out, hb8, show (((t + 8 : Nat)) : Int) = (t : Int) + 8 by omega] at this
          exact this)
        have H8 : Hid ((bytesOf x2 4 ++ bytesOf x3 4).length = 8) := hide (by simp [bytesOf_length])
        clear hs6 ho6 hb6 hW1 hW1l HWi i0
        go_wp2_with fail
        go_region_held3 (fun u => u.cell? ⟨w.heap.size, 1, none⟩ = some (.int .i64 x2) ∧ u.cell? ⟨w.heap.size, 2, none⟩ = some (.int .i64 x3)) (first | go_keep | exact ⟨m1, m2⟩ | exact HC.out) (first
          | (go_at_call 15; with_reducible refine ((HB2y _).out).mono ?_; rintro e9 w7 ⟨v7, rfl, ho7, hb7⟩; have HO7 := hide ho7; have HB7s := HB.out.size; have HB := hide (HB.out.trans (hb7.mono HB.out.size)); have HC := hide (And.intro ((HB.out.cell (p := ⟨w.heap.size, 1, none⟩) hlt6).trans m1) ((HB.out.cell (p := ⟨w.heap.size, 2, none⟩) hlt6).trans m2)); clear ho7 hb7)
          | (go_at_call 15; with_reducible refine ((HB3y _).out).mono ?_; rintro e9 w8 ⟨v8, rfl, ho8, hb8⟩; obtain ⟨a8, c8, hv8, hl8, _⟩ := ho8.form; subst hv8; have HO7' := hide (HO7.out.below hb8); have HL8 := hide hl8; have HB := hide (HB.out.trans (hb8.mono HB.out.size)); have HC := hide (And.intro ((HB.out.cell (p := ⟨w.heap.size, 1, none⟩) hlt6).trans m1) ((HB.out.cell (p := ⟨w.heap.size, 2, none⟩) hlt6).trans m2)); clear ho8 hb8 hl8)
          | (go_at_call 14; refine ((HWw _ _ _ HB.out HS9.out).out).mono ?_; rintro e9 w10 ⟨v10, rfl, ho10, hb10⟩; have HO10 := hide ho10; have HB := hide (HB.out.trans (hb10.mono HB.out.size)); have HC := hide (And.intro ((HB.out.cell (p := ⟨w.heap.size, 1, none⟩) hlt6).trans m1) ((HB.out.cell (p := ⟨w.heap.size, 2, none⟩) hlt6).trans m2)); clear ho10 hb10)
          | (refine step_append_bytes (by rfl) _ _ 22 (by rfl) Try.underlying22 info5s w6.drew.heap.size _ (bytesOf x2 4) (by rfl) HO7'.out _ _ _ (bytesOf x3 4) (by rfl) (by rfl) HL8.out (by simp [bytesOf_length]) HB.out.size ?_; intro v9 w9 ho9 hg9; obtain ⟨a9, c9, hv9, hs9, _⟩ := ho9.sl; rw [H8.out] at hv9; subst hv9; have HS9 := hide hs9; have HB := hide (HB.out.grown hg9 HB.out.size HO7'.out.base); have HC := hide (And.intro ((HB.out.cell (p := ⟨w.heap.size, 1, none⟩) hlt6).trans m1) ((HB.out.cell (p := ⟨w.heap.size, 2, none⟩) hlt6).trans m2)); clear ho9 hg9 hs9))
        all_goals
          obtain ⟨a10, c10, hv10, hs10, _⟩ := HO10.out.sl
          have hwl : (over W1 (t + 8) (bytesOf x2 4 ++ bytesOf x3 4)).length = 512 := by rw [over_length (by rw [HW1l.out, H8.out]; omega), HW1l.out]
          rw [hwl] at hv10
          subst hv10
          have HEq2 : Hid (putN (putN (l.set (t + 4) x1) (t + 8) x2 4) (t + 12) x3 4 = over W1 (t + 8) (bytesOf x2 4 ++ bytesOf x3 4)) := hide (by rw [HEq.out, HW1.out])
          have ho11 := HO6.out.drew.below HB.out
          rw [HEq2.out] at ho11
          have hbyt : Byts (over W1 (t + 8) (bytesOf x2 4 ++ bytesOf x3 4)) := by
            rw [HW1.out]
            exact (HBy.out.over (Byts.one x1 (by omega)) _).over ((Byts.bytesOf _ _).append (Byts.bytesOf _ _)) _
          have hlc : ∀ u, Below w10.heap.size w10 u → Lies u (some ⟨g, 0, none⟩) (over W1 (t + 8) (bytesOf x2 4 ++ bytesOf x3 4)) := fun u hu => by
            have h := (ho11.below hu)
            have h2 : Own u w0.heap.size (.slice (some ⟨g, 0, none⟩) (over W1 (t + 8) (bytesOf x2 4 ++ bytesOf x3 4)).length c1) (over W1 (t + 8) (bytesOf x2 4 ++ bytesOf x3 4)) := by rw [hwl]; exact h
            exact Lies.mk h2.lies
          have HBf := hide (HB6.out.drew.trans (HB.out.mono HB6.out.drew.size))
          have HLc := hide hlc
          have HL10 := hide hs10.lies
          have HYt := hide hbyt
          have HWl := hide hwl
          generalize over W1 (t + 8) (bytesOf x2 4 ++ bytesOf x3 4) = F at *
          clear hs10 hwl ho11 hbyt hlc m1 m2
          go_wp2_with fail
          refine ((HCh _).out).mono ?_
          rintro e9 w11 ⟨rfl, hb11⟩
          have HB11 := hide (HBf.out.trans (hb11.mono HBf.out.size))
          have HSa := hide (Same_any (some ⟨g, 0, none⟩) a10 c1 c10 F F w11 (HLc.out w11 hb11) (HL10.out.below hb11) HYt.out HYt.out)
          rw [HWl.out, decide_eq_true rfl] at HSa
          clear hb11
          go_wp2_with fail
          refine HSa.out.mono ?_
          rintro e9 w12 ⟨rfl, h12⟩
          have h12 := h12.symm
          subst h12
          go_wp2_with fail
          go_ret
          exact ⟨rfl, HB11.out⟩
set_option maxRecDepth 100000 in
theorem mbrPuts_lifted (os : Os) (started : os.Started) (H : Type) (enc : TypeId × Value → H) :
    ReturnsInHanded {} Try.checked os 4 .any (Rows.mbrPutsSpec.pre6 enc Try.prog Try.f4 Rows.mbrPutsRow.domain false) (Rows.mbrPutsSpec.post enc Try.prog Try.f4 false true false false) := by
  refine returnsInHanded_of_change (C := Try.checked) own started (by kernel_rfl) Try.func4
    (ChangeSpec.witness6 (enc := enc) (C := Try.checked) false ⟨#[], #[.slice none 0 0, .int .i64 0, .agg #[.int .i64 0, .int .i64 0, .int .i64 0]], []⟩ 8 (by kernel_rfl) (by kernel_rfl) (by kernel_rfl) (by kernel_rfl)) ?_
  intro W base args ds gs before hval0 hW _ _
  have hval : ∀ (j : Nat) t v, Try.f4.params[j]? = some t → args[j]? = some v → Value.okWide Try.prog W .any base t v := hval0
  have hW' := hW
  obtain ⟨p, q, hA0, hV, rfl, hfz, hnd⟩ := hW
  have hA : DataW.TrodAll enc Try.prog W 0 (fun _ => true) true Try.f4.params.toList args.toList ds p := hA0
  rw [Try.params4] at hA hval
  obtain ⟨v0, vs0, d0, ds0, p0, q0, hargs0, rfl, rfl, h0, r0⟩ := trodAll_cons hA
  obtain ⟨v1, vs1, d1, ds1, p1, q1, hargs1, rfl, rfl, h1, r1⟩ := trodAll_cons r0
  obtain ⟨v2, vs2, d2, ds2, p2, q2, hargs2, rfl, rfl, h2, r2⟩ := trodAll_cons r1
  obtain ⟨rfl, rfl, rfl⟩ := trodAll_nil r2
  subst hargs2
  subst hargs1
  obtain rfl : args = #[v0, v1, v2] := by cases args; simp_all
  obtain ⟨rfl, rfl⟩ := trodVars_none hV
  simp only [List.append_nil] at hW'
  have hlt0 : ∀ x ∈ p0, x.block < W.heap.size := fun x hx => by simpa using hW'.lt x (by simp [hx])
  have hlt2 : ∀ x ∈ p2, x.block < W.heap.size := fun x hx => by simpa using hW'.lt x (by simp [hx])
  obtain ⟨a0, cap0, l0, rfl, hn0, hb0, hl0, hs0⟩ := open_bytes (hval 0 22 v0 rfl rfl) h0
  obtain ⟨x1, rfl, rfl, rfl, w1⟩ := open_int Try.underlying3 (hval 1 3 v1 rfl rfl) h1
  obtain ⟨x2, y2, z2, rfl⟩ := open_ment (hval 2 32 v2 rfl rfl) h2
  clear hA0
  refine (mputs_walk a0 cap0 l0 x1 x2 y2 z2 W hb0 hs0).mono fun e W' ⟨he, hb⟩ => ?_
  subst he
  refine ⟨_, rfl, _, _, _, [], (p0 ++ ([] ++ (p2 ++ []))), [], hW', ?_, ?_, rfl, hb.frame _, fun h => by cases h⟩
  · exact trodAll_cons_mk (shut_bool Try.underlying4 _) trodAll_mk0
  · exact trodAll_cons_mk (Below.trod laidOut (by kernel_rfl) (of_decide_eq_true (by kernel_rfl)) h0 hb hlt0) (trodAll_cons_mk (shut_int Try.underlying3 w1) (trodAll_cons_mk (Below.trod laidOut (by kernel_rfl) (of_decide_eq_true (by kernel_rfl)) h2 hb hlt2) (trodAll_mk0)))

theorem mbrPuts_holds : Rows.MbrPutsSaid :=
  OpenClaim.holds_of_wide 4 Try.f4 rfl rfl rfl rfl rfl rfl rfl ⟨rfl, rfl, rfl, rfl, rfl⟩ rfl rfl rfl rfl rfl (by kernel_rfl) Try.func4 (by kernel_rfl)
    (of_decide_eq_true (by kernel_rfl)) (by unfold Func.isWrapper; first | (rw [if_pos (by decide +kernel)]; kernel_rfl) | (rw [if_neg (by decide +kernel)]; exact ⟨rfl, rfl⟩))
    (fun os started H enc _ => mbrPuts_lifted os started H enc)
end Go.Proofs.Ytgpggohkapdjpaa.Oct
