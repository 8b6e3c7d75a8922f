/- A header as its bytes by the document: Encode. -/
import Derived.Test.YtpmljlmcfofppaaHem
import Derived.Test.YtpmljlmcfofppaaHdw
namespace Go.Proofs.Ytpmljlmcfofppaa.Oct
open Go.RowKit

theorem Stay.grownO {u u' : World} {R B : Nat} {cs : Array Value} {t : TypeId} {v : Value} {l : List Int} (h : Stay u R cs t) (ho : Own u B v l) (hg : u.grownBy u' v.ownBlock) (hne : R < B) : Stay u' R cs t :=
  (hg.block R (Array.getElem?_eq_some_iff.1 h).1 (fun e => by have := ho.base R e.symm; omega)).trans h

set_option maxHeartbeats 4000000 in
theorem refencode_false (b s o j : Int) (w : World) (hc : Hd.check ⟨b, s, o, j, false⟩ = 0) : Calls Try.prog 30 #[.agg #[.int .i64 b, .int .i64 s, .int .i64 o, .int .i64 j, .bool false]] w fun e w' => ∃ v, e = .returned v ∧ Own w' w.heap.size v (encN ⟨b, s, o, j, false⟩) ∧ Below w.heap.size w w' := by
  have HS : Hid (Stay (w.alloc (.cells #[.int .i64 b, .int .i64 s, .int .i64 o, .int .i64 j, .bool false] 24)) w.heap.size #[.int .i64 b, .int .i64 s, .int .i64 o, .int .i64 j, .bool false] 24) := hide (heap_alloc_new w (.cells #[.int .i64 b, .int .i64 s, .int .i64 o, .int .i64 j, .bool false] 24))
  have HB := hide ((Below.refl w.heap.size w).alloc (Nat.le_refl _) (.cells #[.int .i64 b, .int .i64 s, .int .i64 o, .int .i64 j, .bool false] 24))
  have HZ : Hid (w.heap.size + 1 ≤ (w.alloc (.cells #[.int .i64 b, .int .i64 s, .int .i64 o, .int .i64 j, .bool false] 24)).heap.size) := hide (by simp)
  obtain ⟨c0, c1, c2, c3, c4⟩ := HS.out.boxA
  have HCl := fun u => hide (refcluster_any b s o j false u)
  obtain ⟨⟨hb1, hb2⟩, ⟨hs1, hs2⟩, ⟨ho1, ho2⟩, hj1, hj2⟩ := check_zero hc
  dsimp only at hb1 hb2 hs1 hs2 ho1 ho2 hj1 hj2
  have hcc := clN_cases b
  obtain ⟨q, hq⟩ : ∃ q : Nat, (q : Int) = clN b := ⟨(clN b).toNat, by omega⟩
  have hq2 : Hd.cl ⟨b, s, o, j, false⟩ = (q : Int) := hq.symm
  have HE : Hid (encN ⟨b, s, o, j, false⟩ = [] ++ bytesOf 1280591174 4 ++ bytesOf b 4 ++ bytesOf s 8 ++ bytesOf o 4 ++ bytesOf j 4 ++ bytesOf 0 4 ++ List.replicate (q - 28) 0) := hide (by
    rw [refEnc_eq]
    unfold refEnc
    rw [hq2, Int.toNat_natCast]
    rfl)
  rw [← hq] at HCl
  have hqb : 512 ≤ q ∧ q ≤ 4096 := by omega
  have HBy : ∀ (x : Int) (n : Nat) (u : World), n ≤ 8 → 0 ≤ x → x < 18446744073709551616 → Hid (Calls Try.prog 45 #[.int .u64 x, .int .i64 n] u fun e w' => ∃ r, e = .returned r ∧ Own w' u.heap.size r (bytesOf x n) ∧ Below u.heap.size u w') := fun x n u h1 h2 h3 => hide (Bytes_any x n u h1 h2 h3)
  clear hq hq2 hcc hc
  obtain ⟨L0, hL0⟩ : ∃ L0 : List Int, L0 = [] := ⟨_, rfl⟩
  have l0 : L0.length = 0 := by rw [hL0]; rfl
  have HO : Hid (Own (w.alloc (.cells #[.int .i64 b, .int .i64 s, .int .i64 o, .int .i64 j, .bool false] 24)) (w.heap.size + 1) (.slice none 0 0) L0) := hide (by rw [hL0]; exact Own.nil _ _)
  rw [← hL0] at HE
  clear hL0
  go_enter Try.func30, Try.ntmps30
  go_wp2_with fail
  refine ((HBy 1280591174 4 _ (by omega) (by omega) (by omega)).out).mono ?_
  rintro e9 x0 ⟨r0, rfl, hr0, hb9⟩
  have HB := hide (HB.out.trans (hb9.mono HB.out.size))
  have HS := hide (HS.out.below hb9)
  have HO := hide (HO.out.below hb9)
  have HZ := hide (Nat.le_trans HZ.out hb9.size)
  obtain ⟨ar0, cr0, rfl, hlr0, _⟩ := hr0.form
  have HLr := hide hlr0
  have hbl0 := bytesOf_length 1280591174 4
  rw [hbl0]
  have HBl := hide hbl0
  clear hr0 hlr0 hbl0 hb9 c0 c1 c2 c3 c4
  obtain ⟨c0, c1, c2, c3, c4⟩ := HS.out.boxA
  go_wp2_with (at_builtin; refine wpList_append_bytes rfl _ _ 36 rfl Try.underlying36 info5 (w.heap.size + 1) _ L0 rfl (by exact HO.out) _ _ _ (bytesOf 1280591174 4) rfl (by rw [HBl.out]) (by exact HLr.out) (by rw [HBl.out, l0]; omega) (by exact HZ.out) ?_; intro v0 y0 hoA hgA; have HS := hide (HS.out.grownO HO.out hgA (by omega)); have HB := hide (HB.out.grown hgA HB.out.size (fun x hx => Nat.le_trans (by omega) (HO.out.base x hx))); have HZ := hide (Nat.le_trans HZ.out hgA.size); have HO := hide hoA; clear hoA hgA c0 c1 c2 c3 c4; obtain ⟨c0, c1, c2, c3, c4⟩ := HS.out.boxA)
  obtain ⟨L1, hL1⟩ : ∃ L1, L1 = L0 ++ bytesOf 1280591174 4 := ⟨_, rfl⟩
  have l1 : L1.length = 4 := by rw [hL1, List.length_append, HBl.out, l0]
  rw [← hL1] at HO HE
  clear hL1 l0 HBl HLr
  go_wp2_with fail
  refine ((HBy b 4 _ (by omega) (by omega) (by omega)).out).mono ?_
  rintro e9 x1 ⟨r1, rfl, hr1, hb9⟩
  have HB := hide (HB.out.trans (hb9.mono HB.out.size))
  have HS := hide (HS.out.below hb9)
  have HO := hide (HO.out.below hb9)
  have HZ := hide (Nat.le_trans HZ.out hb9.size)
  obtain ⟨ar1, cr1, rfl, hlr1, _⟩ := hr1.form
  have HLr := hide hlr1
  have hbl1 := bytesOf_length b 4
  rw [hbl1]
  have HBl := hide hbl1
  clear hr1 hlr1 hbl1 hb9 c0 c1 c2 c3 c4
  obtain ⟨c0, c1, c2, c3, c4⟩ := HS.out.boxA
  go_wp2_with (at_builtin; refine wpList_append_bytes rfl _ _ 36 rfl Try.underlying36 info5 (w.heap.size + 1) _ L1 rfl (by exact HO.out) _ _ _ (bytesOf b 4) rfl (by rw [HBl.out]) (by exact HLr.out) (by rw [HBl.out, l1]; omega) (by exact HZ.out) ?_; intro v1 y1 hoA hgA; have HS := hide (HS.out.grownO HO.out hgA (by omega)); have HB := hide (HB.out.grown hgA HB.out.size (fun x hx => Nat.le_trans (by omega) (HO.out.base x hx))); have HZ := hide (Nat.le_trans HZ.out hgA.size); have HO := hide hoA; clear hoA hgA c0 c1 c2 c3 c4; obtain ⟨c0, c1, c2, c3, c4⟩ := HS.out.boxA)
  obtain ⟨L2, hL2⟩ : ∃ L2, L2 = L1 ++ bytesOf b 4 := ⟨_, rfl⟩
  have l2 : L2.length = 8 := by rw [hL2, List.length_append, HBl.out, l1]
  rw [← hL2] at HO HE
  clear hL2 l1 HBl HLr
  go_wp2_with fail
  refine ((HBy s 8 _ (by omega) (by omega) (by omega)).out).mono ?_
  rintro e9 x2 ⟨r2, rfl, hr2, hb9⟩
  have HB := hide (HB.out.trans (hb9.mono HB.out.size))
  have HS := hide (HS.out.below hb9)
  have HO := hide (HO.out.below hb9)
  have HZ := hide (Nat.le_trans HZ.out hb9.size)
  obtain ⟨ar2, cr2, rfl, hlr2, _⟩ := hr2.form
  have HLr := hide hlr2
  have hbl2 := bytesOf_length s 8
  rw [hbl2]
  have HBl := hide hbl2
  clear hr2 hlr2 hbl2 hb9 c0 c1 c2 c3 c4
  obtain ⟨c0, c1, c2, c3, c4⟩ := HS.out.boxA
  go_wp2_with (at_builtin; refine wpList_append_bytes rfl _ _ 36 rfl Try.underlying36 info5 (w.heap.size + 1) _ L2 rfl (by exact HO.out) _ _ _ (bytesOf s 8) rfl (by rw [HBl.out]) (by exact HLr.out) (by rw [HBl.out, l2]; omega) (by exact HZ.out) ?_; intro v2 y2 hoA hgA; have HS := hide (HS.out.grownO HO.out hgA (by omega)); have HB := hide (HB.out.grown hgA HB.out.size (fun x hx => Nat.le_trans (by omega) (HO.out.base x hx))); have HZ := hide (Nat.le_trans HZ.out hgA.size); have HO := hide hoA; clear hoA hgA c0 c1 c2 c3 c4; obtain ⟨c0, c1, c2, c3, c4⟩ := HS.out.boxA)
  obtain ⟨L3, hL3⟩ : ∃ L3, L3 = L2 ++ bytesOf s 8 := ⟨_, rfl⟩
  have l3 : L3.length = 16 := by rw [hL3, List.length_append, HBl.out, l2]
  rw [← hL3] at HO HE
  clear hL3 l2 HBl HLr
  go_wp2_with fail
  refine ((HBy o 4 _ (by omega) (by omega) (by omega)).out).mono ?_
  rintro e9 x3 ⟨r3, rfl, hr3, hb9⟩
  have HB := hide (HB.out.trans (hb9.mono HB.out.size))
  have HS := hide (HS.out.below hb9)
  have HO := hide (HO.out.below hb9)
  have HZ := hide (Nat.le_trans HZ.out hb9.size)
  obtain ⟨ar3, cr3, rfl, hlr3, _⟩ := hr3.form
  have HLr := hide hlr3
  have hbl3 := bytesOf_length o 4
  rw [hbl3]
  have HBl := hide hbl3
  clear hr3 hlr3 hbl3 hb9 c0 c1 c2 c3 c4
  obtain ⟨c0, c1, c2, c3, c4⟩ := HS.out.boxA
  go_wp2_with (at_builtin; refine wpList_append_bytes rfl _ _ 36 rfl Try.underlying36 info5 (w.heap.size + 1) _ L3 rfl (by exact HO.out) _ _ _ (bytesOf o 4) rfl (by rw [HBl.out]) (by exact HLr.out) (by rw [HBl.out, l3]; omega) (by exact HZ.out) ?_; intro v3 y3 hoA hgA; have HS := hide (HS.out.grownO HO.out hgA (by omega)); have HB := hide (HB.out.grown hgA HB.out.size (fun x hx => Nat.le_trans (by omega) (HO.out.base x hx))); have HZ := hide (Nat.le_trans HZ.out hgA.size); have HO := hide hoA; clear hoA hgA c0 c1 c2 c3 c4; obtain ⟨c0, c1, c2, c3, c4⟩ := HS.out.boxA)
  obtain ⟨L4, hL4⟩ : ∃ L4, L4 = L3 ++ bytesOf o 4 := ⟨_, rfl⟩
  have l4 : L4.length = 20 := by rw [hL4, List.length_append, HBl.out, l3]
  rw [← hL4] at HO HE
  clear hL4 l3 HBl HLr
  go_wp2_with fail
  refine ((HBy j 4 _ (by omega) (by omega) (by omega)).out).mono ?_
  rintro e9 x4 ⟨r4, rfl, hr4, hb9⟩
  have HB := hide (HB.out.trans (hb9.mono HB.out.size))
  have HS := hide (HS.out.below hb9)
  have HO := hide (HO.out.below hb9)
  have HZ := hide (Nat.le_trans HZ.out hb9.size)
  obtain ⟨ar4, cr4, rfl, hlr4, _⟩ := hr4.form
  have HLr := hide hlr4
  have hbl4 := bytesOf_length j 4
  rw [hbl4]
  have HBl := hide hbl4
  clear hr4 hlr4 hbl4 hb9 c0 c1 c2 c3 c4
  obtain ⟨c0, c1, c2, c3, c4⟩ := HS.out.boxA
  go_wp2_with (at_builtin; refine wpList_append_bytes rfl _ _ 36 rfl Try.underlying36 info5 (w.heap.size + 1) _ L4 rfl (by exact HO.out) _ _ _ (bytesOf j 4) rfl (by rw [HBl.out]) (by exact HLr.out) (by rw [HBl.out, l4]; omega) (by exact HZ.out) ?_; intro v4 y4 hoA hgA; have HS := hide (HS.out.grownO HO.out hgA (by omega)); have HB := hide (HB.out.grown hgA HB.out.size (fun x hx => Nat.le_trans (by omega) (HO.out.base x hx))); have HZ := hide (Nat.le_trans HZ.out hgA.size); have HO := hide hoA; clear hoA hgA c0 c1 c2 c3 c4; obtain ⟨c0, c1, c2, c3, c4⟩ := HS.out.boxA)
  obtain ⟨L5, hL5⟩ : ∃ L5, L5 = L4 ++ bytesOf j 4 := ⟨_, rfl⟩
  have l5 : L5.length = 24 := by rw [hL5, List.length_append, HBl.out, l4]
  rw [← hL5] at HO HE
  clear hL5 l4 HBl HLr
  go_wp2_with fail
  refine ((HBy 0 4 _ (by omega) (by omega) (by omega)).out).mono ?_
  rintro e9 x5 ⟨r5, rfl, hr5, hb9⟩
  have HB := hide (HB.out.trans (hb9.mono HB.out.size))
  have HS := hide (HS.out.below hb9)
  have HO := hide (HO.out.below hb9)
  have HZ := hide (Nat.le_trans HZ.out hb9.size)
  obtain ⟨ar5, cr5, rfl, hlr5, _⟩ := hr5.form
  have HLr := hide hlr5
  have hbl5 := bytesOf_length 0 4
  rw [hbl5]
  have HBl := hide hbl5
  clear hr5 hlr5 hbl5 hb9 c0 c1 c2 c3 c4
  obtain ⟨c0, c1, c2, c3, c4⟩ := HS.out.boxA
  go_wp2_with (at_builtin; refine wpList_append_bytes rfl _ _ 36 rfl Try.underlying36 info5 (w.heap.size + 1) _ L5 rfl (by exact HO.out) _ _ _ (bytesOf 0 4) rfl (by rw [HBl.out]) (by exact HLr.out) (by rw [HBl.out, l5]; omega) (by exact HZ.out) ?_; intro v5 y5 hoA hgA; have HS := hide (HS.out.grownO HO.out hgA (by omega)); have HB := hide (HB.out.grown hgA HB.out.size (fun x hx => Nat.le_trans (by omega) (HO.out.base x hx))); have HZ := hide (Nat.le_trans HZ.out hgA.size); have HO := hide hoA; clear hoA hgA c0 c1 c2 c3 c4; obtain ⟨c0, c1, c2, c3, c4⟩ := HS.out.boxA)
  obtain ⟨L6, hL6⟩ : ∃ L6, L6 = L5 ++ bytesOf 0 4 := ⟨_, rfl⟩
  have l6 : L6.length = 28 := by rw [hL6, List.length_append, HBl.out, l5]
  rw [← hL6] at HO HE
  clear hL6 l5 HBl HLr
  go_wp2_with fail
  refine ((HCl _).out).mono ?_
  rintro e9 w7 ⟨rfl, hb9⟩
  have HB := hide (HB.out.trans (hb9.mono HB.out.size))
  have HO := hide (HO.out.below hb9)
  have HZ := hide (Nat.le_trans HZ.out hb9.size)
  clear hb9 c0 c1 c2 c3 c4
  have HZr : Hid (Calls Try.prog 46 #[.int .i64 ((q : Int) - 28)] w7 fun e w' => ∃ v, e = .returned v ∧ Own w' w7.heap.size v (List.replicate (q - 28) 0) ∧ Below w7.heap.size w7 w') := hide (by
    rw [show (q : Int) - 28 = ((q - 28 : Nat) : Int) by omega]
    exact Zeros_any (q - 28) w7 (by omega))
  obtain ⟨Z, hZ⟩ : ∃ Z : List Int, Z = List.replicate (q - 28) 0 := ⟨_, rfl⟩
  have HZl : Hid (Z.length = q - 28) := hide (by rw [hZ]; simp)
  rw [← hZ] at HZr HE
  clear hZ
  go_wp2_with fail
  refine HZr.out.mono ?_
  rintro e9 w8 ⟨rz, rfl, hrz, hb9⟩
  have HB := hide (HB.out.trans (hb9.mono HB.out.size))
  have HO := hide (HO.out.below hb9)
  have HZ := hide (Nat.le_trans HZ.out hb9.size)
  obtain ⟨az, cz, rfl, hlz, _⟩ := hrz.form
  have HLz := hide hlz
  clear hrz hlz hb9 HZr
  rw [HZl.out]
  go_wp2_with (at_builtin; refine wpList_append_bytes rfl _ _ 36 rfl Try.underlying36 info5 (w.heap.size + 1) _ L6 rfl (by exact HO.out) _ _ _ Z rfl (by rw [HZl.out]) (by exact HLz.out) (by rw [HZl.out, l6]; omega) (by exact HZ.out) ?_; intro v9 y9 hoA hgA; have HB := hide (HB.out.grown hgA HB.out.size (fun x hx => Nat.le_trans (by omega) (HO.out.base x hx))); have HO := hide hoA; clear hoA hgA)
  go_ret
  refine ⟨_, rfl, ?_, HB.out⟩
  rw [HE.out]
  exact HO.out.mono (by omega)

set_option maxHeartbeats 4000000 in
theorem refencode_true (b s o j : Int) (w : World) (hc : Hd.check ⟨b, s, o, j, true⟩ = 0) : Calls Try.prog 30 #[.agg #[.int .i64 b, .int .i64 s, .int .i64 o, .int .i64 j, .bool true]] w fun e w' => ∃ v, e = .returned v ∧ Own w' w.heap.size v (encN ⟨b, s, o, j, true⟩) ∧ Below w.heap.size w w' := by
  have HS : Hid (Stay (w.alloc (.cells #[.int .i64 b, .int .i64 s, .int .i64 o, .int .i64 j, .bool true] 24)) w.heap.size #[.int .i64 b, .int .i64 s, .int .i64 o, .int .i64 j, .bool true] 24) := hide (heap_alloc_new w (.cells #[.int .i64 b, .int .i64 s, .int .i64 o, .int .i64 j, .bool true] 24))
  have HB := hide ((Below.refl w.heap.size w).alloc (Nat.le_refl _) (.cells #[.int .i64 b, .int .i64 s, .int .i64 o, .int .i64 j, .bool true] 24))
  have HZ : Hid (w.heap.size + 1 ≤ (w.alloc (.cells #[.int .i64 b, .int .i64 s, .int .i64 o, .int .i64 j, .bool true] 24)).heap.size) := hide (by simp)
  obtain ⟨c0, c1, c2, c3, c4⟩ := HS.out.boxA
  have HCl := fun u => hide (refcluster_any b s o j true u)
  obtain ⟨⟨hb1, hb2⟩, ⟨hs1, hs2⟩, ⟨ho1, ho2⟩, hj1, hj2⟩ := check_zero hc
  dsimp only at hb1 hb2 hs1 hs2 ho1 ho2 hj1 hj2
  have hcc := clN_cases b
  obtain ⟨q, hq⟩ : ∃ q : Nat, (q : Int) = clN b := ⟨(clN b).toNat, by omega⟩
  have hq2 : Hd.cl ⟨b, s, o, j, true⟩ = (q : Int) := hq.symm
  have HE : Hid (encN ⟨b, s, o, j, true⟩ = [] ++ bytesOf 1280591174 4 ++ bytesOf b 4 ++ bytesOf s 8 ++ bytesOf o 4 ++ bytesOf j 4 ++ bytesOf 1 4 ++ List.replicate (q - 28) 0) := hide (by
    rw [refEnc_eq]
    unfold refEnc
    rw [hq2, Int.toNat_natCast]
    rfl)
  rw [← hq] at HCl
  have hqb : 512 ≤ q ∧ q ≤ 4096 := by omega
  have HBy : ∀ (x : Int) (n : Nat) (u : World), n ≤ 8 → 0 ≤ x → x < 18446744073709551616 → Hid (Calls Try.prog 45 #[.int .u64 x, .int .i64 n] u fun e w' => ∃ r, e = .returned r ∧ Own w' u.heap.size r (bytesOf x n) ∧ Below u.heap.size u w') := fun x n u h1 h2 h3 => hide (Bytes_any x n u h1 h2 h3)
  clear hq hq2 hcc hc
  obtain ⟨L0, hL0⟩ : ∃ L0 : List Int, L0 = [] := ⟨_, rfl⟩
  have l0 : L0.length = 0 := by rw [hL0]; rfl
  have HO : Hid (Own (w.alloc (.cells #[.int .i64 b, .int .i64 s, .int .i64 o, .int .i64 j, .bool true] 24)) (w.heap.size + 1) (.slice none 0 0) L0) := hide (by rw [hL0]; exact Own.nil _ _)
  rw [← hL0] at HE
  clear hL0
  go_enter Try.func30, Try.ntmps30
  go_wp2_with fail
  refine ((HBy 1280591174 4 _ (by omega) (by omega) (by omega)).out).mono ?_
  rintro e9 x0 ⟨r0, rfl, hr0, hb9⟩
  have HB := hide (HB.out.trans (hb9.mono HB.out.size))
  have HS := hide (HS.out.below hb9)
  have HO := hide (HO.out.below hb9)
  have HZ := hide (Nat.le_trans HZ.out hb9.size)
  obtain ⟨ar0, cr0, rfl, hlr0, _⟩ := hr0.form
  have HLr := hide hlr0
  have hbl0 := bytesOf_length 1280591174 4
  rw [hbl0]
  have HBl := hide hbl0
  clear hr0 hlr0 hbl0 hb9 c0 c1 c2 c3 c4
  obtain ⟨c0, c1, c2, c3, c4⟩ := HS.out.boxA
  go_wp2_with (at_builtin; refine wpList_append_bytes rfl _ _ 36 rfl Try.underlying36 info5 (w.heap.size + 1) _ L0 rfl (by exact HO.out) _ _ _ (bytesOf 1280591174 4) rfl (by rw [HBl.out]) (by exact HLr.out) (by rw [HBl.out, l0]; omega) (by exact HZ.out) ?_; intro v0 y0 hoA hgA; have HS := hide (HS.out.grownO HO.out hgA (by omega)); have HB := hide (HB.out.grown hgA HB.out.size (fun x hx => Nat.le_trans (by omega) (HO.out.base x hx))); have HZ := hide (Nat.le_trans HZ.out hgA.size); have HO := hide hoA; clear hoA hgA c0 c1 c2 c3 c4; obtain ⟨c0, c1, c2, c3, c4⟩ := HS.out.boxA)
  obtain ⟨L1, hL1⟩ : ∃ L1, L1 = L0 ++ bytesOf 1280591174 4 := ⟨_, rfl⟩
  have l1 : L1.length = 4 := by rw [hL1, List.length_append, HBl.out, l0]
  rw [← hL1] at HO HE
  clear hL1 l0 HBl HLr
  go_wp2_with fail
  refine ((HBy b 4 _ (by omega) (by omega) (by omega)).out).mono ?_
  rintro e9 x1 ⟨r1, rfl, hr1, hb9⟩
  have HB := hide (HB.out.trans (hb9.mono HB.out.size))
  have HS := hide (HS.out.below hb9)
  have HO := hide (HO.out.below hb9)
  have HZ := hide (Nat.le_trans HZ.out hb9.size)
  obtain ⟨ar1, cr1, rfl, hlr1, _⟩ := hr1.form
  have HLr := hide hlr1
  have hbl1 := bytesOf_length b 4
  rw [hbl1]
  have HBl := hide hbl1
  clear hr1 hlr1 hbl1 hb9 c0 c1 c2 c3 c4
  obtain ⟨c0, c1, c2, c3, c4⟩ := HS.out.boxA
  go_wp2_with (at_builtin; refine wpList_append_bytes rfl _ _ 36 rfl Try.underlying36 info5 (w.heap.size + 1) _ L1 rfl (by exact HO.out) _ _ _ (bytesOf b 4) rfl (by rw [HBl.out]) (by exact HLr.out) (by rw [HBl.out, l1]; omega) (by exact HZ.out) ?_; intro v1 y1 hoA hgA; have HS := hide (HS.out.grownO HO.out hgA (by omega)); have HB := hide (HB.out.grown hgA HB.out.size (fun x hx => Nat.le_trans (by omega) (HO.out.base x hx))); have HZ := hide (Nat.le_trans HZ.out hgA.size); have HO := hide hoA; clear hoA hgA c0 c1 c2 c3 c4; obtain ⟨c0, c1, c2, c3, c4⟩ := HS.out.boxA)
  obtain ⟨L2, hL2⟩ : ∃ L2, L2 = L1 ++ bytesOf b 4 := ⟨_, rfl⟩
  have l2 : L2.length = 8 := by rw [hL2, List.length_append, HBl.out, l1]
  rw [← hL2] at HO HE
  clear hL2 l1 HBl HLr
  go_wp2_with fail
  refine ((HBy s 8 _ (by omega) (by omega) (by omega)).out).mono ?_
  rintro e9 x2 ⟨r2, rfl, hr2, hb9⟩
  have HB := hide (HB.out.trans (hb9.mono HB.out.size))
  have HS := hide (HS.out.below hb9)
  have HO := hide (HO.out.below hb9)
  have HZ := hide (Nat.le_trans HZ.out hb9.size)
  obtain ⟨ar2, cr2, rfl, hlr2, _⟩ := hr2.form
  have HLr := hide hlr2
  have hbl2 := bytesOf_length s 8
  rw [hbl2]
  have HBl := hide hbl2
  clear hr2 hlr2 hbl2 hb9 c0 c1 c2 c3 c4
  obtain ⟨c0, c1, c2, c3, c4⟩ := HS.out.boxA
  go_wp2_with (at_builtin; refine wpList_append_bytes rfl _ _ 36 rfl Try.underlying36 info5 (w.heap.size + 1) _ L2 rfl (by exact HO.out) _ _ _ (bytesOf s 8) rfl (by rw [HBl.out]) (by exact HLr.out) (by rw [HBl.out, l2]; omega) (by exact HZ.out) ?_; intro v2 y2 hoA hgA; have HS := hide (HS.out.grownO HO.out hgA (by omega)); have HB := hide (HB.out.grown hgA HB.out.size (fun x hx => Nat.le_trans (by omega) (HO.out.base x hx))); have HZ := hide (Nat.le_trans HZ.out hgA.size); have HO := hide hoA; clear hoA hgA c0 c1 c2 c3 c4; obtain ⟨c0, c1, c2, c3, c4⟩ := HS.out.boxA)
  obtain ⟨L3, hL3⟩ : ∃ L3, L3 = L2 ++ bytesOf s 8 := ⟨_, rfl⟩
  have l3 : L3.length = 16 := by rw [hL3, List.length_append, HBl.out, l2]
  rw [← hL3] at HO HE
  clear hL3 l2 HBl HLr
  go_wp2_with fail
  refine ((HBy o 4 _ (by omega) (by omega) (by omega)).out).mono ?_
  rintro e9 x3 ⟨r3, rfl, hr3, hb9⟩
  have HB := hide (HB.out.trans (hb9.mono HB.out.size))
  have HS := hide (HS.out.below hb9)
  have HO := hide (HO.out.below hb9)
  have HZ := hide (Nat.le_trans HZ.out hb9.size)
  obtain ⟨ar3, cr3, rfl, hlr3, _⟩ := hr3.form
  have HLr := hide hlr3
  have hbl3 := bytesOf_length o 4
  rw [hbl3]
  have HBl := hide hbl3
  clear hr3 hlr3 hbl3 hb9 c0 c1 c2 c3 c4
  obtain ⟨c0, c1, c2, c3, c4⟩ := HS.out.boxA
  go_wp2_with (at_builtin; refine wpList_append_bytes rfl _ _ 36 rfl Try.underlying36 info5 (w.heap.size + 1) _ L3 rfl (by exact HO.out) _ _ _ (bytesOf o 4) rfl (by rw [HBl.out]) (by exact HLr.out) (by rw [HBl.out, l3]; omega) (by exact HZ.out) ?_; intro v3 y3 hoA hgA; have HS := hide (HS.out.grownO HO.out hgA (by omega)); have HB := hide (HB.out.grown hgA HB.out.size (fun x hx => Nat.le_trans (by omega) (HO.out.base x hx))); have HZ := hide (Nat.le_trans HZ.out hgA.size); have HO := hide hoA; clear hoA hgA c0 c1 c2 c3 c4; obtain ⟨c0, c1, c2, c3, c4⟩ := HS.out.boxA)
  obtain ⟨L4, hL4⟩ : ∃ L4, L4 = L3 ++ bytesOf o 4 := ⟨_, rfl⟩
  have l4 : L4.length = 20 := by rw [hL4, List.length_append, HBl.out, l3]
  rw [← hL4] at HO HE
  clear hL4 l3 HBl HLr
  go_wp2_with fail
  refine ((HBy j 4 _ (by omega) (by omega) (by omega)).out).mono ?_
  rintro e9 x4 ⟨r4, rfl, hr4, hb9⟩
  have HB := hide (HB.out.trans (hb9.mono HB.out.size))
  have HS := hide (HS.out.below hb9)
  have HO := hide (HO.out.below hb9)
  have HZ := hide (Nat.le_trans HZ.out hb9.size)
  obtain ⟨ar4, cr4, rfl, hlr4, _⟩ := hr4.form
  have HLr := hide hlr4
  have hbl4 := bytesOf_length j 4
  rw [hbl4]
  have HBl := hide hbl4
  clear hr4 hlr4 hbl4 hb9 c0 c1 c2 c3 c4
  obtain ⟨c0, c1, c2, c3, c4⟩ := HS.out.boxA
  go_wp2_with (at_builtin; refine wpList_append_bytes rfl _ _ 36 rfl Try.underlying36 info5 (w.heap.size + 1) _ L4 rfl (by exact HO.out) _ _ _ (bytesOf j 4) rfl (by rw [HBl.out]) (by exact HLr.out) (by rw [HBl.out, l4]; omega) (by exact HZ.out) ?_; intro v4 y4 hoA hgA; have HS := hide (HS.out.grownO HO.out hgA (by omega)); have HB := hide (HB.out.grown hgA HB.out.size (fun x hx => Nat.le_trans (by omega) (HO.out.base x hx))); have HZ := hide (Nat.le_trans HZ.out hgA.size); have HO := hide hoA; clear hoA hgA c0 c1 c2 c3 c4; obtain ⟨c0, c1, c2, c3, c4⟩ := HS.out.boxA)
  obtain ⟨L5, hL5⟩ : ∃ L5, L5 = L4 ++ bytesOf j 4 := ⟨_, rfl⟩
  have l5 : L5.length = 24 := by rw [hL5, List.length_append, HBl.out, l4]
  rw [← hL5] at HO HE
  clear hL5 l4 HBl HLr
  go_wp2_with fail
  refine ((HBy 1 4 _ (by omega) (by omega) (by omega)).out).mono ?_
  rintro e9 x5 ⟨r5, rfl, hr5, hb9⟩
  have HB := hide (HB.out.trans (hb9.mono HB.out.size))
  have HS := hide (HS.out.below hb9)
  have HO := hide (HO.out.below hb9)
  have HZ := hide (Nat.le_trans HZ.out hb9.size)
  obtain ⟨ar5, cr5, rfl, hlr5, _⟩ := hr5.form
  have HLr := hide hlr5
  have hbl5 := bytesOf_length 1 4
  rw [hbl5]
  have HBl := hide hbl5
  clear hr5 hlr5 hbl5 hb9 c0 c1 c2 c3 c4
  obtain ⟨c0, c1, c2, c3, c4⟩ := HS.out.boxA
  go_wp2_with (at_builtin; refine wpList_append_bytes rfl _ _ 36 rfl Try.underlying36 info5 (w.heap.size + 1) _ L5 rfl (by exact HO.out) _ _ _ (bytesOf 1 4) rfl (by rw [HBl.out]) (by exact HLr.out) (by rw [HBl.out, l5]; omega) (by exact HZ.out) ?_; intro v5 y5 hoA hgA; have HS := hide (HS.out.grownO HO.out hgA (by omega)); have HB := hide (HB.out.grown hgA HB.out.size (fun x hx => Nat.le_trans (by omega) (HO.out.base x hx))); have HZ := hide (Nat.le_trans HZ.out hgA.size); have HO := hide hoA; clear hoA hgA c0 c1 c2 c3 c4; obtain ⟨c0, c1, c2, c3, c4⟩ := HS.out.boxA)
  obtain ⟨L6, hL6⟩ : ∃ L6, L6 = L5 ++ bytesOf 1 4 := ⟨_, rfl⟩
  have l6 : L6.length = 28 := by rw [hL6, List.length_append, HBl.out, l5]
  rw [← hL6] at HO HE
  clear hL6 l5 HBl HLr
  go_wp2_with fail
  refine ((HCl _).out).mono ?_
  rintro e9 w7 ⟨rfl, hb9⟩
  have HB := hide (HB.out.trans (hb9.mono HB.out.size))
  have HO := hide (HO.out.below hb9)
  have HZ := hide (Nat.le_trans HZ.out hb9.size)
  clear hb9 c0 c1 c2 c3 c4
  have HZr : Hid (Calls Try.prog 46 #[.int .i64 ((q : Int) - 28)] w7 fun e w' => ∃ v, e = .returned v ∧ Own w' w7.heap.size v (List.replicate (q - 28) 0) ∧ Below w7.heap.size w7 w') := hide (by
    rw [show (q : Int) - 28 = ((q - 28 : Nat) : Int) by omega]
    exact Zeros_any (q - 28) w7 (by omega))
  obtain ⟨Z, hZ⟩ : ∃ Z : List Int, Z = List.replicate (q - 28) 0 := ⟨_, rfl⟩
  have HZl : Hid (Z.length = q - 28) := hide (by rw [hZ]; simp)
  rw [← hZ] at HZr HE
  clear hZ
  go_wp2_with fail
  refine HZr.out.mono ?_
  rintro e9 w8 ⟨rz, rfl, hrz, hb9⟩
  have HB := hide (HB.out.trans (hb9.mono HB.out.size))
  have HO := hide (HO.out.below hb9)
  have HZ := hide (Nat.le_trans HZ.out hb9.size)
  obtain ⟨az, cz, rfl, hlz, _⟩ := hrz.form
  have HLz := hide hlz
  clear hrz hlz hb9 HZr
  rw [HZl.out]
  go_wp2_with (at_builtin; refine wpList_append_bytes rfl _ _ 36 rfl Try.underlying36 info5 (w.heap.size + 1) _ L6 rfl (by exact HO.out) _ _ _ Z rfl (by rw [HZl.out]) (by exact HLz.out) (by rw [HZl.out, l6]; omega) (by exact HZ.out) ?_; intro v9 y9 hoA hgA; have HB := hide (HB.out.grown hgA HB.out.size (fun x hx => Nat.le_trans (by omega) (HO.out.base x hx))); have HO := hide hoA; clear hoA hgA)
  go_ret
  refine ⟨_, rfl, ?_, HB.out⟩
  rw [HE.out]
  exact HO.out.mono (by omega)

theorem refencode_any (b s o j : Int) (k : Bool) (w : World) (hc : Hd.check ⟨b, s, o, j, k⟩ = 0) : Calls Try.prog 30 #[.agg #[.int .i64 b, .int .i64 s, .int .i64 o, .int .i64 j, .bool k]] w fun e w' => ∃ v, e = .returned v ∧ Own w' w.heap.size v (encN ⟨b, s, o, j, k⟩) ∧ Below w.heap.size w w' := by
  cases k
  · exact refencode_false b s o j w hc
  · exact refencode_true b s o j w hc
end Go.Proofs.Ytpmljlmcfofppaa.Oct
