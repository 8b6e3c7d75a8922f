/- What all of ext's laws ask: a volume that holds nothing is what it must be. -/
import Derived.Test.YtjmajjfknmjifaaDoorPEzr
import Derived.Test.YtjmajjfknmjifaaDoorPEzm
namespace Go.Proofs.YtjmajjfknmjifaaDoor.Oct
open Go.RowKit

theorem maps128 : MapsX (fbL 7 127 8192) (fbL 10 16 8192) where
  len1 := fbL_len _ _ _
  len2 := fbL_len _ _ _
  by1 := fbL_byts _ _ _
  by2 := fbL_byts _ _ _
  fix := fun i h0 h7 => by
    rw [fbL_has 7 127 8192 (Nat.le_refl _) i h0, if_pos (show i < ((8192 : Nat) : Int) by omega)]
    simp [h7]
  last := by
    rw [fbL_has 7 127 8192 (Nat.le_refl _) 127 (by decide), if_pos (show (127 : Int) < ((8192 : Nat) : Int) by decide)]
    decide
  fr1 := by
    rw [freeB_fbL 7 127 128 (by omega)]
    decide +kernel
  fr2 := by
    rw [freeB_fbL 10 16 16 (by omega)]
    decide +kernel

theorem mkX_byts (F1 F2 : List Int) (b1 : Byts F1) (b2 : Byts F2) : ∀ k, k ≤ 6 → Byts (mkX F1 F2 k)
  | 0, _ => by rw [mkX]; exact Byts.zeros _
  | 1, _ => by rw [mkX]; exact spB_byts _ (mkX_byts F1 F2 b1 b2 0 (by omega)) _
  | 2, _ => by rw [mkX]; exact rwB_byts _ (mkX_byts F1 F2 b1 b2 1 (by omega)) _
  | 3, _ => by rw [mkX]; exact (mkX_byts F1 F2 b1 b2 2 (by omega)).over b1 _
  | 4, _ => by rw [mkX]; exact (mkX_byts F1 F2 b1 b2 3 (by omega)).over b2 _
  | 5, _ => by rw [mkX]; exact rootB_byts (mkX_byts F1 F2 b1 b2 4 (by omega)) _ _
  | 6, _ => by
    have h46 : Byts [46] := Byts.one 46 (by omega)
    rw [mkX]
    exact dotB_byts (dotB_byts (mkX_byts F1 F2 b1 b2 5 (by omega)) _ _ h46 (by simp)) _ _ (h46.append h46) (by simp)
  | n + 7, h => by omega

theorem mkX_front (F1 F2 : List Int) (h1 : F1.length = 1024) (h2 : F2.length = 1024) (q n : Nat) (hq : q + n ≤ 5120) : cutE (mkX F1 F2 6) q n = cutE (mkX F1 F2 4) q n := by
  have hl := mkX_len F1 F2 h1 h2
  have hd := dotB_len (mkX F1 F2 5) 7168 12 [46] (by rw [hl 5 (by omega)]; simp)
  rw [show mkX F1 F2 6 = dotB (dotB (mkX F1 F2 5) 7168 12 [46]) 7180 1012 [46, 46] by conv => { lhs; rw [mkX] }]
  rw [cut_dotB_other _ _ _ _ _ _ (by rw [hd, hl 5 (by omega)]; simp) (by rw [hd, hl 5 (by omega)]; omega) (by omega)]
  rw [cut_dotB_other _ _ _ _ _ _ (by rw [hl 5 (by omega)]; simp) (by rw [hl 5 (by omega)]; omega) (by omega)]
  rw [show mkX F1 F2 5 = rootB (mkX F1 F2 4) 5248 7 5 by conv => { lhs; rw [mkX] }]
  exact cut_rootB_other _ _ _ _ _ (by rw [hl 4 (by omega)]; omega) (by rw [hl 4 (by omega)]; omega) (by omega)

theorem mkX_two (F1 F2 : List Int) (h1 : F1.length = 1024) (h2 : F2.length = 1024) (q n : Nat) (hq : q + n ≤ 3072) : cutE (mkX F1 F2 6) q n = cutE (mkX F1 F2 2) q n := by
  have hl := mkX_len F1 F2 h1 h2
  rw [mkX_front F1 F2 h1 h2 q n (by omega)]
  rw [show mkX F1 F2 4 = over (mkX F1 F2 3) 4096 F2 by conv => { lhs; rw [mkX] }]
  rw [cut_over_other _ _ _ _ _ (by rw [hl 3 (by omega), h2]; omega) (by rw [hl 3 (by omega)]; omega) (by omega)]
  rw [show mkX F1 F2 3 = over (mkX F1 F2 2) 3072 F1 by conv => { lhs; rw [mkX] }]
  exact cut_over_other _ _ _ _ _ (by rw [hl 2 (by omega), h1]; omega) (by rw [hl 2 (by omega)]; omega) (by omega)

theorem mkX_par : parE (spB s1 (List.replicate 1024 0) 0) = (s1, 0) := by kernel_rfl

theorem mkX_disk (F1 F2 : List Int) (hM : MapsX F1 F2) : DiskX (mkX F1 F2 6) F1 F2 := by
  have h1 := hM.len1
  have h2 := hM.len2
  have hl := mkX_len F1 F2 h1 h2
  refine ⟨by rw [hl 6 (by omega)]; omega, mkX_byts F1 F2 hM.by1 hM.by2 6 (by omega), ?_, ?_, ?_, ?_, hM⟩
  · rw [mkX_two F1 F2 h1 h2 1024 1024 (by omega)]
    rw [show mkX F1 F2 2 = rwB r1 (mkX F1 F2 1) 2048 by conv => { lhs; rw [mkX] }]
    rw [cut_rwB_other _ _ _ _ _ (by rw [hl 1 (by omega)]; omega) (by rw [hl 1 (by omega)]; omega) (by omega)]
    rw [show mkX F1 F2 1 = spB s1 (mkX F1 F2 0) 1024 by conv => { lhs; rw [mkX] }]
    rw [cut_spB _ _ _ _ (by omega) (by rw [hl 0 (by omega)]; omega)]
    rw [show mkX F1 F2 0 = List.replicate 131072 0 by conv => { lhs; rw [mkX] }, cut_zero _ _ _ (by omega)]
    exact mkX_par
  · rw [mkX_two F1 F2 h1 h2 2048 1024 (by omega)]
    rw [show mkX F1 F2 2 = rwB r1 (mkX F1 F2 1) (2048 + 0) by conv => { lhs; rw [mkX] }]
    rw [cut_rwB _ _ _ _ _ (by omega) (by rw [hl 1 (by omega)]; omega)]
    have hc : (cutE (mkX F1 F2 1) 2048 1024).length = 1024 := cutE_len (by rw [hl 1 (by omega)]; omega)
    unfold rwE
    rw [if_pos (by rw [rwB_len, hc]; omega)]
    have hb := rw_back r1 (cutE (mkX F1 F2 1) 2048 1024) 0 (by unfold Rw.fits r1; decide) (by rw [hc]; omega)
    rw [show ((0 : Int)).toNat = 0 by rfl, hb]
  · rw [mkX_front F1 F2 h1 h2 3072 1024 (by omega)]
    rw [show mkX F1 F2 4 = over (mkX F1 F2 3) 4096 F2 by conv => { lhs; rw [mkX] }]
    rw [cut_over_other _ _ _ _ _ (by rw [hl 3 (by omega), h2]; omega) (by rw [hl 3 (by omega)]; omega) (by omega)]
    rw [show mkX F1 F2 3 = over (mkX F1 F2 2) 3072 F1 by conv => { lhs; rw [mkX] }]
    have h := cut_over_same (mkX F1 F2 2) 3072 F1 (by rw [hl 2 (by omega), h1]; omega)
    rw [h1] at h
    exact h
  · rw [mkX_front F1 F2 h1 h2 4096 1024 (by omega)]
    rw [show mkX F1 F2 4 = over (mkX F1 F2 3) 4096 F2 by conv => { lhs; rw [mkX] }]
    have h := cut_over_same (mkX F1 F2 3) 4096 F2 (by rw [hl 3 (by omega), h2]; omega)
    rw [h2] at h
    exact h

set_option maxHeartbeats 8000000 in
set_option maxRecDepth 100000 in
theorem emade_any (w : World) (hV : VarX w) :
    Calls Tryd.prog 7 #[] w fun e w' => e = .returned (.bool true) ∧ Below w.heap.size w w' := by
  have HM := hide (emake_ok w hV)
  have hX := mkX_disk (fbL 7 127 8192) (fbL 10 16 8192) maps128
  have hl6 := mkX_len (fbL 7 127 8192) (fbL 10 16 8192) (fbL_len _ _ _) (fbL_len _ _ _) 6 (by omega)
  have HO : ∀ (g : Nat) (u : World), VarX u → Lies u (some ⟨g, 0, none⟩) (mkX (fbL 7 127 8192) (fbL 10 16 8192) 6) → Hid (Calls Tryd.prog 31 #[.iface 76 (.slice (some ⟨g, 0, none⟩) 131072 131072)] u fun e w' => (∃ R, e = .returned (.tuple #[.pointer (some ⟨R, 0, none⟩), .int .i64 0]) ∧ VolB w' R (.iface 76 (.slice (some ⟨g, 0, none⟩) 131072 131072)) (fbL 7 127 8192) (fbL 10 16 8192)) ∧ Below u.heap.size u w') := fun g u hv hl => hide (eopen_ok (some ⟨g, 0, none⟩) 131072 131072 _ _ _ u ⟨by rw [hl6]; omega, Nat.le_of_eq hl6, (fun e => by cases e), hl⟩ hl6.symm hX hv)
  have HU3 := fun R dv u h => hide (used_3 R dv (fbL 7 127 8192) (fbL 10 16 8192) u h maps128.len1 maps128.by1 true (maps128.fix 2 (by decide) (by decide)))
  have HU127 := fun R dv u h => hide (used_127 R dv (fbL 7 127 8192) (fbL 10 16 8192) u h maps128.len1 maps128.by1 false (by
    rw [fbL_has 7 127 8192 (Nat.le_refl _) 126 (by decide), if_pos (show (126 : Int) < ((8192 : Nat) : Int) by decide)]
    decide))
  obtain ⟨F1, hF1⟩ : ∃ F1, F1 = fbL 7 127 8192 := ⟨_, rfl⟩
  obtain ⟨F2, hF2⟩ : ∃ F2, F2 = fbL 10 16 8192 := ⟨_, rfl⟩
  rw [← hF1, ← hF2] at HM HO HU3 HU127
  obtain ⟨D, hD⟩ : ∃ D, D = mkX F1 F2 6 := ⟨_, rfl⟩
  rw [← hD] at HM HO
  have HV := hide hV
  clear hV hX hl6 hF1 hF2 hD
  go_enter Tryd.func7, Tryd.ntmps7
  go_wp2_with fail
  refine HM.out.mono ?_
  rintro e9 w1 ⟨⟨g, rfl, ho⟩, hb1⟩
  have HO1 := HO g w1 (HV.out.below hb1) ho.liesE
  have HB1 := hide hb1
  clear ho hb1 HO HM
  go_wp2_with fail
  refine HO1.out.mono ?_
  rintro e9 w2 ⟨⟨R, rfl, hv2⟩, hb2⟩
  have HB2 := hide (HB1.out.trans (hb2.mono HB1.out.size))
  have HV2 := hide hv2
  obtain ⟨gr, cr, gb, cb, gn, cn, ga, ca, gc, cc, hR, _, _, _, _, _⟩ := hv2
  obtain ⟨⟨c0, c1, c2, c3, c4, c5, c6, c7⟩, c8, c9, c10, c11⟩ := cells_v1 hR
  have HU := HU3 R _ w2 HV2.out
  clear hR hb2 HU3
  go_wp2_with fail
  refine HU.out.mono ?_
  rintro e9 w3 ⟨rfl, hb3⟩
  have HB3 := hide (HB2.out.trans (hb3.mono HB2.out.size))
  have HU2 := HU127 R _ w3 (HV2.out.below hb3)
  clear hb3 HU
  go_wp2_with fail
  refine HU2.out.mono ?_
  rintro e9 w4 ⟨rfl, hb4⟩
  have HB4 := hide (HB3.out.trans (hb4.mono HB3.out.size))
  clear hb4
  go_wp2_with fail
  go_ret
  exact ⟨rfl, HB4.out⟩
end Go.Proofs.YtjmajjfknmjifaaDoor.Oct
