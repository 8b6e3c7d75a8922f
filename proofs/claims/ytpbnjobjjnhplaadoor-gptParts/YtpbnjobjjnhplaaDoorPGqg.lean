/- The program's parse of a disk. -/
import Derived.Test.YtpbnjobjjnhplaaDoorPGqeGqf
namespace Go.Proofs.YtpbnjobjjnhplaaDoor.Oct
open Go.RowKit

/-- What stands while a disk is parsed: the source, the table that is answered, the bytes. -/
structure PaG (w0 : World) (Z R b off : Nat) (sc : Array Value) (d : List Int) (u : World) : Prop where
  zs : Blk u Z sc 83
  zr : Blk u R z22 25
  li : Lies u (some ⟨b, off, none⟩) d
  va : VarG u
  be : Below w0.heap.size w0 u

theorem PaG.below {w0 : World} {Z R b off : Nat} {sc : Array Value} {d : List Int} {u u' : World} (h : PaG w0 Z R b off sc d u) (hb : Below u.heap.size u u') : PaG w0 Z R b off sc d u' :=
  ⟨h.zs.below hb, h.zr.below hb, h.li.below hb, h.va.below hb, h.be.trans (hb.mono h.be.size)⟩
theorem PaG.drew {w0 : World} {Z R b off : Nat} {sc : Array Value} {d : List Int} {u : World} (h : PaG w0 Z R b off sc d u) : PaG w0 Z R b off sc d u.drew := h.below (Below.refl _ _).drew

theorem PaG.row {w0 : World} {Z R b off X : Nat} {sc C : Array Value} {d : List Int} {u : World} (h : PaG w0 Z R b off sc d u) (hl : Lies w0 (some ⟨b, off, none⟩) d) (hv : VarG w0) (hx : w0.heap.size ≤ X) (h1 : R ≠ X) (h2 : Z ≠ X) : PaG w0 Z R b off sc d (u.setRow X C) := by
  have hb := setrow_belowG (cs := C) h.be hx
  have hc : Chg (fun i => i = X) u (u.setRow X C) := ⟨rfl, rfl, rfl, by simp, fun i _ hi => setRow_other _ _ i _ hi⟩
  exact ⟨h.zs.chg hc h2, h.zr.chg hc h1, hl.below hb, hv.below hb, hb⟩

theorem loadS {u : World} {Z : Nat} {x y : Value} (h : Blk u Z #[x, y] 83) : (Instr.loadAt 83 (.pointer (some ⟨Z, 0, none⟩))).run Tryd.prog u = .ok (.agg #[x, y]) u := by
  have := run_loadVar_row (P := Tryd.prog) u Z 83 83 #[x, y] (0, 0) _ h Tryd.underlying83 rfl (by kernel_rfl)
  simp [Instr.loadAt, Instr.sureAddr, this]
theorem loadH {u : World} {R : Nat} {cs : Array Value} (h : Blk u R cs 105) (hs : cs.size = 23) : (Instr.loadAt 105 (.pointer (some ⟨R, 0, none⟩))).run Tryd.prog u = .ok (.agg cs) u := by
  have := run_loadVar_row (P := Tryd.prog) u R 105 105 cs (0, 0) _ h Tryd.underlying105 rfl (by rw [hs]; kernel_rfl)
  simp [Instr.loadAt, Instr.sureAddr, this]

theorem parG_bad {d : List Int} {k : Int} (h : errG d = k) (hk : k ≠ 0) : parG d = zTb := by
  unfold parG
  rw [if_neg (by rw [h]; exact hk)]

theorem tab_set (s : Int) (h : Hd) (L : List E4) (x y : Int) (v : Value) (hid : h.id.length = 16) : (((tabH s h).cells v).toArray.setIfInBounds 20 (.int .i64 x)).setIfInBounds 21 (.int .i64 y) = ((Tb.mk s h.fst h.lst h.id L x y).cells v).toArray := by
  rw [List.setIfInBounds_toArray, List.setIfInBounds_toArray]
  congr 1
  unfold Tb.cells tabH
  rw [List.set_append_right _ _ (by first | (simp; done) | (simp [hid]; done)), List.set_append_right _ _ (by first | (simp; done) | (simp [hid]; done)), List.set_append_right _ _ (by first | (simp; done) | (simp [hid]; done)), List.set_append_right _ _ (by first | (simp; done) | (simp [hid]; done))]
  simp [hid]

theorem PaG.setc {w0 : World} {Z R b off X : Nat} {sc : Array Value} {d : List Int} {u : World} (h : PaG w0 Z R b off sc d u) (hl : Lies w0 (some ⟨b, off, none⟩) d) (hv : VarG w0) (hx : w0.heap.size ≤ X) (h1 : R ≠ X) (h2 : Z ≠ X) (i : Nat) (v : Value) : PaG w0 Z R b off sc d (u.setCell ⟨X, i, none⟩ v) := by
  have hb := h.be.setCell (p := ⟨X, i, none⟩) hx v
  exact ⟨h.zs.other h2 i v, h.zr.other h1 i v, hl.below hb, hv.below hb, hb⟩

theorem alloc_tab {u : World} {C : Array Value} : Blk ((u.alloc (.cells z22 25)).setRow u.heap.size C) u.heap.size C 25 ∧ Below u.heap.size u ((u.alloc (.cells z22 25)).setRow u.heap.size C) :=
  ⟨setRow_blk (Blk.new _ _ _) _, setrow_belowG ((Below.refl _ _).alloc (Nat.le_refl _) _) (Nat.le_refl _)⟩

theorem tab20 (t : Tb) (v : Value) (hid : t.id.length = 16) : (t.cells v).toArray[20]? = some (.int .i64 t.at_) ∧ (t.cells v).toArray[21]? = some (.int .i64 t.beh) := by
  constructor
  all_goals
    rw [List.getElem?_toArray]
    unfold Tb.cells
    rw [List.getElem?_append_right (by simp), List.getElem?_append_right (by simp [hid])]
    simp [hid]

theorem z22_one : (z22 : Array Value).all (·.oneCell') = true := by kernel_rfl
theorem z23_size : (z23 : Array Value).size = 23 := by kernel_rfl

/-- A new head's block, written whole. -/
theorem alloc_head {u : World} {C : Array Value} : Blk ((u.alloc (.cells z23 105)).setRow u.heap.size C) u.heap.size C 105 ∧ Below u.heap.size u ((u.alloc (.cells z23 105)).setRow u.heap.size C) :=
  ⟨setRow_blk (Blk.new _ _ _) _, setrow_belowG ((Below.refl _ _).alloc (Nat.le_refl _) _) (Nat.le_refl _)⟩

set_option maxHeartbeats 16000000 in
set_option maxRecDepth 100000 in
theorem sparse_any (hSS : SortSays) (b off cap : Nat) (d : List Int) (w : World) (hm : d.length % 512 = 0) (h6 : 3072 ≤ d.length) (hd : d.length ≤ 500000000) (hcap : d.length ≤ cap) (hb : Byts d) (hl : Lies w (some ⟨b, off, none⟩) d) (hV : VarG w) :
    Calls Tryd.prog 37 #[srcV b off d.length cap ((d.length / 512 : Nat) : Int)] w fun e w' => (∃ a c, e = .returned (.tuple #[.agg ((parG d).cells (.slice a (parG d).L.length c)).toArray, .int .i64 (errG d)]) ∧ LiesEn w' a (parG d).L ∧ ∀ x, a = some x → w.heap.size ≤ x.block) ∧ Below w.heap.size w w' := by
  unfold srcV
  obtain ⟨K, hK⟩ : ∃ K, K = d.length / 512 := ⟨_, rfl⟩
  have hK6 : 6 ≤ K ∧ 512 * K = d.length := by omega
  have HE0 := hide (show errG d = if (fstD d).2 = 0 then (if (sndD d).2 = 0 then (if bothD d then (if lstG d (fstD d).1 = 0 then (if lstG d (sndD d).1 = 0 then (tabD d (fstD d).1 (sndD d).1).chk else lstG d (sndD d).1) else lstG d (fstD d).1) else 11) else (sndD d).2) else (fstD d).2 by unfold errG; rw [if_pos ⟨hm, h6⟩])
  have HHd1 := fun u hu hv => hide (show Calls Tryd.prog 52 #[srcV b off d.length cap (K : Int), .int .i64 1] u fun e w' => e = .returned (.tuple #[.agg (fstD d).1.cells.toArray, .int .i64 (fstD d).2]) ∧ Below u.heap.size u w' from shead_ok b off cap d (K : Int) 1 u (by omega) hcap hb hu hv (by omega))
  have HHd2 := fun u hu hv => hide (show Calls Tryd.prog 52 #[srcV b off d.length cap (K : Int), .int .i64 ((K : Int) - 1)] u fun e w' => e = .returned (.tuple #[.agg (sndD d).1.cells.toArray, .int .i64 (sndD d).2]) ∧ Below u.heap.size u w' by
    have h := shead_ok b off cap d (K : Int) (K - 1) u (by omega) hcap hb hu hv (by omega)
    rw [show ((K - 1 : Nat) : Int) = (K : Int) - 1 by omega] at h
    unfold sndD
    rw [← hK]
    exact h)
  have hl1 : (secD d 1).length = 512 := secD_len (by omega)
  have hl2 : (secD d (d.length / 512 - 1)).length = 512 := secD_len (by omega)
  have hg1 : (fstD d).2 = 0 → (fstD d).1.good := decG_good hl1 (secD_byts _ hb)
  have hg2 : (sndD d).2 = 0 → (sndD d).1.good := decG_good hl2 (secD_byts _ hb)
  have hi1 : (fstD d).1.id.length = 16 := decG_id hl1
  have hi2 : (sndD d).1.id.length = 16 := decG_id hl2
  have HLs := fun (h : Hd) (hg : h.good) u hu => hide (slist_any b off cap d h u hg hm (by omega) hcap hb hu)
  have HBo := hide (show bothD d ↔ ((fstD d).1.own = 1 ∧ (fstD d).1.oth = (K : Int) - 1) ∧ ((sndD d).1.own = (K : Int) - 1 ∧ (sndD d).1.oth = 1) ∧ (fstD d).1.said = (sndD d).1.said by unfold bothD; rw [← hK]; exact ⟨fun ⟨a, b, c, e, f⟩ => ⟨⟨a, b⟩, ⟨c, e⟩, f⟩, fun ⟨⟨a, b⟩, ⟨c, e⟩, f⟩ => ⟨a, b, c, e, f⟩⟩)
  have HTa := hide (show tabD d (fstD d).1 (sndD d).1 = ⟨(K : Int), (fstD d).1.fst, (fstD d).1.lst, (fstD d).1.id, entsOf (bytD d (fstD d).1) (fstD d).1.cnt.toNat, (fstD d).1.at_, (sndD d).1.at_⟩ by unfold tabD; rw [← hK])
  rw [← hK] at HLs ⊢
  obtain ⟨h1, hh1⟩ : ∃ h, h = (fstD d).1 := ⟨_, rfl⟩
  obtain ⟨h2, hh2⟩ : ∃ h, h = (sndD d).1 := ⟨_, rfl⟩
  obtain ⟨e1, he1⟩ : ∃ e, e = (fstD d).2 := ⟨_, rfl⟩
  obtain ⟨e2, he2⟩ : ∃ e, e = (sndD d).2 := ⟨_, rfl⟩
  have HBad := fun k (h : errG d = k) hk => parG_bad h hk
  have HPar := hide (show errG d = 0 → parG d = tabD d h1 h2 from fun h => by unfold parG; rw [if_pos h, hh1, hh2])
  rw [← hh1] at HHd1 hg1 hi1 HBo HTa HE0
  rw [← hh2] at HHd2 hg2 hi2 HBo HTa HE0
  rw [← he1] at HHd1 hg1 HE0
  rw [← he2] at HHd2 hg2 HE0
  obtain ⟨PT, hPT⟩ : ∃ P, P = parG d := ⟨_, rfl⟩
  obtain ⟨ER, hER⟩ : ∃ E, E = errG d := ⟨_, rfl⟩
  rw [← hPT] at HBad HPar ⊢
  rw [← hER] at HBad HPar HE0 ⊢
  obtain ⟨C1, hC1⟩ : ∃ C, C = h1.cells.toArray := ⟨_, rfl⟩
  obtain ⟨C2, hC2⟩ : ∃ C, C = h2.cells.toArray := ⟨_, rfl⟩
  rw [← hC1] at HHd1
  rw [← hC2] at HHd2
  have HC1 := hide hC1
  have HC2 := hide hC2
  have HS1 := hide (show C1.size = 23 by rw [hC1]; exact hd_size hi1)
  have HS2 := hide (show C2.size = 23 by rw [hC2]; exact hd_size hi2)
  have HO1 := hide (show C1.all (·.oneCell') = true by rw [hC1]; exact hd_one h1)
  have HO2 := hide (show C2.all (·.oneCell') = true by rw [hC2]; exact hd_one h2)
  have HI1 := hide hi1
  have HI2 := hide hi2
  have HG1 := hide hg1
  have HG2 := hide hg2
  have HSS := hide hSS
  have HL0 := hide hl
  have HV0 := hide hV
  have HZo := hide z22_one
  have HBz := hide HBad
  obtain ⟨s, hs⟩ : ∃ s : Int, s = (K : Int) := ⟨_, rfl⟩
  rw [← hs] at HHd1 HHd2 HLs HBo HTa ⊢
  have HSn := hide (show 0 ≤ s ∧ s ≤ 1000000000 by omega)
  obtain ⟨n, hn⟩ : ∃ n, n = d.length := ⟨_, rfl⟩
  rw [← hn] at HHd1 HHd2 HLs ⊢
  have hsz1 : (w.alloc (.cells #[.iface 41 (.slice (some ⟨b, off, none⟩) n cap), .int .i64 s] 83)).heap.size = w.heap.size + 1 := by simp
  obtain ⟨Z, hZ⟩ : ∃ Z, Z = w.heap.size := ⟨_, rfl⟩
  obtain ⟨R, hR⟩ : ∃ R, R = w.heap.size + 1 := ⟨_, rfl⟩
  obtain ⟨w2, hw2⟩ : ∃ w2, w2 = (w.alloc (.cells #[.iface 41 (.slice (some ⟨b, off, none⟩) n cap), .int .i64 s] 83)).alloc (.cells z22 25) := ⟨_, rfl⟩
  have b1 : Below w.heap.size w (w.alloc (.cells #[.iface 41 (.slice (some ⟨b, off, none⟩) n cap), .int .i64 s] 83)) := (Below.refl _ _).alloc (Nat.le_refl _) _
  have b2 : Below w.heap.size w w2 := by rw [hw2]; exact b1.alloc b1.size _
  have k2 : Blk w2 R z22 25 := by rw [hw2, hR, ← hsz1]; exact Blk.new _ _ _
  have k1 : Blk w2 Z #[.iface 41 (.slice (some ⟨b, off, none⟩) n cap), .int .i64 s] 83 := by
    rw [hw2, hZ]
    exact (Blk.new w #[.iface 41 (.slice (some ⟨b, off, none⟩) n cap), .int .i64 s] 83).below ((Below.refl _ _).alloc (Nat.le_refl _) _)
  have HP2 := hide (show PaG w Z R b off #[.iface 41 (.slice (some ⟨b, off, none⟩) n cap), .int .i64 s] d w2 from ⟨k1, k2, hl.below b2, hV.below b2, b2⟩)
  have HZ := hide hZ
  have HR := hide hR
  have HW2 := hide hw2
  have HLe := hide (show w.heap.size ≤ R by rw [hR]; omega)
  unfold srcV at HHd1 HHd2 HLs
  clear hSS hm h6 hd hcap hb hl hV hK hK6 hl1 hl2 hg1 hg2 hi1 hi2 hh1 hh2 he1 he2 hPT hER hC1 hC2 hs hn hsz1 hZ hR hw2 b1 b2 k1 k2 HBad
  go_enter Tryd.func37, Tryd.ntmps37
  go_upto_region 1 with fail
  rw [← HW2.out, ← HR.out, ← HZ.out]
  go_upto_region 2 with (first | (refine wpList_isop (.load 83 (.tmp 1)) rfl ?_; refine wpList_exec rfl (exec_ld rfl rfl (loadS HP2.out.zs)) ?_) | (go_at_call 52; refine (HHd1 _ HP2.out.li HP2.out.va).out.mono ?_; rintro e9 w3 ⟨rfl, h3⟩; have HP3 := hide (HP2.out.below h3); clear h3) | (refine wpList_isop (.store 105 (.tmp 4) (.tmp 14)) rfl ?_; refine wpList_store_row rfl 105 (.tmp 4) (.tmp 14) rfl w3.heap.size C1 rfl rfl 105 _ (Blk.new _ _ _) (by rw [HS1.out]; kernel_rfl) (by rw [HS1.out]; kernel_rfl) HO1.out ?_))
  obtain ⟨X1, hX1⟩ : ∃ X, X = w3.heap.size := ⟨_, rfl⟩
  have hbn := alloc_head (u := w3) (C := C1)
  obtain ⟨w4, hw4⟩ : ∃ x, x = (w3.alloc (.cells z23 105)).setRow w3.heap.size C1 := ⟨_, rfl⟩
  rw [← hw4] at hbn ⊢
  have HP4 := hide (HP3.out.below hbn.2)
  have hbn1 := hbn.1
  rw [← hX1] at hbn1 ⊢
  have HX1 := hide hbn1
  clear hbn hbn1 hX1 hw4

  by_cases q1 : e1 = 0
  case neg =>
    have hne : (e1 != 0) = true := by simpa using q1
    have her := HE0.out.trans (if_neg q1)
    have HEr := hide (And.intro her (HBz.out e1 her q1))
    clear q1 her
    go_wp2_with (first | (refine wpList_isop (.build 25 #[]) rfl ?_; refine wpList_exec rfl (exec_build rfl (by kernel_rfl) z22_built) ?_) | (refine wpList_isop (.store 25 (.tmp 2) (.tmp 18)) rfl ?_; refine wpList_store_row rfl 25 (.tmp 2) (.tmp 18) rfl R z22 rfl rfl 25 _ HP4.out.zr (by kernel_rfl) rfl HZo.out ?_))
    refine bodyPost_ret (ret_tb rfl _ _ R z22 z22_size _ rfl rfl (setRow_blk HP4.out.zr _)) rfl ⟨⟨none, 0, ?_, ?_⟩, setrow_belowG HP4.out.be HLe.out⟩
    · rw [HEr.out.2, HEr.out.1]
      show _ = Ending.returned (.tuple #[.agg (zTb.cells (.slice none 0 0)).toArray, .int .i64 e1])
      rw [← z22_eq]
      rfl
    · rw [HEr.out.2]
      exact ⟨Or.inl rfl, fun x hx => by cases hx⟩

  have HE1 := hide (HE0.out.trans (if_pos q1))
  have HGd1 := hide (HG1.out q1)
  rw [q1]
  clear q1 HE0 HG1
  go_upto_region 4 with fail

  go_cut [5, 6] from 20 to 26 (fun v5 v6 wx => ∃ X2, v6 = .pointer (some ⟨X2, 0, none⟩) ∧ v5 = .int .i64 e2 ∧ Blk wx X2 C2 105 ∧ PaG w Z R b off #[.iface 41 (.slice (some ⟨b, off, none⟩) n cap), .int .i64 s] d wx ∧ Blk wx X1 C1 105)
  case first =>
    have HS0 : (show World → Prop from fun u => PaG w Z R b off #[.iface 41 (.slice (some ⟨b, off, none⟩) n cap), .int .i64 s] d u ∧ Blk u X1 C1 105) w4.drew := ⟨HP4.out.drew, HX1.out.drew⟩
    refine b_region (S := fun u => PaG w Z R b off #[.iface 41 (.slice (some ⟨b, off, none⟩) n cap), .int .i64 s] d u ∧ Blk u X1 C1 105) (F := (fun _ => true)) (by kernel_rfl) ?_
    refine b_take 0 (some 21) (.agg #[.iface 41 (.slice (some ⟨b, off, none⟩) n cap), .int .i64 s]) rfl rfl (by kernel_rfl) (by kernel_rfl) (by kernel_rfl) (by kernel_rfl) (by kernel_rfl) (fun _ _ _ h => h) (by rfl) HS0 ?_ ?_
    · intro u hSu
      have hSu := hSu
      exact exec_ld rfl rfl (loadS hSu.1.zs)
    try simp only [Act.put, List.setIfInBounds_toArray, List.set_cons_zero, List.set_cons_succ]
    refine b_take 1 (some 22) (.agg #[.iface 41 (.slice (some ⟨b, off, none⟩) n cap), .int .i64 s]) rfl rfl (by kernel_rfl) (by kernel_rfl) (by kernel_rfl) (by kernel_rfl) (by kernel_rfl) (fun _ _ _ h => h) (by rfl) HS0 ?_ ?_
    · intro u hSu
      have hSu := hSu
      exact exec_ld rfl rfl (loadS hSu.1.zs)
    try simp only [Act.put, List.setIfInBounds_toArray, List.set_cons_zero, List.set_cons_succ]
    refine b_ready (rs := [2, 7]) (by kernel_rfl) (by simp) ?_
    refine AllReadyB.cons (i := 2) rfl (fun K hK => ?_) (AllReadyB.cons (i := 7) rfl (fun K hK => ?_) AllReadyB.nil)
    · go_simp
      refine (shead2_any _ s _ HSn.out).mono ?_
      rintro e9 x1 ⟨rfl, hbx⟩
      have HSx1 : (show World → Prop from fun u => PaG w Z R b off #[.iface 41 (.slice (some ⟨b, off, none⟩) n cap), .int .i64 s] d u ∧ Blk u X1 C1 105) x1 := ⟨HS0.1.below hbx, HS0.2.below hbx⟩
      go_simp
      refine hK.out _ _ (fun _ => HSx1) ?_
      clear hK K
      try simp only [Act.put, List.setIfInBounds_toArray, List.set_cons_zero, List.set_cons_succ]
      refine b_ready (rs := [3, 7]) (by kernel_rfl) (by simp) ?_
      refine AllReadyB.cons (i := 3) rfl (fun K hK => ?_) (AllReadyB.cons (i := 7) rfl (fun K hK => ?_) AllReadyB.nil)
      · go_simp
        refine (HHd2 _ HSx1.1.li HSx1.1.va).out.mono ?_
        rintro e9 x2 ⟨rfl, hbx⟩
        have HSx2 : (show World → Prop from fun u => PaG w Z R b off #[.iface 41 (.slice (some ⟨b, off, none⟩) n cap), .int .i64 s] d u ∧ Blk u X1 C1 105) x2 := ⟨HSx1.1.below hbx, HSx1.2.below hbx⟩
        go_simp
        refine hK.out _ _ (fun _ => HSx2) ?_
        clear hK K
        try simp only [Act.put, List.setIfInBounds_toArray, List.set_cons_zero, List.set_cons_succ]
        refine b_take 4 (some 20) (.tuple #[.agg C2, .int .i64 e2]) rfl rfl (by kernel_rfl) (by kernel_rfl) (by kernel_rfl) (by kernel_rfl) (by kernel_rfl) (fun _ _ _ h => h) (by rfl) HSx2 ?_ ?_
        · intro u hSu
          go_simp
        try simp only [Act.put, List.setIfInBounds_toArray, List.set_cons_zero, List.set_cons_succ]
        refine b_take 5 (some 25) (.agg C2) rfl rfl (by kernel_rfl) (by kernel_rfl) (by kernel_rfl) (by kernel_rfl) (by kernel_rfl) (fun _ _ _ h => h) (by rfl) HSx2 ?_ ?_
        · intro u hSu
          go_simp
        try simp only [Act.put, List.setIfInBounds_toArray, List.set_cons_zero, List.set_cons_succ]
        refine b_take 6 (some 26) (.int .i64 e2) rfl rfl (by kernel_rfl) (by kernel_rfl) (by kernel_rfl) (by kernel_rfl) (by kernel_rfl) (fun _ _ _ h => h) (by rfl) HSx2 ?_ ?_
        · intro u hSu
          go_simp
        try simp only [Act.put, List.setIfInBounds_toArray, List.set_cons_zero, List.set_cons_succ]
        refine b_ready (rs := [7]) (by kernel_rfl) (by simp) ?_
        refine AllReadyB.cons (i := 7) rfl (fun K hK => ?_) AllReadyB.nil
        go_simp
        have hX0 := Blk.new x2 z23 105
        have hbx : Below x2.heap.size x2 (x2.alloc (.cells z23 105)) := (Below.refl _ _).alloc (Nat.le_refl _) _
        have HSx3 : (show World → Prop from fun u => PaG w Z R b off #[.iface 41 (.slice (some ⟨b, off, none⟩) n cap), .int .i64 s] d u ∧ Blk u X1 C1 105) (x2.alloc (.cells z23 105)) := ⟨HSx2.1.below hbx, HSx2.2.below hbx⟩
        obtain ⟨x3, hq⟩ : ∃ x3, x3 = x2.alloc (.cells z23 105) := ⟨_, rfl⟩
        obtain ⟨X, hX⟩ : ∃ X, X = x2.heap.size := ⟨_, rfl⟩
        rw [← hq] at hX0 HSx3 hbx
        rw [← hX] at hX0
        rw [← hq, ← hX]
        have HXr := hide (show R < X by have := HSx2.1.zr.lt; omega)
        have HXz := hide (show Z < X by have := HSx2.1.zs.lt; omega)
        have HX1x := hide (show X1 < X by have := HSx2.2.lt; omega)
        clear hq hX
        refine hK.out _ _ (fun _ => HSx3) ?_
        clear hK K
        try simp only [Act.put, List.setIfInBounds_toArray, List.set_cons_zero, List.set_cons_succ]
        have HRow : PaG w Z R b off #[.iface 41 (.slice (some ⟨b, off, none⟩) n cap), .int .i64 s] d (x3.setRow X C2) := HSx3.1.row HL0.out HV0.out (by have := HXr.out; have := HLe.out; omega) (by have := HXr.out; omega) (by have := HXz.out; omega)
        have HRx : Blk (x3.setRow X C2) X1 C1 105 := HSx3.2.chg (X := fun i => i = X) ⟨rfl, rfl, rfl, by simp, fun i _ hi => setRow_other _ _ i _ hi⟩ (by have := HX1x.out; omega)
        refine b_skip 8 (x3.setRow X C2) (by kernel_rfl) rfl rfl rfl (exec_st rfl X C2 rfl rfl 105 _ hX0 (by rw [HS2.out]; kernel_rfl) (by rw [HS2.out]; kernel_rfl) HO2.out) (fun _ => ⟨HRow, HRx⟩) ?_
        refine b_val 9 (some 5) (.int .i64 e2) (x3.setRow X C2) (by kernel_rfl) rfl rfl rfl (by go_simp) (fun _ => ⟨HRow, HRx⟩) ?_
        try simp only [Act.put, List.setIfInBounds_toArray, List.set_cons_zero, List.set_cons_succ]
        refine b_done (by kernel_rfl) ?_ _
        try go_wp2
        go_meet
        exact ⟨X, rfl, rfl, setRow_blk hX0 _, HRow, HRx⟩
      · go_simp
        have hX0 := Blk.new x1 z23 105
        have hbx : Below x1.heap.size x1 (x1.alloc (.cells z23 105)) := (Below.refl _ _).alloc (Nat.le_refl _) _
        have HSx2 : (show World → Prop from fun u => PaG w Z R b off #[.iface 41 (.slice (some ⟨b, off, none⟩) n cap), .int .i64 s] d u ∧ Blk u X1 C1 105) (x1.alloc (.cells z23 105)) := ⟨HSx1.1.below hbx, HSx1.2.below hbx⟩
        obtain ⟨x2, hq⟩ : ∃ x2, x2 = x1.alloc (.cells z23 105) := ⟨_, rfl⟩
        obtain ⟨X, hX⟩ : ∃ X, X = x1.heap.size := ⟨_, rfl⟩
        rw [← hq] at hX0 HSx2 hbx
        rw [← hX] at hX0
        rw [← hq, ← hX]
        have HXr := hide (show R < X by have := HSx1.1.zr.lt; omega)
        have HXz := hide (show Z < X by have := HSx1.1.zs.lt; omega)
        have HX1x := hide (show X1 < X by have := HSx1.2.lt; omega)
        clear hq hX
        refine hK.out _ _ (fun _ => HSx2) ?_
        clear hK K
        try simp only [Act.put, List.setIfInBounds_toArray, List.set_cons_zero, List.set_cons_succ]
        refine b_ready (rs := [3]) (by kernel_rfl) (by simp) ?_
        refine AllReadyB.cons (i := 3) rfl (fun K hK => ?_) AllReadyB.nil
        go_simp
        refine (HHd2 _ HSx2.1.li HSx2.1.va).out.mono ?_
        rintro e9 x3 ⟨rfl, hbx⟩
        have HSx3 : (show World → Prop from fun u => PaG w Z R b off #[.iface 41 (.slice (some ⟨b, off, none⟩) n cap), .int .i64 s] d u ∧ Blk u X1 C1 105) x3 := ⟨HSx2.1.below hbx, HSx2.2.below hbx⟩
        have hX0 := hX0.below hbx
        go_simp
        refine hK.out _ _ (fun _ => HSx3) ?_
        clear hK K
        try simp only [Act.put, List.setIfInBounds_toArray, List.set_cons_zero, List.set_cons_succ]
        refine b_take 4 (some 20) (.tuple #[.agg C2, .int .i64 e2]) rfl rfl (by kernel_rfl) (by kernel_rfl) (by kernel_rfl) (by kernel_rfl) (by kernel_rfl) (fun _ _ _ h => h) (by rfl) HSx3 ?_ ?_
        · intro u hSu
          go_simp
        try simp only [Act.put, List.setIfInBounds_toArray, List.set_cons_zero, List.set_cons_succ]
        refine b_take 5 (some 25) (.agg C2) rfl rfl (by kernel_rfl) (by kernel_rfl) (by kernel_rfl) (by kernel_rfl) (by kernel_rfl) (fun _ _ _ h => h) (by rfl) HSx3 ?_ ?_
        · intro u hSu
          go_simp
        try simp only [Act.put, List.setIfInBounds_toArray, List.set_cons_zero, List.set_cons_succ]
        refine b_take 6 (some 26) (.int .i64 e2) rfl rfl (by kernel_rfl) (by kernel_rfl) (by kernel_rfl) (by kernel_rfl) (by kernel_rfl) (fun _ _ _ h => h) (by rfl) HSx3 ?_ ?_
        · intro u hSu
          go_simp
        try simp only [Act.put, List.setIfInBounds_toArray, List.set_cons_zero, List.set_cons_succ]
        have HRow : PaG w Z R b off #[.iface 41 (.slice (some ⟨b, off, none⟩) n cap), .int .i64 s] d (x3.setRow X C2) := HSx3.1.row HL0.out HV0.out (by have := HXr.out; have := HLe.out; omega) (by have := HXr.out; omega) (by have := HXz.out; omega)
        have HRx : Blk (x3.setRow X C2) X1 C1 105 := HSx3.2.chg (X := fun i => i = X) ⟨rfl, rfl, rfl, by simp, fun i _ hi => setRow_other _ _ i _ hi⟩ (by have := HX1x.out; omega)
        refine b_skip 8 (x3.setRow X C2) (by kernel_rfl) rfl rfl rfl (exec_st rfl X C2 rfl rfl 105 _ hX0 (by rw [HS2.out]; kernel_rfl) (by rw [HS2.out]; kernel_rfl) HO2.out) (fun _ => ⟨HRow, HRx⟩) ?_
        refine b_val 9 (some 5) (.int .i64 e2) (x3.setRow X C2) (by kernel_rfl) rfl rfl rfl (by go_simp) (fun _ => ⟨HRow, HRx⟩) ?_
        try simp only [Act.put, List.setIfInBounds_toArray, List.set_cons_zero, List.set_cons_succ]
        refine b_done (by kernel_rfl) ?_ _
        try go_wp2
        go_meet
        exact ⟨X, rfl, rfl, setRow_blk hX0 _, HRow, HRx⟩
    · go_simp
      have hbx : Below w4.heap.size w4 (w4.alloc (.cells z23 105)).drew := ((Below.refl _ _).alloc (Nat.le_refl _) _).drew
      have hX0 := (Blk.new w4 z23 105).drew
      have HSx1 : (show World → Prop from fun u => PaG w Z R b off #[.iface 41 (.slice (some ⟨b, off, none⟩) n cap), .int .i64 s] d u ∧ Blk u X1 C1 105) (w4.alloc (.cells z23 105)).drew := ⟨HP4.out.below hbx, HX1.out.below hbx⟩
      obtain ⟨x1, hq⟩ : ∃ x, x = (w4.alloc (.cells z23 105)).drew := ⟨_, rfl⟩
      obtain ⟨X, hX⟩ : ∃ X, X = w4.heap.size := ⟨_, rfl⟩
      rw [← hq] at hX0 HSx1 hbx
      rw [← hX] at hX0
      rw [← hq, ← hX]
      have HXr := hide (show R < X by have := HP4.out.zr.lt; omega)
      have HXz := hide (show Z < X by have := HP4.out.zs.lt; omega)
      have HX1x := hide (show X1 < X by have := HX1.out.lt; omega)
      clear hq hX
      refine hK.out _ _ (fun _ => HSx1) ?_
      clear hK K
      try simp only [Act.put, List.setIfInBounds_toArray, List.set_cons_zero, List.set_cons_succ]
      refine b_ready (rs := [2]) (by kernel_rfl) (by simp) ?_
      refine AllReadyB.cons (i := 2) rfl (fun K hK => ?_) AllReadyB.nil
      go_simp
      refine (shead2_any _ s _ HSn.out).mono ?_
      rintro e9 x2 ⟨rfl, hbx⟩
      have HSx2 : (show World → Prop from fun u => PaG w Z R b off #[.iface 41 (.slice (some ⟨b, off, none⟩) n cap), .int .i64 s] d u ∧ Blk u X1 C1 105) x2 := ⟨HSx1.1.below hbx, HSx1.2.below hbx⟩
      have hX0 := hX0.below hbx
      go_simp
      refine hK.out _ _ (fun _ => HSx2) ?_
      clear hK K
      try simp only [Act.put, List.setIfInBounds_toArray, List.set_cons_zero, List.set_cons_succ]
      refine b_ready (rs := [3]) (by kernel_rfl) (by simp) ?_
      refine AllReadyB.cons (i := 3) rfl (fun K hK => ?_) AllReadyB.nil
      go_simp
      refine (HHd2 _ HSx2.1.li HSx2.1.va).out.mono ?_
      rintro e9 x3 ⟨rfl, hbx⟩
      have HSx3 : (show World → Prop from fun u => PaG w Z R b off #[.iface 41 (.slice (some ⟨b, off, none⟩) n cap), .int .i64 s] d u ∧ Blk u X1 C1 105) x3 := ⟨HSx2.1.below hbx, HSx2.2.below hbx⟩
      have hX0 := hX0.below hbx
      go_simp
      refine hK.out _ _ (fun _ => HSx3) ?_
      clear hK K
      try simp only [Act.put, List.setIfInBounds_toArray, List.set_cons_zero, List.set_cons_succ]
      refine b_take 4 (some 20) (.tuple #[.agg C2, .int .i64 e2]) rfl rfl (by kernel_rfl) (by kernel_rfl) (by kernel_rfl) (by kernel_rfl) (by kernel_rfl) (fun _ _ _ h => h) (by rfl) HSx3 ?_ ?_
      · intro u hSu
        go_simp
      try simp only [Act.put, List.setIfInBounds_toArray, List.set_cons_zero, List.set_cons_succ]
      refine b_take 5 (some 25) (.agg C2) rfl rfl (by kernel_rfl) (by kernel_rfl) (by kernel_rfl) (by kernel_rfl) (by kernel_rfl) (fun _ _ _ h => h) (by rfl) HSx3 ?_ ?_
      · intro u hSu
        go_simp
      try simp only [Act.put, List.setIfInBounds_toArray, List.set_cons_zero, List.set_cons_succ]
      refine b_take 6 (some 26) (.int .i64 e2) rfl rfl (by kernel_rfl) (by kernel_rfl) (by kernel_rfl) (by kernel_rfl) (by kernel_rfl) (fun _ _ _ h => h) (by rfl) HSx3 ?_ ?_
      · intro u hSu
        go_simp
      try simp only [Act.put, List.setIfInBounds_toArray, List.set_cons_zero, List.set_cons_succ]
      have HRow : PaG w Z R b off #[.iface 41 (.slice (some ⟨b, off, none⟩) n cap), .int .i64 s] d (x3.setRow X C2) := HSx3.1.row HL0.out HV0.out (by have := HXr.out; have := HLe.out; omega) (by have := HXr.out; omega) (by have := HXz.out; omega)
      have HRx : Blk (x3.setRow X C2) X1 C1 105 := HSx3.2.chg (X := fun i => i = X) ⟨rfl, rfl, rfl, by simp, fun i _ hi => setRow_other _ _ i _ hi⟩ (by have := HX1x.out; omega)
      refine b_skip 8 (x3.setRow X C2) (by kernel_rfl) rfl rfl rfl (exec_st rfl X C2 rfl rfl 105 _ hX0 (by rw [HS2.out]; kernel_rfl) (by rw [HS2.out]; kernel_rfl) HO2.out) (fun _ => ⟨HRow, HRx⟩) ?_
      refine b_val 9 (some 5) (.int .i64 e2) (x3.setRow X C2) (by kernel_rfl) rfl rfl rfl (by go_simp) (fun _ => ⟨HRow, HRx⟩) ?_
      try simp only [Act.put, List.setIfInBounds_toArray, List.set_cons_zero, List.set_cons_succ]
      refine b_done (by kernel_rfl) ?_ _
      try go_wp2
      go_meet
      exact ⟨X, rfl, rfl, setRow_blk hX0 _, HRow, HRx⟩
  case rest =>
    obtain ⟨X2, rfl, rfl, hx2, hp5, hx1⟩ := hcut
    have HX2 := hide hx2
    have HP5 := hide hp5
    have HX1' := hide hx1
    clear hx2 hp5 hx1 HP4 HX1
    by_cases q2 : e2 = 0
    case neg =>
      have hne : (e2 != 0) = true := by simpa using q2
      have her := HE1.out.trans (if_neg q2)
      have HEr := hide (And.intro her (HBz.out e2 her q2))
      clear q2 her

      go_wp2_with (first | (refine wpList_isop (.build 25 #[]) rfl ?_; refine wpList_exec rfl (exec_build rfl (by kernel_rfl) z22_built) ?_) | (refine wpList_isop (.store 25 (.tmp 2) (.tmp 29)) rfl ?_; refine wpList_store_row rfl 25 (.tmp 2) (.tmp 29) rfl R z22 rfl rfl 25 _ HP5.out.zr (by kernel_rfl) rfl HZo.out ?_))
      refine bodyPost_ret (ret_tb rfl _ _ R z22 z22_size _ rfl rfl (setRow_blk HP5.out.zr _)) rfl ⟨⟨none, 0, ?_, ?_⟩, setrow_belowG HP5.out.be HLe.out⟩
      · rw [HEr.out.2, HEr.out.1]
        show _ = Ending.returned (.tuple #[.agg (zTb.cells (.slice none 0 0)).toArray, .int .i64 e2])
        rw [← z22_eq]
        rfl
      · rw [HEr.out.2]
        exact ⟨Or.inl rfl, fun x hx => by cases hx⟩

    have HE2 := hide (HE1.out.trans (if_pos q2))
    have HGd2 := hide (HG2.out q2)
    rw [q2]
    clear q2 HE1 HG2
    go_upto_region 7 with fail

    obtain ⟨b1, hb1⟩ : ∃ b, b = decide (h1.own = 1 ∧ h1.oth = s - 1) := ⟨_, rfl⟩
    obtain ⟨b2, hb2⟩ : ∃ b, b = decide (h2.own = s - 1 ∧ h2.oth = 1) := ⟨_, rfl⟩
    obtain ⟨b3, hb3⟩ : ∃ b, b = decide (h1.said = h2.said) := ⟨_, rfl⟩
    have HSt1 := fun u => hide (show Calls Tryd.prog 54 #[.agg C1, .int .i64 1, .int .i64 (s - 1)] u fun e w' => e = .returned (.bool b1) ∧ Below u.heap.size u w' by rw [HC1.out, hb1]; exact stands_any h1 HI1.out 1 (s - 1) u)
    have HSt2 := fun u => hide (show Calls Tryd.prog 54 #[.agg C2, .int .i64 (s - 1), .int .i64 1] u fun e w' => e = .returned (.bool b2) ∧ Below u.heap.size u w' by rw [HC2.out, hb2]; exact stands_any h2 HI2.out (s - 1) 1 u)
    have HNq := fun u => hide (show (binOp .neq 103 (.agg h1.sc.toArray) (.agg h2.sc.toArray)).run Tryd.prog u = .ok (.bool (!b3)) u by rw [neq_said u h1 h2 HI1.out HI2.out, hb3]; simp)
    obtain ⟨BB, hBB⟩ : ∃ B, B = (b1 && (b2 && b3)) := ⟨_, rfl⟩
    have HBB := hide (show bothD d ↔ BB = true by rw [HBo.out, hBB, hb1, hb2, hb3]; simp [and_assoc])
    have HB3 := hide hBB
    have HLs1 := fun u hu => hide (show Calls Tryd.prog 55 #[.agg #[.iface 41 (.slice (some ⟨b, off, none⟩) n cap), .int .i64 s], .agg C1] u _ by rw [HC1.out]; exact (HLs h1 HGd1.out u hu).out)
    have HLs2 := fun u hu => hide (show Calls Tryd.prog 55 #[.agg #[.iface 41 (.slice (some ⟨b, off, none⟩) n cap), .int .i64 s], .agg C2] u _ by rw [HC2.out]; exact (HLs h2 HGd2.out u hu).out)
    clear hb1 hb2 hb3 hBB HBo HLs HHd1 HHd2
    obtain ⟨w5, hw5⟩ : ∃ x, x = wc := ⟨_, rfl⟩
    rw [← hw5] at HX2 HP5 HX1' ⊢
    clear hw5
    go_cut [49] from 31 to 48 (fun v49 wx => v49 = .bool (!BB) ∧ PaG w Z R b off #[.iface 41 (.slice (some ⟨b, off, none⟩) n cap), .int .i64 s] d wx ∧ Blk wx X1 C1 105 ∧ Blk wx X2 C2 105)
    case first =>
      have HS0 : (show World → Prop from fun u => PaG w Z R b off #[.iface 41 (.slice (some ⟨b, off, none⟩) n cap), .int .i64 s] d u ∧ Blk u X1 C1 105 ∧ Blk u X2 C2 105) w5.drew := ⟨HP5.out.drew, HX1'.out.drew, HX2.out.drew⟩
      cases b1
      · skip
        refine wp_region_held_drew (S := fun u => PaG w Z R b off #[.iface 41 (.slice (some ⟨b, off, none⟩) n cap), .int .i64 s] d u ∧ Blk u X1 C1 105 ∧ Blk u X2 C2 105) (by kernel_rfl) HS0 (fun _ => ?_)
        refine any_take 0 (some 31) (.agg C1) rfl rfl (by kernel_rfl) (by kernel_rfl) (by kernel_rfl) (fun _ _ _ h => h) (by rfl) HS0 ?_ ?_
        · intro u hSu
          exact exec_ld rfl rfl (loadH hSu.2.1 HS1.out)
        try simp only [Act.put, List.setIfInBounds_toArray, List.set_cons_zero, List.set_cons_succ]
        refine any_take 1 (some 32) (.agg #[.iface 41 (.slice (some ⟨b, off, none⟩) n cap), .int .i64 s]) rfl rfl (by kernel_rfl) (by kernel_rfl) (by kernel_rfl) (fun _ _ _ h => h) (by rfl) HS0 ?_ ?_
        · intro u hSu
          exact exec_ld rfl rfl (loadS hSu.1.zs)
        try simp only [Act.put, List.setIfInBounds_toArray, List.set_cons_zero, List.set_cons_succ]
        refine wpAnyH_ready (rs := [2]) (by kernel_rfl) (by simp) ?_
        refine AllReadyH.cons (i := 2) rfl (fun K hK => ?_) AllReadyH.nil
        go_simp
        refine (shead2_any _ s _ HSn.out).mono ?_
        rintro e9 y1 ⟨rfl, hbx⟩
        have HSy1 : (show World → Prop from fun u => PaG w Z R b off #[.iface 41 (.slice (some ⟨b, off, none⟩) n cap), .int .i64 s] d u ∧ Blk u X1 C1 105 ∧ Blk u X2 C2 105) y1 := ⟨HS0.1.below hbx, HS0.2.1.below hbx, HS0.2.2.below hbx⟩
        clear hbx
        go_simp
        refine hK.out _ _ HSy1 (fun _ => ?_)
        clear hK K
        try simp only [Act.put, List.setIfInBounds_toArray, List.set_cons_zero, List.set_cons_succ]
        refine wpAnyH_ready (rs := [3]) (by kernel_rfl) (by simp) ?_
        refine AllReadyH.cons (i := 3) rfl (fun K hK => ?_) AllReadyH.nil
        go_simp
        refine (HSt1 _).out.mono ?_
        rintro e9 y2 ⟨rfl, hbx⟩
        have HSy2 : (show World → Prop from fun u => PaG w Z R b off #[.iface 41 (.slice (some ⟨b, off, none⟩) n cap), .int .i64 s] d u ∧ Blk u X1 C1 105 ∧ Blk u X2 C2 105) y2 := ⟨HSy1.1.below hbx, HSy1.2.1.below hbx, HSy1.2.2.below hbx⟩
        clear hbx
        go_simp
        refine hK.out _ _ HSy2 (fun _ => ?_)
        clear hK K
        try simp only [Act.put, List.setIfInBounds_toArray, List.set_cons_zero, List.set_cons_succ]
        refine any_take 4 (some 35) (.bool true) rfl rfl (by kernel_rfl) (by kernel_rfl) (by kernel_rfl) (fun _ _ _ h => h) (by rfl) HSy2 ?_ ?_
        · intro u hSu
          go_simp
        try simp only [Act.put, List.setIfInBounds_toArray, List.set_cons_zero, List.set_cons_succ]
        refine any_take 5 (some 36) (.bool true) rfl rfl (by kernel_rfl) (by kernel_rfl) (by kernel_rfl) (fun _ _ _ h => h) (by rfl) HSy2 ?_ ?_
        · intro u hSu
          go_simp
        try simp only [Act.put, List.setIfInBounds_toArray, List.set_cons_zero, List.set_cons_succ]
        refine any_skip 6 (some 37) rfl rfl (by kernel_rfl) (by kernel_rfl) (by kernel_rfl) (fun _ _ _ h => h) (by rfl) HSy2 ?_
        try simp only [Act.put, List.setIfInBounds_toArray, List.set_cons_zero, List.set_cons_succ]
        refine any_skip 7 (some 38) rfl rfl (by kernel_rfl) (by kernel_rfl) (by kernel_rfl) (fun _ _ _ h => h) (by rfl) HSy2 ?_
        try simp only [Act.put, List.setIfInBounds_toArray, List.set_cons_zero, List.set_cons_succ]
        refine any_skip 8 (some 39) rfl rfl (by kernel_rfl) (by kernel_rfl) (by kernel_rfl) (fun _ _ _ h => h) (by rfl) HSy2 ?_
        try simp only [Act.put, List.setIfInBounds_toArray, List.set_cons_zero, List.set_cons_succ]
        refine any_skip 9 (some 40) rfl rfl (by kernel_rfl) (by kernel_rfl) (by kernel_rfl) (fun _ _ _ h => h) (by rfl) HSy2 ?_
        try simp only [Act.put, List.setIfInBounds_toArray, List.set_cons_zero, List.set_cons_succ]
        refine any_skip 10 (some 41) rfl rfl (by kernel_rfl) (by kernel_rfl) (by kernel_rfl) (fun _ _ _ h => h) (by rfl) HSy2 ?_
        try simp only [Act.put, List.setIfInBounds_toArray, List.set_cons_zero, List.set_cons_succ]
        refine any_take 11 (some 42) (.bool true) rfl rfl (by kernel_rfl) (by kernel_rfl) (by kernel_rfl) (fun _ _ _ h => h) (by rfl) HSy2 ?_ ?_
        · intro u hSu
          go_simp
        try simp only [Act.put, List.setIfInBounds_toArray, List.set_cons_zero, List.set_cons_succ]
        refine any_take 12 (some 43) (.bool true) rfl rfl (by kernel_rfl) (by kernel_rfl) (by kernel_rfl) (fun _ _ _ h => h) (by rfl) HSy2 ?_ ?_
        · intro u hSu
          go_simp
        try simp only [Act.put, List.setIfInBounds_toArray, List.set_cons_zero, List.set_cons_succ]
        refine any_skip 13 (some 44) rfl rfl (by kernel_rfl) (by kernel_rfl) (by kernel_rfl) (fun _ _ _ h => h) (by rfl) HSy2 ?_
        try simp only [Act.put, List.setIfInBounds_toArray, List.set_cons_zero, List.set_cons_succ]
        refine any_skip 14 (some 45) rfl rfl (by kernel_rfl) (by kernel_rfl) (by kernel_rfl) (fun _ _ _ h => h) (by rfl) HSy2 ?_
        try simp only [Act.put, List.setIfInBounds_toArray, List.set_cons_zero, List.set_cons_succ]
        refine any_skip 15 (some 46) rfl rfl (by kernel_rfl) (by kernel_rfl) (by kernel_rfl) (fun _ _ _ h => h) (by rfl) HSy2 ?_
        try simp only [Act.put, List.setIfInBounds_toArray, List.set_cons_zero, List.set_cons_succ]
        refine any_skip 16 (some 47) rfl rfl (by kernel_rfl) (by kernel_rfl) (by kernel_rfl) (fun _ _ _ h => h) (by rfl) HSy2 ?_
        try simp only [Act.put, List.setIfInBounds_toArray, List.set_cons_zero, List.set_cons_succ]
        refine any_skip 17 (some 48) rfl rfl (by kernel_rfl) (by kernel_rfl) (by kernel_rfl) (fun _ _ _ h => h) (by rfl) HSy2 ?_
        try simp only [Act.put, List.setIfInBounds_toArray, List.set_cons_zero, List.set_cons_succ]
        refine any_take 18 (some 49) (.bool true) rfl rfl (by kernel_rfl) (by kernel_rfl) (by kernel_rfl) (fun _ _ _ h => h) (by rfl) HSy2 ?_ ?_
        · intro u hSu
          go_simp
        try simp only [Act.put, List.setIfInBounds_toArray, List.set_cons_zero, List.set_cons_succ]
        refine wpAnyH_done (by kernel_rfl) ?_ _
        try go_wp2
        go_meet
        exact ⟨by rw [HB3.out]; rfl, HSy2.1, HSy2.2.1, HSy2.2.2⟩

      · cases b2
        · skip
          refine wp_region_held_drew (S := fun u => PaG w Z R b off #[.iface 41 (.slice (some ⟨b, off, none⟩) n cap), .int .i64 s] d u ∧ Blk u X1 C1 105 ∧ Blk u X2 C2 105) (by kernel_rfl) HS0 (fun _ => ?_)
          refine any_take 0 (some 31) (.agg C1) rfl rfl (by kernel_rfl) (by kernel_rfl) (by kernel_rfl) (fun _ _ _ h => h) (by rfl) HS0 ?_ ?_
          · intro u hSu
            exact exec_ld rfl rfl (loadH hSu.2.1 HS1.out)
          try simp only [Act.put, List.setIfInBounds_toArray, List.set_cons_zero, List.set_cons_succ]
          refine any_take 1 (some 32) (.agg #[.iface 41 (.slice (some ⟨b, off, none⟩) n cap), .int .i64 s]) rfl rfl (by kernel_rfl) (by kernel_rfl) (by kernel_rfl) (fun _ _ _ h => h) (by rfl) HS0 ?_ ?_
          · intro u hSu
            exact exec_ld rfl rfl (loadS hSu.1.zs)
          try simp only [Act.put, List.setIfInBounds_toArray, List.set_cons_zero, List.set_cons_succ]
          refine wpAnyH_ready (rs := [2]) (by kernel_rfl) (by simp) ?_
          refine AllReadyH.cons (i := 2) rfl (fun K hK => ?_) AllReadyH.nil
          go_simp
          refine (shead2_any _ s _ HSn.out).mono ?_
          rintro e9 y1 ⟨rfl, hbx⟩
          have HSy1 : (show World → Prop from fun u => PaG w Z R b off #[.iface 41 (.slice (some ⟨b, off, none⟩) n cap), .int .i64 s] d u ∧ Blk u X1 C1 105 ∧ Blk u X2 C2 105) y1 := ⟨HS0.1.below hbx, HS0.2.1.below hbx, HS0.2.2.below hbx⟩
          clear hbx
          go_simp
          refine hK.out _ _ HSy1 (fun _ => ?_)
          clear hK K
          try simp only [Act.put, List.setIfInBounds_toArray, List.set_cons_zero, List.set_cons_succ]
          refine wpAnyH_ready (rs := [3]) (by kernel_rfl) (by simp) ?_
          refine AllReadyH.cons (i := 3) rfl (fun K hK => ?_) AllReadyH.nil
          go_simp
          refine (HSt1 _).out.mono ?_
          rintro e9 y2 ⟨rfl, hbx⟩
          have HSy2 : (show World → Prop from fun u => PaG w Z R b off #[.iface 41 (.slice (some ⟨b, off, none⟩) n cap), .int .i64 s] d u ∧ Blk u X1 C1 105 ∧ Blk u X2 C2 105) y2 := ⟨HSy1.1.below hbx, HSy1.2.1.below hbx, HSy1.2.2.below hbx⟩
          clear hbx
          go_simp
          refine hK.out _ _ HSy2 (fun _ => ?_)
          clear hK K
          try simp only [Act.put, List.setIfInBounds_toArray, List.set_cons_zero, List.set_cons_succ]
          refine any_take 4 (some 35) (.bool false) rfl rfl (by kernel_rfl) (by kernel_rfl) (by kernel_rfl) (fun _ _ _ h => h) (by rfl) HSy2 ?_ ?_
          · intro u hSu
            go_simp
          try simp only [Act.put, List.setIfInBounds_toArray, List.set_cons_zero, List.set_cons_succ]
          refine any_take 5 (some 36) (.bool false) rfl rfl (by kernel_rfl) (by kernel_rfl) (by kernel_rfl) (fun _ _ _ h => h) (by rfl) HSy2 ?_ ?_
          · intro u hSu
            go_simp
          try simp only [Act.put, List.setIfInBounds_toArray, List.set_cons_zero, List.set_cons_succ]
          refine any_take 6 (some 37) (.agg C2) rfl rfl (by kernel_rfl) (by kernel_rfl) (by kernel_rfl) (fun _ _ _ h => h) (by rfl) HSy2 ?_ ?_
          · intro u hSu
            exact exec_ld rfl rfl (loadH hSu.2.2 HS2.out)
          try simp only [Act.put, List.setIfInBounds_toArray, List.set_cons_zero, List.set_cons_succ]
          refine any_take 7 (some 38) (.agg #[.iface 41 (.slice (some ⟨b, off, none⟩) n cap), .int .i64 s]) rfl rfl (by kernel_rfl) (by kernel_rfl) (by kernel_rfl) (fun _ _ _ h => h) (by rfl) HSy2 ?_ ?_
          · intro u hSu
            exact exec_ld rfl rfl (loadS hSu.1.zs)
          try simp only [Act.put, List.setIfInBounds_toArray, List.set_cons_zero, List.set_cons_succ]
          refine wpAnyH_ready (rs := [8]) (by kernel_rfl) (by simp) ?_
          refine AllReadyH.cons (i := 8) rfl (fun K hK => ?_) AllReadyH.nil
          go_simp
          refine (shead2_any _ s _ HSn.out).mono ?_
          rintro e9 y3 ⟨rfl, hbx⟩
          have HSy3 : (show World → Prop from fun u => PaG w Z R b off #[.iface 41 (.slice (some ⟨b, off, none⟩) n cap), .int .i64 s] d u ∧ Blk u X1 C1 105 ∧ Blk u X2 C2 105) y3 := ⟨HSy2.1.below hbx, HSy2.2.1.below hbx, HSy2.2.2.below hbx⟩
          clear hbx
          go_simp
          refine hK.out _ _ HSy3 (fun _ => ?_)
          clear hK K
          try simp only [Act.put, List.setIfInBounds_toArray, List.set_cons_zero, List.set_cons_succ]
          refine wpAnyH_ready (rs := [9]) (by kernel_rfl) (by simp) ?_
          refine AllReadyH.cons (i := 9) rfl (fun K hK => ?_) AllReadyH.nil
          go_simp
          refine (HSt2 _).out.mono ?_
          rintro e9 y4 ⟨rfl, hbx⟩
          have HSy4 : (show World → Prop from fun u => PaG w Z R b off #[.iface 41 (.slice (some ⟨b, off, none⟩) n cap), .int .i64 s] d u ∧ Blk u X1 C1 105 ∧ Blk u X2 C2 105) y4 := ⟨HSy3.1.below hbx, HSy3.2.1.below hbx, HSy3.2.2.below hbx⟩
          clear hbx
          go_simp
          refine hK.out _ _ HSy4 (fun _ => ?_)
          clear hK K
          try simp only [Act.put, List.setIfInBounds_toArray, List.set_cons_zero, List.set_cons_succ]
          refine any_take 10 (some 41) (.bool true) rfl rfl (by kernel_rfl) (by kernel_rfl) (by kernel_rfl) (fun _ _ _ h => h) (by rfl) HSy4 ?_ ?_
          · intro u hSu
            go_simp
          try simp only [Act.put, List.setIfInBounds_toArray, List.set_cons_zero, List.set_cons_succ]
          refine any_take 11 (some 42) (.bool true) rfl rfl (by kernel_rfl) (by kernel_rfl) (by kernel_rfl) (fun _ _ _ h => h) (by rfl) HSy4 ?_ ?_
          · intro u hSu
            go_simp
          try simp only [Act.put, List.setIfInBounds_toArray, List.set_cons_zero, List.set_cons_succ]
          refine any_take 12 (some 43) (.bool true) rfl rfl (by kernel_rfl) (by kernel_rfl) (by kernel_rfl) (fun _ _ _ h => h) (by rfl) HSy4 ?_ ?_
          · intro u hSu
            go_simp
          try simp only [Act.put, List.setIfInBounds_toArray, List.set_cons_zero, List.set_cons_succ]
          refine any_skip 13 (some 44) rfl rfl (by kernel_rfl) (by kernel_rfl) (by kernel_rfl) (fun _ _ _ h => h) (by rfl) HSy4 ?_
          try simp only [Act.put, List.setIfInBounds_toArray, List.set_cons_zero, List.set_cons_succ]
          refine any_skip 14 (some 45) rfl rfl (by kernel_rfl) (by kernel_rfl) (by kernel_rfl) (fun _ _ _ h => h) (by rfl) HSy4 ?_
          try simp only [Act.put, List.setIfInBounds_toArray, List.set_cons_zero, List.set_cons_succ]
          refine any_skip 15 (some 46) rfl rfl (by kernel_rfl) (by kernel_rfl) (by kernel_rfl) (fun _ _ _ h => h) (by rfl) HSy4 ?_
          try simp only [Act.put, List.setIfInBounds_toArray, List.set_cons_zero, List.set_cons_succ]
          refine any_skip 16 (some 47) rfl rfl (by kernel_rfl) (by kernel_rfl) (by kernel_rfl) (fun _ _ _ h => h) (by rfl) HSy4 ?_
          try simp only [Act.put, List.setIfInBounds_toArray, List.set_cons_zero, List.set_cons_succ]
          refine any_skip 17 (some 48) rfl rfl (by kernel_rfl) (by kernel_rfl) (by kernel_rfl) (fun _ _ _ h => h) (by rfl) HSy4 ?_
          try simp only [Act.put, List.setIfInBounds_toArray, List.set_cons_zero, List.set_cons_succ]
          refine any_take 18 (some 49) (.bool true) rfl rfl (by kernel_rfl) (by kernel_rfl) (by kernel_rfl) (fun _ _ _ h => h) (by rfl) HSy4 ?_ ?_
          · intro u hSu
            go_simp
          try simp only [Act.put, List.setIfInBounds_toArray, List.set_cons_zero, List.set_cons_succ]
          refine wpAnyH_done (by kernel_rfl) ?_ _
          try go_wp2
          go_meet
          exact ⟨by rw [HB3.out]; rfl, HSy4.1, HSy4.2.1, HSy4.2.2⟩

        · skip
          refine wp_region_held_drew (S := fun u => PaG w Z R b off #[.iface 41 (.slice (some ⟨b, off, none⟩) n cap), .int .i64 s] d u ∧ Blk u X1 C1 105 ∧ Blk u X2 C2 105) (by kernel_rfl) HS0 (fun _ => ?_)
          refine any_take 0 (some 31) (.agg C1) rfl rfl (by kernel_rfl) (by kernel_rfl) (by kernel_rfl) (fun _ _ _ h => h) (by rfl) HS0 ?_ ?_
          · intro u hSu
            exact exec_ld rfl rfl (loadH hSu.2.1 HS1.out)
          try simp only [Act.put, List.setIfInBounds_toArray, List.set_cons_zero, List.set_cons_succ]
          refine any_take 1 (some 32) (.agg #[.iface 41 (.slice (some ⟨b, off, none⟩) n cap), .int .i64 s]) rfl rfl (by kernel_rfl) (by kernel_rfl) (by kernel_rfl) (fun _ _ _ h => h) (by rfl) HS0 ?_ ?_
          · intro u hSu
            exact exec_ld rfl rfl (loadS hSu.1.zs)
          try simp only [Act.put, List.setIfInBounds_toArray, List.set_cons_zero, List.set_cons_succ]
          refine wpAnyH_ready (rs := [2]) (by kernel_rfl) (by simp) ?_
          refine AllReadyH.cons (i := 2) rfl (fun K hK => ?_) AllReadyH.nil
          go_simp
          refine (shead2_any _ s _ HSn.out).mono ?_
          rintro e9 y1 ⟨rfl, hbx⟩
          have HSy1 : (show World → Prop from fun u => PaG w Z R b off #[.iface 41 (.slice (some ⟨b, off, none⟩) n cap), .int .i64 s] d u ∧ Blk u X1 C1 105 ∧ Blk u X2 C2 105) y1 := ⟨HS0.1.below hbx, HS0.2.1.below hbx, HS0.2.2.below hbx⟩
          clear hbx
          go_simp
          refine hK.out _ _ HSy1 (fun _ => ?_)
          clear hK K
          try simp only [Act.put, List.setIfInBounds_toArray, List.set_cons_zero, List.set_cons_succ]
          refine wpAnyH_ready (rs := [3]) (by kernel_rfl) (by simp) ?_
          refine AllReadyH.cons (i := 3) rfl (fun K hK => ?_) AllReadyH.nil
          go_simp
          refine (HSt1 _).out.mono ?_
          rintro e9 y2 ⟨rfl, hbx⟩
          have HSy2 : (show World → Prop from fun u => PaG w Z R b off #[.iface 41 (.slice (some ⟨b, off, none⟩) n cap), .int .i64 s] d u ∧ Blk u X1 C1 105 ∧ Blk u X2 C2 105) y2 := ⟨HSy1.1.below hbx, HSy1.2.1.below hbx, HSy1.2.2.below hbx⟩
          clear hbx
          go_simp
          refine hK.out _ _ HSy2 (fun _ => ?_)
          clear hK K
          try simp only [Act.put, List.setIfInBounds_toArray, List.set_cons_zero, List.set_cons_succ]
          refine any_take 4 (some 35) (.bool false) rfl rfl (by kernel_rfl) (by kernel_rfl) (by kernel_rfl) (fun _ _ _ h => h) (by rfl) HSy2 ?_ ?_
          · intro u hSu
            go_simp
          try simp only [Act.put, List.setIfInBounds_toArray, List.set_cons_zero, List.set_cons_succ]
          refine any_take 5 (some 36) (.bool false) rfl rfl (by kernel_rfl) (by kernel_rfl) (by kernel_rfl) (fun _ _ _ h => h) (by rfl) HSy2 ?_ ?_
          · intro u hSu
            go_simp
          try simp only [Act.put, List.setIfInBounds_toArray, List.set_cons_zero, List.set_cons_succ]
          refine any_take 6 (some 37) (.agg C2) rfl rfl (by kernel_rfl) (by kernel_rfl) (by kernel_rfl) (fun _ _ _ h => h) (by rfl) HSy2 ?_ ?_
          · intro u hSu
            exact exec_ld rfl rfl (loadH hSu.2.2 HS2.out)
          try simp only [Act.put, List.setIfInBounds_toArray, List.set_cons_zero, List.set_cons_succ]
          refine any_take 7 (some 38) (.agg #[.iface 41 (.slice (some ⟨b, off, none⟩) n cap), .int .i64 s]) rfl rfl (by kernel_rfl) (by kernel_rfl) (by kernel_rfl) (fun _ _ _ h => h) (by rfl) HSy2 ?_ ?_
          · intro u hSu
            exact exec_ld rfl rfl (loadS hSu.1.zs)
          try simp only [Act.put, List.setIfInBounds_toArray, List.set_cons_zero, List.set_cons_succ]
          refine wpAnyH_ready (rs := [8]) (by kernel_rfl) (by simp) ?_
          refine AllReadyH.cons (i := 8) rfl (fun K hK => ?_) AllReadyH.nil
          go_simp
          refine (shead2_any _ s _ HSn.out).mono ?_
          rintro e9 y3 ⟨rfl, hbx⟩
          have HSy3 : (show World → Prop from fun u => PaG w Z R b off #[.iface 41 (.slice (some ⟨b, off, none⟩) n cap), .int .i64 s] d u ∧ Blk u X1 C1 105 ∧ Blk u X2 C2 105) y3 := ⟨HSy2.1.below hbx, HSy2.2.1.below hbx, HSy2.2.2.below hbx⟩
          clear hbx
          go_simp
          refine hK.out _ _ HSy3 (fun _ => ?_)
          clear hK K
          try simp only [Act.put, List.setIfInBounds_toArray, List.set_cons_zero, List.set_cons_succ]
          refine wpAnyH_ready (rs := [9]) (by kernel_rfl) (by simp) ?_
          refine AllReadyH.cons (i := 9) rfl (fun K hK => ?_) AllReadyH.nil
          go_simp
          refine (HSt2 _).out.mono ?_
          rintro e9 y4 ⟨rfl, hbx⟩
          have HSy4 : (show World → Prop from fun u => PaG w Z R b off #[.iface 41 (.slice (some ⟨b, off, none⟩) n cap), .int .i64 s] d u ∧ Blk u X1 C1 105 ∧ Blk u X2 C2 105) y4 := ⟨HSy3.1.below hbx, HSy3.2.1.below hbx, HSy3.2.2.below hbx⟩
          clear hbx
          go_simp
          refine hK.out _ _ HSy4 (fun _ => ?_)
          clear hK K
          try simp only [Act.put, List.setIfInBounds_toArray, List.set_cons_zero, List.set_cons_succ]
          refine any_take 10 (some 41) (.bool false) rfl rfl (by kernel_rfl) (by kernel_rfl) (by kernel_rfl) (fun _ _ _ h => h) (by rfl) HSy4 ?_ ?_
          · intro u hSu
            go_simp
          try simp only [Act.put, List.setIfInBounds_toArray, List.set_cons_zero, List.set_cons_succ]
          refine any_take 11 (some 42) (.bool false) rfl rfl (by kernel_rfl) (by kernel_rfl) (by kernel_rfl) (fun _ _ _ h => h) (by rfl) HSy4 ?_ ?_
          · intro u hSu
            go_simp
          try simp only [Act.put, List.setIfInBounds_toArray, List.set_cons_zero, List.set_cons_succ]
          refine any_take 12 (some 43) (.bool false) rfl rfl (by kernel_rfl) (by kernel_rfl) (by kernel_rfl) (fun _ _ _ h => h) (by rfl) HSy4 ?_ ?_
          · intro u hSu
            go_simp
          try simp only [Act.put, List.setIfInBounds_toArray, List.set_cons_zero, List.set_cons_succ]
          refine any_take 13 (some 44) (.pointer (some ⟨X1, 0, none⟩)) rfl rfl (by kernel_rfl) (by kernel_rfl) (by kernel_rfl) (fun _ _ _ h => h) (by rfl) HSy4 ?_ ?_
          · intro u hSu
            go_simp
          try simp only [Act.put, List.setIfInBounds_toArray, List.set_cons_zero, List.set_cons_succ]
          refine any_take 14 (some 45) (.agg h1.sc.toArray) rfl rfl (by kernel_rfl) (by kernel_rfl) (by kernel_rfl) (fun _ _ _ h => h) (by rfl) HSy4 ?_ ?_
          · intro u hSu
            exact exec_ld rfl rfl (load_said HI1.out (by rw [← HC1.out]; exact hSu.2.1))
          try simp only [Act.put, List.setIfInBounds_toArray, List.set_cons_zero, List.set_cons_succ]
          refine any_take 15 (some 46) (.pointer (some ⟨X2, 0, none⟩)) rfl rfl (by kernel_rfl) (by kernel_rfl) (by kernel_rfl) (fun _ _ _ h => h) (by rfl) HSy4 ?_ ?_
          · intro u hSu
            go_simp
          try simp only [Act.put, List.setIfInBounds_toArray, List.set_cons_zero, List.set_cons_succ]
          refine any_take 16 (some 47) (.agg h2.sc.toArray) rfl rfl (by kernel_rfl) (by kernel_rfl) (by kernel_rfl) (fun _ _ _ h => h) (by rfl) HSy4 ?_ ?_
          · intro u hSu
            exact exec_ld rfl rfl (load_said HI2.out (by rw [← HC2.out]; exact hSu.2.2))
          try simp only [Act.put, List.setIfInBounds_toArray, List.set_cons_zero, List.set_cons_succ]
          refine any_take 17 (some 48) (.bool (!b3)) rfl rfl (by kernel_rfl) (by kernel_rfl) (by kernel_rfl) (fun _ _ _ h => h) (by rfl) HSy4 ?_ ?_
          · intro u hSu
            exact exec_cmp rfl rfl rfl (guard_said _ _ _ _ _ _) (HNq _).out
          try simp only [Act.put, List.setIfInBounds_toArray, List.set_cons_zero, List.set_cons_succ]
          refine any_take 18 (some 49) (.bool (!b3)) rfl rfl (by kernel_rfl) (by kernel_rfl) (by kernel_rfl) (fun _ _ _ h => h) (by rfl) HSy4 ?_ ?_
          · intro u hSu
            go_simp
          try simp only [Act.put, List.setIfInBounds_toArray, List.set_cons_zero, List.set_cons_succ]
          refine wpAnyH_done (by kernel_rfl) ?_ _
          try go_wp2
          go_meet
          exact ⟨by rw [HB3.out]; rfl, HSy4.1, HSy4.2.1, HSy4.2.2⟩

    case rest =>
      obtain ⟨rfl, hp, hx1, hx2⟩ := hcut
      obtain ⟨w6, hw6⟩ : ∃ x, x = wc := ⟨_, rfl⟩
      rw [← hw6] at hp hx1 hx2 ⊢
      have HP6 := hide hp
      have HX1 := hide hx1
      have HX2 := hide hx2
      clear hp hx1 hx2 hw6 HP5 HX1' HSt1 HSt2 HNq HB3
      cases BB
      case false =>
        have q3 : ¬ bothD d := fun h => absurd (HBB.out.1 h) (by decide)
        have her := HE2.out.trans (if_neg q3)
        have HEr := hide (And.intro her (HBz.out 11 her (by decide)))
        clear q3 her
        go_wp2_with (first | (refine wpList_isop (.build 25 #[]) rfl ?_; refine wpList_exec rfl (exec_build rfl (by kernel_rfl) z22_built) ?_) | (refine wpList_isop (.store 25 (.tmp 2) (.tmp 50)) rfl ?_; refine wpList_store_row rfl 25 (.tmp 2) (.tmp 50) rfl R z22 rfl rfl 25 _ HP6.out.zr (by kernel_rfl) rfl HZo.out ?_))
        refine bodyPost_ret (ret_tb rfl _ _ R z22 z22_size _ rfl rfl (setRow_blk HP6.out.zr _)) rfl ⟨⟨none, 0, ?_, ?_⟩, setrow_belowG HP6.out.be HLe.out⟩
        · rw [HEr.out.2, HEr.out.1]
          show _ = Ending.returned (.tuple #[.agg (zTb.cells (.slice none 0 0)).toArray, .int .i64 11])
          rw [← z22_eq]
          rfl
        · rw [HEr.out.2]
          exact ⟨Or.inl rfl, fun x hx => by cases hx⟩

      have HE3 := hide (HE2.out.trans (if_pos (HBB.out.2 rfl)))
      clear HE2 HBB
      go_upto_region 10 with (first | (refine wpList_isop (.load 83 (.tmp 1)) rfl ?_; refine wpList_exec rfl (exec_ld rfl rfl (loadS HP6.out.zs)) ?_) | (refine wpList_isop (.load 105 (.tmp 4)) rfl ?_; refine wpList_exec rfl (exec_ld rfl rfl (loadH HX1.out HS1.out)) ?_) | (go_at_call 55; refine (HLs1 _ HP6.out.li).out.mono ?_; rintro e9 w7 ⟨⟨v7, rfl, hv7⟩, hbx⟩; have HP7 := hide (HP6.out.below hbx); have HX17 := hide (HX1.out.below hbx); have HX27 := hide (HX2.out.below hbx); have HV7 := hide hv7; clear hv7 hbx))
      obtain ⟨c1, hc1⟩ : ∃ c, c = lstG d h1 := ⟨_, rfl⟩
      rw [← hc1] at HE3 HV7 ⊢
      have HCl1 := hide hc1
      clear hc1
      have HRw6 := hide (show R < w6.heap.size from HP6.out.zr.lt)
      by_cases q4 : c1 = 0
      case neg =>
        have hne : (c1 != 0) = true := by simpa using q4
        have her := HE3.out.trans (if_neg q4)
        have HEr := hide (And.intro her (HBz.out c1 her q4))
        clear q4 her

        go_wp2_with (first | (refine wpList_isop (.build 25 #[]) rfl ?_; refine wpList_exec rfl (exec_build rfl (by kernel_rfl) z22_built) ?_) | (refine wpList_isop (.store 25 (.tmp 2) (.tmp 59)) rfl ?_; refine wpList_store_row rfl 25 (.tmp 2) (.tmp 59) rfl R z22 rfl rfl 25 _ HP7.out.zr (by kernel_rfl) rfl HZo.out ?_))
        refine bodyPost_ret (ret_tb rfl _ _ R z22 z22_size _ rfl rfl (setRow_blk HP7.out.zr _)) rfl ⟨⟨none, 0, ?_, ?_⟩, setrow_belowG HP7.out.be HLe.out⟩
        · rw [HEr.out.2, HEr.out.1]
          show _ = Ending.returned (.tuple #[.agg (zTb.cells (.slice none 0 0)).toArray, .int .i64 c1])
          rw [← z22_eq]
          rfl
        · rw [HEr.out.2]
          exact ⟨Or.inl rfl, fun x hx => by cases hx⟩

      have HE4 := hide (HE3.out.trans (if_pos q4))
      have HOg := hide (HV7.out q4)
      have HLz := hide (HCl1.out.symm.trans q4)
      rw [q4]
      clear q4 HE3 HV7
      go_upto_region 13 with (first | (refine wpList_isop (.load 83 (.tmp 1)) rfl ?_; refine wpList_exec rfl (exec_ld rfl rfl (loadS HP7.out.zs)) ?_) | (refine wpList_isop (.load 105 (.tmp 6)) rfl ?_; refine wpList_exec rfl (exec_ld rfl rfl (loadH HX27.out HS2.out)) ?_) | (go_at_call 55; refine (HLs2 _ HP7.out.li).out.mono ?_; rintro e9 w8 ⟨⟨v8, rfl, _⟩, hbx⟩; have HP8 := hide (HP7.out.below hbx); have HX18 := hide (HX17.out.below hbx); have HX28 := hide (HX27.out.below hbx); have HOg8 := hide (OwnG.below HOg.out hbx); clear hbx))
      obtain ⟨c2, hc2⟩ : ∃ c, c = lstG d h2 := ⟨_, rfl⟩
      rw [← hc2] at HE4 ⊢
      clear hc2
      by_cases q5 : c2 = 0
      case neg =>
        have hne : (c2 != 0) = true := by simpa using q5
        have her := HE4.out.trans (if_neg q5)
        have HEr := hide (And.intro her (HBz.out c2 her q5))
        clear q5 her

        go_wp2_with (first | (refine wpList_isop (.build 25 #[]) rfl ?_; refine wpList_exec rfl (exec_build rfl (by kernel_rfl) z22_built) ?_) | (refine wpList_isop (.store 25 (.tmp 2) (.tmp 69)) rfl ?_; refine wpList_store_row rfl 25 (.tmp 2) (.tmp 69) rfl R z22 rfl rfl 25 _ HP8.out.zr (by kernel_rfl) rfl HZo.out ?_))
        refine bodyPost_ret (ret_tb rfl _ _ R z22 z22_size _ rfl rfl (setRow_blk HP8.out.zr _)) rfl ⟨⟨none, 0, ?_, ?_⟩, setrow_belowG HP8.out.be HLe.out⟩
        · rw [HEr.out.2, HEr.out.1]
          show _ = Ending.returned (.tuple #[.agg (zTb.cells (.slice none 0 0)).toArray, .int .i64 c2])
          rw [← z22_eq]
          rfl
        · rw [HEr.out.2]
          exact ⟨Or.inl rfl, fun x hx => by cases hx⟩

      have HE5 := hide (HE4.out.trans (if_pos q5))
      rw [q5]
      clear q5 HE4
      have hto := tabD_ok HGd1.out HLz.out (b := h2)
      have HTi := hide hto.1
      have HTk := hide hto.2.1
      have HTl := hide hto.2.2.2
      obtain ⟨TD, hTD⟩ : ∃ T, T = tabD d h1 h2 := ⟨_, rfl⟩
      have hLL : entsOf (bytD d h1) h1.cnt.toNat = TD.L := by rw [hTD]; rfl
      rw [← hTD] at HTi HTk HTl HE5 HPar HTa
      rw [hLL] at HOg8
      clear hto hLL hTD
      obtain ⟨a7, k7, hv7, hli⟩ := HOg8.out.lies HTk.out
      subst hv7
      obtain ⟨L7, hL7⟩ : ∃ l, l = TD.L.length := ⟨_, rfl⟩
      have HTb := fun u => hide (show Calls Tryd.prog 56 #[.agg #[.iface 41 (.slice (some ⟨b, off, none⟩) n cap), .int .i64 s], .agg C1, .slice a7 L7 k7] u _ by rw [HC1.out]; exact stable_any _ s h1 HI1.out a7 L7 k7 u)
      have HL7 := hide hL7
      rw [← hL7] at HOg8 ⊢
      clear hL7 hli
      obtain ⟨T, hT⟩ : ∃ T, T = ((tabH s h1).cells (.slice a7 L7 k7)).toArray := ⟨_, rfl⟩
      rw [← hT] at HTb
      have HTs := hide (show T.size = 22 by rw [hT]; exact tb_size HI1.out)
      have HTo := hide (show T.all (·.oneCell') = true by rw [hT]; exact tb_oneG _ _ _ _)
      have hT20 : T[20]? = some (.int .i64 0) := by rw [hT]; exact (tab20 (tabH s h1) _ HI1.out).1
      have hT21 : T[21]? = some (.int .i64 0) := by rw [hT]; exact (tab20 (tabH s h1) _ HI1.out).2
      have HTD := hide (show TD = _ from HTa.out)
      have HT2 := hide (show (T.setIfInBounds 20 (.int .i64 h1.at_)).setIfInBounds 21 (.int .i64 h2.at_) = (TD.cells (.slice a7 TD.L.length k7)).toArray by
        rw [hT, tab_set s h1 TD.L h1.at_ h2.at_ _ HI1.out, ← HL7.out, HTD.out])
      have HT20 := hide hT20
      have HT21 := hide (show (T.setIfInBounds 20 (.int .i64 h1.at_))[21]? = some (.int .i64 0) by rw [Array.getElem?_setIfInBounds_ne (by decide)]; exact hT21)
      clear hT hT20 hT21
      go_upto_region 16 with (first | (refine wpList_isop (.load 83 (.tmp 1)) rfl ?_; refine wpList_exec rfl (exec_ld rfl rfl (loadS HP8.out.zs)) ?_) | (refine wpList_isop (.load 105 (.tmp 4)) rfl ?_; refine wpList_exec rfl (exec_ld rfl rfl (loadH HX18.out HS1.out)) ?_) | (go_at_call 56; refine (HTb _).out.mono ?_; rintro e9 w9 ⟨rfl, hbx⟩; have HP9 := hide (HP8.out.below hbx); have HX19 := hide (HX18.out.below hbx); have HX29 := hide (HX28.out.below hbx); have HB9 := hide hbx; clear hbx) | (refine wpList_isop (.store 25 (.tmp 10) (.tmp 74)) rfl ?_; refine wpList_store_row rfl 25 (.tmp 10) (.tmp 74) rfl w9.heap.size T rfl rfl 25 _ (Blk.new _ _ _) (by rw [HTs.out]; kernel_rfl) (by rw [HTs.out]; kernel_rfl) HTo.out ?_))
      obtain ⟨X3, hX3⟩ : ∃ X, X = w9.heap.size := ⟨_, rfl⟩
      have hbn := alloc_tab (u := w9) (C := T)
      obtain ⟨wa, hwa⟩ : ∃ x, x = (w9.alloc (.cells z22 25)).setRow w9.heap.size T := ⟨_, rfl⟩
      rw [← hwa] at hbn ⊢
      have HPa := hide (HP9.out.below hbn.2)
      have HX1a := hide (HX19.out.below hbn.2)
      have HX2a := hide (HX29.out.below hbn.2)
      have HBa := hide (HB9.out.trans (hbn.2.mono HB9.out.size))
      have HXr := hide (show R < X3 by rw [hX3]; exact HP9.out.zr.lt)
      have HXz := hide (show Z < X3 by rw [hX3]; exact HP9.out.zs.lt)
      have HXb := hide (show w8.heap.size ≤ X3 by rw [hX3]; exact HB9.out.size)
      have HXw := hide (show w.heap.size ≤ X3 by rw [hX3]; exact HP9.out.be.size)
      have HXa := hide (show X1 < X3 by rw [hX3]; exact HX19.out.lt)
      have HXc := hide (show X2 < X3 by rw [hX3]; exact HX29.out.lt)
      have hbn1 := hbn.1
      rw [← hX3] at hbn1 ⊢
      have HX3 := hide hbn1
      clear hbn hbn1 hX3 hwa
      obtain ⟨A1, hA1⟩ : ∃ A : Int, A = h1.at_ := ⟨_, rfl⟩
      obtain ⟨A2, hA2⟩ : ∃ A : Int, A = h2.at_ := ⟨_, rfl⟩
      have HA1 := fun u (hk : Blk u X1 C1 105) => hide (show u.cell? ⟨X1, 22, none⟩ = some (.int .i64 A1) by rw [hA1]; exact (hd_cells HI1.out (by rw [← HC1.out]; exact hk)).c22)
      have HA2 := fun u (hk : Blk u X2 C2 105) => hide (show u.cell? ⟨X2, 22, none⟩ = some (.int .i64 A2) by rw [hA2]; exact (hd_cells HI2.out (by rw [← HC2.out]; exact hk)).c22)
      rw [← hA1, ← hA2] at HT2
      rw [← hA1] at HT21
      clear hA1 hA2
      have hf1 := HX3.out.drew
      have hf2 := hf1.set 20 (.int .i64 A1)
      have hf3 := hf2.set 21 (.int .i64 A2)
      rw [HT2.out] at hf3
      have z20 := hf1.cell 20 _ HT20.out
      have g20 := hf1.frozen 20
      have z21 := hf2.cell 21 _ HT21.out
      have g21 := hf2.frozen 21
      have z22' := (HX3.out.set 20 (.int .i64 A1)).cell 21 _ HT21.out
      have g22' := (HX3.out.set 20 (.int .i64 A1)).frozen 21
      have z23' := HX3.out.cell 20 _ HT20.out
      have g23' := HX3.out.frozen 20
      have HX3f := hide hf3
      clear hf1 hf2 hf3
      have HS0 : (show World → Prop from fun u => PaG w Z R b off #[.iface 41 (.slice (some ⟨b, off, none⟩) n cap), .int .i64 s] d u ∧ Blk u X1 C1 105 ∧ Blk u X2 C2 105 ∧ Below w8.heap.size w8 u) wa.drew := ⟨HPa.out.drew, HX1a.out.drew, HX2a.out.drew, HBa.out.drew⟩
      have HSs : (show World → Prop from fun u => PaG w Z R b off #[.iface 41 (.slice (some ⟨b, off, none⟩) n cap), .int .i64 s] d u ∧ Blk u X1 C1 105 ∧ Blk u X2 C2 105 ∧ Below w8.heap.size w8 u) (wa.drew.setCell ⟨X3, 20, none⟩ (.int .i64 A1)) := ⟨HS0.1.setc HL0.out HV0.out HXw.out (by have := HXr.out; omega) (by have := HXz.out; omega) 20 _, HS0.2.1.other (by have := HXa.out; omega) 20 _, HS0.2.2.1.other (by have := HXc.out; omega) 20 _, HS0.2.2.2.setCell (p := ⟨X3, 20, none⟩) HXb.out _⟩
      have HSt : (show World → Prop from fun u => PaG w Z R b off #[.iface 41 (.slice (some ⟨b, off, none⟩) n cap), .int .i64 s] d u ∧ Blk u X1 C1 105 ∧ Blk u X2 C2 105 ∧ Below w8.heap.size w8 u) ((wa.drew.setCell ⟨X3, 20, none⟩ (.int .i64 A1)).setCell ⟨X3, 21, none⟩ (.int .i64 A2)) := ⟨HSs.1.setc HL0.out HV0.out HXw.out (by have := HXr.out; omega) (by have := HXz.out; omega) 21 _, HSs.2.1.other (by have := HXa.out; omega) 21 _, HSs.2.2.1.other (by have := HXc.out; omega) 21 _, HSs.2.2.2.setCell (p := ⟨X3, 21, none⟩) HXb.out _⟩
      refine b_region (S := fun u => PaG w Z R b off #[.iface 41 (.slice (some ⟨b, off, none⟩) n cap), .int .i64 s] d u ∧ Blk u X1 C1 105 ∧ Blk u X2 C2 105 ∧ Below w8.heap.size w8 u) (F := (fun _ => true)) (by kernel_rfl) ?_
      refine b_take 0 (some 75) (.pointer (some ⟨X1, 22, none⟩)) rfl rfl (by kernel_rfl) (by kernel_rfl) (by kernel_rfl) (by kernel_rfl) (by kernel_rfl) (fun _ _ _ h => h) (by rfl) HS0 ?_ ?_
      · intro u hSu
        have hSu := hSu
        have p1 := (HA1 _ hSu.2.1).out
        go_simp
      try simp only [Act.put, List.setIfInBounds_toArray, List.set_cons_zero, List.set_cons_succ]
      refine b_take 1 (some 76) (.int .i64 A1) rfl rfl (by kernel_rfl) (by kernel_rfl) (by kernel_rfl) (by kernel_rfl) (by kernel_rfl) (fun _ _ _ h => h) (by rfl) HS0 ?_ ?_
      · intro u hSu
        have hSu := hSu
        have p1 := (HA1 _ hSu.2.1).out
        go_simp
      try simp only [Act.put, List.setIfInBounds_toArray, List.set_cons_zero, List.set_cons_succ]
      refine b_take 2 (some 77) (.pointer (some ⟨X2, 22, none⟩)) rfl rfl (by kernel_rfl) (by kernel_rfl) (by kernel_rfl) (by kernel_rfl) (by kernel_rfl) (fun _ _ _ h => h) (by rfl) HS0 ?_ ?_
      · intro u hSu
        have hSu := hSu
        have p2 := (HA2 _ hSu.2.2.1).out
        go_simp
      try simp only [Act.put, List.setIfInBounds_toArray, List.set_cons_zero, List.set_cons_succ]
      refine b_take 3 (some 78) (.int .i64 A2) rfl rfl (by kernel_rfl) (by kernel_rfl) (by kernel_rfl) (by kernel_rfl) (by kernel_rfl) (fun _ _ _ h => h) (by rfl) HS0 ?_ ?_
      · intro u hSu
        have hSu := hSu
        have p2 := (HA2 _ hSu.2.2.1).out
        go_simp
      try simp only [Act.put, List.setIfInBounds_toArray, List.set_cons_zero, List.set_cons_succ]
      refine b_take 4 (some 79) (.pointer (some ⟨X3, 20, none⟩)) rfl rfl (by kernel_rfl) (by kernel_rfl) (by kernel_rfl) (by kernel_rfl) (by kernel_rfl) (fun _ _ _ h => h) (by rfl) HS0 ?_ ?_
      · intro u hSu
        have hSu := hSu
        go_simp
      try simp only [Act.put, List.setIfInBounds_toArray, List.set_cons_zero, List.set_cons_succ]
      refine b_skip 5 (wa.drew.setCell ⟨X3, 20, none⟩ (.int .i64 A1)) (by kernel_rfl) rfl rfl rfl (by go_simp) (fun _ => HSs) ?_
      refine b_take 6 (some 80) (.pointer (some ⟨X3, 21, none⟩)) rfl rfl (by kernel_rfl) (by kernel_rfl) (by kernel_rfl) (by kernel_rfl) (by kernel_rfl) (fun _ _ _ h => h) (by rfl) HSs ?_ ?_
      · intro u hSu
        have hSu := hSu
        go_simp
      try simp only [Act.put, List.setIfInBounds_toArray, List.set_cons_zero, List.set_cons_succ]
      refine b_skip 7 ((wa.drew.setCell ⟨X3, 20, none⟩ (.int .i64 A1)).setCell ⟨X3, 21, none⟩ (.int .i64 A2)) (by kernel_rfl) rfl rfl rfl (by go_simp) (fun _ => HSt) ?_
      refine b_done (by kernel_rfl) ?_ _

      have HPf := hide HSt.1
      have HBf := hide HSt.2.2.2
      generalize (wa.drew.setCell ⟨X3, 20, none⟩ (.int .i64 A1)).setCell ⟨X3, 21, none⟩ (.int .i64 A2) = wb at HPf HBf HX3f ⊢
      clear HS0 HSs HSt z20 z21 z22' z23' g20 g21 g22' g23'
      have HOf := hide (OwnG.below HOg8.out HBf.out)
      have HT2s := hide (show ((TD.cells (.slice a7 TD.L.length k7)).toArray).size = 22 from tb_size HTi.out)
      have HT2o := hide (tb_oneG TD a7 TD.L.length k7)
      obtain ⟨T2, hT2⟩ : ∃ T, T = (TD.cells (.slice a7 TD.L.length k7)).toArray := ⟨_, rfl⟩
      have HLf := hide (show LiesEn wb a7 TD.L by
        obtain ⟨a, c, hv, hli⟩ := HOf.out.lies HTk.out
        injection hv with h1 _ _
        rw [h1]
        exact hli)
      have HCk := fun u hu => hide (checked_any HSS.out TD a7 k7 T2 hT2 HTi.out HTk.out (by have := HTl.out; omega) u hu)
      have HT2e := hide hT2
      rw [← hT2] at HX3f HT2s HT2o
      obtain ⟨er, her⟩ : ∃ e, e = TD.chk := ⟨_, rfl⟩
      rw [← her] at HCk HE5
      obtain ⟨rs, hrs⟩ : ∃ rs, rs = (if er = 0 then T2 else z22) := ⟨_, rfl⟩
      have HCk2 := fun u hu => hide (show Calls Tryd.prog 57 #[.agg T2] u fun e w' => e = .returned (.tuple #[.agg rs, .int .i64 er]) ∧ Below u.heap.size u w' by rw [hrs]; exact (HCk u hu).out)
      have HRs := hide (show rs.size = 22 by rw [hrs]; split; exact HT2s.out; exact z22_size)
      have HRo := hide (show rs.all (·.oneCell') = true by rw [hrs]; split; exact HT2o.out; exact z22_one)
      have HRe := hide hrs
      have HRw8 := hide (show R < w6.heap.size from HRw6.out)
      clear HCk hT2 her hrs
      go_wp2_with (first | (refine wpList_isop (.load 25 (.tmp 10)) rfl ?_; refine wpList_exec rfl (exec_ld rfl rfl (loadT HX3f.out HT2s.out)) ?_) | (go_at_call 57; refine (HCk2 _ HLf.out).out.mono ?_; rintro e9 wz ⟨rfl, hbx⟩; have HPz := hide (HPf.out.below hbx); have HOz := hide (OwnG.below HOf.out hbx); clear hbx) | (refine wpList_isop (.store 25 (.tmp 2) (.tmp 83)) rfl ?_; refine wpList_store_row rfl 25 (.tmp 2) (.tmp 83) rfl R rs rfl rfl 25 _ HPz.out.zr (by rw [HRs.out]; kernel_rfl) (by rw [HRs.out]; rfl) HRo.out ?_))
      by_cases q6 : er = 0
      · have hE : ER = 0 := HE5.out.trans q6
        have hP : PT = TD := HPar.out hE
        have hOr := OwnG.chg HOz.out (X := fun i => i = R) (w' := wz.setRow R rs) ⟨rfl, rfl, rfl, by simp, fun i _ hi => setRow_other _ _ i _ hi⟩ (fun g hg e => by have := OwnG.baseG HOz.out g hg; have := HRw8.out; omega)
        obtain ⟨a, c, hv, hli⟩ := hOr.lies HTk.out
        have ha : a7 = a := by injection hv
        refine bodyPost_ret (ret_tb rfl _ _ R rs HRs.out _ rfl rfl (setRow_blk HPz.out.zr _)) rfl ⟨⟨a7, k7, ?_, ?_⟩, setrow_belowG HPz.out.be HLe.out⟩
        · rw [hP, hE, HRe.out, if_pos q6, HT2e.out, q6]
          rfl
        · rw [hP]
          exact ⟨by rw [ha]; exact hli, fun x hx => Nat.le_trans HP6.out.be.size (OwnG.baseG HOz.out x.block (by rw [hx]; rfl))⟩
      · have hE : ER = er := HE5.out
        have hP : PT = zTb := HBz.out er hE q6
        refine bodyPost_ret (ret_tb rfl _ _ R rs HRs.out _ rfl rfl (setRow_blk HPz.out.zr _)) rfl ⟨⟨none, 0, ?_, ?_⟩, setrow_belowG HPz.out.be HLe.out⟩
        · rw [hP, hE, HRe.out, if_neg q6]
          show _ = Ending.returned (.tuple #[.agg (zTb.cells (.slice none 0 0)).toArray, .int .i64 er])
          rw [← z22_eq]
          rfl
        · rw [hP]
          exact ⟨Or.inl rfl, fun x hx => by cases hx⟩
end Go.Proofs.YtpbnjobjjnhplaaDoor.Oct
