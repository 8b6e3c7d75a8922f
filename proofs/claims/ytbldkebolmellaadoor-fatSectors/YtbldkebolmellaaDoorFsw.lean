/- FatSectors: a boot that is put into a first sector is parsed as it was; the sector is what the document says. -/
import Derived.Test.YtbldkebolmellaaDoorFrq
import Derived.Test.YtbldkebolmellaaDoorFof
import Derived.Test.YtbldkebolmellaaDoorFpv
import Derived.Test.YtbldkebolmellaaDoorFmd
import Derived.Test.YtbldkebolmellaaDoorRows
import Derived.Test.YtbldkebolmellaaDoorCards
import Derived.Test.YtbldkebolmellaaDoorTie
import Derived.LaidMore
import Derived.Stop.Joined
import Derived.SevenTiedAt
namespace Go.Proofs.YtbldkebolmellaaDoor.Oct
open Go.RowKit Go.ChangeShapes Go.WideShapes Go.ChangeAt

theorem sameF (a a' : Option Addr) (c c' : Nat) (l : List Int) (w : World) (h : Lies w a l) (h' : Lies w a' l) (hb : Byts l) :
    Calls Tryd.prog 21 #[.slice a l.length c, .slice a' l.length c'] w fun e w' => e = .returned (.bool true) ∧ w' = w := by
  have := Same_any a a' c c' l l w h h' hb hb
  rw [decide_eq_true rfl] at this
  exact this

set_option maxHeartbeats 16000000 in
set_option maxRecDepth 100000 in
theorem sectors_walk (b : Bt) (a : Option Addr) (cap : Nat) (l : List Int) (w : World) (hb : Byts l) (hs : Sl w a cap l) (hV : Vars w) :
    Calls Tryd.prog 4 #[.agg b.cs, .slice a l.length cap] w fun e w' => e = .returned (.bool true) ∧ Below w.heap.size w w' := by
  obtain ⟨w1, hw1⟩ : ∃ w1, w1 = (w.alloc (.cells b.cs 23)) := ⟨_, rfl⟩
  have hb1 : Below w.heap.size w w1 := by rw [hw1]; exact (Below.refl _ _).alloc (Nat.le_refl _) _
  have HI := hide (show Blk w1 w.heap.size b.cs 23 by rw [hw1]; exact Blk.new _ _ _)
  have HW1 := hide hw1
  have HB := hide hb1
  have HV := hide (hV.below hb1)
  have HS := hide (hs.below hb1)
  have HL := hide (hs.lies.below hb1)
  have HBy := hide hb
  clear hV hw1 hb1 hs hb
  by_cases h6 : 600 < l.length
  · have HM := hide (made_any w1 HV.out)
    have hd : decide ((600 : Int) < (l.length : Int)) = true := by simp; omega
    obtain ⟨n, hn⟩ : ∃ n, n = l.length := ⟨_, rfl⟩
    rw [← hn] at hd ⊢
    clear hn h6
    go_enter Tryd.func4, Tryd.ntmps4
    go_wp2_with fail
    rw [← HW1.out]
    refine HM.out.mono ?_
    rintro e9 w2 ⟨rfl, hb2⟩
    have HB := hide (HB.out.trans (hb2.mono HB.out.size))
    clear hb2
    go_wp2_with fail
    go_ret
    exact ⟨rfl, HB.out⟩
  have hd : decide ((600 : Int) < (l.length : Int)) = false := by simp; omega
  have HPt := hide (Part_any a cap l w1 (by omega) HS.out)
  by_cases h5 : l.length = 512
  rotate_left
  · -- another length
    have hne : ((l.length : Int) != 512) = true := by simp; omega
    have hn5 : l.length ≠ 512 := h5
    have HSm := fun (a' : Option Addr) (c' : Nat) (u : World) (h1 : Lies u a' l) (h2 : Lies u a l) => hide (sameF a' a c' cap l u h1 h2 HBy.out)
    obtain ⟨n, hn⟩ : ∃ n, n = l.length := ⟨_, rfl⟩
    rw [← hn] at hd HPt hne hn5 HSm ⊢
    have HPo := fun (a' : Option Addr) (c' : Nat) (u : World) => hide (put_off b a' n c' u hn5)
    have HN := hide hn
    clear hn h6 h5 hn5
    go_enter Tryd.func4, Tryd.ntmps4
    go_wp2_with fail
    rw [← HW1.out]
    refine HPt.out.mono ?_
    rintro e9 w2 ⟨v2, rfl, ho2, hb2⟩
    obtain ⟨a2, c2, hv2, hs2, _⟩ := ho2.sl
    rw [← HN.out] at hv2
    subst hv2
    have HC := hide hs2.lies
    have HI := hide (HI.out.below hb2)
    have HL := hide (HL.out.below hb2)
    have HV := hide (HV.out.below hb2)
    have HB := hide (HB.out.trans (hb2.mono HB.out.size))
    clear hb2
    clear ho2 hs2 HPt HW1
    obtain ⟨k0, k1, k2, k3, k4, k5, k6, k7⟩ := cells_of HI.out
    go_wp2_with fail
    clear k0 k1 k2 k3 k4 k5 k6 k7
    refine (HPo a2 c2 _).out.mono ?_
    rintro e9 w3 ⟨rfl, hb3⟩
    have HC := hide (HC.out.below hb3)
    have HI := hide (HI.out.below hb3)
    have HL := hide (HL.out.below hb3)
    have HV := hide (HV.out.below hb3)
    have HB := hide (HB.out.trans (hb3.mono HB.out.size))
    clear hb3
    have HM := hide (made_any w3 HV.out)
    clear HPo
    go_wp2_with fail
    refine HM.out.mono ?_
    rintro e9 w4 ⟨rfl, hb4⟩
    have HC := hide (HC.out.below hb4)
    have HI := hide (HI.out.below hb4)
    have HL := hide (HL.out.below hb4)
    have HV := hide (HV.out.below hb4)
    have HB := hide (HB.out.trans (hb4.mono HB.out.size))
    clear hb4
    clear HM
    go_wp2_with fail
    refine (HSm a2 c2 w4 HC.out HL.out).out.mono ?_
    rintro e9 w5 ⟨rfl, h5⟩
    rw [h5]
    clear h5
    go_wp2_with fail
    go_ret
    exact ⟨rfl, HB.out⟩
  have HOf := fun u => hide (of_any b u)
  have HCk := fun u => hide (rchk_any b u)
  have hne : ((512 : Int) != 512) = false := by simp
  by_cases hk : b.chk = 0
  rotate_left
  · -- no boot
    have hkn : (b.chk != 0) = true := by simpa using hk
    have HPn := fun (a' : Option Addr) (c' : Nat) (u : World) => hide (put_no b a' c' u hk)
    have HSm := fun (a' : Option Addr) (c' : Nat) (u : World) (h1 : Lies u a' l) (h2 : Lies u a l) => hide (sameF a' a c' cap l u h1 h2 HBy.out)
    rw [h5] at hd HPt HSm ⊢
    have H5 := hide h5
    clear h6 h5 hk hd
    generalize b.chk = ck at *
    go_enter Tryd.func4, Tryd.ntmps4
    go_wp2_with fail
    rw [← HW1.out]
    refine HPt.out.mono ?_
    rintro e9 w2 ⟨v2, rfl, ho2, hb2⟩
    obtain ⟨a2, c2, hv2, hs2, _⟩ := ho2.sl
    rw [H5.out] at hv2
    subst hv2
    have HC := hide hs2.lies
    have HI := hide (HI.out.below hb2)
    have HL := hide (HL.out.below hb2)
    have HV := hide (HV.out.below hb2)
    have HB := hide (HB.out.trans (hb2.mono HB.out.size))
    clear hb2
    clear ho2 hs2 HPt HW1
    obtain ⟨k0, k1, k2, k3, k4, k5, k6, k7⟩ := cells_of HI.out
    go_wp2_with fail
    clear k0 k1 k2 k3 k4 k5 k6 k7
    refine (HPn a2 c2 _).out.mono ?_
    rintro e9 w3 ⟨rfl, hb3⟩
    have HC := hide (HC.out.below hb3)
    have HI := hide (HI.out.below hb3)
    have HL := hide (HL.out.below hb3)
    have HV := hide (HV.out.below hb3)
    have HB := hide (HB.out.trans (hb3.mono HB.out.size))
    clear hb3
    clear HPn
    obtain ⟨k0, k1, k2, k3, k4, k5, k6, k7⟩ := cells_of HI.out
    go_wp2_with fail
    clear k0 k1 k2 k3 k4 k5 k6 k7
    refine (HOf _).out.mono ?_
    rintro e9 w4 ⟨rfl, hb4⟩
    have HC := hide (HC.out.below hb4)
    have HI := hide (HI.out.below hb4)
    have HL := hide (HL.out.below hb4)
    have HV := hide (HV.out.below hb4)
    have HB := hide (HB.out.trans (hb4.mono HB.out.size))
    clear hb4
    clear HOf
    go_wp2_with fail
    refine (HCk _).out.mono ?_
    rintro e9 w5 ⟨rfl, hb5⟩
    have HC := hide (HC.out.below hb5)
    have HI := hide (HI.out.below hb5)
    have HL := hide (HL.out.below hb5)
    have HV := hide (HV.out.below hb5)
    have HB := hide (HB.out.trans (hb5.mono HB.out.size))
    clear hb5
    clear HCk
    have HM := hide (made_any w5 HV.out)
    go_wp2_with fail
    refine HM.out.mono ?_
    rintro e9 w6 ⟨rfl, hb6⟩
    have HC := hide (HC.out.below hb6)
    have HI := hide (HI.out.below hb6)
    have HL := hide (HL.out.below hb6)
    have HV := hide (HV.out.below hb6)
    have HB := hide (HB.out.trans (hb6.mono HB.out.size))
    clear hb6
    clear HM
    go_wp2_with fail
    refine (HSm a2 c2 w6 HC.out HL.out).out.mono ?_
    rintro e9 w7 ⟨rfl, h7⟩
    rw [h7]
    clear h7
    go_wp2_with fail
    go_ret
    exact ⟨rfl, HB.out⟩
  have hf := chk_says hk
  have hfs := Bt.form_says hf.1
  have hcl := (Bt.clus_says hf.1).2
  have HRp := fun (u : World) (h : Sl u a cap l) => hide (rput_any b a cap l u h5 h hf.1 (by omega))
  have HEq := hide (ps_put b l h5 (by omega))
  have HPP := hide (par_put b l h5 hk)
  have HBp := hide (HBy.out.putB b (by omega) (by omega))
  have HLp := hide (putB_len b l h5)
  have HK := hide hk
  rw [hk] at HCk
  rw [h5] at hd HPt ⊢
  have H5 := hide h5
  have HS := hide HS.out
  clear h6 h5 hk hd hf hfs hcl
  go_enter Tryd.func4, Tryd.ntmps4
  go_wp2_with fail
  rw [← HW1.out]
  refine HPt.out.mono ?_
  rintro e9 w2 ⟨v2, rfl, ho2, hb2⟩
  obtain ⟨a2, cg, hv2, hs2, hg2⟩ := ho2.sl
  obtain ⟨g, rfl, hg1, _⟩ := hg2 (by intro e; have := H5.out; rw [e] at this; simp at this)
  rw [H5.out] at hv2
  subst hv2
  have hw1s : w.heap.size < w1.heap.size := by rw [HW1.out]; simp
  have h1w : 1 < w1.heap.size := by
    have h1 := lt_of_cell (HV.out.1 0 (by omega)).1
    have h2 := lt_of_cell (HV.out.2 0 (by omega)).1
    omega
  have HPy := hide (put_yes b w1.heap.size g cg l w2 (HV.out.below hb2) H5.out hb2.size (by omega) HK.out ho2)
  have HI0 := hide HI.out
  have HB0 := hide HB.out
  have HS0 := hide HS.out
  have HV0 := hide HV.out
  have HB := hide hb2
  have HG := hide hg1
  have hcg : 512 ≤ cg := by have := hs2.le; rw [H5.out] at this; exact this
  have HCG := hide hcg
  have HI := hide (HI0.out.below hb2)
  clear hb2 ho2 hs2 hg1 hg2 hw1s h1w HPt HW1 HV HL hcg
  obtain ⟨k0, k1, k2, k3, k4, k5, k6, k7⟩ := cells_of HI.out
  go_wp2_with fail
  clear k0 k1 k2 k3 k4 k5 k6 k7
  refine HPy.out.mono ?_
  rintro e9 w3 ⟨rfl, ho3, hc3⟩
  have hb3 : Below w1.heap.size w2 w3 := hc3.below w1.heap.size HB.out.size (fun i hi he => by have := HG.out; injection he with he; omega)
  have hl3 : Lies w3 (some ⟨g, 0, none⟩) (putB b l) := by
    obtain ⟨a9, c9, hv9, hs9, _⟩ := ho3.sl
    injection hv9 with q1 q2 q3
    subst q1
    exact hs9.lies
  have HC := hide hl3
  have HB := hide (HB.out.trans hb3)
  clear ho3 hc3 hb3 hl3 HPy
  have HI := hide (HI0.out.below HB.out)
  obtain ⟨k0, k1, k2, k3, k4, k5, k6, k7⟩ := cells_of HI.out
  go_wp2_with fail
  clear k0 k1 k2 k3 k4 k5 k6 k7
  refine (HOf _).out.mono ?_
  rintro e9 w4 ⟨rfl, hb4⟩
  have HC := hide (HC.out.below hb4)
  have HB := hide (HB.out.trans (hb4.mono HB.out.size))
  clear hb4
  go_wp2_with fail
  refine (HCk _).out.mono ?_
  rintro e9 w5 ⟨rfl, hb5⟩
  have HC := hide (HC.out.below hb5)
  have HB := hide (HB.out.trans (hb5.mono HB.out.size))
  clear hb5
  have HPr := hide (parse_any (some ⟨g, 0, none⟩) cg (putB b l) w5 (by rw [HLp.out]; unfold maxLen; omega) (by rw [HLp.out]; exact HCG.out) HBp.out HC.out (HV0.out.below HB.out))
  rw [HLp.out, HPP.out] at HPr
  go_wp2_with fail
  refine HPr.out.mono ?_
  rintro e9 w6 ⟨rfl, hb6⟩
  obtain ⟨w7, hw7⟩ : ∃ w7, w7 = w6.alloc (.cells b.cs 23) := ⟨_, rfl⟩
  have hb7 : Below w6.heap.size w6 w7 := by rw [hw7]; exact (Below.refl _ _).alloc (Nat.le_refl _) _
  have HX := hide (show Blk w7 w6.heap.size b.cs 23 by rw [hw7]; exact Blk.new _ _ _)
  have HC := hide ((HC.out.below hb6).below hb7)
  have HB := hide ((HB.out.trans (hb6.mono HB.out.size)).trans (hb7.mono (HB.out.trans (hb6.mono HB.out.size)).size))
  have HM := hide (made_any w7 (HV0.out.below HB.out))
  have HW7 := hide hw7
  clear hb6 hb7 hw7 HPr
  go_wp2_with fail
  rw [← HW7.out]
  refine HM.out.mono ?_
  rintro e9 w8 ⟨rfl, hb8⟩
  have HC := hide (HC.out.below hb8)
  have HB := hide (HB.out.trans (hb8.mono HB.out.size))
  have HX := hide (HX.out.below hb8)
  clear hb8
  clear HM HW7
  have HI := hide (HI0.out.below HB.out)
  obtain ⟨k0, k1, k2, k3, k4, k5, k6, k7⟩ := cells_of HI.out
  go_wp2_with fail
  clear k0 k1 k2 k3 k4 k5 k6 k7
  refine (HOf _).out.mono ?_
  rintro e9 w9 ⟨rfl, hb9⟩
  have HC := hide (HC.out.below hb9)
  have HB := hide (HB.out.trans (hb9.mono HB.out.size))
  have HX := hide (HX.out.below hb9)
  clear hb9
  go_wp2_with fail
  refine (HRp w9 (HS0.out.below HB.out)).out.mono ?_
  rintro e9 w10 ⟨⟨ap, cp, rfl, hlp⟩, hb10⟩
  have HC := hide (HC.out.below hb10)
  have HX := hide (HX.out.below hb10)
  have HB := hide (HB.out.trans (hb10.mono HB.out.size))
  clear hb10
  rw [HEq.out] at hlp
  have HSm := hide (sameF (some ⟨g, 0, none⟩) ap cg cp (putB b l) w10 HC.out hlp HBp.out)
  rw [HLp.out] at HSm
  clear hlp
  go_wp2_with fail
  refine HSm.out.mono ?_
  rintro e9 w11 ⟨rfl, h11⟩
  rw [h11]
  clear h11 HSm
  have HI := hide (HI0.out.below HB.out)
  obtain ⟨k0, k1, k2, k3, k4, k5, k6, k7⟩ := cells_of HI.out
  obtain ⟨m0, m1, m2, m3, m4, m5, m6, m7⟩ := cells_of HX.out
  go_wp2_with fail
  go_ret
  exact ⟨by simp, HB0.out.trans (HB.out.mono HB0.out.size)⟩

set_option maxRecDepth 100000 in
theorem fatSectors_door (os : Os) (args : Array Value) : laidMetH Tryd.prog Rows.fatSectorsRow.laid ((World.doorLaid Tryd.prog 400 os).forCall (fun _ _ => 0) ⟨#[], args, []⟩).memory :=
  laidMetH_of_parts3 (fuel := 8) (laidMet_of_run' 8 (by kernel_rfl) (by kernel_rfl)) (by kernel_rfl) (by kernel_rfl)

set_option maxRecDepth 100000 in
theorem fatSectors_lifted (os : Os) (started : os.Started) (H : Type) (enc : TypeId × Value → H) :
    ReturnsInHanded {} Tryd.checked os 4 .any (fun w args => (Rows.fatSectorsSpec.pre enc Tryd.prog Tryd.f4 [] false w args ∧ laidMetH Tryd.prog Rows.fatSectorsRow.laid w) ∧ sizedMet enc Tryd.prog Tryd.f4 (OpenSpec.ofChange Rows.fatSectorsSpec) false w args) (Rows.fatSectorsSpec.post enc Tryd.prog Tryd.f4 false true false false) := by
  refine returnsInHanded_of_change_and (C := Tryd.checked) (X := (fun w _ => laidMetH Tryd.prog Rows.fatSectorsRow.laid w)) (fun _ _ _ hh h => h.of_heap hh) own started (by kernel_rfl) Tryd.func4
    (ChangeSpec.witness_shaped (enc := enc) (C := Tryd.checked) (os := os) (X := (fun w _ => laidMetH Tryd.prog Rows.fatSectorsRow.laid w)) false (World.doorLaid Tryd.prog 400 os) #[.agg #[.int .i64 0, .int .i64 0, .int .i64 0, .int .i64 0, .int .i64 0, .int .i64 0, .int .i64 0, .int .i64 0], .slice none 0 0] 8 rfl (World.shaped_of_RefB (by kernel_rfl) (by kernel_rfl)) (by kernel_rfl) (by kernel_rfl) (by kernel_rfl) (fatSectors_door os _)) ?_
  intro W base args ds gs before hval0 hW _ hsz0 hL _
  have hval : ∀ (j : Nat) t v, Tryd.f4.params[j]? = some t → args[j]? = some v → Value.okWide Tryd.prog W .any base t v := hval0
  have hW' := hW
  obtain ⟨p, q, hA0, hV, rfl, hfz, hnd⟩ := hW
  have hA : DataW.TrodAll enc Tryd.prog W 0 (fun _ => true) true Tryd.f4.params.toList args.toList ds p := hA0
  rw [Tryd.params4] at hA hval
  obtain ⟨v0, vs0, d0, ds0, p0, q0, hargs0, rfl, rfl, h0, r0⟩ := trodAll_cons hA
  obtain ⟨v1, vs1, d1, ds1, p1, q1, hargs1, rfl, rfl, h1, r1⟩ := trodAll_cons r0
  obtain ⟨rfl, rfl, rfl⟩ := trodAll_nil r1
  subst hargs1
  obtain rfl : args = #[v0, v1] := by cases args; simp_all
  obtain ⟨rfl, rfl⟩ := trodVars_none hV
  simp only [List.append_nil] at hW'
  have hlt0 : ∀ x ∈ p0, x.block < W.heap.size := fun x hx => by simpa using hW'.lt x (by simp [hx])
  have hlt1 : ∀ x ∈ p1, x.block < W.heap.size := fun x hx => by simpa using hW'.lt x (by simp [hx])
  obtain ⟨b0, rfl⟩ := open_boot (hval 0 23 v0 rfl rfl) h0
  obtain ⟨a1, cap1, l1, rfl, hn1, hb1, hl1, hs1⟩ := open_bytes (hval 1 36 v1 rfl rfl) h1
  clear hA0
  refine (sectors_walk b0 a1 cap1 l1 W hb1 hs1 (of_laid hL)).mono fun e W' ⟨he, hb⟩ => ?_
  subst he
  refine ⟨_, rfl, _, _, _, [], (p0 ++ (p1 ++ [])), [], hW', ?_, ?_, rfl, hb.frame _, fun h => by cases h⟩
  · exact trodAll_cons_mk (shut_bool Tryd.underlying4 _) trodAll_mk0
  · exact trodAll_cons_mk (Below.trod laidOut (by kernel_rfl) (of_decide_eq_true (by kernel_rfl)) h0 hb hlt0) (trodAll_cons_mk (Below.trod laidOut (by kernel_rfl) (of_decide_eq_true (by kernel_rfl)) h1 hb hlt1) (trodAll_mk0))

theorem fatSectors_row : Rows.FatSectorsSaid :=
  OpenClaim.holds_of_wide 4 Tryd.f4 rfl rfl rfl rfl rfl rfl rfl ⟨rfl, rfl, rfl, rfl, rfl⟩ rfl rfl rfl rfl rfl (by kernel_rfl) Tryd.func4 (by kernel_rfl)
    (of_decide_eq_true (by kernel_rfl)) (by unfold Func.isWrapper; first | (rw [if_pos (by decide +kernel)]; kernel_rfl) | (rw [if_neg (by decide +kernel)]; exact ⟨rfl, rfl⟩))
    (fun os started H enc _ => fatSectors_lifted os started H enc)

theorem fatSectors_holds : Rows.FatSectorsCardSaid :=
  Claim7.holds_tied_plain_at .later [] [.data, .data] true (true, "cef4f92033b86b756cdeb854791cba9f6c3b4615937b91e7b466014a9569903c") false
    fatSectors_row (fun _ h => by cases h) (by kernel_rfl) (fun _ h => by cases h) fatSectors_row_tie rfl ⟨rfl, rfl⟩ (by kernel_rfl) rfl
    (fun f fn hf hfn => by
      obtain rfl : f = 4 := Option.some.inj ((show Tryd.prog.funcNamed "fettle/fettlelaw16.FatSectors" = some 4 by kernel_rfl).symm.trans hf) |>.symm
      obtain rfl : fn = Tryd.f4 := (Option.some.inj (Tryd.func4.symm.trans hfn)).symm
      exact ⟨by kernel_rfl, fun j t ht => by
        rw [Tryd.params4] at ht
        have hm : t ∈ [23, 36] := by simpa using Array.mem_of_getElem? ht
        have hall : ([23, 36].all fun u => !Tryd.prog.wantsStandIn u) = true := by kernel_rfl
        exact (show Tryd.prog.wantsStandIn t = false by simpa using List.all_eq_true.1 hall t hm)⟩)
    (by kernel_rfl)
end Go.Proofs.YtbldkebolmellaaDoor.Oct
