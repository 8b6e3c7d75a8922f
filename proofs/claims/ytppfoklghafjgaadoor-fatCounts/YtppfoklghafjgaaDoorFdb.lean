/- FatCounts: the sector with two counts is what the document lays, and is parsed as they were. -/
import Derived.Test.YtppfoklghafjgaaDoorFda
import Derived.Test.YtppfoklghafjgaaDoorOpen
import Derived.Test.YtppfoklghafjgaaDoorRows
import Derived.Test.YtppfoklghafjgaaDoorCards
import Derived.Test.YtppfoklghafjgaaDoorTie
import Derived.LaidMore
import Derived.Stop.Joined
import Derived.SevenTiedAt
namespace Go.Proofs.YtppfoklghafjgaaDoor.Oct
open Go.RowKit Go.ChangeShapes Go.WideShapes Go.ChangeAt

theorem cnt_get (f x : Int) (i : Nat) : (cntP f x).getD i 0 = if 492 ≤ i ∧ i < 492 + 4 then x / 2 ^ (8 * (i - 492)) % 256 else if 488 ≤ i ∧ i < 488 + 4 then f / 2 ^ (8 * (i - 488)) % 256 else if 508 ≤ i ∧ i < 508 + 4 then 2857697280 / 2 ^ (8 * (i - 508)) % 256 else if 484 ≤ i ∧ i < 484 + 4 then 1631679090 / 2 ^ (8 * (i - 484)) % 256 else if 0 ≤ i ∧ i < 0 + 4 then 1096897106 / 2 ^ (8 * (i - 0)) % 256 else (List.replicate 512 (0 : Int)).getD i 0 := by
  show (putN (putN (putN (putN (putN (List.replicate 512 0) 0 1096897106 4) 484 1631679090 4) 508 2857697280 4) 488 f 4) 492 x 4).getD i 0 = _
  rw [getD_putN _ _ _ _ _ (by simp only [putN_length, List.length_replicate]; omega), getD_putN _ _ _ _ _ (by simp only [putN_length, List.length_replicate]; omega), getD_putN _ _ _ _ _ (by simp only [putN_length, List.length_replicate]; omega), getD_putN _ _ _ _ _ (by simp only [putN_length, List.length_replicate]; omega), getD_putN _ _ _ _ _ (by simp only [List.length_replicate]; omega)]

theorem parc_cnt (f x : Int) (hf : 0 ≤ f ∧ f ≤ 4294967295 ∧ 0 ≤ x ∧ x ≤ 4294967295) : parC (cntP f x) = (f, x, 0) := by
  have e1 : num (cntP f x) 0 4 = 1096897106 := by
    rw [num_of (cntP f x) 0 1096897106 4 (fun i hi => by rw [cnt_get, if_neg (by omega), if_neg (by omega), if_neg (by omega), if_neg (by omega), if_pos (by omega)]; rw [Nat.add_sub_cancel_left])]; decide
  have e2 : num (cntP f x) 484 4 = 1631679090 := by
    rw [num_of (cntP f x) 484 1631679090 4 (fun i hi => by rw [cnt_get, if_neg (by omega), if_neg (by omega), if_neg (by omega), if_pos (by omega)]; rw [Nat.add_sub_cancel_left])]; decide
  have e3 : num (cntP f x) 508 4 = 2857697280 := by
    rw [num_of (cntP f x) 508 2857697280 4 (fun i hi => by rw [cnt_get, if_neg (by omega), if_neg (by omega), if_pos (by omega)]; rw [Nat.add_sub_cancel_left])]; decide
  have e4 : num (cntP f x) 488 4 = f := by
    rw [num_of (cntP f x) 488 f 4 (fun i hi => by rw [cnt_get, if_neg (by omega), if_pos (by omega)]; rw [Nat.add_sub_cancel_left])]; exact Int.emod_eq_of_lt (by omega) (by omega)
  have e5 : num (cntP f x) 492 4 = x := by
    rw [num_of (cntP f x) 492 x 4 (fun i hi => by rw [cnt_get, if_pos (by omega)]; rw [Nat.add_sub_cancel_left])]; exact Int.emod_eq_of_lt (by omega) (by omega)
  unfold parC
  rw [if_pos (cntP_len f x), e1, e2, e3, e4, e5, if_pos ⟨rfl, rfl, rfl⟩]

set_option maxHeartbeats 8000000 in
set_option maxRecDepth 100000 in
theorem counts_walk (f x : Int) (w : World) (hV : Vars w) :
    Calls Tryd.prog 6 #[.int .i64 f, .int .i64 x] w fun e w' => e = .returned (.bool true) ∧ Below w.heap.size w w' := by
  have hP := putc_any f x w hV
  have HV := hide hV
  clear hV
  by_cases hr : 0 ≤ f ∧ f ≤ 4294967295 ∧ 0 ≤ x ∧ x ≤ 4294967295
  · have hif : (witN 0 4294967295 f && witN 0 4294967295 x) = true := by simp [witN]; omega
    have HP : Hid (Calls Tryd.prog 29 #[.agg #[.int .i64 f, .int .i64 x]] w fun e w' => (∃ v, e = .returned (.tuple #[v, .int .i64 0]) ∧ Own w' w.heap.size v (cntP f x)) ∧ Below w.heap.size w w') := hide (hP.mono fun e w' ⟨h1, h2⟩ => ⟨by rw [if_pos hif] at h1; exact h1, h2⟩)
    have c1 : decide (f < 0) = false := by simp; omega
    have c2 : decide (4294967295 < f) = false := by simp; omega
    have c3 : decide (x < 0) = false := by simp; omega
    have c4 : decide (4294967295 < x) = false := by simp; omega
    have HH := hide hr
    clear hP hif hr
    go_enter Tryd.func6, Tryd.ntmps6
    go_wp2_with fail
    refine HP.out.mono ?_
    rintro e9 w1 ⟨⟨v1, rfl, ho1⟩, hb1⟩
    obtain ⟨a1, k1, hv1, hs1, _⟩ := ho1.sl
    rw [cntP_len] at hv1
    subst hv1
    have hpc := parc_any a1 k1 (cntP f x) w1 (by rw [cntP_len]; unfold maxLen; decide) (Byts.cntP f x) hs1.lies (HV.out.below hb1)
    rw [cntP_len, parc_cnt f x HH.out] at hpc
    have HPa := hide hpc
    have HL1 := hide hs1.lies
    have HV1 := hide (HV.out.below hb1)
    have HB1 := hide hb1
    clear ho1 hb1 hs1 hpc HP HV
    go_wp2_with fail
    refine HPa.out.mono ?_
    rintro e9 w2 ⟨rfl, hb2⟩
    obtain ⟨w3, hw3⟩ : ∃ w3, w3 = w2.alloc (.cells #[.int .i64 f, .int .i64 x] 47) := ⟨_, rfl⟩
    have hb3 : Below w2.heap.size w2 w3 := by rw [hw3]; exact (Below.refl _ _).alloc (Nat.le_refl _) _
    have HK3 := hide (show Blk w3 w2.heap.size #[.int .i64 f, .int .i64 x] 47 by rw [hw3]; exact Blk.new _ _ _)
    have HL3 := hide ((HL1.out.below hb2).below hb3)
    have HM3 := hide (made_any w3 ((HV1.out.below hb2).below hb3))
    have HB3 := hide ((HB1.out.trans (hb2.mono HB1.out.size)).trans (hb3.mono (HB1.out.trans (hb2.mono HB1.out.size)).size))
    have HW3 := hide hw3
    clear hb2 hb3 hw3 HPa
    go_wp2_with fail
    rw [← HW3.out]
    refine HM3.out.mono ?_
    rintro e9 w4 ⟨rfl, hb4⟩
    have HC4 := hide (csec_any f x w4 HH.out)
    have HK4 := hide (HK3.out.below hb4)
    have HL4 := hide (HL3.out.below hb4)
    have HB4 := hide (HB3.out.trans (hb4.mono HB3.out.size))
    clear hb4 HM3
    go_wp2_with fail
    refine HC4.out.mono ?_
    rintro e9 w5 ⟨⟨a5, k5, rfl, hl5⟩, hb5⟩
    have hsm := Same_any a1 a5 k1 k5 (cntP f x) (cntP f x) w5 (HL4.out.below hb5) hl5 (Byts.cntP f x) (Byts.cntP f x)
    rw [cntP_len, decide_eq_true rfl] at hsm
    have HS := hide hsm
    have HK5 := hide (HK4.out.below hb5)
    have HB5 := hide (HB4.out.trans (hb5.mono HB4.out.size))
    clear hb5 hl5 hsm HC4
    go_wp2_with fail
    refine HS.out.mono ?_
    rintro e9 w6 ⟨rfl, h6⟩
    rw [h6]
    clear h6
    have z0 := HK5.out.cell 0 _ rfl
    have z1 := HK5.out.cell 1 _ rfl
    go_wp2_with fail
    go_ret
    exact ⟨by simp, HB5.out⟩
  · have hif : ¬ (witN 0 4294967295 f && witN 0 4294967295 x) = true := by simp [witN]; omega
    have HP : Hid (Calls Tryd.prog 29 #[.agg #[.int .i64 f, .int .i64 x]] w fun e w' => e = .returned (.tuple #[.slice none 0 0, .int .i64 4]) ∧ Below w.heap.size w w') := hide (hP.mono fun e w' ⟨h1, h2⟩ => ⟨by rw [if_neg hif] at h1; exact h1, h2⟩)
    have hc : decide (f < 0) = true ∨ (decide (f < 0) = false ∧ decide (4294967295 < f) = true) ∨ (decide (f < 0) = false ∧ decide (4294967295 < f) = false ∧ decide (x < 0) = true) ∨ (decide (f < 0) = false ∧ decide (4294967295 < f) = false ∧ decide (x < 0) = false ∧ decide (4294967295 < x) = true) := by simp; omega
    clear hP hif hr
    rcases hc with c1 | ⟨c1, c2⟩ | ⟨c1, c2, c3⟩ | ⟨c1, c2, c3, c4⟩
    all_goals
      go_enter Tryd.func6, Tryd.ntmps6
      go_wp2_with fail
      refine HP.out.mono ?_
      rintro e9 w1 ⟨rfl, hb1⟩
      have HM := hide (made_any w1 (HV.out.below hb1))
      have HB1 := hide hb1
      clear hb1
      go_wp2_with fail
      refine HM.out.mono ?_
      rintro e9 w2 ⟨rfl, hb2⟩
      have HB2 := hide (HB1.out.trans (hb2.mono HB1.out.size))
      clear hb2
      go_wp2_with fail
      go_ret
      exact ⟨rfl, HB2.out⟩

set_option maxRecDepth 100000 in
theorem fatCounts_door (os : Os) (args : Array Value) : laidMetH Tryd.prog Rows.fatCountsRow.laid ((World.doorLaid Tryd.prog 400 os).forCall (fun _ _ => 0) ⟨#[], args, []⟩).memory :=
  laidMetH_of_parts3 (fuel := 8) (laidMet_of_run' 8 (by kernel_rfl) (by kernel_rfl)) (by kernel_rfl) (by kernel_rfl)

set_option maxRecDepth 100000 in
theorem fatCounts_lifted (os : Os) (started : os.Started) (H : Type) (enc : TypeId × Value → H) :
    ReturnsInHanded {} Tryd.checked os 6 .any (fun w args => (Rows.fatCountsSpec.pre enc Tryd.prog Tryd.f6 [] false w args ∧ laidMetH Tryd.prog Rows.fatCountsRow.laid w) ∧ sizedMet enc Tryd.prog Tryd.f6 (OpenSpec.ofChange Rows.fatCountsSpec) false w args) (Rows.fatCountsSpec.post enc Tryd.prog Tryd.f6 false true false false) := by
  refine returnsInHanded_of_change_and (C := Tryd.checked) (X := (fun w _ => laidMetH Tryd.prog Rows.fatCountsRow.laid w)) (fun _ _ _ hh h => h.of_heap hh) own started (by kernel_rfl) Tryd.func6
    (ChangeSpec.witness_shaped (enc := enc) (C := Tryd.checked) (os := os) (X := (fun w _ => laidMetH Tryd.prog Rows.fatCountsRow.laid w)) false (World.doorLaid Tryd.prog 400 os) #[.int .i64 0, .int .i64 0] 8 rfl (World.shaped_of_RefB (by kernel_rfl) (by kernel_rfl)) (by kernel_rfl) (by kernel_rfl) (by kernel_rfl) (fatCounts_door os _)) ?_
  intro W base args ds gs before hval0 hW _ hsz0 hL _
  have hval : ∀ (j : Nat) t v, Tryd.f6.params[j]? = some t → args[j]? = some v → Value.okWide Tryd.prog W .any base t v := hval0
  have hW' := hW
  obtain ⟨p, q, hA0, hV, rfl, hfz, hnd⟩ := hW
  have hA : DataW.TrodAll enc Tryd.prog W 0 (fun _ => true) true Tryd.f6.params.toList args.toList ds p := hA0
  rw [Tryd.params6] at hA hval
  obtain ⟨v0, vs0, d0, ds0, p0, q0, hargs0, rfl, rfl, h0, r0⟩ := trodAll_cons hA
  obtain ⟨v1, vs1, d1, ds1, p1, q1, hargs1, rfl, rfl, h1, r1⟩ := trodAll_cons r0
  obtain ⟨rfl, rfl, rfl⟩ := trodAll_nil r1
  subst hargs1
  obtain rfl : args = #[v0, v1] := by cases args; simp_all
  obtain ⟨rfl, rfl⟩ := trodVars_none hV
  simp only [List.append_nil] at hW'
  obtain ⟨x0, rfl, rfl, rfl, w0⟩ := open_int Tryd.underlying2 (hval 0 2 v0 rfl rfl) h0
  obtain ⟨x1, rfl, rfl, rfl, w1⟩ := open_int Tryd.underlying2 (hval 1 2 v1 rfl rfl) h1
  clear hA0
  refine (counts_walk x0 x1 W (of_laid hL)).mono fun e W' ⟨he, hb⟩ => ?_
  subst he
  refine ⟨_, rfl, _, _, _, [], ([] ++ ([] ++ [])), [], hW', ?_, ?_, rfl, hb.frame _, fun h => by cases h⟩
  · exact trodAll_cons_mk (shut_bool Tryd.underlying4 _) trodAll_mk0
  · exact trodAll_cons_mk (shut_int Tryd.underlying2 w0) (trodAll_cons_mk (shut_int Tryd.underlying2 w1) (trodAll_mk0))

theorem fatCounts_row : Rows.FatCountsSaid :=
  OpenClaim.holds_of_wide 6 Tryd.f6 rfl rfl rfl rfl rfl rfl rfl ⟨rfl, rfl, rfl, rfl, rfl⟩ rfl rfl rfl rfl rfl (by kernel_rfl) Tryd.func6 (by kernel_rfl)
    (of_decide_eq_true (by kernel_rfl)) (by unfold Func.isWrapper; first | (rw [if_pos (by decide +kernel)]; kernel_rfl) | (rw [if_neg (by decide +kernel)]; exact ⟨rfl, rfl⟩))
    (fun os started H enc _ => fatCounts_lifted os started H enc)

theorem fatCounts_holds : Rows.FatCountsCardSaid :=
  Claim7.holds_tied_plain_at .later [] [.data, .data] true (true, "31f896c34edf5b3ed5408495a41ce9bc90ebb86bec0945403c4be5e8cec3e277") false
    fatCounts_row (fun _ h => by cases h) (by kernel_rfl) (fun _ h => by cases h) fatCounts_row_tie rfl ⟨rfl, rfl⟩ (by kernel_rfl) rfl
    (fun f fn hf hfn => by
      obtain rfl : f = 6 := Option.some.inj ((show Tryd.prog.funcNamed "fettle/fettlelaw16.FatCounts" = some 6 by kernel_rfl).symm.trans hf) |>.symm
      obtain rfl : fn = Tryd.f6 := (Option.some.inj (Tryd.func6.symm.trans hfn)).symm
      exact ⟨by kernel_rfl, fun j t ht => by
        rw [Tryd.params6] at ht
        have hm : t ∈ [2, 2] := by simpa using Array.mem_of_getElem? ht
        have hall : ([2, 2].all fun u => !Tryd.prog.wantsStandIn u) = true := by kernel_rfl
        exact (show Tryd.prog.wantsStandIn t = false by simpa using List.all_eq_true.1 hall t hm)⟩)
    (by kernel_rfl)
end Go.Proofs.YtppfoklghafjgaaDoor.Oct
