/- For all sets, units and ways the statement ExtentUnits answers true and changes nothing that was there: the whole units of every set, and a set that is moved, are what the reference says. No condition. -/
import Derived.Test.YtiplgcnkkbndjaaRows
import Derived.Test.YtiplgcnkkbndjaaMvr
import Derived.Test.YtiplgcnkkbndjaaLgh
import Derived.Test.YtiplgcnkkbndjaaOpe
import Derived.Test.YtiplgcnkkbndjaaSrt
namespace Go.Proofs.Ytiplgcnkkbndjaa.Oct
open Go.RowKit Go.Shelf Go.ChangeShapes Go.WideShapes Go.ChangeAt

section
attribute [local go_sem] Oper.semAt_some

set_option maxRecDepth 100000 in
set_option maxHeartbeats 4000000 in
theorem inward_low (w : World) (a : Option Addr) (n c : Nat) (u : Int) (hu : u < 1) :
    Calls Try.prog 27 #[.slice a n c, .int .i64 u] w fun e w' => e = .returned (.tuple #[.slice none 0 0, .int .i64 1]) ∧ Below w.heap.size w w' := by
  refine (callsIn_wide (n := 5)).1 ?_
  refine callsIn_of_wp_marks Try.func27 rfl trivial ?_ rfl
  simp only [Try.ntmps27, List.size_toArray, List.length_cons, List.length_nil, Nat.reduceAdd, Nat.reduceSub, Array.replicate_succ, Array.replicate_zero, List.push_toArray, List.append_toArray, List.nil_append, List.cons_append]
  have hb := ((Below.refl _ w).alloc (Nat.le_refl _) (.cells #[.int .i64 u] 2))
  gi_wp2
  exact ⟨_, results_tmp2 rfl _ _ _, rfl, hb⟩
end

set_option maxRecDepth 100000 in
set_option maxHeartbeats 4000000 in
theorem units_walk (a : Option Addr) (c : Nat) (L : List (Int × Int)) (u m : Int) (W : World) (hn : L.length ≤ maxLen) (hL : LiesE W a L) (_wu : (Lit.int .i64 u).wf = true) (_wm : (Lit.int .i64 m).wf = true) :
    Calls Try.prog 6 #[.slice a L.length c, .int .i64 u, .int .i64 m] W fun e w' => e = .returned (.bool true) ∧ Below W.heap.size W w' := by
  have HL := hide hL
  have HNe := hide (near_says W a c L hL (by unfold maxLen at hn; omega))
  clear hL
  go_enter Try.func6, Try.ntmps6
  go_wp2_with fail
  refine HNe.out.mono ?_
  rintro e w1 (⟨rfl, hw1⟩ | ⟨rfl, hw1, h30, hne⟩)
  · have he := hw1.symm
    clear hw1
    subst he
    go_wp2_with fail
    refine (joined_any sort_says _).mono ?_
    rintro e w2 ⟨rfl, hb2⟩
    go_wp2_with fail
    go_ret
    exact ⟨rfl, hb2⟩
  have he := hw1.symm
  clear hw1
  subst he
  have HNr := hide hne
  clear hne HNe
  by_cases h1 : (1125899906842624 : Int) < u
  · go_wp2_with fail
    refine (joined_any sort_says _).mono ?_
    rintro e w2 ⟨rfl, hb2⟩
    go_wp2_with fail
    go_ret
    exact ⟨rfl, hb2⟩
  by_cases h2 : m < (-1125899906842624 : Int)
  · go_wp2_with fail
    refine (joined_any sort_says _).mono ?_
    rintro e w2 ⟨rfl, hb2⟩
    go_wp2_with fail
    go_ret
    exact ⟨rfl, hb2⟩
  by_cases h3 : (1125899906842624 : Int) < m
  · go_wp2_with fail
    refine (joined_any sort_says _).mono ?_
    rintro e w2 ⟨rfl, hb2⟩
    go_wp2_with fail
    go_ret
    exact ⟨rfl, hb2⟩
  by_cases hu : u < 1
  · go_wp2_with fail
    refine (inward_low W a L.length c u hu).mono ?_
    rintro e w2 ⟨rfl, hb2⟩
    go_wp2_with fail
    refine (joined_any sort_says _).mono ?_
    rintro e w3 ⟨rfl, hb3⟩
    go_wp2_with fail
    go_ret
    exact ⟨rfl, hb2.trans (hb3.mono hb2.size)⟩
  have hu' : 1 ≤ u ∧ u ≤ 1125899906842624 := by omega
  have hm' : -1125899906842624 ≤ m ∧ m ≤ 1125899906842624 := by omega
  go_wp2_with fail
  refine (inward_any sort_says W a c L HL.out (by omega) HNr.out u hu').mono ?_
  rintro e w2 ⟨v2, N, M, rfl, hnN, hnM, ho2, hb2⟩
  obtain ⟨a2, c2, hv2, hl2, _, _, _⟩ := ho2.form
  subst hv2
  have HN := hide hnN
  have HM := hide hnM
  have HL2 := hide hl2
  have HB2 := hide hb2
  have hMl : M.length ≤ 1000 := by have := hnM.len; have := hnN.len; simp at *; omega
  clear hnN hnM hl2 hb2 ho2
  go_wp2_with fail
  refine (joined_any sort_says _).mono ?_
  rintro e w3 ⟨rfl, hb3⟩
  have HB3 := hide (HB2.out.trans (hb3.mono HB2.out.size))
  have HL3 := hide (HL2.out.below hb3)
  clear hb3
  go_wp2_with fail
  refine (refinward_any w3 a c L (HL.out.below HB3.out) (by omega) HNr.out u hu').mono ?_
  rintro e w4 ⟨v4, N', R, rfl, hr, hmd, ho4, hb4⟩
  have hNN : N = N' := hr.same HN.out
  have hMR : M = R := Form.unique _ _ HM.out.form hmd.form fun x => by
    rw [HM.out.set x, hmd.set x, units_set, hNN]
  have HMR := hide hMR
  obtain ⟨a4, c4, hv4, hl4, _, _, _⟩ := ho4.form
  subst hv4
  have HL4 := hide hl4
  have HL5 := hide (HL3.out.below hb4)
  have HB4 := hide (HB3.out.trans (hb4.mono HB3.out.size))
  clear ho4 hl4 hb4 hmd hr hNN hMR
  go_wp2_with fail
  refine (same_any w4 a2 a4 c2 c4 M R HL5.out HL4.out (by omega)).mono ?_
  rintro e w5 ⟨rfl, hb5⟩
  have hd : decide (M = R) = true := by simpa using HMR.out
  rw [hd]
  have HB5 := hide (HB4.out.trans (hb5.mono HB4.out.size))
  clear hb5 hd
  go_wp2_with fail
  refine (moved_any sort_says w5 a c L (HL.out.below HB5.out) (by omega) HNr.out m hm').mono ?_
  rintro e w6 ⟨v6, N6, M6, rfl, hnN6, hnM6, ho6, hb6⟩
  obtain ⟨a6, c6, hv6, hl6, _, _, _⟩ := ho6.form
  subst hv6
  have HN6 := hide hnN6
  have HM6 := hide hnM6
  have HL6 := hide hl6
  have HB6 := hide (HB5.out.trans (hb6.mono HB5.out.size))
  have hMl6 : M6.length ≤ 1000 := by have := hnM6.len; have := hnN6.len; simp at *; omega
  clear hnN6 hnM6 hl6 hb6 ho6
  go_wp2_with fail
  refine (refmoved_any w6 a c L (HL.out.below HB6.out) (by omega) HNr.out m hm').mono ?_
  rintro e w7 ⟨v7, N7, rfl, hr7, _, ho7, hb7⟩
  have hNN : N6 = N7 := hr7.same HN6.out
  have hfm : Form (N7.map (mov m)) := by
    refine ⟨fun p hp => ?_, List.pairwise_map.2 (hr7.form.2.imp fun {x y} h => by unfold mov; dsimp only; omega)⟩
    obtain ⟨q, hq, rfl⟩ := List.mem_map.1 hp
    have := hr7.form.1 q hq
    unfold mov
    dsimp only
    omega
  have hMM : M6 = N7.map (mov m) := Form.unique _ _ HM6.out.form hfm fun x => by rw [HM6.out.set x, hNN]
  obtain ⟨R7, hR7⟩ : ∃ R7, R7 = N7.map (mov m) := ⟨_, rfl⟩
  rw [← hR7] at ho7 hMM
  have HMM := hide hMM
  obtain ⟨a7, c7, hv7, hl7, _, _, _⟩ := ho7.form
  subst hv7
  have HL7 := hide hl7
  have HL8 := hide (HL6.out.below hb7)
  have HB7 := hide (HB6.out.trans (hb7.mono HB6.out.size))
  clear ho7 hl7 hb7 hr7 hNN hfm hMM hR7
  go_wp2_with fail
  refine (same_any w7 a6 a7 c6 c7 M6 R7 HL8.out HL7.out (by omega)).mono ?_
  rintro e w8 ⟨rfl, hb8⟩
  have hd : decide (M6 = R7) = true := by simpa using HMM.out
  rw [hd]
  have HB8 := hide (HB7.out.trans (hb8.mono HB7.out.size))
  clear hb8 hd
  go_wp2_with fail
  go_ret
  exact ⟨rfl, HB8.out⟩

set_option maxRecDepth 100000 in
theorem extentUnits_lifted (os : Os) (started : os.Started) (H : Type) (enc : TypeId × Value → H) :
    ReturnsInHanded {} Try.checked os 6 .any (Rows.extentUnitsSpec.pre6 enc Try.prog Try.f6 Rows.extentUnitsRow.domain false) (Rows.extentUnitsSpec.post enc Try.prog Try.f6 false true false false) := by
  refine returnsInHanded_of_change (C := Try.checked) own started (by kernel_rfl) Try.func6
    (ChangeSpec.witness6 (enc := enc) (C := Try.checked) false ⟨#[], #[.slice none 0 0, .int .i64 0, .int .i64 0], []⟩ 8 (by kernel_rfl) (by kernel_rfl) (by kernel_rfl) (by kernel_rfl)) ?_
  intro W base args ds gs before hval0 hW _ _
  have hval : ∀ (j : Nat) t v, Try.f6.params[j]? = some t → args[j]? = some v → Value.okWide Try.prog W .any base t v := hval0
  have hW' := hW
  obtain ⟨p, q, hA0, hV, rfl, hfz, hnd⟩ := hW
  have hA : DataW.TrodAll enc Try.prog W 0 (fun _ => true) true Try.f6.params.toList args.toList ds p := hA0
  rw [Try.params6] at hA hval
  obtain ⟨v0, vs0, d0, ds0, p0, q0, hargs0, rfl, rfl, h0, r0⟩ := trodAll_cons hA
  obtain ⟨v1, vs1, d1, ds1, p1, q1, hargs1, rfl, rfl, h1, r1⟩ := trodAll_cons r0
  obtain ⟨v2, vs2, d2, ds2, p2, q2, hargs2, rfl, rfl, h2, r2⟩ := trodAll_cons r1
  obtain ⟨rfl, rfl, rfl⟩ := trodAll_nil r2
  subst hargs2
  subst hargs1
  obtain rfl : args = #[v0, v1, v2] := by cases args; simp_all
  obtain ⟨rfl, rfl⟩ := trodVars_none hV
  simp only [List.append_nil] at hW'
  have hlt0 : ∀ x ∈ p0, x.block < W.heap.size := fun x hx => by simpa using hW'.lt x (by simp [hx])
  obtain ⟨a0, cap0, l0, rfl, hn0, hl0⟩ := open_exts (hval 0 22 v0 rfl rfl) h0
  obtain ⟨x1, rfl, rfl, rfl, w1⟩ := open_int Try.underlying2 (hval 1 2 v1 rfl rfl) h1
  obtain ⟨x2, rfl, rfl, rfl, w2⟩ := open_int Try.underlying2 (hval 2 2 v2 rfl rfl) h2
  clear hA0
  refine (units_walk a0 cap0 l0 x1 x2 W hn0 hl0 w1 w2).mono fun e W' ⟨he, hb⟩ => ?_
  subst he
  refine ⟨_, rfl, _, _, _, [], (p0 ++ ([] ++ ([] ++ []))), [], hW', ?_, ?_, rfl, hb.frame _, fun h => by cases h⟩
  · exact trodAll_cons_mk (shut_bool Try.underlying4 _) trodAll_mk0
  · exact trodAll_cons_mk (Below.trod laidOut (by kernel_rfl) (of_decide_eq_true (by kernel_rfl)) h0 hb hlt0) (trodAll_cons_mk (shut_int Try.underlying2 w1) (trodAll_cons_mk (shut_int Try.underlying2 w2) (trodAll_mk0)))

theorem extentUnits_holds : Rows.ExtentUnitsSaid :=
  OpenClaim.holds_of_wide 6 Try.f6 rfl rfl rfl rfl rfl rfl rfl ⟨rfl, rfl, rfl, rfl, rfl⟩ rfl rfl rfl rfl rfl (by kernel_rfl) Try.func6 (by kernel_rfl)
    (of_decide_eq_true (by kernel_rfl)) (by unfold Func.isWrapper; first | (rw [if_pos (by decide +kernel)]; kernel_rfl) | (rw [if_neg (by decide +kernel)]; exact ⟨rfl, rfl⟩))
    (fun os started H enc _ => extentUnits_lifted os started H enc)

end Go.Proofs.Ytiplgcnkkbndjaa.Oct
