/- For all sets the statement ExtentNorms answers true and changes nothing that was there: the one form of every set, how many bytes it has, and whether its parts are apart, are what the reference says. No condition. -/
import Derived.Test.YtiplgcnkkbndjaaRows
import Derived.Test.YtiplgcnkkbndjaaApf
import Derived.Test.YtiplgcnkkbndjaaByt
import Derived.Test.YtiplgcnkkbndjaaLgh
import Derived.Test.YtiplgcnkkbndjaaOpe
namespace Go.Proofs.Ytiplgcnkkbndjaa.Oct
open Go.RowKit Go.Shelf Go.ChangeShapes Go.WideShapes Go.ChangeAt

set_option maxRecDepth 100000 in
set_option maxHeartbeats 4000000 in
theorem norms_walk (a : Option Addr) (c : Nat) (L : List (Int × Int)) (W : World) (hn : L.length ≤ maxLen) (hL : LiesE W a L) :
    Calls Try.prog 3 #[.slice a L.length c] W fun e w' => e = .returned (.bool true) ∧ Below W.heap.size W w' := by
  have HL := hide hL
  have HNe := hide (near_says W a c L hL (by unfold maxLen at hn; omega))
  clear hL
  go_enter Try.func3, Try.ntmps3
  go_wp2_with fail
  refine HNe.out.mono ?_
  rintro e w1 (⟨rfl, hw1⟩ | ⟨rfl, hw1, h30, hne⟩)
  · have he := hw1.symm
    clear hw1
    subst he
    go_wp2_with fail
    refine (joined_any sort_says _).mono ?_
    rintro e w2 ⟨rfl, hb2⟩
    go_wp2_with fail
    go_ret
    exact ⟨rfl, hb2⟩
  have he := hw1.symm
  clear hw1
  subst he
  have HNr := hide hne
  clear hne HNe
  go_wp2_with fail
  refine (joined_any sort_says _).mono ?_
  rintro e w2 ⟨rfl, hb2⟩
  have HB2 := hide hb2
  clear hb2
  go_wp2_with fail
  refine (norm_any sort_says w2 a c L (HL.out.below HB2.out) (by omega)).mono ?_
  rintro e w3 ⟨v3, N, rfl, ho3, hn3, hb3⟩
  obtain ⟨a3, c3, hv3, hl3, _, _, _⟩ := ho3.form
  subst hv3
  have HN3 := hide hn3
  have HL3 := hide hl3
  have hNl : N.length ≤ 30 := by have := hn3.len; omega
  have HB3 := hide (HB2.out.trans (hb3.mono HB2.out.size))
  clear ho3 hn3 hb3 hl3
  go_wp2_with fail
  refine (refnorm_any w3 a c L (HL.out.below HB3.out) (by omega)).mono ?_
  rintro e w4 ⟨v4, R, rfl, ho4, hr4, hRl, hb4⟩
  have HNR := hide (hr4.same HN3.out)
  obtain ⟨a4, c4, hv4, hl4, _, _, _⟩ := ho4.form
  subst hv4
  have HL4 := hide hl4
  have HL5 := hide (HL3.out.below hb4)
  have HB4 := hide (HB3.out.trans (hb4.mono HB3.out.size))
  clear ho4 hr4 hb4 hl4
  go_wp2_with fail
  refine (same_any w4 a3 a4 c3 c4 N R HL5.out HL4.out (by omega)).mono ?_
  rintro e w5 ⟨rfl, hb5⟩
  have hd : decide (N = R) = true := by simpa using HNR.out
  rw [hd]
  have HB5 := hide (HB4.out.trans (hb5.mono HB4.out.size))
  clear hb5 hd
  go_wp2_with fail
  refine (bytes_any sort_says w5 a c L (HL.out.below HB5.out) (by omega) HNr.out).mono ?_
  rintro e w6 ⟨N6, rfl, hn6, hb6⟩
  have HN6 := hide hn6
  have HB6 := hide (HB5.out.trans (hb6.mono HB5.out.size))
  clear hn6 hb6
  go_wp2_with fail
  refine (refbytes_any w6 a c L (HL.out.below HB6.out) (by omega) HNr.out).mono ?_
  rintro e w7 ⟨N7, rfl, hr7, hb7⟩
  have hNN : N6 = N7 := hr7.same HN6.out
  subst hNN
  have HB7 := hide (HB6.out.trans (hb7.mono HB6.out.size))
  clear hr7 hb7
  obtain ⟨sm, hsm⟩ : ∃ sm, sm = sumE 0 N6 := ⟨_, rfl⟩
  rw [← hsm]
  clear hsm
  go_wp2_with fail
  refine (apart_any sort_says w7 a c L (HL.out.below HB7.out) (by omega)).mono ?_
  rintro e w8 ⟨b8, rfl, hi8, hb8⟩
  have HI8 := hide hi8
  have HB8 := hide (HB7.out.trans (hb8.mono HB7.out.size))
  clear hi8 hb8
  go_wp2_with fail
  refine (refapart_any w8 a c L (HL.out.below HB8.out) (by omega)).mono ?_
  rintro e w9 ⟨b9, rfl, hi9, hb9⟩
  have hbb : b8 = b9 := by
    have h1 := HI8.out.trans hi9.symm
    cases b8 <;> cases b9 <;> simp_all
  subst hbb
  have HB9 := hide (HB8.out.trans (hb9.mono HB8.out.size))
  clear hi9 hb9 HI8
  cases b8
  · go_wp2_with fail
    go_ret
    exact ⟨rfl, HB9.out⟩
  · go_wp2_with fail
    go_ret
    exact ⟨rfl, HB9.out⟩

set_option maxRecDepth 100000 in
theorem extentNorms_lifted (os : Os) (started : os.Started) (H : Type) (enc : TypeId × Value → H) :
    ReturnsInHanded {} Try.checked os 3 .any (Rows.extentNormsSpec.pre6 enc Try.prog Try.f3 Rows.extentNormsRow.domain false) (Rows.extentNormsSpec.post enc Try.prog Try.f3 false true false false) := by
  refine returnsInHanded_of_change (C := Try.checked) own started (by kernel_rfl) Try.func3
    (ChangeSpec.witness6 (enc := enc) (C := Try.checked) false ⟨#[], #[.slice none 0 0], []⟩ 8 (by kernel_rfl) (by kernel_rfl) (by kernel_rfl) (by kernel_rfl)) ?_
  intro W base args ds gs before hval0 hW _ _
  have hval : ∀ (j : Nat) t v, Try.f3.params[j]? = some t → args[j]? = some v → Value.okWide Try.prog W .any base t v := hval0
  have hW' := hW
  obtain ⟨p, q, hA0, hV, rfl, hfz, hnd⟩ := hW
  have hA : DataW.TrodAll enc Try.prog W 0 (fun _ => true) true Try.f3.params.toList args.toList ds p := hA0
  rw [Try.params3] at hA hval
  obtain ⟨v0, vs0, d0, ds0, p0, q0, hargs0, rfl, rfl, h0, r0⟩ := trodAll_cons hA
  obtain ⟨rfl, rfl, rfl⟩ := trodAll_nil r0
  obtain rfl : args = #[v0] := by cases args; simp_all
  obtain ⟨rfl, rfl⟩ := trodVars_none hV
  simp only [List.append_nil] at hW'
  have hlt0 : ∀ x ∈ p0, x.block < W.heap.size := fun x hx => by simpa using hW'.lt x (by simp [hx])
  obtain ⟨a0, cap0, l0, rfl, hn0, hl0⟩ := open_exts (hval 0 22 v0 rfl rfl) h0
  clear hA0
  refine (norms_walk a0 cap0 l0 W hn0 hl0).mono fun e W' ⟨he, hb⟩ => ?_
  subst he
  refine ⟨_, rfl, _, _, _, [], (p0 ++ []), [], hW', ?_, ?_, rfl, hb.frame _, fun h => by cases h⟩
  · exact trodAll_cons_mk (shut_bool Try.underlying4 _) trodAll_mk0
  · exact trodAll_cons_mk (Below.trod laidOut (by kernel_rfl) (of_decide_eq_true (by kernel_rfl)) h0 hb hlt0) (trodAll_mk0)

theorem extentNorms_holds : Rows.ExtentNormsSaid :=
  OpenClaim.holds_of_wide 3 Try.f3 rfl rfl rfl rfl rfl rfl rfl ⟨rfl, rfl, rfl, rfl, rfl⟩ rfl rfl rfl rfl rfl (by kernel_rfl) Try.func3 (by kernel_rfl)
    (of_decide_eq_true (by kernel_rfl)) (by unfold Func.isWrapper; first | (rw [if_pos (by decide +kernel)]; kernel_rfl) | (rw [if_neg (by decide +kernel)]; exact ⟨rfl, rfl⟩))
    (fun os started H enc _ => extentNorms_lifted os started H enc)

end Go.Proofs.Ytiplgcnkkbndjaa.Oct
