/- For all bytes, places and bytes that are put over them the statement OctetPatches answers true and changes nothing that was there. No condition. -/
import Derived.Test.YtmfnpifjinbaeaaRows
import Derived.Test.YtmfnpifjinbaeaaLst
import Derived.Test.YtmfnpifjinbaeaaRef
import Derived.Test.YtmfnpifjinbaeaaOpen
namespace Go.Proofs.Ytmfnpifjinbaeaa.Oct
open Go.RowKit Go.ChangeShapes Go.WideShapes Go.ChangeAt

theorem Same_eq (a a' : Option Addr) (n n' cap cap' : Nat) (l : List Int) (w : World) (hn : n = l.length) (hn' : n' = l.length) (hl : Lies w a l) (hl' : Lies w a' l) (hb : Byts l) :
    Calls Try.prog 17 #[.slice a n cap, .slice a' n' cap'] w fun e w' => e = .returned (.bool true) ∧ w' = w := by
  subst hn hn'
  have := Same_any a a' cap cap' l l w hl hl' hb hb
  simpa using this

theorem Patch_yes (B : Nat) (a : Option Addr) (cap : Nat) (l : List Int) (a' : Option Addr) (cap' : Nat) (m : List Int) (p : Nat) (w : World) (hlen : l.length ≤ 1000000) (hp : p + m.length ≤ l.length)
    (hown : Own w B (.slice a l.length cap) l) (hs : Sl w a cap l) (hl' : Lies w a' m) (hB : B ≤ w.heap.size) :
    Calls Try.prog 25 #[.slice a l.length cap, .int .i64 p, .slice a' m.length cap'] w fun e w' =>
      e = .returned (.bool true) ∧ Own w' B (.slice a l.length cap) (over l p m) ∧ Below B w w' := by
  by_cases hm : m = []
  · subst hm
    refine (Patch_zero a a' cap cap' l.length p w hlen hs.le hs.max hs.none (by simpa using hp)).mono ?_
    rintro e w' ⟨rfl, rfl⟩
    refine ⟨rfl, ?_, Below.refl _ _⟩
    simpa [over] using hown
  · obtain ⟨a2, cap2, e2, _, hne⟩ := hown.sl
    simp at e2
    obtain ⟨rfl, rfl⟩ := e2
    obtain ⟨g, rfl, hg, _⟩ := hne (by rintro rfl; simp at hp; exact hm hp.2)
    refine (Patch_some B g cap l a' cap' m p w hlen hs.le hm hp hown hl').mono ?_
    rintro e w' ⟨rfl, ho, hgr⟩
    exact ⟨rfl, ho, (Below.refl B w).grown hgr hB (by intro k hk; simp at hk; omega)⟩

set_option maxHeartbeats 1000000 in
theorem patches_walk (a : Option Addr) (cap : Nat) (l : List Int) (p : Int) (a' : Option Addr) (cap' : Nat) (m : List Int) (w : World) (hn : l.length ≤ maxLen) (hn' : m.length ≤ maxLen) (hb : Byts l) (hb' : Byts m)
    (hs : Sl w a cap l) (hs' : Sl w a' cap' m) (hp : p ≤ 9223372036854775807) (hp2 : -9223372036854775808 ≤ p) :
    Calls Try.prog 7 #[.slice a l.length cap, .int .i64 p, .slice a' m.length cap'] w fun e w' => e = .returned (.bool true) ∧ Below w.heap.size w w' := by
  have HS := hide hs
  have HS' := hide hs'
  have HN := hide hn
  have HN' := hide hn'
  unfold maxLen at hn hn'
  clear hs hs'
  by_cases hbig : 300 < l.length ∨ 300 < m.length
  · by_cases hbig1 : 300 < l.length
    all_goals
      go_enter Try.func7, Try.ntmps7
      go_wp2_with (go_at_call 9; refine (low_any _).mono ?_; rintro e w' ⟨rfl, hb⟩)
      go_ret
      exact ⟨rfl, hb⟩
  · have hs1 : ¬ 300 < l.length := by omega
    have hs2 : ¬ 300 < m.length := by omega
    clear hbig
    by_cases hthere : 0 ≤ p ∧ (0 : Int) ≤ m.length ∧ m.length ≤ l.length - p
    · obtain ⟨p, rfl⟩ := Int.eq_ofNat_of_zero_le hthere.1
      go_enter Try.func7, Try.ntmps7
      go_wp2_with fail
      refine (Part_any a cap l w (by omega) HS.out).mono ?_
      rintro e w1 ⟨v, rfl, ho1, hb1⟩
      obtain ⟨a1, cap1, rfl, hsl1, _⟩ := ho1.sl
      have HO1 := hide ho1
      have HB1 := hide hb1
      have HSL1 := hide hsl1
      clear ho1 hb1 hsl1
      go_wp2_with fail
      refine (Patch_yes _ a1 cap1 l a' cap' m p w1 (by omega) (by omega) HO1.out HSL1.out (HS'.out.below HB1.out).lies HB1.out.size).mono ?_
      rintro e w2 ⟨rfl, ho2, hb2⟩
      have HO2 := hide ho2
      have HB2 := hide (HB1.out.trans hb2)
      clear ho2 hb2 HO1 HSL1
      go_wp2_with fail
      refine (In_yes _ _ _ _ _ _ HN.out (by omega) (by omega) (by omega)).mono ?_
      rintro e w3 ⟨rfl, rfl⟩
      go_wp2_with fail
      refine (low_any _).mono ?_
      rintro e w4 ⟨rfl, hb4⟩
      have HO4 := hide (HO2.out.below hb4)
      have HB4 := hide (HB2.out.trans (hb4.mono HB2.out.size))
      clear HO2 HB2 hb4
      go_wp2_with fail
      refine (With_any a cap l a' cap' m p w4 (by omega) (by omega) (by omega) (HS.out.below HB4.out) (HS'.out.below HB4.out)).mono ?_
      rintro e w5 ⟨v5, rfl, ho5, hb5⟩
      obtain ⟨a5, cap5, rfl, hsl5, _⟩ := ho5.sl
      obtain ⟨a6, cap6, e6, hsl6, _⟩ := (HO4.out.below hb5).sl
      have e7 : a1 = a6 := by simp at e6; exact e6.1
      subst e7
      have HB5 := hide (HB4.out.trans (hb5.mono HB4.out.size))
      have hL : (over l p m).length = l.length := over_length (by omega)
      have HSL5 := hide hsl5
      have HSL6 := hide hsl6
      have HE := hide hL
      clear hb5 ho5 e6 hsl5 hsl6 hL HO4
      go_wp2_with fail
      refine (Same_eq a1 a5 _ _ cap1 cap5 (over l p m) _ HE.out.symm (by first | rfl | exact HE.out.symm) HSL6.out.lies HSL5.out.lies (hb.over hb' p)).mono ?_
      rintro e w6 ⟨rfl, rfl⟩
      go_wp2_with fail
      go_ret
      exact ⟨rfl, HB5.out⟩
    · go_enter Try.func7, Try.ntmps7
      go_wp2_with fail
      refine (Part_any a cap l w (by omega) HS.out).mono ?_
      rintro e w1 ⟨v, rfl, ho1, hb1⟩
      obtain ⟨a1, cap1, rfl, hsl1, _⟩ := ho1.sl
      have HO1 := hide ho1
      have HB1 := hide hb1
      have HSL1 := hide hsl1
      clear ho1 hb1 hsl1
      go_wp2_with fail
      refine (Patch_no a1 a' l.length cap1 m.length cap' p w1 HN.out hp hp2 hthere).mono ?_
      rintro e w2 ⟨rfl, rfl⟩
      go_wp2_with fail
      refine (In_no _ _ _ _ _ _ HN.out hp hp2 hthere).mono ?_
      rintro e w3 ⟨rfl, rfl⟩
      go_wp2_with fail
      refine (low_any _).mono ?_
      rintro e w4 ⟨rfl, hb4⟩
      have HSL4 := hide (HSL1.out.below hb4)
      have HB4 := hide (HB1.out.trans (hb4.mono HB1.out.size))
      clear HSL1 HB1 hb4
      go_wp2_with fail
      refine (Same_eq a1 a _ _ cap1 cap l _ rfl rfl HSL4.out.lies (HS.out.below HB4.out).lies hb).mono ?_
      rintro e w6 ⟨rfl, rfl⟩
      go_wp2_with fail
      go_ret
      exact ⟨rfl, HB4.out⟩

set_option maxRecDepth 100000 in
theorem octetPatches_lifted (os : Os) (started : os.Started) (H : Type) (enc : TypeId × Value → H) :
    ReturnsInHanded {} Try.checked os 7 .any (Rows.octetPatchesSpec.pre6 enc Try.prog Try.f7 Rows.octetPatchesRow.domain false) (Rows.octetPatchesSpec.post enc Try.prog Try.f7 false true false false) := by
  refine returnsInHanded_of_change (C := Try.checked) own started (by kernel_rfl) Try.func7
    (ChangeSpec.witness6 (enc := enc) (C := Try.checked) false ⟨#[], #[.slice none 0 0, .int .i64 0, .slice none 0 0], []⟩ 8 (by kernel_rfl) (by kernel_rfl) (by kernel_rfl) (by kernel_rfl)) ?_
  intro W base args ds gs before hval0 hW _ _
  have hval : ∀ (j : Nat) t v, Try.f7.params[j]? = some t → args[j]? = some v → Value.okWide Try.prog W .any base t v := hval0
  have hW' := hW
  obtain ⟨p, q, hA0, hV, rfl, hfz, hnd⟩ := hW
  have hA : DataW.TrodAll enc Try.prog W 0 (fun _ => true) true Try.f7.params.toList args.toList ds p := hA0
  rw [Try.params7] at hA hval
  obtain ⟨v0, vs0, d0, ds0, p0, q0, hargs0, rfl, rfl, h0, r0⟩ := trodAll_cons hA
  obtain ⟨v1, vs1, d1, ds1, p1, q1, hargs1, rfl, rfl, h1, r1⟩ := trodAll_cons r0
  obtain ⟨v2, vs2, d2, ds2, p2, q2, hargs2, rfl, rfl, h2, r2⟩ := trodAll_cons r1
  obtain ⟨rfl, rfl, rfl⟩ := trodAll_nil r2
  subst hargs2
  subst hargs1
  obtain rfl : args = #[v0, v1, v2] := by cases args; simp_all
  obtain ⟨rfl, rfl⟩ := trodVars_none hV
  simp only [List.append_nil] at hW'
  have hlt0 : ∀ x ∈ p0, x.block < W.heap.size := fun x hx => by simpa using hW'.lt x (by simp [hx])
  have hlt2 : ∀ x ∈ p2, x.block < W.heap.size := fun x hx => by simpa using hW'.lt x (by simp [hx])
  obtain ⟨a0, cap0, l0, rfl, hn0, hb0, hl0, hs0⟩ := open_bytes (hval 0 22 v0 rfl rfl) h0
  obtain ⟨x1, rfl, rfl, rfl, w1⟩ := open_int Try.underlying3 (hval 1 3 v1 rfl rfl) h1
  obtain ⟨a2, cap2, l2, rfl, hn2, hb2, hl2, hs2⟩ := open_bytes (hval 2 22 v2 rfl rfl) h2
  clear hA0
  refine (patches_walk a0 cap0 l0 x1 a2 cap2 l2 W hn0 hn2 hb0 hb2 hs0 hs2 (wf_i64 w1).2 (wf_i64 w1).1).mono fun e W' ⟨he, hb⟩ => ?_
  subst he
  refine ⟨_, rfl, _, _, _, [], (p0 ++ ([] ++ (p2 ++ []))), [], hW', ?_, ?_, rfl, hb.frame _, fun h => by cases h⟩
  · exact trodAll_cons_mk (shut_bool Try.underlying4 _) trodAll_mk0
  · exact trodAll_cons_mk (Below.trod laidOut (by kernel_rfl) (of_decide_eq_true (by kernel_rfl)) h0 hb hlt0) (trodAll_cons_mk (shut_int Try.underlying3 w1) (trodAll_cons_mk (Below.trod laidOut (by kernel_rfl) (of_decide_eq_true (by kernel_rfl)) h2 hb hlt2) (trodAll_mk0)))

theorem octetPatches_holds : Rows.OctetPatchesSaid :=
  OpenClaim.holds_of_wide 7 Try.f7 rfl rfl rfl rfl rfl rfl rfl ⟨rfl, rfl, rfl, rfl, rfl⟩ rfl rfl rfl rfl rfl (by kernel_rfl) Try.func7 (by kernel_rfl)
    (of_decide_eq_true (by kernel_rfl)) (by unfold Func.isWrapper; first | (rw [if_pos (by decide +kernel)]; kernel_rfl) | (rw [if_neg (by decide +kernel)]; exact ⟨rfl, rfl⟩))
    (fun os started H enc _ => octetPatches_lifted os started H enc)
end Go.Proofs.Ytmfnpifjinbaeaa.Oct
