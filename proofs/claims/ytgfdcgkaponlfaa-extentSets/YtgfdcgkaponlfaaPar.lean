/- For all pairs of sets the statement ExtentPairs answers true and changes nothing that was there: what two sets have together, in common, and one alone, is what the reference says. No condition. -/
import Derived.Test.YtgfdcgkaponlfaaRows
import Derived.Test.YtgfdcgkaponlfaaUni
import Derived.Test.YtgfdcgkaponlfaaAsk
namespace Go.Proofs.Ytgfdcgkaponlfaa.Oct
open Go.RowKit Go.Shelf Go.ChangeShapes Go.WideShapes Go.ChangeAt

theorem lies_sets (w : World) (a b : Option Addr) (c d : Nat) (A B : List (Int × Int)) (hA : LiesE w a A) (hB : LiesE w b B) :
    LiesS (w.alloc (.cells #[.slice a A.length c, .slice b B.length d] 26)) (some ⟨w.heap.size, 0, none⟩) [⟨a, c, A⟩, ⟨b, d, B⟩] := by
  have h9 := heap_alloc_new w (.cells #[.slice a A.length c, .slice b B.length d] 26)
  have hb : Below w.heap.size w (w.alloc (.cells #[.slice a A.length c, .slice b B.length d] 26)) := (Below.refl _ _).alloc (Nat.le_refl _) _
  refine Or.inr ⟨w.heap.size, 0, rfl, by simp, fun k hk => ?_⟩
  have : k = 0 ∨ k = 1 := by simp at hk; omega
  rcases this with rfl | rfl
  · exact ⟨by simp only [World.cell?, h9]; rfl, hA.below hb⟩
  · exact ⟨by simp only [World.cell?, h9]; rfl, hB.below hb⟩

theorem same_yes (w : World) (a b : Option Addr) (ca cb : Nat) (A B : List (Int × Int)) (hA : LiesE w a A) (hB : LiesE w b B) (hl : A.length ≤ 1000000) (he : A = B) :
    Calls Try.prog 11 #[.slice a A.length ca, .slice b B.length cb] w fun e w' => e = .returned (.bool true) ∧ Below w.heap.size w w' := by
  have := same_any w a b ca cb A B hA hB hl
  rwa [decide_eq_true he] at this

set_option maxRecDepth 100000 in
set_option maxHeartbeats 8000000 in
theorem pairs_walk (a b : Option Addr) (c d : Nat) (A B : List (Int × Int)) (w : World) (hnA : A.length ≤ maxLen) (hnB : B.length ≤ maxLen) (hA : LiesE w a A) (hB : LiesE w b B) :
    Calls Try.prog 3 #[.slice a A.length c, .slice b B.length d] w fun e w' => e = .returned (.bool true) ∧ Below w.heap.size w w' := by
  have HJ := fun u => hide (joined_any sort_says u)
  have HA := hide hA
  have HBb := hide hB
  have HLA := hide (light_says w a c A hA)
  have HLB := hide (light_says w b d B hB)
  unfold maxLen at hnA hnB
  clear hA hB
  go_enter Try.func3, Try.ntmps3
  go_wp2_with fail
  refine HLA.out.mono ?_
  rintro e w2 (⟨rfl, hw2⟩ | ⟨rfl, hw2, hA30, _⟩)
  · have he := hw2.symm
    clear hw2
    subst he
    go_wp2_with fail
    refine ((HJ _).out).mono ?_
    rintro e w3 ⟨rfl, hb3⟩
    go_wp2_with fail
    go_ret
    exact ⟨rfl, hb3⟩
  have he := hw2.symm
  clear hw2
  subst he
  go_wp2_with fail
  refine HLB.out.mono ?_
  rintro e w2 (⟨rfl, hw2⟩ | ⟨rfl, hw2, hB30, _⟩)
  · have he := hw2.symm
    clear hw2
    subst he
    go_wp2_with fail
    refine ((HJ _).out).mono ?_
    rintro e w3 ⟨rfl, hb3⟩
    go_wp2_with fail
    go_ret
    exact ⟨rfl, hb3⟩
  have he := hw2.symm
  clear hw2
  subst he
  have hAB : A.length * B.length ≤ 1000000 := Nat.le_trans (Nat.mul_le_mul hA30 hB30) (by omega)
  have hAB1 : A.length * (B.length + 1) ≤ 1000000 := Nat.le_trans (Nat.mul_le_mul hA30 (Nat.succ_le_succ hB30)) (by omega)
  have HAB := hide (And.intro hAB hAB1)
  clear HLA HLB hAB hAB1
  go_wp2_with fail
  refine ((HJ _).out).mono ?_
  rintro e w1 ⟨rfl, hb9⟩
  have HB := hide hb9
  clear hb9
  have HM := hide (meet_set sort_says w1 a b c d A B (HA.out.below HB.out) (HBb.out.below HB.out) (by omega) (by omega) HAB.out.1)
  go_wp2_with fail
  refine HM.out.mono ?_
  rintro e u2 ⟨v2, R2, rfl, ho9, hf9, hs9, hl9, hb9⟩
  have HB := hide (HB.out.trans (hb9.mono HB.out.size))
  obtain ⟨a2, c2, rfl, hlr, _, _, _⟩ := ho9.form
  have HLr := hide hlr
  have HFr := hide (And.intro hf9 hs9)
  have HLn := hide hl9
  clear ho9 hlr hf9 hs9 hl9 hb9 HM
  have HN := hide (refboth0_any u2 a b c d A B (HA.out.below HB.out) (HBb.out.below HB.out) (by omega) (by omega))
  go_wp2_with fail
  refine HN.out.mono ?_
  rintro e z2 ⟨y2, N2, rfl, ho9, hf9, hl9, hb9⟩
  have HB := hide (HB.out.trans (hb9.mono HB.out.size))
  obtain ⟨p2, q2, rfl, hlr, _, _, _⟩ := ho9.form
  have HS := hide (same_yes z2 a2 p2 c2 q2 R2 N2 (HLr.out.below hb9) hlr (by have := HLn.out; have := HAB.out.1; have := HAB.out.2; omega) (Form.unique _ _ HFr.out.1 hf9.1 (fun x => (HFr.out.2 x).trans (hf9.2 x).symm)))
  clear ho9 hlr hf9 hl9 hb9 HN HLr HFr HLn
  go_wp2_with fail
  refine HS.out.mono ?_
  rintro e w2 ⟨rfl, hb9⟩
  have HB := hide (HB.out.trans (hb9.mono HB.out.size))
  clear hb9 HS
  have HM := hide (minus_set sort_says w2 a b c d A B (HA.out.below HB.out) (HBb.out.below HB.out) (by omega) (by omega) HAB.out.2)
  go_wp2_with fail
  refine HM.out.mono ?_
  rintro e u3 ⟨v3, R3, rfl, ho9, hf9, hs9, hl9, hb9⟩
  have HB := hide (HB.out.trans (hb9.mono HB.out.size))
  obtain ⟨a3, c3, rfl, hlr, _, _, _⟩ := ho9.form
  have HLr := hide hlr
  have HFr := hide (And.intro hf9 hs9)
  have HLn := hide hl9
  clear ho9 hlr hf9 hs9 hl9 hb9 HM
  have HN := hide (refboth1_any u3 a b c d A B (HA.out.below HB.out) (HBb.out.below HB.out) (by omega) (by omega))
  go_wp2_with fail
  refine HN.out.mono ?_
  rintro e z3 ⟨y3, N3, rfl, ho9, hf9, hl9, hb9⟩
  have HB := hide (HB.out.trans (hb9.mono HB.out.size))
  obtain ⟨p3, q3, rfl, hlr, _, _, _⟩ := ho9.form
  have HS := hide (same_yes z3 a3 p3 c3 q3 R3 N3 (HLr.out.below hb9) hlr (by have := HLn.out; have := HAB.out.1; have := HAB.out.2; omega) (Form.unique _ _ HFr.out.1 hf9.1 (fun x => (HFr.out.2 x).trans (hf9.2 x).symm)))
  clear ho9 hlr hf9 hl9 hb9 HN HLr HFr HLn
  go_wp2_with fail
  refine HS.out.mono ?_
  rintro e w3 ⟨rfl, hb9⟩
  have HB := hide (HB.out.trans (hb9.mono HB.out.size))
  clear hb9 HS
  have HU : Hid (Calls Try.prog 15 #[.slice (some ⟨w3.heap.size, 0, none⟩) 2 2] (w3.alloc (.cells #[.slice a A.length c, .slice b B.length d] 26)) fun e w' => ∃ v R, e = .returned v ∧ OwnE w' (w3.alloc (.cells #[.slice a A.length c, .slice b B.length d] 26)).heap.size v R ∧ Form R ∧ (∀ x, InE R x ↔ InE A x ∨ InE B x) ∧ R.length ≤ 1000 ∧ Below (w3.alloc (.cells #[.slice a A.length c, .slice b B.length d] 26)).heap.size (w3.alloc (.cells #[.slice a A.length c, .slice b B.length d] 26)) w') := hide (by
    refine (union_any sort_says _ (some ⟨w3.heap.size, 0, none⟩) 2 [⟨a, c, A⟩, ⟨b, d, B⟩] (lies_sets w3 a b c d A B (HA.out.below HB.out) (HBb.out.below HB.out)) (by simp) (by simp [totS]; omega)).mono ?_
    rintro e w' ⟨v, R, rfl, ho, hn, hb⟩
    have e9 : catS [⟨a, c, A⟩, ⟨b, d, B⟩] = A ++ B := by simp [catS]
    rw [e9] at hn
    exact ⟨v, R, rfl, ho, hn.form, fun x => (hn.set x).trans (inE_append A B x), Nat.le_trans hn.len (by simp; omega), hb⟩)
  have HB4 := hide (HB.out.alloc HB.out.size (.cells #[.slice a A.length c, .slice b B.length d] 26))
  go_wp2_with fail
  generalize w3.alloc (.cells #[.slice a A.length c, .slice b B.length d] 26) = w4 at *
  have HB := HB4
  refine HU.out.mono ?_
  rintro e u5 ⟨v5, R5, rfl, ho9, hf9, hs9, hl9, hb9⟩
  have HB := hide (HB.out.trans (hb9.mono HB.out.size))
  obtain ⟨a5, c5, rfl, hlr, _, _, _⟩ := ho9.form
  have HLr := hide hlr
  have HFr := hide (And.intro hf9 hs9)
  have HLn := hide hl9
  clear ho9 hlr hf9 hs9 hl9 hb9 HU
  have HN := hide (refboth2_any u5 a b c d A B (HA.out.below HB.out) (HBb.out.below HB.out) (by omega) (by omega))
  go_wp2_with fail
  refine HN.out.mono ?_
  rintro e z5 ⟨y5, N5, rfl, ho9, hf9, hl9, hb9⟩
  have HB := hide (HB.out.trans (hb9.mono HB.out.size))
  obtain ⟨p5, q5, rfl, hlr, _, _, _⟩ := ho9.form
  have HS := hide (same_yes z5 a5 p5 c5 q5 R5 N5 (HLr.out.below hb9) hlr (by have := HLn.out; have := HAB.out.1; have := HAB.out.2; omega) (Form.unique _ _ HFr.out.1 hf9.1 (fun x => (HFr.out.2 x).trans (hf9.2 x).symm)))
  clear ho9 hlr hf9 hl9 hb9 HN HLr HFr HLn
  go_wp2_with fail
  refine HS.out.mono ?_
  rintro e w5 ⟨rfl, hb9⟩
  have HB := hide (HB.out.trans (hb9.mono HB.out.size))
  clear hb9 HS
  obtain ⟨bw, hbw⟩ := bool_of (∀ x, InE A x → InE B x)
  have HW : Hid (Calls Try.prog 16 #[.slice a A.length c, .slice b B.length d] w5 fun e w' => e = .returned (.bool bw) ∧ Below w5.heap.size w5 w') := hide (by
    refine (within_any sort_says w5 a b c d A B (HA.out.below HB.out) (HBb.out.below HB.out) (by omega) (by omega) HAB.out.2).mono ?_
    rintro e w' ⟨⟨b9, rfl, hb9⟩, h2⟩
    exact ⟨by rw [bool_same hb9 hbw Iff.rfl], h2⟩)
  go_wp2_with fail
  refine HW.out.mono ?_
  rintro e w6 ⟨rfl, hb9⟩
  have HB := hide (HB.out.trans (hb9.mono HB.out.size))
  clear hb9 HW
  have HN := hide (refboth1_any w6 a b c d A B (HA.out.below HB.out) (HBb.out.below HB.out) (by omega) (by omega))
  go_wp2_with fail
  refine HN.out.mono ?_
  rintro e w7 ⟨v7, N7, rfl, ho9, ⟨hf, hs⟩, _, hb9⟩
  have HB := hide (HB.out.trans (hb9.mono HB.out.size))
  obtain ⟨p7, q7, rfl, _, _, _, _⟩ := ho9.form
  have hn7 : ((N7.length : Int) == 0) = bw := bool_same (p := N7.length = 0) (by simp) hbw (hf.empty.trans ⟨fun hh x hx => Classical.byContradiction fun hn => hh x ((hs x).2 ⟨hx, hn⟩), fun hh x hx => ((hs x).1 hx).2 (hh x ((hs x).1 hx).1)⟩)
  have hbb : (bw == bw) = true := by simp
  clear ho9 hf hs hb9 HN hbw
  go_wp2_with fail
  go_ret
  exact ⟨rfl, HB.out⟩

set_option maxRecDepth 100000 in
theorem extentPairs_lifted (os : Os) (started : os.Started) (H : Type) (enc : TypeId × Value → H) :
    ReturnsInHanded {} Try.checked os 3 .any (Rows.extentPairsSpec.pre6 enc Try.prog Try.f3 Rows.extentPairsRow.domain false) (Rows.extentPairsSpec.post enc Try.prog Try.f3 false true false false) := by
  refine returnsInHanded_of_change (C := Try.checked) own started (by kernel_rfl) Try.func3
    (ChangeSpec.witness6 (enc := enc) (C := Try.checked) false ⟨#[], #[.slice none 0 0, .slice none 0 0], []⟩ 8 (by kernel_rfl) (by kernel_rfl) (by kernel_rfl) (by kernel_rfl)) ?_
  intro W base args ds gs before hval0 hW _ _
  have hval : ∀ (j : Nat) t v, Try.f3.params[j]? = some t → args[j]? = some v → Value.okWide Try.prog W .any base t v := hval0
  have hW' := hW
  obtain ⟨p, q, hA0, hV, rfl, hfz, hnd⟩ := hW
  have hA : DataW.TrodAll enc Try.prog W 0 (fun _ => true) true Try.f3.params.toList args.toList ds p := hA0
  rw [Try.params3] at hA hval
  obtain ⟨v0, vs0, d0, ds0, p0, q0, hargs0, rfl, rfl, h0, r0⟩ := trodAll_cons hA
  obtain ⟨v1, vs1, d1, ds1, p1, q1, hargs1, rfl, rfl, h1, r1⟩ := trodAll_cons r0
  obtain ⟨rfl, rfl, rfl⟩ := trodAll_nil r1
  subst hargs1
  obtain rfl : args = #[v0, v1] := by cases args; simp_all
  obtain ⟨rfl, rfl⟩ := trodVars_none hV
  simp only [List.append_nil] at hW'
  have hlt0 : ∀ x ∈ p0, x.block < W.heap.size := fun x hx => by simpa using hW'.lt x (by simp [hx])
  have hlt1 : ∀ x ∈ p1, x.block < W.heap.size := fun x hx => by simpa using hW'.lt x (by simp [hx])
  obtain ⟨a0, cap0, l0, rfl, hn0, hl0⟩ := open_exts (hval 0 22 v0 rfl rfl) h0
  obtain ⟨a1, cap1, l1, rfl, hn1, hl1⟩ := open_exts (hval 1 22 v1 rfl rfl) h1
  clear hA0
  refine (pairs_walk a0 a1 cap0 cap1 l0 l1 W hn0 hn1 hl0 hl1).mono fun e W' ⟨he, hb⟩ => ?_
  subst he
  refine ⟨_, rfl, _, _, _, [], (p0 ++ (p1 ++ [])), [], hW', ?_, ?_, rfl, hb.frame _, fun h => by cases h⟩
  · exact trodAll_cons_mk (shut_bool Try.underlying4 _) trodAll_mk0
  · exact trodAll_cons_mk (Below.trod laidOut (by kernel_rfl) (of_decide_eq_true (by kernel_rfl)) h0 hb hlt0) (trodAll_cons_mk (Below.trod laidOut (by kernel_rfl) (of_decide_eq_true (by kernel_rfl)) h1 hb hlt1) (trodAll_mk0))

theorem extentPairs_holds : Rows.ExtentPairsSaid :=
  OpenClaim.holds_of_wide 3 Try.f3 rfl rfl rfl rfl rfl rfl rfl ⟨rfl, rfl, rfl, rfl, rfl⟩ rfl rfl rfl rfl rfl (by kernel_rfl) Try.func3 (by kernel_rfl)
    (of_decide_eq_true (by kernel_rfl)) (by unfold Func.isWrapper; first | (rw [if_pos (by decide +kernel)]; kernel_rfl) | (rw [if_neg (by decide +kernel)]; exact ⟨rfl, rfl⟩))
    (fun os started H enc _ => extentPairs_lifted os started H enc)
end Go.Proofs.Ytgfdcgkaponlfaa.Oct
