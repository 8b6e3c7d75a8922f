/- For all pairs of sets the statement ExtentKeeps answers true and changes nothing that was there: what is handed in isn't changed. No condition. -/
import Derived.Test.YtgfdcgkaponlfaaRows
import Derived.Test.YtgfdcgkaponlfaaPar
import Derived.Test.YtgfdcgkaponlfaaMvw
namespace Go.Proofs.Ytgfdcgkaponlfaa.Oct
open Go.RowKit Go.Shelf Go.ChangeShapes Go.WideShapes Go.ChangeAt

theorem eql_E (w : World) (x1 x2 : Int) : (binOp .eql 32 (.agg #[.int .i64 x1, .int .i64 x2]) (.agg #[.int .i64 x1, .int .i64 x2])).run Try.prog w = .ok (.bool true) w := by
  rw [run_eql_struct, eqf_E, decide_eq_true rfl]
  rfl

theorem own_some {w : World} {B : Nat} {v : Value} {A : List (Int × Int)} {p : Int × Int} (h : OwnE w B v (A ++ [p])) : ∃ g cap, v = .slice (some ⟨g, 0, none⟩) (A.length + 1) cap ∧ (A.length + 1 ≤ cap ∧ cap ≤ maxLen) := by
  rcases h.2 with ⟨_, hn⟩ | ⟨g, cap, cur, rfl, _, _, h1, h2, _⟩
  · simp at hn
  · exact ⟨g, cap, by simp, by simpa using h1, h2⟩

theorem own_lies {w : World} {B g n cap : Nat} {A : List (Int × Int)} {p : Int × Int} (h : OwnE w B (.slice (some ⟨g, 0, none⟩) n cap) (A ++ [p])) : LiesE w (some ⟨g, 0, none⟩) A ∧ w.cell? ⟨g, A.length * 2, none⟩ = some (.int .i64 p.1) ∧ w.cell? ⟨g, A.length * 2 + 1, none⟩ = some (.int .i64 p.2) := by
  have hg : g < w.heap.size := by
    rcases h.2 with ⟨h9, _⟩ | ⟨g', cap', cur, h9, _, hh, _⟩
    · cases h9
    · cases h9
      exact (Array.getElem?_eq_some_iff.1 hh).1
  refine ⟨Or.inr ⟨g, 0, rfl, hg, fun k hk => ?_⟩, ?_⟩
  · have hc := OwnE.cells h k (by simp; omega)
    rw [Nat.zero_add]
    have e : (A ++ [p]).getD k (0, 0) = A.getD k (0, 0) := by simp [List.getElem?_append_left hk]
    rw [e] at hc
    exact hc
  · have hc := OwnE.cells h A.length (by simp)
    have e : (A ++ [p]).getD A.length (0, 0) = p := by simp
    rw [e] at hc
    exact hc

set_option maxRecDepth 100000 in
set_option maxHeartbeats 8000000 in
theorem keeps_walk (a b : Option Addr) (c d : Nat) (A B : List (Int × Int)) (w : World) (hnA : A.length ≤ maxLen) (hnB : B.length ≤ maxLen) (hA : LiesE w a A) (hB : LiesE w b B) :
    Calls Try.prog 7 #[.slice a A.length c, .slice b B.length d] w fun e w' => e = .returned (.bool true) ∧ Below w.heap.size w w' := by
  have HJ := fun u => hide (joined_any sort_says u)
  have HA := hide hA
  have HBb := hide hB
  unfold maxLen at hnA hnB
  clear hA hB
  go_enter Try.func7, Try.ntmps7
  go_wp2_with fail
  refine ((HJ _).out).mono ?_
  rintro e w1 ⟨rfl, hb9⟩
  have HB := hide hb9
  clear hb9
  have HLA := hide (light_says w1 a c A (HA.out.below HB.out))
  have HLB := hide (light_says w1 b d B (HBb.out.below HB.out))
  go_wp2_with fail
  refine HLA.out.mono ?_
  rintro e w2 (⟨rfl, hw2⟩ | ⟨rfl, hw2, hA30, _⟩)
  · have he := hw2.symm
    clear hw2
    subst he
    go_wp2_with fail
    refine ((HJ _).out).mono ?_
    rintro e w3 ⟨rfl, hb3⟩
    have HB := hide (HB.out.trans (hb3.mono HB.out.size))
    clear hb3
    go_wp2_with fail
    go_ret
    exact ⟨rfl, HB.out⟩
  have he := hw2.symm
  clear hw2
  subst he
  go_wp2_with fail
  refine HLB.out.mono ?_
  rintro e w2 (⟨rfl, hw2⟩ | ⟨rfl, hw2, hB30, _⟩)
  · have he := hw2.symm
    clear hw2
    subst he
    go_wp2_with fail
    refine ((HJ _).out).mono ?_
    rintro e w3 ⟨rfl, hb3⟩
    have HB := hide (HB.out.trans (hb3.mono HB.out.size))
    clear hb3
    go_wp2_with fail
    go_ret
    exact ⟨rfl, HB.out⟩
  have he := hw2.symm
  clear hw2
  subst he
  have HAB := hide (And.intro (Nat.le_trans (Nat.mul_le_mul hA30 hB30) (by omega) : A.length * B.length ≤ 1000000) (Nat.le_trans (Nat.mul_le_mul hA30 (Nat.succ_le_succ hB30)) (by omega) : A.length * (B.length + 1) ≤ 1000000))
  clear HLA HLB
  have HE0 : Hid (OwnE (w1.alloc (.cells #[] 32)) w1.heap.size (.slice (some ⟨w1.heap.size, 0, none⟩) 0 0) []) := hide ⟨rfl, Or.inr ⟨w1.heap.size, 0, #[], rfl, Nat.le_refl _, heap_alloc_new w1 _, Nat.le_refl _, by simp, rfl, rfl⟩⟩
  have HA1 := hide ((HA.out.below HB.out).below ((Below.refl w1.heap.size w1).alloc (Nat.le_refl _) (.cells #[] 32)))
  have HB1 := hide (HB.out.alloc HB.out.size (.cells #[] 32))
  have hsz1 : w.heap.size ≤ w1.heap.size := HB.out.size
  have hsz1' : w1.heap.size ≤ (w1.alloc (.cells #[] 32)).heap.size := by simp
  go_wp2_with (first
    | (at_builtin; refine wpList_append_E rfl (.tmp 20) (.tmp 21) 22 rfl Try.underlying22 w1.heap.size _ [] rfl (by exact HE0.out) a A.length c A rfl rfl (by exact HA1.out) (by simp; omega) hsz1' ?_; intro v5 w5 ho5 hg5; have HO5 : Hid (OwnE w5 w1.heap.size v5 A) := hide ho5; have HB5 := hide (HB1.out.grown hg5 HB1.out.size (fun x hx => Nat.le_trans hsz1 (World.ownsRow.lt HE0.out x hx).1)); have hsz5 : w1.heap.size ≤ w5.heap.size := Nat.le_trans hsz1' hg5.size; have HO5b := hide (HO5.out.below ((Below.refl w5.heap.size w5).alloc (Nat.le_refl _) (.cells #[.int .i64 7, .int .i64 8] 32))); have HB5b := hide (HB5.out.alloc HB5.out.size (.cells #[.int .i64 7, .int .i64 8] 32)); clear ho5 hg5)
    | (at_builtin; refine wpList_append_E rfl (.tmp 22) (.tmp 24) 22 rfl Try.underlying22 w1.heap.size _ A rfl (by exact HO5b.out) (some ⟨w5.heap.size, 0, none⟩) 1 1 [(7, 8)] rfl rfl (by exact lies_box w5 7 8) (by simp; omega) (by simp; omega) ?_; intro v6 w6 ho6 hg6; have HO6 : Hid (OwnE w6 w1.heap.size v6 (A ++ [(7, 8)])) := hide ho6; have HB6 := hide (HB5b.out.grown hg6 HB5b.out.size (fun x hx => Nat.le_trans hsz1 (World.ownsRow.lt HO5b.out x hx).1)); obtain ⟨g6, cap6, hv6, hcp6⟩ := own_some ho6; subst hv6; clear ho6 hg6; have HE6 : Hid (OwnE (w6.alloc (.cells #[] 32)) w6.heap.size (.slice (some ⟨w6.heap.size, 0, none⟩) 0 0) []) := hide ⟨rfl, Or.inr ⟨w6.heap.size, 0, #[], rfl, Nat.le_refl _, heap_alloc_new w6 _, Nat.le_refl _, by simp, rfl, rfl⟩⟩; have HB6b := hide ((Below.refl w6.heap.size w6).alloc (Nat.le_refl _) (.cells #[] 32)); have HB6c := hide (HBb.out.below (HB6.out.alloc HB6.out.size (.cells #[] 32))); have hsz6 : w.heap.size ≤ w6.heap.size := HB6.out.size; have hsz6' : w6.heap.size ≤ (w6.alloc (.cells #[] 32)).heap.size := by simp)
    | (at_builtin; refine wpList_append_E rfl (.tmp 29) (.tmp 30) 22 rfl Try.underlying22 w6.heap.size _ [] rfl (by exact HE6.out) b B.length d B rfl rfl (by exact HB6c.out) (by simp; omega) hsz6' ?_; intro v7 w7 ho7 hg7; have ho7b : OwnE w7 w6.heap.size v7 B := ho7; obtain ⟨a7, c7, hv7, hl7, _, _, _⟩ := ho7b.form; subst hv7; have HY := hide hl7; have HB67 := hide (HB6b.out.grown hg7 hsz6' (fun x hx => (World.ownsRow.lt HE6.out x hx).1)); have HX := hide (HO6.out.below HB67.out); have HB7 := hide (HB6.out.trans (HB67.out.mono hsz6)); clear hl7 ho7 ho7b hg7 HO6 HO5 HO5b HE6 HB6b HB6c HB6 HB5 HB5b HE0 HA1 HB1 HB67))
  have HB := HB7
  clear HB7
  have HN := hide (norm_any sort_says w7 _ cap6 A (own_lies HX.out).1 (by omega))
  refine HN.out.mono ?_
  rintro e w8 ⟨v8, N8, rfl, ho9, hn9, hb9⟩
  have HB := hide (HB.out.trans (hb9.mono HB.out.size))
  have HX := hide (HX.out.below hb9)
  have HY := hide (HY.out.below hb9)
  clear HN ho9 hn9 hb9
  have HU := hide (union_any sort_says _ (some ⟨w8.heap.size, 0, none⟩) 2 [⟨some ⟨g6, 0, none⟩, cap6, A⟩, ⟨a7, c7, B⟩] (lies_sets w8 _ a7 cap6 c7 A B (own_lies HX.out).1 HY.out) (by simp) (by simp [totS]; omega))
  have hb8 : Below w8.heap.size w8 (w8.alloc (.cells #[.slice (some ⟨g6, 0, none⟩) A.length cap6, .slice a7 B.length c7] 26)) := (Below.refl _ _).alloc (Nat.le_refl _) _
  have HBn := hide (HB.out.trans (hb8.mono HB.out.size))
  have HXn := hide (HX.out.below hb8)
  have HYn := hide (HY.out.below hb8)
  clear hb8 HX HY
  go_wp2_with fail
  refine HU.out.mono ?_
  rintro e w9 ⟨v9, R9, rfl, ho9, hn9, hb9⟩
  have HB := hide (HBn.out.trans (hb9.mono HBn.out.size))
  have HX := hide (HXn.out.below hb9)
  have HY := hide (HYn.out.below hb9)
  clear HU ho9 hn9 hb9 HBn HXn HYn
  have HM := hide (minus_set sort_says w9 _ a7 cap6 c7 A B (own_lies HX.out).1 HY.out (by omega) (by omega) HAB.out.2)
  go_wp2_with fail
  refine HM.out.mono ?_
  rintro e w10 ⟨v10, R10, rfl, ho9, _, _, _, hb9⟩
  have HB := hide (HB.out.trans (hb9.mono HB.out.size))
  have HX := hide (HX.out.below hb9)
  have HY := hide (HY.out.below hb9)
  clear HM ho9 hb9
  have HM := hide (meet_set sort_says w10 _ a7 cap6 c7 A B (own_lies HX.out).1 HY.out (by omega) (by omega) HAB.out.1)
  go_wp2_with fail
  refine HM.out.mono ?_
  rintro e w11 ⟨v11, R11, rfl, ho9, _, _, _, hb9⟩
  have HB := hide (HB.out.trans (hb9.mono HB.out.size))
  have HX := hide (HX.out.below hb9)
  have HY := hide (HY.out.below hb9)
  clear HM ho9 hb9
  have HM := hide (moved_raw sort_says w11 _ cap6 A (own_lies HX.out).1 (by omega) 1)
  go_wp2_with fail
  refine HM.out.mono ?_
  rintro e w12 ⟨⟨v12, rfl⟩, hb9⟩
  have HB := hide (HB.out.trans (hb9.mono HB.out.size))
  have HX := hide (HX.out.below hb9)
  have HY := hide (HY.out.below hb9)
  clear HM hb9
  have HS := hide (same_yes w12 _ a cap6 c A A (own_lies HX.out).1 (HA.out.below HB.out) (by omega) rfl)
  go_wp2_with fail
  refine HS.out.mono ?_
  rintro e w13 ⟨rfl, hb9⟩
  have HB := hide (HB.out.trans (hb9.mono HB.out.size))
  have HX := hide (HX.out.below hb9)
  have HY := hide (HY.out.below hb9)
  clear HS hb9
  have HS := hide (same_yes w13 a7 b c7 d B B HY.out (HBb.out.below HB.out) (by omega) rfl)
  go_wp2_with fail
  refine HS.out.mono ?_
  rintro e w14 ⟨rfl, hb9⟩
  have HB := hide (HB.out.trans (hb9.mono HB.out.size))
  have HX := hide (HX.out.below hb9)
  clear HS hb9 HY
  obtain ⟨_, hc1, hc2⟩ := own_lies HX.out
  dsimp only at hc1 hc2
  have hgd := fun (u : World) (p q : Operand) => guard_E u .eql p q #[.int .i64 7, .int .i64 8] #[.int .i64 7, .int .i64 8]
  have hq := fun u : World => eql_E u 7 8
  go_wp2_with fail
  go_ret
  exact ⟨rfl, HB.out⟩

set_option maxRecDepth 100000 in
theorem extentKeeps_lifted (os : Os) (started : os.Started) (H : Type) (enc : TypeId × Value → H) :
    ReturnsInHanded {} Try.checked os 7 .any (Rows.extentKeepsSpec.pre6 enc Try.prog Try.f7 Rows.extentKeepsRow.domain false) (Rows.extentKeepsSpec.post enc Try.prog Try.f7 false true false false) := by
  refine returnsInHanded_of_change (C := Try.checked) own started (by kernel_rfl) Try.func7
    (ChangeSpec.witness6 (enc := enc) (C := Try.checked) false ⟨#[], #[.slice none 0 0, .slice none 0 0], []⟩ 8 (by kernel_rfl) (by kernel_rfl) (by kernel_rfl) (by kernel_rfl)) ?_
  intro W base args ds gs before hval0 hW _ _
  have hval : ∀ (j : Nat) t v, Try.f7.params[j]? = some t → args[j]? = some v → Value.okWide Try.prog W .any base t v := hval0
  have hW' := hW
  obtain ⟨p, q, hA0, hV, rfl, hfz, hnd⟩ := hW
  have hA : DataW.TrodAll enc Try.prog W 0 (fun _ => true) true Try.f7.params.toList args.toList ds p := hA0
  rw [Try.params7] at hA hval
  obtain ⟨v0, vs0, d0, ds0, p0, q0, hargs0, rfl, rfl, h0, r0⟩ := trodAll_cons hA
  obtain ⟨v1, vs1, d1, ds1, p1, q1, hargs1, rfl, rfl, h1, r1⟩ := trodAll_cons r0
  obtain ⟨rfl, rfl, rfl⟩ := trodAll_nil r1
  subst hargs1
  obtain rfl : args = #[v0, v1] := by cases args; simp_all
  obtain ⟨rfl, rfl⟩ := trodVars_none hV
  simp only [List.append_nil] at hW'
  have hlt0 : ∀ x ∈ p0, x.block < W.heap.size := fun x hx => by simpa using hW'.lt x (by simp [hx])
  have hlt1 : ∀ x ∈ p1, x.block < W.heap.size := fun x hx => by simpa using hW'.lt x (by simp [hx])
  obtain ⟨a0, cap0, l0, rfl, hn0, hl0⟩ := open_exts (hval 0 22 v0 rfl rfl) h0
  obtain ⟨a1, cap1, l1, rfl, hn1, hl1⟩ := open_exts (hval 1 22 v1 rfl rfl) h1
  clear hA0
  refine (keeps_walk a0 a1 cap0 cap1 l0 l1 W hn0 hn1 hl0 hl1).mono fun e W' ⟨he, hb⟩ => ?_
  subst he
  refine ⟨_, rfl, _, _, _, [], (p0 ++ (p1 ++ [])), [], hW', ?_, ?_, rfl, hb.frame _, fun h => by cases h⟩
  · exact trodAll_cons_mk (shut_bool Try.underlying4 _) trodAll_mk0
  · exact trodAll_cons_mk (Below.trod laidOut (by kernel_rfl) (of_decide_eq_true (by kernel_rfl)) h0 hb hlt0) (trodAll_cons_mk (Below.trod laidOut (by kernel_rfl) (of_decide_eq_true (by kernel_rfl)) h1 hb hlt1) (trodAll_mk0))

theorem extentKeeps_holds : Rows.ExtentKeepsSaid :=
  OpenClaim.holds_of_wide 7 Try.f7 rfl rfl rfl rfl rfl rfl rfl ⟨rfl, rfl, rfl, rfl, rfl⟩ rfl rfl rfl rfl rfl (by kernel_rfl) Try.func7 (by kernel_rfl)
    (of_decide_eq_true (by kernel_rfl)) (by unfold Func.isWrapper; first | (rw [if_pos (by decide +kernel)]; kernel_rfl) | (rw [if_neg (by decide +kernel)]; exact ⟨rfl, rfl⟩))
    (fun os started H enc _ => extentKeeps_lifted os started H enc)
end Go.Proofs.Ytgfdcgkaponlfaa.Oct
