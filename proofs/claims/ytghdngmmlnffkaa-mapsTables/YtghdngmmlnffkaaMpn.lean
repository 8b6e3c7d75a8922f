/- For every place and every entry the statement MapsNils answers true and changes nothing that was there: a nil table has nothing; without changes, or a header, there is none. No condition. -/
import Derived.Test.YtghdngmmlnffkaaRows
import Derived.Test.YtghdngmmlnffkaaMpc
import Derived.Test.YtghdngmmlnffkaaMpo
import Derived.Test.YtghdngmmlnffkaaHdc
import Derived.Test.YtghdngmmlnffkaaTxb
namespace Go.Proofs.Ytghdngmmlnffkaa.Oct
open Go.RowKit Go.ChangeShapes Go.WideShapes Go.ChangeAt

theorem nil_none (w : World) : Calls Try.prog 22 #[.pointer none] w fun e w' => e = .returned (.bool true) ∧ w' = w := by
  go_enter Try.func22, Try.ntmps22
  go_wp2_with fail
  go_ret
  exact ⟨rfl, rfl⟩

theorem nil_has (i : Int) (w : World) : Calls Try.prog 23 #[.pointer none, .int .i64 i] w fun e w' => e = .returned (.int .i64 2) ∧ w' = w := by
  go_enter Try.func23, Try.ntmps23
  go_wp2_with (go_at_call 22; refine (nil_none _).mono ?_; rintro e w' ⟨rfl, rfl⟩)
  go_ret
  exact ⟨rfl, rfl⟩

theorem nil_where (w : World) : Calls Try.prog 9 #[.pointer none] w fun e w' => e = .returned (.int .i64 0) ∧ w' = w := by
  go_enter Try.func9, Try.ntmps9
  go_wp2_with (go_at_call 22; refine (nil_none _).mono ?_; rintro e w' ⟨rfl, rfl⟩)
  go_ret
  exact ⟨rfl, rfl⟩

theorem nil_all (w : World) : Calls Try.prog 14 #[.pointer none] w fun e w' => e = .returned (.tuple #[.slice none 0 0, .int .i64 2]) ∧ w' = w := by
  go_enter Try.func14, Try.ntmps14
  go_wp2_with (go_at_call 22; refine (nil_none _).mono ?_; rintro e w' ⟨rfl, rfl⟩)
  go_ret2
  exact ⟨rfl, rfl⟩

theorem nil_get (i : Int) (w : World) : Calls Try.prog 13 #[.pointer none, .int .i64 i] w fun e w' => e = .returned (.tuple #[.agg #[.int .i64 0, .int .i64 0, .bool false], .int .i64 2]) ∧ Below w.heap.size w w' := by
  have HS := hide (StE.new w #[.int .i64 0, .int .i64 0, .bool false] 43)
  have HB := hide ((Below.refl w.heap.size w).alloc (Nat.le_refl _) (.cells #[.int .i64 0, .int .i64 0, .bool false] 43))
  go_enter Try.func13, Try.ntmps13
  go_wp2_with (go_at_call 23; refine (nil_has i _).mono ?_; rintro e w' ⟨rfl, rfl⟩)
  exact bodyPost_ret (ret_E rfl _ _ w.heap.size _ _ _ _ rfl rfl HS.out) rfl ⟨rfl, HB.out⟩

theorem nil_set (i k c : Int) (o : Bool) (w : World) : Calls Try.prog 12 #[.pointer none, .int .i64 i, .agg #[.int .i64 k, .int .i64 c, .bool o]] w fun e w' => e = .returned (.int .i64 2) ∧ Below w.heap.size w w' := by
  have HB := hide ((Below.refl w.heap.size w).alloc (Nat.le_refl _) (.cells #[.int .i64 k, .int .i64 c, .bool o] 43))
  go_enter Try.func12, Try.ntmps12
  go_wp2_with (go_at_call 23; refine (nil_has i _).mono ?_; rintro e w' ⟨rfl, rfl⟩)
  go_ret
  exact ⟨rfl, HB.out⟩

theorem head9 (w : World) : Calls Try.prog 8 #[] w fun e w' => e = .returned (.agg #[.int .i64 9, .int .i64 32768, .int .i64 60, .int .i64 29, .bool false]) ∧ Below w.heap.size w w' := by
  have HN := hide (heap_alloc_new w (.cells #[.int .i64 9, .int .i64 32768, .int .i64 60, .int .i64 29, .bool false] 33))
  have HB := hide ((Below.refl w.heap.size w).alloc (Nat.le_refl _) (.cells #[.int .i64 9, .int .i64 32768, .int .i64 60, .int .i64 29, .bool false] 33))
  go_enter Try.func8, Try.ntmps8
  go_wp2_with fail
  refine bodyPost_ret (results_cell_row rfl _ _ w.heap.size 33 _ (0, 0) _ rfl HN.out Try.underlying33 rfl (by kernel_rfl)) rfl ?_
  exact ⟨rfl, HB.out⟩

theorem at_nil (b s o j : Int) (k : Bool) (c : Int) (w : World) : Calls Try.prog 7 #[.agg #[.int .i64 b, .int .i64 s, .int .i64 o, .int .i64 j, .bool k], .pointer none, .int .i64 c] w fun e w' => e = .returned (.tuple #[.pointer none, .int .i64 2]) ∧ Below w.heap.size w w' := by
  have HB := hide ((Below.refl w.heap.size w).alloc (Nat.le_refl _) (.cells #[.int .i64 b, .int .i64 s, .int .i64 o, .int .i64 j, .bool k] 33))
  go_enter Try.func7, Try.ntmps7
  go_wp2_with fail
  go_ret2
  exact ⟨rfl, HB.out⟩

theorem bad_check : Hd.check ⟨9, 0, 60, 0, false⟩ = 11 := by decide

theorem at_bad (T : Nat) (w : World) : Calls Try.prog 7 #[.agg #[.int .i64 9, .int .i64 0, .int .i64 60, .int .i64 0, .bool false], .pointer (some ⟨T, 0, none⟩), .int .i64 5] w fun e w' => e = .returned (.tuple #[.pointer none, .int .i64 11]) ∧ Below w.heap.size w w' := by
  have HB := hide ((Below.refl w.heap.size w).alloc (Nat.le_refl _) (.cells #[.int .i64 9, .int .i64 0, .int .i64 60, .int .i64 0, .bool false] 33))
  have HC := fun u => hide (check_any 9 0 60 0 false u)
  rw [bad_check] at HC
  go_enter Try.func7, Try.ntmps7
  go_wp2_with fail
  refine ((HC _).out).mono ?_
  rintro e9 w2 ⟨rfl, hb2⟩
  have HB := hide (HB.out.trans (hb2.mono HB.out.size))
  clear hb2
  go_wp2_with fail
  go_ret2
  exact ⟨rfl, HB.out⟩

set_option maxRecDepth 100000 in
set_option maxHeartbeats 4000000 in
theorem mnils_walk (i k c : Int) (o : Bool) (w : World) : Calls Try.prog 4 #[.int .i64 i, .agg #[.int .i64 k, .int .i64 c, .bool o]] w fun e w' => e = .returned (.bool true) ∧ Below w.heap.size w w' := by
  have HS := hide (StE.new w #[.int .i64 k, .int .i64 c, .bool o] 43)
  have HB := hide ((Below.refl w.heap.size w).alloc (Nat.le_refl _) (.cells #[.int .i64 k, .int .i64 c, .bool o] 43))
  have H1 := fun u => hide (begun9_any u)
  have H2 := fun u => hide (nil_get i u)
  have H4 := fun u => hide (head9 u)
  have H5 := fun u => hide (at_nil 9 32768 60 29 false 5 u)
  have H6 := fun T u => hide (at_bad T u)
  have H7 := fun u => hide (coded_any u)
  have H8 := fun u => hide (nil_set i k c o u)
  go_enter Try.func4, Try.ntmps4
  go_wp2_with fail
  refine ((H1 _).out).mono ?_
  rintro e9 w2 ⟨T, J, F, S, rfl, _, _, hbg⟩
  have hb2 := hbg.below
  have HB2 := hide (HB.out.trans (hb2.mono HB.out.size))
  have HS2 := hide (HS.out.below hb2)
  clear hb2 hbg
  go_wp2_with fail
  refine ((H2 _).out).mono ?_
  rintro e9 w3 ⟨rfl, hb3⟩
  have HB3 := hide ((HB2.out.trans (hb3.mono HB2.out.size)).alloc (Nat.le_trans HB2.out.size hb3.size) (.cells #[.int .i64 0, .int .i64 0, .bool false] 43))
  have HS3 := hide ((HS2.out.below hb3).below ((Below.refl _ _).alloc (Nat.le_refl _) (.cells #[.int .i64 0, .int .i64 0, .bool false] 43)))
  clear hb3
  go_wp2_with fail
  generalize w3.alloc (.cells #[.int .i64 0, .int .i64 0, .bool false] 43) = w4 at *
  refine (nil_all _).mono ?_
  rintro e9 w5 ⟨rfl, rfl⟩
  go_wp2_with fail
  refine ((H4 _).out).mono ?_
  rintro e9 w6 ⟨rfl, hb6⟩
  have HB6 := hide (HB3.out.trans (hb6.mono HB3.out.size))
  have HS6 := hide (HS3.out.below hb6)
  clear hb6
  go_wp2_with fail
  refine ((H5 _).out).mono ?_
  rintro e9 w7 ⟨rfl, hb7⟩
  have HB7 := hide (HB6.out.trans (hb7.mono HB6.out.size))
  have HS7 := hide (HS6.out.below hb7)
  clear hb7
  go_wp2_with fail
  refine ((H6 T _).out).mono ?_
  rintro e9 w8 ⟨rfl, hb8⟩
  have HB8 := hide (HB7.out.trans (hb8.mono HB7.out.size))
  have HS8 := hide (HS7.out.below hb8)
  clear hb8
  go_wp2_with fail
  refine ((H7 _).out).mono ?_
  rintro e9 w9 ⟨rfl, hb9⟩
  have HB9 := hide (HB8.out.trans (hb9.mono HB8.out.size))
  have HS9 := hide (HS8.out.below hb9)
  clear hb9
  obtain ⟨c0, c1, c2⟩ := HS9.out.box
  go_wp2_with fail
  refine ((H8 _).out).mono ?_
  rintro e9 w10 ⟨rfl, hb10⟩
  have HB10 := hide (HB9.out.trans (hb10.mono HB9.out.size))
  clear hb10 c0 c1 c2
  go_wp2_with fail
  refine (nil_where _).mono ?_
  rintro e9 w11 ⟨rfl, rfl⟩
  go_wp2_with fail
  go_ret
  exact ⟨rfl, HB10.out⟩

set_option maxRecDepth 100000 in
theorem mapsNils_lifted (os : Os) (started : os.Started) (H : Type) (enc : TypeId × Value → H) :
    ReturnsInHanded {} Try.checked os 4 .any (Rows.mapsNilsSpec.pre6 enc Try.prog Try.f4 Rows.mapsNilsRow.domain false) (Rows.mapsNilsSpec.post enc Try.prog Try.f4 false true false false) := by
  refine returnsInHanded_of_change (C := Try.checked) own started (by kernel_rfl) Try.func4
    (ChangeSpec.witness6 (enc := enc) (C := Try.checked) false ⟨#[], #[.int .i64 0, .agg #[.int .i64 0, .int .i64 0, .bool false]], []⟩ 8 (by kernel_rfl) (by kernel_rfl) (by kernel_rfl) (by kernel_rfl)) ?_
  intro W base args ds gs before hval0 hW _ _
  have hval : ∀ (j : Nat) t v, Try.f4.params[j]? = some t → args[j]? = some v → Value.okWide Try.prog W .any base t v := hval0
  have hW' := hW
  obtain ⟨p, q, hA0, hV, rfl, hfz, hnd⟩ := hW
  have hA : DataW.TrodAll enc Try.prog W 0 (fun _ => true) true Try.f4.params.toList args.toList ds p := hA0
  rw [Try.params4] at hA hval
  obtain ⟨v0, vs0, d0, ds0, p0, q0, hargs0, rfl, rfl, h0, r0⟩ := trodAll_cons hA
  obtain ⟨v1, vs1, d1, ds1, p1, q1, hargs1, rfl, rfl, h1, r1⟩ := trodAll_cons r0
  obtain ⟨rfl, rfl, rfl⟩ := trodAll_nil r1
  subst hargs1
  obtain rfl : args = #[v0, v1] := by cases args; simp_all
  obtain ⟨rfl, rfl⟩ := trodVars_none hV
  simp only [List.append_nil] at hW'
  have hlt1 : ∀ x ∈ p1, x.block < W.heap.size := fun x hx => by simpa using hW'.lt x (by simp [hx])
  obtain ⟨x0, rfl, rfl, rfl, w0⟩ := open_int Try.underlying2 (hval 0 2 v0 rfl rfl) h0
  obtain ⟨k1, c1, o1, rfl⟩ := open_ent (hval 1 43 v1 rfl rfl) h1
  clear hA0
  refine (mnils_walk x0 k1 c1 o1 W).mono fun e W' ⟨he, hb⟩ => ?_
  subst he
  refine ⟨_, rfl, _, _, _, [], ([] ++ (p1 ++ [])), [], hW', ?_, ?_, rfl, hb.frame _, fun h => by cases h⟩
  · exact trodAll_cons_mk (shut_bool Try.underlying4 _) trodAll_mk0
  · exact trodAll_cons_mk (shut_int Try.underlying2 w0) (trodAll_cons_mk (Below.trod laidOut (by kernel_rfl) (of_decide_eq_true (by kernel_rfl)) h1 hb hlt1) (trodAll_mk0))

theorem mapsNils_holds : Rows.MapsNilsSaid :=
  OpenClaim.holds_of_wide 4 Try.f4 rfl rfl rfl rfl rfl rfl rfl ⟨rfl, rfl, rfl, rfl, rfl⟩ rfl rfl rfl rfl rfl (by kernel_rfl) Try.func4 (by kernel_rfl)
    (of_decide_eq_true (by kernel_rfl)) (by unfold Func.isWrapper; first | (rw [if_pos (by decide +kernel)]; kernel_rfl) | (rw [if_neg (by decide +kernel)]; exact ⟨rfl, rfl⟩))
    (fun os started H enc _ => mapsNils_lifted os started H enc)
end Go.Proofs.Ytghdngmmlnffkaa.Oct
