/- For every entry the statement MapsEncodes answers true and changes nothing that was there: its number is what the document says, and is decoded as it was. No condition. -/
import Derived.Test.YtpdcnaijhiogdaaRows
import Derived.Test.YtpdcnaijhiogdaaMpc
import Derived.Test.YtpdcnaijhiogdaaMpo
namespace Go.Proofs.Ytpdcnaijhiogdaa.Oct
open Go.RowKit Go.ChangeShapes Go.WideShapes Go.ChangeAt

set_option maxHeartbeats 4000000 in
theorem mencodes_walk (k c : Int) (o : Bool) (w : World) : Calls Try.prog 3 #[.agg #[.int .i64 k, .int .i64 c, .bool o]] w fun e w' => e = .returned (.bool true) ∧ Below w.heap.size w w' := by
  have HL := fun u => hide (coded_any u)
  have HE := fun u => hide (encode_any k c o u)
  have HO := fun u => hide (ofE_any k c o u)
  have HR := fun u => hide (refencode_any k c o u)
  have hbd := encN_bd k c o
  have HD := fun u => hide (decode_any (encN k c o) u hbd.1 hbd.2)
  have HS := hide (StE.new w #[.int .i64 k, .int .i64 c, .bool o] 23)
  have HB := hide ((Below.refl w.heap.size w).alloc (Nat.le_refl _) (.cells #[.int .i64 k, .int .i64 c, .bool o] 23))
  obtain ⟨a, ha⟩ : ∃ a, a = okE k c o := ⟨_, rfl⟩
  have hq := fun u => eql_E u k c o k c o
  rw [show (k == k && c == c && o == o) = true by simp] at hq
  have hg := fun u op p q => guard_E u op p q #[.int .i64 k, .int .i64 c, .bool o] #[.int .i64 k, .int .i64 c, .bool o]
  rw [← ha] at HE HR
  cases a
  · have e0 : encN k c o = 0 := by unfold encN; rw [← ha]; rfl
    rw [e0] at HE HD
    have hn : noE false = 11 := rfl
    rw [hn] at HE
    generalize refN k c o = r at *
    generalize decK 0 = x at *
    generalize decC 0 = y at *
    generalize decO 0 = z at *
    generalize noE (okV 0) = n at *
    clear hbd hq hn e0 ha hg
    go_enter Try.func3, Try.ntmps3
    go_wp2_with fail
    refine ((HE _).out).mono ?_
    rintro e9 w2 ⟨rfl, hb2⟩
    have HB2 := hide (HB.out.trans (hb2.mono HB.out.size))
    have HS2 := hide (HS.out.below hb2)
    clear hb2
    obtain ⟨c0, c1, c2⟩ := HS2.out.box
    go_wp2_with fail
    refine ((HO _).out).mono ?_
    rintro e9 w3 ⟨rfl, hb3⟩
    have HB3 := hide (HB2.out.trans (hb3.mono HB2.out.size))
    clear hb3 c0 c1 c2
    go_wp2_with fail
    refine ((HR _).out).mono ?_
    rintro e9 w4 ⟨rfl, hb4⟩
    have HB4 := hide (HB3.out.trans (hb4.mono HB3.out.size))
    clear hb4
    go_wp2_with fail
    refine ((HD _).out).mono ?_
    rintro e9 w5 ⟨rfl, hb5⟩
    have HB5 := hide (HB4.out.trans (hb5.mono HB4.out.size))
    have HB6 := hide (HB5.out.alloc HB5.out.size (.cells #[.int .i64 x, .int .i64 y, .bool z] 23))
    clear hb5
    go_wp2_with fail
    generalize w5.alloc (.cells #[.int .i64 x, .int .i64 y, .bool z] 23) = w6 at *
    refine ((HL _).out).mono ?_
    rintro e9 w7 ⟨rfl, hb7⟩
    have HB7 := hide (HB6.out.trans (hb7.mono HB6.out.size))
    clear hb7
    go_wp2_with fail
    go_ret
    exact ⟨rfl, HB7.out⟩
  · have hd := dec_enc k c o ha.symm
    rw [hd.1, hd.2.1, hd.2.2.1, hd.2.2.2] at HD
    rw [refN_ok ha.symm] at HR
    have hn : noE true = 0 := rfl
    rw [hn] at HE HD
    generalize encN k c o = v at *
    have hvv : (v == v) = true := by simp
    clear hd hn ha
    go_enter Try.func3, Try.ntmps3
    go_wp2_with fail
    refine ((HE _).out).mono ?_
    rintro e9 w2 ⟨rfl, hb2⟩
    have HB2 := hide (HB.out.trans (hb2.mono HB.out.size))
    have HS2 := hide (HS.out.below hb2)
    clear hb2
    obtain ⟨c0, c1, c2⟩ := HS2.out.box
    go_wp2_with fail
    refine ((HO _).out).mono ?_
    rintro e9 w3 ⟨rfl, hb3⟩
    have HB3 := hide (HB2.out.trans (hb3.mono HB2.out.size))
    have HS3 := hide (HS2.out.below hb3)
    clear hb3 c0 c1 c2
    go_wp2_with fail
    refine ((HR _).out).mono ?_
    rintro e9 w4 ⟨rfl, hb4⟩
    have HB4 := hide (HB3.out.trans (hb4.mono HB3.out.size))
    have HS4 := hide (HS3.out.below hb4)
    clear hb4
    go_wp2_with fail
    refine ((HD _).out).mono ?_
    rintro e9 w5 ⟨rfl, hb5⟩
    have HB5 := hide (HB4.out.trans (hb5.mono HB4.out.size))
    have HS5 := hide (HS4.out.below hb5)
    have HB6 := hide (HB5.out.alloc HB5.out.size (.cells #[.int .i64 k, .int .i64 c, .bool o] 23))
    have HS6 := hide (HS5.out.below ((Below.refl _ _).alloc (Nat.le_refl _) (.cells #[.int .i64 k, .int .i64 c, .bool o] 23)))
    have HT6 := hide (StE.new w5 #[.int .i64 k, .int .i64 c, .bool o] 23)
    clear hb5
    go_wp2_with fail
    generalize w5.alloc (.cells #[.int .i64 k, .int .i64 c, .bool o] 23) = w6 at *
    refine ((HL _).out).mono ?_
    rintro e9 w7 ⟨rfl, hb7⟩
    have HB7 := hide (HB6.out.trans (hb7.mono HB6.out.size))
    obtain ⟨c0, c1, c2⟩ := (HS6.out.below hb7).box
    obtain ⟨d0, d1, d2⟩ := (HT6.out.below hb7).box
    clear hb7
    go_wp2_with fail
    go_ret
    exact ⟨rfl, HB7.out⟩

set_option maxRecDepth 100000 in
theorem mapsEncodes_lifted (os : Os) (started : os.Started) (H : Type) (enc : TypeId × Value → H) :
    ReturnsInHanded {} Try.checked os 3 .any (Rows.mapsEncodesSpec.pre6 enc Try.prog Try.f3 Rows.mapsEncodesRow.domain false) (Rows.mapsEncodesSpec.post enc Try.prog Try.f3 false true false false) := by
  refine returnsInHanded_of_change (C := Try.checked) own started (by kernel_rfl) Try.func3
    (ChangeSpec.witness6 (enc := enc) (C := Try.checked) false ⟨#[], #[.agg #[.int .i64 0, .int .i64 0, .bool false]], []⟩ 8 (by kernel_rfl) (by kernel_rfl) (by kernel_rfl) (by kernel_rfl)) ?_
  intro W base args ds gs before hval0 hW _ _
  have hval : ∀ (j : Nat) t v, Try.f3.params[j]? = some t → args[j]? = some v → Value.okWide Try.prog W .any base t v := hval0
  have hW' := hW
  obtain ⟨p, q, hA0, hV, rfl, hfz, hnd⟩ := hW
  have hA : DataW.TrodAll enc Try.prog W 0 (fun _ => true) true Try.f3.params.toList args.toList ds p := hA0
  rw [Try.params3] at hA hval
  obtain ⟨v0, vs0, d0, ds0, p0, q0, hargs0, rfl, rfl, h0, r0⟩ := trodAll_cons hA
  obtain ⟨rfl, rfl, rfl⟩ := trodAll_nil r0
  obtain rfl : args = #[v0] := by cases args; simp_all
  obtain ⟨rfl, rfl⟩ := trodVars_none hV
  simp only [List.append_nil] at hW'
  have hlt0 : ∀ x ∈ p0, x.block < W.heap.size := fun x hx => by simpa using hW'.lt x (by simp [hx])
  obtain ⟨k0, c0, o0, rfl⟩ := open_ent (hval 0 23 v0 rfl rfl) h0
  clear hA0
  refine (mencodes_walk k0 c0 o0 W).mono fun e W' ⟨he, hb⟩ => ?_
  subst he
  refine ⟨_, rfl, _, _, _, [], (p0 ++ []), [], hW', ?_, ?_, rfl, hb.frame _, fun h => by cases h⟩
  · exact trodAll_cons_mk (shut_bool Try.underlying4 _) trodAll_mk0
  · exact trodAll_cons_mk (Below.trod laidOut (by kernel_rfl) (of_decide_eq_true (by kernel_rfl)) h0 hb hlt0) (trodAll_mk0)

theorem mapsEncodes_holds : Rows.MapsEncodesSaid :=
  OpenClaim.holds_of_wide 3 Try.f3 rfl rfl rfl rfl rfl rfl rfl ⟨rfl, rfl, rfl, rfl, rfl⟩ rfl rfl rfl rfl rfl (by kernel_rfl) Try.func3 (by kernel_rfl)
    (of_decide_eq_true (by kernel_rfl)) (by unfold Func.isWrapper; first | (rw [if_pos (by decide +kernel)]; kernel_rfl) | (rw [if_neg (by decide +kernel)]; exact ⟨rfl, rfl⟩))
    (fun os started H enc _ => mapsEncodes_lifted os started H enc)
end Go.Proofs.Ytpdcnaijhiogdaa.Oct
