/- For every header and all bytes behind it the statement HeaderEncodes answers true and changes nothing that was there: its cluster is what the document says, and is decoded as it was. No condition (the statement itself lets go more than 500 bytes behind). -/
import Derived.Test.YtpmljlmcfofppaaRows
import Derived.Test.YtpmljlmcfofppaaHer
import Derived.Test.YtpmljlmcfofppaaHdx
import Derived.Test.YtpmljlmcfofppaaHeq
import Derived.Test.YtpmljlmcfofppaaHdb
namespace Go.Proofs.Ytpmljlmcfofppaa.Oct
open Go.RowKit Go.ChangeShapes Go.WideShapes Go.ChangeAt

theorem Byts.enc (h : Hd) : Byts (encN h) := by
  intro i
  rw [encN_get]
  unfold encAt
  split
  · omega
  split
  · omega
  split
  · omega
  split
  · omega
  split
  · omega
  split <;> omega

set_option maxHeartbeats 4000000 in
theorem hencodes_walk (b s o j : Int) (k : Bool) (a : Option Addr) (cap : Nat) (l : List Int) (w : World) (hn : l.length ≤ maxLen) (hb : Byts l) (hl : Sl w a cap l) : Calls Try.prog 5 #[.agg #[.int .i64 b, .int .i64 s, .int .i64 o, .int .i64 j, .bool k], .slice a l.length cap] w fun e w' => e = .returned (.bool true) ∧ Below w.heap.size w w' := by
  have HL := fun u => hide (laid_any u)
  have HO := fun u => hide (of_any b s o j k u)
  have HX := fun u => hide (refcheck_any b s o j k u)
  unfold maxLen at hn
  have HS : Hid (Stay (w.alloc (.cells #[.int .i64 b, .int .i64 s, .int .i64 o, .int .i64 j, .bool k] 23)) w.heap.size #[.int .i64 b, .int .i64 s, .int .i64 o, .int .i64 j, .bool k] 23) := hide (heap_alloc_new w (.cells #[.int .i64 b, .int .i64 s, .int .i64 o, .int .i64 j, .bool k] 23))
  have HB := hide ((Below.refl w.heap.size w).alloc (Nat.le_refl _) (.cells #[.int .i64 b, .int .i64 s, .int .i64 o, .int .i64 j, .bool k] 23))
  have HSl := hide hl
  have HBy := hide hb
  clear hl hb
  obtain ⟨c0, c1, c2, c3, c4⟩ := HS.out.boxA
  by_cases h5 : 500 < l.length
  · have hd : decide ((500 : Int) < l.length) = true := by simp; omega
    go_enter Try.func5, Try.ntmps5
    go_wp2_with fail
    refine ((HL _).out).mono ?_
    rintro e9 w2 ⟨rfl, hb2⟩
    have HB := hide (HB.out.trans (hb2.mono HB.out.size))
    clear hb2
    go_wp2_with fail
    go_ret
    exact ⟨rfl, HB.out⟩
  have hd : decide ((500 : Int) < l.length) = false := by simp; omega
  by_cases hc : Hd.check ⟨b, s, o, j, k⟩ = 0
  rotate_left
  · have HEn := fun u => hide (encode_no b s o j k u hc)
    generalize Hd.check ⟨b, s, o, j, k⟩ = c at *
    have hcb : (c != 0) = true := by simp [hc]
    have hcc : (c != c) = false := by simp
    clear hc
    go_enter Try.func5, Try.ntmps5
    go_wp2_with fail
    refine ((HEn _).out).mono ?_
    rintro e9 w2 ⟨rfl, hb2⟩
    have HB := hide (HB.out.trans (hb2.mono HB.out.size))
    have HS := hide (HS.out.below hb2)
    clear hb2 c0 c1 c2 c3 c4
    obtain ⟨c0, c1, c2, c3, c4⟩ := HS.out.boxA
    go_wp2_with fail
    refine ((HO _).out).mono ?_
    rintro e9 w3 ⟨rfl, hb2⟩
    have HB := hide (HB.out.trans (hb2.mono HB.out.size))
    clear hb2 c0 c1 c2 c3 c4
    go_wp2_with fail
    refine ((HX _).out).mono ?_
    rintro e9 w4 ⟨rfl, hb2⟩
    have HB := hide (HB.out.trans (hb2.mono HB.out.size))
    clear hb2
    go_wp2_with fail
    refine ((HL _).out).mono ?_
    rintro e9 w5 ⟨rfl, hb2⟩
    have HB := hide (HB.out.trans (hb2.mono HB.out.size))
    clear hb2
    go_wp2_with fail
    go_ret
    exact ⟨rfl, HB.out⟩
  have HEn := fun u => hide (encode_yes b s o j k u hc)
  have HRe := fun u => hide (refencode_any b s o j k u hc)
  have HDe := hide (dec_enc ⟨b, s, o, j, k⟩ hc l)
  have HEl := hide (encN_length ⟨b, s, o, j, k⟩)
  have HEb := hide (Byts.enc ⟨b, s, o, j, k⟩)
  have hcl := Hd.cl_bd ⟨b, s, o, j, k⟩
  rw [hc] at HX
  obtain ⟨q, hq⟩ : ∃ q : Nat, (Hd.cl ⟨b, s, o, j, k⟩).toNat = q := ⟨_, rfl⟩
  rw [hq] at HEl
  have hqb : 512 ≤ q ∧ q ≤ 4096 := by omega
  obtain ⟨E, hE⟩ : ∃ E, E = encN ⟨b, s, o, j, k⟩ := ⟨_, rfl⟩
  rw [← hE] at HEn HRe HDe HEl HEb
  have he := fun u => eql_H u b s o j k
  have hg := fun u op p q => guard_H u op p q #[.int .i64 b, .int .i64 s, .int .i64 o, .int .i64 j, .bool k] #[.int .i64 b, .int .i64 s, .int .i64 o, .int .i64 j, .bool k]
  clear hc hcl hq hE
  go_enter Try.func5, Try.ntmps5
  go_wp2_with fail
  refine ((HEn _).out).mono ?_
  rintro e9 w2 ⟨v2, rfl, ho2, hb2⟩
  have HB := hide (HB.out.trans (hb2.mono HB.out.size))
  have HS := hide (HS.out.below hb2)
  obtain ⟨a2, cap2, rfl, hs2, _⟩ := ho2.sl
  have HE2 := hide hs2
  rw [HEl.out]
  clear ho2 hs2 hb2 c0 c1 c2 c3 c4
  obtain ⟨c0, c1, c2, c3, c4⟩ := HS.out.boxA
  go_wp2_with fail
  refine ((HO _).out).mono ?_
  rintro e9 w3 ⟨rfl, hb2⟩
  have HB := hide (HB.out.trans (hb2.mono HB.out.size))
  have HS := hide (HS.out.below hb2)
  have HE2 := hide (HE2.out.below hb2)
  clear hb2 c0 c1 c2 c3 c4
  go_wp2_with fail
  refine ((HX _).out).mono ?_
  rintro e9 w4 ⟨rfl, hb2⟩
  have HB := hide (HB.out.trans (hb2.mono HB.out.size))
  have HS := hide (HS.out.below hb2)
  have HE2 := hide (HE2.out.below hb2)
  clear hb2
  have HPa : Hid (Calls Try.prog 28 #[.slice a2 q cap2, .int .i64 0, .int .i64 q] w4 fun e w' => ∃ v, e = .returned v ∧ Own w' w4.heap.size v E ∧ Below w4.heap.size w4 w') := hide (by
    have := Part_any a2 cap2 E w4 (by rw [HEl.out]; omega) HE2.out
    rw [HEl.out] at this
    exact this)
  go_wp2_with fail
  refine HPa.out.mono ?_
  rintro e9 w5 ⟨v5, rfl, ho5, hb5⟩
  have HO5 := hide ho5
  have HB5 := hide hb5
  have HB05 := hide (HB.out.trans (hb5.mono HB.out.size))
  have hsz4 : w4.heap.size ≤ w5.heap.size := hb5.size
  clear hb5 ho5 HPa
  go_wp2_with (at_builtin; refine wpList_append_bytes rfl _ _ 36 rfl Try.underlying36 info5 w4.heap.size _ E rfl (by exact HO5.out) _ _ _ l rfl rfl (by exact (HSl.out.below HB05.out).lies) (by rw [HEl.out]; omega) (by exact hsz4) ?_; intro v6 w6 ho6 hg6)
  have hB6 := Own.behind HO5.out HB5.out hg6 hsz4
  have HB := hide (HB.out.trans (hB6.mono HB.out.size))
  have HS := hide (HS.out.below hB6)
  have HE2 := hide (HE2.out.below hB6)
  obtain ⟨a6, cap6, rfl, hs6, _⟩ := ho6.sl
  have HE6 : Hid ((E ++ l).length = q + l.length) := hide (by rw [List.length_append, HEl.out])
  have HD6 : Hid (Calls Try.prog 27 #[.slice a6 (q + l.length) cap6] w6 fun e w' => e = .returned (.tuple #[.agg #[.int .i64 b, .int .i64 s, .int .i64 o, .int .i64 j, .bool k], .int .i64 0]) ∧ Below w6.heap.size w6 w') := hide (by
    have := decode_any a6 cap6 (E ++ l) w6 (by rw [HE6.out]; omega) (HEb.out.append HBy.out) hs6
    rw [HDe.out, HE6.out] at this
    exact this)
  rw [HE6.out]
  clear hB6 ho6 hg6 hs6 HO5 HB5 HB05 hsz4 HE6
  refine HD6.out.mono ?_
  rintro e9 w7 ⟨rfl, hb2⟩
  have HB := hide (HB.out.trans (hb2.mono HB.out.size))
  have HS := hide (HS.out.below hb2)
  have HE2 := hide (HE2.out.below hb2)
  have hsz7 : w.heap.size < w7.heap.size := (Array.getElem?_eq_some_iff.1 HS.out).1
  clear hb2 HD6
  have HB := hide (HB.out.alloc HB.out.size (.cells #[.int .i64 b, .int .i64 s, .int .i64 o, .int .i64 j, .bool k] 23))
  have HE2 := hide (HE2.out.below ((Below.refl _ _).alloc (Nat.le_refl _) (.cells #[.int .i64 b, .int .i64 s, .int .i64 o, .int .i64 j, .bool k] 23)))
  have HS := hide (HS.out.below ((Below.refl _ _).alloc (Nat.le_refl _) (.cells #[.int .i64 b, .int .i64 s, .int .i64 o, .int .i64 j, .bool k] 23)))
  have HT : Hid (Stay (w7.alloc (.cells #[.int .i64 b, .int .i64 s, .int .i64 o, .int .i64 j, .bool k] 23)) w7.heap.size #[.int .i64 b, .int .i64 s, .int .i64 o, .int .i64 j, .bool k] 23) := hide (heap_alloc_new w7 (.cells #[.int .i64 b, .int .i64 s, .int .i64 o, .int .i64 j, .bool k] 23))
  go_wp2_with fail
  generalize w7.alloc (.cells #[.int .i64 b, .int .i64 s, .int .i64 o, .int .i64 j, .bool k] 23) = w8 at *
  refine ((HL _).out).mono ?_
  rintro e9 w9 ⟨rfl, hb2⟩
  have HB := hide (HB.out.trans (hb2.mono HB.out.size))
  have HS := hide (HS.out.below hb2)
  have HT := hide (HT.out.below hb2)
  have HE2 := hide (HE2.out.below hb2)
  clear hb2
  obtain ⟨c0, c1, c2, c3, c4⟩ := HS.out.boxA
  go_wp2_with fail
  refine ((HO _).out).mono ?_
  rintro e9 w10 ⟨rfl, hb2⟩
  have HB := hide (HB.out.trans (hb2.mono HB.out.size))
  have HS := hide (HS.out.below hb2)
  have HT := hide (HT.out.below hb2)
  have HE2 := hide (HE2.out.below hb2)
  clear hb2 c0 c1 c2 c3 c4
  go_wp2_with fail
  refine ((HRe _).out).mono ?_
  rintro e9 w11 ⟨v11, rfl, ho11, hb2⟩
  have HB := hide (HB.out.trans (hb2.mono HB.out.size))
  have HS := hide (HS.out.below hb2)
  have HT := hide (HT.out.below hb2)
  have HE2 := hide (HE2.out.below hb2)
  obtain ⟨a11, cap11, rfl, hl11, _⟩ := ho11.form
  have HSm : Hid (Calls Try.prog 29 #[.slice a2 q cap2, .slice a11 q cap11] w11 fun e w' => e = .returned (.bool true) ∧ w' = w11) := hide (by
    have := Same_any a2 a11 cap2 cap11 E E w11 HE2.out.lies hl11 HEb.out HEb.out
    rw [HEl.out, decide_eq_true rfl] at this
    exact this)
  rw [HEl.out]
  clear ho11 hl11 hb2
  go_wp2_with fail
  refine HSm.out.mono ?_
  rintro e9 w12 ⟨rfl, h12⟩
  subst h12
  clear HSm
  obtain ⟨c0, c1, c2, c3, c4⟩ := HS.out.boxA
  obtain ⟨d0, d1, d2, d3, d4⟩ := HT.out.boxA
  go_wp2_with fail
  go_ret
  exact ⟨rfl, HB.out⟩

set_option maxRecDepth 100000 in
theorem headerEncodes_lifted (os : Os) (started : os.Started) (H : Type) (enc : TypeId × Value → H) :
    ReturnsInHanded {} Try.checked os 5 .any (Rows.headerEncodesSpec.pre6 enc Try.prog Try.f5 Rows.headerEncodesRow.domain false) (Rows.headerEncodesSpec.post enc Try.prog Try.f5 false true false false) := by
  refine returnsInHanded_of_change (C := Try.checked) own started (by kernel_rfl) Try.func5
    (ChangeSpec.witness6 (enc := enc) (C := Try.checked) false ⟨#[], #[.agg #[.int .i64 0, .int .i64 0, .int .i64 0, .int .i64 0, .bool false], .slice none 0 0], []⟩ 8 (by kernel_rfl) (by kernel_rfl) (by kernel_rfl) (by kernel_rfl)) ?_
  intro W base args ds gs before hval0 hW _ _
  have hval : ∀ (j : Nat) t v, Try.f5.params[j]? = some t → args[j]? = some v → Value.okWide Try.prog W .any base t v := hval0
  have hW' := hW
  obtain ⟨p, q, hA0, hV, rfl, hfz, hnd⟩ := hW
  have hA : DataW.TrodAll enc Try.prog W 0 (fun _ => true) true Try.f5.params.toList args.toList ds p := hA0
  rw [Try.params5] at hA hval
  obtain ⟨v0, vs0, d0, ds0, p0, q0, hargs0, rfl, rfl, h0, r0⟩ := trodAll_cons hA
  obtain ⟨v1, vs1, d1, ds1, p1, q1, hargs1, rfl, rfl, h1, r1⟩ := trodAll_cons r0
  obtain ⟨rfl, rfl, rfl⟩ := trodAll_nil r1
  subst hargs1
  obtain rfl : args = #[v0, v1] := by cases args; simp_all
  obtain ⟨rfl, rfl⟩ := trodVars_none hV
  simp only [List.append_nil] at hW'
  have hlt0 : ∀ x ∈ p0, x.block < W.heap.size := fun x hx => by simpa using hW'.lt x (by simp [hx])
  have hlt1 : ∀ x ∈ p1, x.block < W.heap.size := fun x hx => by simpa using hW'.lt x (by simp [hx])
  obtain ⟨b0, s0, o0, j0, k0, rfl, hk0⟩ := open_hdr (hval 0 23 v0 rfl rfl) h0
  obtain ⟨a1, cap1, l1, rfl, hn1, hb1, hl1, hs1⟩ := open_bytes (hval 1 36 v1 rfl rfl) h1
  clear hA0
  refine (hencodes_walk b0 s0 o0 j0 k0 a1 cap1 l1 W hn1 hb1 hs1).mono fun e W' ⟨he, hb⟩ => ?_
  subst he
  refine ⟨_, rfl, _, _, _, [], (p0 ++ (p1 ++ [])), [], hW', ?_, ?_, rfl, hb.frame _, fun h => by cases h⟩
  · exact trodAll_cons_mk (shut_bool Try.underlying4 _) trodAll_mk0
  · exact trodAll_cons_mk (Below.trod laidOut (by kernel_rfl) (of_decide_eq_true (by kernel_rfl)) h0 hb hlt0) (trodAll_cons_mk (Below.trod laidOut (by kernel_rfl) (of_decide_eq_true (by kernel_rfl)) h1 hb hlt1) (trodAll_mk0))

theorem headerEncodes_holds : Rows.HeaderEncodesSaid :=
  OpenClaim.holds_of_wide 5 Try.f5 rfl rfl rfl rfl rfl rfl rfl ⟨rfl, rfl, rfl, rfl, rfl⟩ rfl rfl rfl rfl rfl (by kernel_rfl) Try.func5 (by kernel_rfl)
    (of_decide_eq_true (by kernel_rfl)) (by unfold Func.isWrapper; first | (rw [if_pos (by decide +kernel)]; kernel_rfl) | (rw [if_neg (by decide +kernel)]; exact ⟨rfl, rfl⟩))
    (fun os started H enc _ => headerEncodes_lifted os started H enc)
end Go.Proofs.Ytpmljlmcfofppaa.Oct
