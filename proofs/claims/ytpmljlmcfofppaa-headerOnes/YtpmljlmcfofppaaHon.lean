/- For all bytes the statement HeaderOnes answers true and changes nothing that was there: what is decoded is encoded as the same bytes. No condition (the statement itself lets go more than 5000 bytes). -/
import Derived.Test.YtpmljlmcfofppaaRows
import Derived.Test.YtpmljlmcfofppaaHem
import Derived.Test.YtpmljlmcfofppaaHeq
import Derived.Test.YtpmljlmcfofppaaOpen
namespace Go.Proofs.Ytpmljlmcfofppaa.Oct
open Go.RowKit Go.ChangeShapes Go.WideShapes Go.ChangeAt

theorem dec_none (l : List Int) (h : (decN l).1 ≠ 0) : (decN l).2 = zH := by
  unfold decN at h ⊢
  split
  · rfl
  split
  · rfl
  split
  · rfl
  split
  · rfl
  split
  · rfl
  split
  · rfl
  · rename_i h1 h2 h3 h4 h5 h6
    rw [if_neg h1, if_neg h2, if_neg h3, if_neg h4, if_neg h5, if_neg h6] at h
    exact absurd rfl h

set_option maxHeartbeats 4000000 in
theorem hones_walk (a : Option Addr) (cap : Nat) (l : List Int) (w : World) (hn : l.length ≤ maxLen) (hb : Byts l) (hl : Sl w a cap l) : Calls Try.prog 7 #[.slice a l.length cap] w fun e w' => e = .returned (.bool true) ∧ Below w.heap.size w w' := by
  have HL := fun u => hide (laid_any u)
  have hcap := hl.le
  have hcm := hl.max
  unfold maxLen at hn hcm
  have HSl := hide hl
  have HBy := hide hb
  clear hl hb
  go_enter Try.func7, Try.ntmps7
  go_wp2_with fail
  refine ((HL _).out).mono ?_
  rintro e9 w1 ⟨rfl, hb1⟩
  have HB := hide hb1
  clear hb1
  by_cases h5 : 5000 < l.length
  · have hd : decide ((5000 : Int) < l.length) = true := by simp; omega
    go_wp2_with fail
    refine ((HL _).out).mono ?_
    rintro e9 w2 ⟨rfl, hb2⟩
    have HB := hide (HB.out.trans (hb2.mono HB.out.size))
    clear hb2
    go_wp2_with fail
    go_ret
    exact ⟨rfl, HB.out⟩
  have hd : decide ((5000 : Int) < l.length) = false := by simp; omega
  have HD := hide (decode_any a cap l w1 (by omega) HBy.out (HSl.out.below HB.out))
  by_cases hc : (decN l).1 = 0
  rotate_left
  · have h2 := dec_none l hc
    obtain ⟨c, hce⟩ : ∃ c, (decN l).1 = c := ⟨_, rfl⟩
    have hv : vH (decN l).2 = .agg #[.int .i64 0, .int .i64 0, .int .i64 0, .int .i64 0, .bool false] := by rw [h2]; rfl
    rw [hv, hce] at HD
    rw [hce] at hc
    have hcb : (c != 0) = true := by simp [hc]
    have he := fun u => eql_H u 0 0 0 0 false
    have hg := fun u op p q => guard_H u op p q #[.int .i64 0, .int .i64 0, .int .i64 0, .int .i64 0, .bool false] #[.int .i64 0, .int .i64 0, .int .i64 0, .int .i64 0, .bool false]
    clear hv hce hc h2
    go_wp2_with fail
    refine HD.out.mono ?_
    rintro e9 w2 ⟨rfl, hb2⟩
    have HB := hide (HB.out.trans (hb2.mono HB.out.size))
    have HB := hide (HB.out.alloc HB.out.size (.cells #[.int .i64 0, .int .i64 0, .int .i64 0, .int .i64 0, .bool false] 23))
    clear hb2 HD
    go_wp2_with fail
    go_ret
    exact ⟨rfl, HB.out⟩
  obtain ⟨b, s, o, j, k, hh⟩ : ∃ b s o j k, (decN l).2 = ⟨b, s, o, j, k⟩ := ⟨_, _, _, _, _, rfl⟩
  have hdn : decN l = (0, ⟨b, s, o, j, k⟩) := Prod.ext hc hh
  obtain ⟨hck, hlen, henc⟩ := enc_dec l HBy.out _ hdn
  have hv : vH (decN l).2 = .agg #[.int .i64 b, .int .i64 s, .int .i64 o, .int .i64 j, .bool k] := by rw [hh]; rfl
  rw [hv, hc] at HD
  have HEn := fun u => hide (encode_yes b s o j k u hck)
  have HCl := fun u => hide (cluster_any b s o j k u)
  have hcl := Hd.cl_bd ⟨b, s, o, j, k⟩
  obtain ⟨q, hq⟩ : ∃ q : Nat, (q : Int) = clN b := ⟨(clN b).toNat, by have : Hd.cl ⟨b, s, o, j, k⟩ = clN b := rfl; omega⟩
  have hq2 : (Hd.cl ⟨b, s, o, j, k⟩).toNat = q := by have : Hd.cl ⟨b, s, o, j, k⟩ = clN b := rfl; omega
  rw [hq2] at hlen henc
  rw [← hq] at HCl
  have HEq := hide henc
  have hqb : 512 ≤ q ∧ q ≤ 4096 := by have : Hd.cl ⟨b, s, o, j, k⟩ = clN b := rfl; omega
  have HEl : Hid ((encN ⟨b, s, o, j, k⟩).length = q) := hide (by rw [encN_length, hq2])
  clear hv hc hh hdn hck henc hq hq2 hcl
  go_wp2_with fail
  refine HD.out.mono ?_
  rintro e9 w2 ⟨rfl, hb2⟩
  have HB := hide (HB.out.trans (hb2.mono HB.out.size))
  have HB := hide (HB.out.alloc HB.out.size (.cells #[.int .i64 b, .int .i64 s, .int .i64 o, .int .i64 j, .bool k] 23))
  have HS3 : Hid (Stay (w2.alloc (.cells #[.int .i64 b, .int .i64 s, .int .i64 o, .int .i64 j, .bool k] 23)) w2.heap.size #[.int .i64 b, .int .i64 s, .int .i64 o, .int .i64 j, .bool k] 23) := hide (heap_alloc_new w2 (.cells #[.int .i64 b, .int .i64 s, .int .i64 o, .int .i64 j, .bool k] 23))
  clear hb2 HD
  obtain ⟨c0, c1, c2, c3, c4⟩ := HS3.out.box9
  go_wp2_with fail
  generalize w2.alloc (.cells #[.int .i64 b, .int .i64 s, .int .i64 o, .int .i64 j, .bool k] 23) = w3 at *
  refine ((HEn _).out).mono ?_
  rintro e9 w4 ⟨v4, rfl, ho4, hb4⟩
  have HB := hide (HB.out.trans (hb4.mono HB.out.size))
  have HS3 := hide (HS3.out.below hb4)
  obtain ⟨a4, cap4, rfl, hl4, _⟩ := ho4.form
  have HL4 := hide hl4
  have HBe : Hid (Byts (encN ⟨b, s, o, j, k⟩)) := hide (by rw [HEq.out]; exact HBy.out.take q)
  rw [HEl.out]
  clear hb4 ho4 hl4 c0 c1 c2 c3 c4
  obtain ⟨c0, c1, c2, c3, c4⟩ := HS3.out.box9
  go_wp2_with fail
  refine ((HCl _).out).mono ?_
  rintro e9 w5 ⟨rfl, hb5⟩
  have HB := hide (HB.out.trans (hb5.mono HB.out.size))
  have HL4 := hide (HL4.out.below hb5)
  clear hb5 c0 c1 c2 c3 c4
  have hqq : ((q : Int) == (q : Int)) = true := by simp
  go_wp2_with fail
  have hSame : Calls Try.prog 29 #[.slice a4 q cap4, .slice a q cap] w5 fun e w' => e = .returned (.bool true) ∧ w' = w5 := by
    have hT : Lies w5 a (l.take q) := by
      rcases (HSl.out.below HB.out).lies with h | ⟨b0, o0, rfl, _, _⟩
      · left; rw [h]; simp
      · have := (HSl.out.below HB.out).lies.of_part 0 q
        simpa using this
    have := Same_any a4 a cap4 cap (encN ⟨b, s, o, j, k⟩) (l.take q) w5 HL4.out hT HBe.out (HBy.out.take q)
    rw [HEl.out, show (l.take q).length = q by simp; omega, decide_eq_true HEq.out] at this
    exact this
  refine hSame.mono ?_
  rintro e9 w6 ⟨rfl, h6⟩
  subst h6
  clear hSame
  go_wp2_with fail
  go_ret
  exact ⟨rfl, HB.out⟩

set_option maxRecDepth 100000 in
theorem headerOnes_lifted (os : Os) (started : os.Started) (H : Type) (enc : TypeId × Value → H) :
    ReturnsInHanded {} Try.checked os 7 .any (Rows.headerOnesSpec.pre6 enc Try.prog Try.f7 Rows.headerOnesRow.domain false) (Rows.headerOnesSpec.post enc Try.prog Try.f7 false true false false) := by
  refine returnsInHanded_of_change (C := Try.checked) own started (by kernel_rfl) Try.func7
    (ChangeSpec.witness6 (enc := enc) (C := Try.checked) false ⟨#[], #[.slice none 0 0], []⟩ 8 (by kernel_rfl) (by kernel_rfl) (by kernel_rfl) (by kernel_rfl)) ?_
  intro W base args ds gs before hval0 hW _ _
  have hval : ∀ (j : Nat) t v, Try.f7.params[j]? = some t → args[j]? = some v → Value.okWide Try.prog W .any base t v := hval0
  have hW' := hW
  obtain ⟨p, q, hA0, hV, rfl, hfz, hnd⟩ := hW
  have hA : DataW.TrodAll enc Try.prog W 0 (fun _ => true) true Try.f7.params.toList args.toList ds p := hA0
  rw [Try.params7] at hA hval
  obtain ⟨v0, vs0, d0, ds0, p0, q0, hargs0, rfl, rfl, h0, r0⟩ := trodAll_cons hA
  obtain ⟨rfl, rfl, rfl⟩ := trodAll_nil r0
  obtain rfl : args = #[v0] := by cases args; simp_all
  obtain ⟨rfl, rfl⟩ := trodVars_none hV
  simp only [List.append_nil] at hW'
  have hlt0 : ∀ x ∈ p0, x.block < W.heap.size := fun x hx => by simpa using hW'.lt x (by simp [hx])
  obtain ⟨a0, cap0, l0, rfl, hn0, hb0, hl0, hs0⟩ := open_bytes (hval 0 36 v0 rfl rfl) h0
  clear hA0
  refine (hones_walk a0 cap0 l0 W hn0 hb0 hs0).mono fun e W' ⟨he, hb⟩ => ?_
  subst he
  refine ⟨_, rfl, _, _, _, [], (p0 ++ []), [], hW', ?_, ?_, rfl, hb.frame _, fun h => by cases h⟩
  · exact trodAll_cons_mk (shut_bool Try.underlying4 _) trodAll_mk0
  · exact trodAll_cons_mk (Below.trod laidOut (by kernel_rfl) (of_decide_eq_true (by kernel_rfl)) h0 hb hlt0) (trodAll_mk0)

theorem headerOnes_holds : Rows.HeaderOnesSaid :=
  OpenClaim.holds_of_wide 7 Try.f7 rfl rfl rfl rfl rfl rfl rfl ⟨rfl, rfl, rfl, rfl, rfl⟩ rfl rfl rfl rfl rfl (by kernel_rfl) Try.func7 (by kernel_rfl)
    (of_decide_eq_true (by kernel_rfl)) (by unfold Func.isWrapper; first | (rw [if_pos (by decide +kernel)]; kernel_rfl) | (rw [if_neg (by decide +kernel)]; exact ⟨rfl, rfl⟩))
    (fun os started H enc _ => headerOnes_lifted os started H enc)
end Go.Proofs.Ytpmljlmcfofppaa.Oct
