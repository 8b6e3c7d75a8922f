/- For all bytes, places and counts the statement OctetSlices answers true and changes nothing that was there: the bytes at all places are what the chapter says, as new memory. No condition. -/
import Derived.Test.YtmfnpifjinbaeaaRows
import Derived.Test.YtmfnpifjinbaeaaPatches
namespace Go.Proofs.Ytmfnpifjinbaeaa.Oct
open Go.RowKit Go.ChangeShapes Go.WideShapes Go.ChangeAt

theorem Lies.cut {w : World} {a : Option Addr} {l : List Int} (h : Lies w a l) (p n : Nat) : Lies w (a.map fun x => x.add p) ((l.drop p).take n) := by
  cases a with
  | none =>
    rcases h with rfl | ⟨b, off, h, _⟩
    · left; simp
    · cases h
  | some x =>
    rcases h with rfl | ⟨b, off, h, hlt, hc⟩
    · left; simp
    · cases h
      have := Lies.of_part (Or.inr ⟨b, off, rfl, hlt, hc⟩ : Lies w (some ⟨b, off, none⟩) l) p n
      simpa [Go.WideShapes.add_plain] using this

set_option maxHeartbeats 1000000 in
theorem slices_walk (a : Option Addr) (cap : Nat) (l : List Int) (p n : Int) (w : World) (hn : l.length ≤ maxLen) (hb : Byts l)
    (hs : Sl w a cap l) (hp : p ≤ 9223372036854775807) (hp2 : -9223372036854775808 ≤ p) :
    Calls Try.prog 6 #[.slice a l.length cap, .int .i64 p, .int .i64 n] w fun e w' => e = .returned (.bool true) ∧ Below w.heap.size w w' := by
  have HS := hide hs
  have HN := hide hn
  unfold maxLen at hn
  clear hs
  by_cases hbig : 300 < l.length
  · go_enter Try.func6, Try.ntmps6
    go_wp2_with (go_at_call 9; refine (low_any _).mono ?_; rintro e w' ⟨rfl, hb⟩)
    go_ret
    exact ⟨rfl, hb⟩
  · by_cases hthere : 0 ≤ p ∧ (0 : Int) ≤ n ∧ n ≤ l.length - p
    · obtain ⟨p, rfl⟩ := Int.eq_ofNat_of_zero_le hthere.1
      obtain ⟨n, rfl⟩ := Int.eq_ofNat_of_zero_le hthere.2.1
      go_enter Try.func6, Try.ntmps6
      go_wp2_with fail
      refine (Part_any a cap l w (by omega) HS.out).mono ?_
      rintro e w1 ⟨v, rfl, ho1, hb1⟩
      obtain ⟨a1, cap1, rfl, hsl1, _⟩ := ho1.sl
      have HB1 := hide hb1
      have HSL1 := hide hsl1
      clear ho1 hb1 hsl1
      go_wp2_with fail
      refine (Slice_yes a1 cap1 l p n w1 (by omega) HSL1.out (by omega)).mono ?_
      rintro e w2 ⟨v2, rfl, ho2, hb2⟩
      have hL : ((l.drop p).take n).length = n := by simp; omega
      obtain ⟨a2, cap2, e2, hsl2, hne2⟩ := ho2.sl
      rw [hL] at e2
      subst e2
      obtain ⟨q, hq⟩ : ∃ q, q = (l.drop p).take n := ⟨_, rfl⟩
      rw [← hq] at hL ho2 hsl2 hne2
      have HL := hide hL
      have HQ := hide hq
      have HO2 := hide ho2
      have HSL2 := hide hsl2
      have HB2 := hide hb2
      have HBQ : Hid (Byts q) := by rw [hq]; exact (hb.drop p).take n
      have HNE := hide hne2
      clear hL hq ho2 hsl2 hb2 hne2
      have hlecap := HS.out.le
      by_cases hn0 : n = 0
      · subst hn0
        go_wp2_with fail
        refine (In_yes _ _ _ _ _ _ HN.out (by omega) (by omega) (by omega)).mono ?_
        rintro e w3 ⟨rfl, rfl⟩
        go_wp2_with fail
        all_goals
          refine (Same_eq a2 _ _ _ cap2 _ q _ HL.out.symm HL.out.symm HSL2.out.lies (Or.inl (List.length_eq_zero_iff.1 HL.out)) HBQ.out).mono ?_
          rintro e w4 ⟨rfl, rfl⟩
          go_wp2_with fail
          refine wp_loop_rounds 1 ?_
          rw [rounds_succ]
          go_wp2_with fail
          refine (low_any _).mono ?_
          rintro e w5 ⟨rfl, hb5⟩
          have HB5 := hide (HB2.out.trans (hb5.mono HB2.out.size))
          clear hb5
          go_wp2_with fail
          refine (Same_eq a1 a _ _ cap1 _ l _ rfl rfl (HSL1.out.below HB5.out).lies (HS.out.below (HB1.out.trans (HB5.out.mono HB1.out.size))).lies hb).mono ?_
          rintro e w6 ⟨rfl, rfl⟩
          go_wp2_with fail
          go_ret
          exact ⟨rfl, HB1.out.trans (HB5.out.mono HB1.out.size)⟩
      · obtain ⟨g, rfl, hg1, hg2⟩ := HNE.out (by intro e; have := HL.out; rw [e] at this; simp at this; omega)
        have hpc : p < cap := by have := HS.out.le; omega
        have hpc2 : ¬ cap = p := by omega
        go_wp2_with fail
        refine (In_yes _ _ _ _ _ _ HN.out (by omega) (by omega) (by omega)).mono ?_
        rintro e w3 ⟨rfl, rfl⟩
        go_wp2_with fail
        refine (Same_eq _ _ _ _ cap2 _ q _ HL.out.symm HL.out.symm HSL2.out.lies (by rw [HQ.out]; exact ((HS.out.below (HB1.out.trans (HB2.out.mono HB1.out.size))).lies.cut p n)) HBQ.out).mono ?_
        rintro e w4 ⟨rfl, rfl⟩
        go_wp2_with fail
        go_loopw [10] (fun i wr => ∃ k : Nat, k ≤ n ∧ i = .int .i64 k ∧ ∃ m : List Int, m.length = n ∧ Own wr w1.heap.size (.slice (some ⟨g, 0, none⟩) n cap2) m ∧ Below w1.heap.size w1 wr) (fun i _ => n - (intOf i).toNat)
        case atStart => exact ⟨0, by omega, rfl, q, HL.out, HO2.out, HB2.out⟩
        case round =>
          obtain ⟨k, hk, rfl, m, hm, ho, hbel⟩ := hrel
          by_cases hlt : k < n
          · have hcell := ho.cell hm.symm k hlt
            have hfr := ho.free hm.symm k
            generalize m.getD k 0 = x at *
            have HM := hide hm
            clear hm
            go_wp2_with fail
            go_roundw
            case rel =>
              have hst := ho.set HM.out.symm k ((x + 1) % 256)
              refine ⟨k + 1, by omega, by go_num, m.set k ((x + 1) % 256), by rw [List.length_set]; exact HM.out, ?_, ?_⟩
              · exact hst.1
              · exact hbel.grown hst.2 hbel.size (by intro j hj; simp at hj; omega)
            case measure => simp [intOf]; omega
          · go_wp2_with fail
            refine (low_any _).mono ?_
            rintro e w5 ⟨rfl, hb5⟩
            have HB5 := hide (hbel.trans (hb5.mono hbel.size))
            clear hb5
            go_wp2_with fail
            refine (Same_eq a1 a _ _ cap1 _ l _ rfl rfl (HSL1.out.below HB5.out).lies (HS.out.below (HB1.out.trans (HB5.out.mono HB1.out.size))).lies hb).mono ?_
            rintro e w6 ⟨rfl, rfl⟩
            go_wp2_with fail
            go_ret
            exact ⟨rfl, HB1.out.trans (HB5.out.mono HB1.out.size)⟩
    · go_enter Try.func6, Try.ntmps6
      go_wp2_with fail
      refine (Part_any a cap l w (by omega) HS.out).mono ?_
      rintro e w1 ⟨v, rfl, ho1, hb1⟩
      obtain ⟨a1, cap1, rfl, hsl1, _⟩ := ho1.sl
      have HB1 := hide hb1
      have HSL1 := hide hsl1
      clear ho1 hb1 hsl1
      go_wp2_with fail
      refine (Slice_no a1 l.length cap1 p n w1 HN.out hp hp2 hthere).mono ?_
      rintro e w2 ⟨rfl, rfl⟩
      go_wp2_with fail
      refine (In_no _ _ _ _ _ _ HN.out hp hp2 hthere).mono ?_
      rintro e w3 ⟨rfl, rfl⟩
      go_wp2_with fail
      refine (low_any _).mono ?_
      rintro e w4 ⟨rfl, hb4⟩
      have HB4 := hide (HB1.out.trans (hb4.mono HB1.out.size))
      clear HSL1 HB1 hb4
      go_wp2_with fail
      go_ret
      exact ⟨rfl, HB4.out⟩

set_option maxRecDepth 100000 in
theorem octetSlices_lifted (os : Os) (started : os.Started) (H : Type) (enc : TypeId × Value → H) :
    ReturnsInHanded {} Try.checked os 6 .any (Rows.octetSlicesSpec.pre6 enc Try.prog Try.f6 Rows.octetSlicesRow.domain false) (Rows.octetSlicesSpec.post enc Try.prog Try.f6 false true false false) := by
  refine returnsInHanded_of_change (C := Try.checked) own started (by kernel_rfl) Try.func6
    (ChangeSpec.witness6 (enc := enc) (C := Try.checked) false ⟨#[], #[.slice none 0 0, .int .i64 0, .int .i64 0], []⟩ 8 (by kernel_rfl) (by kernel_rfl) (by kernel_rfl) (by kernel_rfl)) ?_
  intro W base args ds gs before hval0 hW _ _
  have hval : ∀ (j : Nat) t v, Try.f6.params[j]? = some t → args[j]? = some v → Value.okWide Try.prog W .any base t v := hval0
  have hW' := hW
  obtain ⟨p, q, hA0, hV, rfl, hfz, hnd⟩ := hW
  have hA : DataW.TrodAll enc Try.prog W 0 (fun _ => true) true Try.f6.params.toList args.toList ds p := hA0
  rw [Try.params6] at hA hval
  obtain ⟨v0, vs0, d0, ds0, p0, q0, hargs0, rfl, rfl, h0, r0⟩ := trodAll_cons hA
  obtain ⟨v1, vs1, d1, ds1, p1, q1, hargs1, rfl, rfl, h1, r1⟩ := trodAll_cons r0
  obtain ⟨v2, vs2, d2, ds2, p2, q2, hargs2, rfl, rfl, h2, r2⟩ := trodAll_cons r1
  obtain ⟨rfl, rfl, rfl⟩ := trodAll_nil r2
  subst hargs2
  subst hargs1
  obtain rfl : args = #[v0, v1, v2] := by cases args; simp_all
  obtain ⟨rfl, rfl⟩ := trodVars_none hV
  simp only [List.append_nil] at hW'
  have hlt0 : ∀ x ∈ p0, x.block < W.heap.size := fun x hx => by simpa using hW'.lt x (by simp [hx])
  obtain ⟨a0, cap0, l0, rfl, hn0, hb0, hl0, hs0⟩ := open_bytes (hval 0 22 v0 rfl rfl) h0
  obtain ⟨x1, rfl, rfl, rfl, w1⟩ := open_int Try.underlying3 (hval 1 3 v1 rfl rfl) h1
  obtain ⟨x2, rfl, rfl, rfl, w2⟩ := open_int Try.underlying3 (hval 2 3 v2 rfl rfl) h2
  clear hA0
  refine (slices_walk a0 cap0 l0 x1 x2 W hn0 hb0 hs0 (wf_i64 w1).2 (wf_i64 w1).1).mono fun e W' ⟨he, hb⟩ => ?_
  subst he
  refine ⟨_, rfl, _, _, _, [], (p0 ++ ([] ++ ([] ++ []))), [], hW', ?_, ?_, rfl, hb.frame _, fun h => by cases h⟩
  · exact trodAll_cons_mk (shut_bool Try.underlying4 _) trodAll_mk0
  · exact trodAll_cons_mk (Below.trod laidOut (by kernel_rfl) (of_decide_eq_true (by kernel_rfl)) h0 hb hlt0) (trodAll_cons_mk (shut_int Try.underlying3 w1) (trodAll_cons_mk (shut_int Try.underlying3 w2) (trodAll_mk0)))

theorem octetSlices_holds : Rows.OctetSlicesSaid :=
  OpenClaim.holds_of_wide 6 Try.f6 rfl rfl rfl rfl rfl rfl rfl ⟨rfl, rfl, rfl, rfl, rfl⟩ rfl rfl rfl rfl rfl (by kernel_rfl) Try.func6 (by kernel_rfl)
    (of_decide_eq_true (by kernel_rfl)) (by unfold Func.isWrapper; first | (rw [if_pos (by decide +kernel)]; kernel_rfl) | (rw [if_neg (by decide +kernel)]; exact ⟨rfl, rfl⟩))
    (fun os started H enc _ => octetSlices_lifted os started H enc)
end Go.Proofs.Ytmfnpifjinbaeaa.Oct
