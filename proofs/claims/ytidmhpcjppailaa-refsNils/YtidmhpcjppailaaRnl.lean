/- For every header and every cluster the statement RefsNils answers true and changes nothing that was there: counts that there are none of have nothing; without changes, or a header that may be, there are none. No condition. -/
import Derived.Test.YtidmhpcjppailaaRows
import Derived.Test.YtidmhpcjppailaaRfq
import Derived.Test.YtidmhpcjppailaaHdo
namespace Go.Proofs.Ytidmhpcjppailaa.Oct
open Go.RowKit Go.Deep Go.ChangeShapes Go.WideShapes Go.ChangeAt

def BxA (u : World) (P : Nat) (b s o j : Int) (k : Bool) : Prop := u.heap[P]? = some (.cells #[.int .i64 b, .int .i64 s, .int .i64 o, .int .i64 j, .bool k] 25 (0, 0))
theorem BxA.lt {u : World} {P : Nat} {b s o j : Int} {k : Bool} (h : BxA u P b s o j k) : P < u.heap.size := (Array.getElem?_eq_some_iff.1 h).1
theorem BxA.below {u u' : World} {P : Nat} {b s o j : Int} {k : Bool} (h : BxA u P b s o j k) (hb : Below u.heap.size u u') : BxA u' P b s o j k := (hb.block P h.lt).trans h
theorem BxA.cell {u : World} {P : Nat} {b s o j : Int} {k : Bool} (h : BxA u P b s o j k) : u.cell? ⟨P, 0, none⟩ = some (.int .i64 b) ∧ u.cell? ⟨P, 1, none⟩ = some (.int .i64 s) ∧ u.cell? ⟨P, 2, none⟩ = some (.int .i64 o) ∧ u.cell? ⟨P, 3, none⟩ = some (.int .i64 j) ∧ u.cell? ⟨P, 4, none⟩ = some (.bool k) := by
  unfold BxA at h
  simp [World.cell?, h]

set_option maxRecDepth 100000 in
set_option maxHeartbeats 8000000 in
theorem rnils_walk (b s o j : Int) (k : Bool) (n : Int) (w : World) : Calls Try.prog 4 #[.agg #[.int .i64 b, .int .i64 s, .int .i64 o, .int .i64 j, .bool k], .int .i64 n] w fun e w' => e = .returned (.bool true) ∧ Below w.heap.size w w' := by
  have HH := fun u => hide (head8 u)
  have HBg : ∀ u, Hid (Calls Try.prog 7 #[.agg #[.int .i64 9, .int .i64 32768, .int .i64 40, .int .i64 29, .bool false]] u fun e w' => ∃ T F, e = .returned (.tuple #[.pointer (some ⟨F, 0, none⟩), .pointer (some ⟨T, 0, none⟩), .bool true]) ∧ Below u.heap.size u w') := fun u => hide (by
    refine (begun8_any 40 (by omega) (by omega) u).mono ?_
    rintro e9 w2 ⟨T, J, F, S, rfl, _, _, hbg⟩
    exact ⟨T, F, rfl, hbg.below⟩)
  have HNw : ∀ T u, Hid (Calls Try.prog 8 #[.agg #[.int .i64 b, .int .i64 s, .int .i64 o, .int .i64 j, .bool k], .pointer (some ⟨T, 0, none⟩)] u fun e w' => ∃ pv, e = .returned (.tuple #[pv, .int .i64 (Hd.check ⟨b, s, o, j, k⟩)]) ∧ Below u.heap.size u w') := fun T u => hide (by
    refine (rnew_any b s o j k T u).mono ?_
    rintro e9 w2 (⟨h, rfl, hb⟩ | ⟨h, A, rfl, _, _, hb⟩)
    · exact ⟨_, rfl, hb⟩
    · rw [h]; exact ⟨_, rfl, hb⟩)
  have HNn := fun u => hide (rnew_nil 9 32768 40 29 false u)
  have HCk := fun u => hide (check_any b s o j k u)
  generalize Hd.check ⟨b, s, o, j, k⟩ = ck at *
  have HCt := fun u => hide (counted_any u)
  have Hg := fun u => hide (nilr_get n u)
  have Ha := fun u => hide (nilr_all u)
  have Hl := fun u => hide (nilr_alloc u)
  have He := fun u => hide (nilr_ends u)
  have Hd_ := fun u => hide (nilr_add n 1 u)
  have Hs := fun u => hide (nilr_set n 1 u)
  have HX0 : Hid (BxA (w.alloc (.cells #[.int .i64 b, .int .i64 s, .int .i64 o, .int .i64 j, .bool k] 25)) w.heap.size b s o j k) := hide (heap_new9 w _)
  have HB0 := hide ((Below.refl w.heap.size w).alloc (Nat.le_refl _) (.cells #[.int .i64 b, .int .i64 s, .int .i64 o, .int .i64 j, .bool k] 25))
  go_enter Try.func4, Try.ntmps4
  go_wp2_with fail
  generalize w.alloc (.cells #[.int .i64 b, .int .i64 s, .int .i64 o, .int .i64 j, .bool k] 25) = w0 at *
  refine ((HH _).out).mono ?_
  rintro e9 w1 ⟨rfl, hb1⟩
  have HX1 := hide (HX0.out.below hb1)
  have HB1 := hide (HB0.out.trans (hb1.mono HB0.out.size))
  clear hb1
  go_wp2_with fail
  refine ((HBg _).out).mono ?_
  rintro e9 w2 ⟨T, F, rfl, hb2⟩
  have HX2 := hide (HX1.out.below hb2)
  have HB2 := hide (HB1.out.trans (hb2.mono HB1.out.size))
  obtain ⟨x0, x1, x2, x3, x4⟩ := HX2.out.cell
  clear hb2
  go_wp2_with fail
  refine ((HNw T _).out).mono ?_
  rintro e9 w3 ⟨pv, rfl, hb3⟩
  have HX3 := hide (HX2.out.below hb3)
  have HB3 := hide (HB2.out.trans (hb3.mono HB2.out.size))
  clear hb3 x0 x1 x2 x3 x4
  go_wp2_with fail
  refine ((HH _).out).mono ?_
  rintro e9 w4 ⟨rfl, hb4⟩
  have HX4 := hide (HX3.out.below hb4)
  have HB4 := hide (HB3.out.trans (hb4.mono HB3.out.size))
  clear hb4
  go_wp2_with fail
  refine ((HNn _).out).mono ?_
  rintro e9 w5 ⟨rfl, hb5⟩
  have HX5 := hide (HX4.out.below hb5)
  have HB5 := hide (HB4.out.trans (hb5.mono HB4.out.size))
  clear hb5
  go_wp2_with fail
  refine ((Hg _).out).mono ?_
  rintro e9 w6 ⟨rfl, h6⟩
  rw [h6]
  clear h6 w6
  go_wp2_with fail
  refine ((Ha _).out).mono ?_
  rintro e9 w6 ⟨rfl, h6⟩
  rw [h6]
  clear h6 w6
  go_wp2_with fail
  refine ((Hl _).out).mono ?_
  rintro e9 w6 ⟨rfl, h6⟩
  rw [h6]
  clear h6 w6
  go_wp2_with fail
  refine ((He _).out).mono ?_
  rintro e9 w6 ⟨rfl, h6⟩
  rw [h6]
  clear h6 w6
  go_wp2_with fail
  refine ((Hd_ _).out).mono ?_
  rintro e9 w6 ⟨rfl, h6⟩
  rw [h6]
  clear h6 w6
  go_wp2_with fail
  refine ((HCt _).out).mono ?_
  rintro e9 w6 ⟨rfl, hb6⟩
  have HX6 := hide (HX5.out.below hb6)
  have HB6 := hide (HB5.out.trans (hb6.mono HB5.out.size))
  obtain ⟨x0, x1, x2, x3, x4⟩ := HX6.out.cell
  clear hb6
  go_wp2_with fail
  refine ((HCk _).out).mono ?_
  rintro e9 w7 ⟨rfl, hb7⟩
  have HB7 := hide (HB6.out.trans (hb7.mono HB6.out.size))
  clear hb7 x0 x1 x2 x3 x4
  have hcc : (ck == ck) = true := by simp
  go_wp2_with fail
  refine ((Hs _).out).mono ?_
  rintro e9 w8 ⟨rfl, h8⟩
  rw [h8]
  clear h8 w8
  go_wp2_with fail
  go_ret
  exact ⟨rfl, HB7.out⟩

set_option maxRecDepth 100000 in
theorem refsNils_lifted (os : Os) (started : os.Started) (H : Type) (enc : TypeId × Value → H) :
    ReturnsInHanded {} Try.checked os 4 .any (Rows.refsNilsSpec.pre6 enc Try.prog Try.f4 Rows.refsNilsRow.domain false) (Rows.refsNilsSpec.post enc Try.prog Try.f4 false true false false) := by
  refine returnsInHanded_of_change (C := Try.checked) own started (by kernel_rfl) Try.func4
    (ChangeSpec.witness6 (enc := enc) (C := Try.checked) false ⟨#[], #[.agg #[.int .i64 0, .int .i64 0, .int .i64 0, .int .i64 0, .bool false], .int .i64 0], []⟩ 8 (by kernel_rfl) (by kernel_rfl) (by kernel_rfl) (by kernel_rfl)) ?_
  intro W base args ds gs before hval0 hW _ _
  have hval : ∀ (j : Nat) t v, Try.f4.params[j]? = some t → args[j]? = some v → Value.okWide Try.prog W .any base t v := hval0
  have hW' := hW
  obtain ⟨p, q, hA0, hV, rfl, hfz, hnd⟩ := hW
  have hA : DataW.TrodAll enc Try.prog W 0 (fun _ => true) true Try.f4.params.toList args.toList ds p := hA0
  rw [Try.params4] at hA hval
  obtain ⟨v0, vs0, d0, ds0, p0, q0, hargs0, rfl, rfl, h0, r0⟩ := trodAll_cons hA
  obtain ⟨v1, vs1, d1, ds1, p1, q1, hargs1, rfl, rfl, h1, r1⟩ := trodAll_cons r0
  obtain ⟨rfl, rfl, rfl⟩ := trodAll_nil r1
  subst hargs1
  obtain rfl : args = #[v0, v1] := by cases args; simp_all
  obtain ⟨rfl, rfl⟩ := trodVars_none hV
  simp only [List.append_nil] at hW'
  have hlt0 : ∀ x ∈ p0, x.block < W.heap.size := fun x hx => by simpa using hW'.lt x (by simp [hx])
  obtain ⟨b0, s0, o0, j0, k0, rfl, hk0⟩ := open_hdr (hval 0 25 v0 rfl rfl) h0
  obtain ⟨x1, rfl, rfl, rfl, w1⟩ := open_int Try.underlying2 (hval 1 2 v1 rfl rfl) h1
  clear hA0
  refine (rnils_walk b0 s0 o0 j0 k0 x1 W).mono fun e W' ⟨he, hb⟩ => ?_
  subst he
  refine ⟨_, rfl, _, _, _, [], (p0 ++ ([] ++ [])), [], hW', ?_, ?_, rfl, hb.frame _, fun h => by cases h⟩
  · exact trodAll_cons_mk (shut_bool Try.underlying4 _) trodAll_mk0
  · exact trodAll_cons_mk (Below.trod laidOut (by kernel_rfl) (of_decide_eq_true (by kernel_rfl)) h0 hb hlt0) (trodAll_cons_mk (shut_int Try.underlying2 w1) (trodAll_mk0))

theorem refsNils_holds : Rows.RefsNilsSaid :=
  OpenClaim.holds_of_wide 4 Try.f4 rfl rfl rfl rfl rfl rfl rfl ⟨rfl, rfl, rfl, rfl, rfl⟩ rfl rfl rfl rfl rfl (by kernel_rfl) Try.func4 (by kernel_rfl)
    (of_decide_eq_true (by kernel_rfl)) (by unfold Func.isWrapper; first | (rw [if_pos (by decide +kernel)]; kernel_rfl) | (rw [if_neg (by decide +kernel)]; exact ⟨rfl, rfl⟩))
    (fun os started H enc _ => refsNils_lifted os started H enc)
end Go.Proofs.Ytidmhpcjppailaa.Oct
