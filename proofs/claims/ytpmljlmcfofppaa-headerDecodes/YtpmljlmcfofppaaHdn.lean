/- For all bytes the statement HeaderDecodes answers true and changes nothing that was there: they are a header, or none for the reason that the document says. No condition (the statement itself lets go more than 5000 bytes). -/
import Derived.Test.YtpmljlmcfofppaaRows
import Derived.Test.YtpmljlmcfofppaaHdy
import Derived.Test.YtpmljlmcfofppaaHeq
import Derived.Test.YtpmljlmcfofppaaOpen
namespace Go.Proofs.Ytpmljlmcfofppaa.Oct
open Go.RowKit Go.ChangeShapes Go.WideShapes Go.ChangeAt

set_option maxHeartbeats 4000000 in
theorem hdecodes_walk (a : Option Addr) (cap : Nat) (l : List Int) (w : World) (hn : l.length ≤ maxLen) (hb : Byts l) (hl : Sl w a cap l) : Calls Try.prog 6 #[.slice a l.length cap] w fun e w' => e = .returned (.bool true) ∧ Below w.heap.size w w' := by
  have HL := fun u => hide (laid_any u)
  unfold maxLen at hn
  by_cases h5 : 5000 < l.length
  · have hd : decide ((5000 : Int) < l.length) = true := by simp; omega
    clear hl hb
    go_enter Try.func6, Try.ntmps6
    go_wp2_with fail
    refine ((HL _).out).mono ?_
    rintro e9 w2 ⟨rfl, hb2⟩
    have HB := hide hb2
    clear hb2
    go_wp2_with fail
    go_ret
    exact ⟨rfl, HB.out⟩
  have hd : decide ((5000 : Int) < l.length) = false := by simp; omega
  have HD := hide (decode_any a cap l w (by omega) hb hl)
  have HW : Hid (∀ u, Below w.heap.size w u → Calls Try.prog 31 #[.slice a l.length cap] u fun e w' => e = .returned (.tuple #[vH (decN l).2, .int .i64 (decN l).1]) ∧ Below u.heap.size u w') := hide (fun u hu => refdecode_any a cap l u (by omega) hb (hl.below hu))
  obtain ⟨b, s, o, j, k, hh⟩ : ∃ b s o j k, (decN l).2 = ⟨b, s, o, j, k⟩ := ⟨_, _, _, _, _, rfl⟩
  obtain ⟨c, hc⟩ : ∃ c, (decN l).1 = c := ⟨_, rfl⟩
  have hv : vH (decN l).2 = .agg #[.int .i64 b, .int .i64 s, .int .i64 o, .int .i64 j, .bool k] := by rw [hh]; rfl
  rw [hv, hc] at HD HW
  have HO := fun u => hide (of_any b s o j k u)
  have hcc : (c == c) = true := by simp
  have he := fun u => eql_W u b s o j k
  have hg := fun u op p q => guard_W u op p q #[.int .i64 b, .int .i64 s, .int .i64 o, .int .i64 j, .bool k] #[.int .i64 b, .int .i64 s, .int .i64 o, .int .i64 j, .bool k]
  clear hv hc hh hl hb hn
  go_enter Try.func6, Try.ntmps6
  go_wp2_with fail
  refine HD.out.mono ?_
  rintro e9 w2 ⟨rfl, hb2⟩
  have HB := hide (hb2.alloc hb2.size (.cells #[.int .i64 b, .int .i64 s, .int .i64 o, .int .i64 j, .bool k] 23))
  have HS3 : Hid (Stay (w2.alloc (.cells #[.int .i64 b, .int .i64 s, .int .i64 o, .int .i64 j, .bool k] 23)) w2.heap.size #[.int .i64 b, .int .i64 s, .int .i64 o, .int .i64 j, .bool k] 23) := hide (heap_alloc_new w2 (.cells #[.int .i64 b, .int .i64 s, .int .i64 o, .int .i64 j, .bool k] 23))
  clear hb2 HD
  go_wp2_with fail
  generalize w2.alloc (.cells #[.int .i64 b, .int .i64 s, .int .i64 o, .int .i64 j, .bool k] 23) = w3 at *
  refine (HW.out _ HB.out).mono ?_
  rintro e9 w4 ⟨rfl, hb4⟩
  have HB := hide (HB.out.trans (hb4.mono HB.out.size))
  have HS3 := hide (HS3.out.below hb4)
  have hsz : w2.heap.size < w4.heap.size := (Array.getElem?_eq_some_iff.1 HS3.out).1
  have HB := hide (HB.out.alloc HB.out.size (.cells #[.int .i64 b, .int .i64 s, .int .i64 o, .int .i64 j, .bool k] 24))
  have HS3 := hide (HS3.out.below ((Below.refl _ _).alloc (Nat.le_refl _) (.cells #[.int .i64 b, .int .i64 s, .int .i64 o, .int .i64 j, .bool k] 24)))
  have HS5 : Hid (Stay (w4.alloc (.cells #[.int .i64 b, .int .i64 s, .int .i64 o, .int .i64 j, .bool k] 24)) w4.heap.size #[.int .i64 b, .int .i64 s, .int .i64 o, .int .i64 j, .bool k] 24) := hide (heap_alloc_new w4 (.cells #[.int .i64 b, .int .i64 s, .int .i64 o, .int .i64 j, .bool k] 24))
  clear hb4 HW
  go_wp2_with fail
  generalize w4.alloc (.cells #[.int .i64 b, .int .i64 s, .int .i64 o, .int .i64 j, .bool k] 24) = w5 at *
  have HB := hide HB.out.drew
  have HS3 := hide HS3.out.drew
  have HS5 := hide HS5.out.drew
  obtain ⟨c0, c1, c2, c3, c4⟩ := HS3.out.box9
  obtain ⟨e0, e1, e2, e3, e4⟩ := HS5.out.box9
  go_region_held3 (fun u => (u.cell? ⟨w2.heap.size, 0, none⟩ = some (.int .i64 b) ∧ u.cell? ⟨w2.heap.size, 1, none⟩ = some (.int .i64 s) ∧ u.cell? ⟨w2.heap.size, 2, none⟩ = some (.int .i64 o) ∧ u.cell? ⟨w2.heap.size, 3, none⟩ = some (.int .i64 j) ∧ u.cell? ⟨w2.heap.size, 4, none⟩ = some (.bool k)) ∧ (u.cell? ⟨w4.heap.size, 0, none⟩ = some (.int .i64 b) ∧ u.cell? ⟨w4.heap.size, 1, none⟩ = some (.int .i64 s) ∧ u.cell? ⟨w4.heap.size, 2, none⟩ = some (.int .i64 o) ∧ u.cell? ⟨w4.heap.size, 3, none⟩ = some (.int .i64 j) ∧ u.cell? ⟨w4.heap.size, 4, none⟩ = some (.bool k))) (first | go_keep | exact ⟨HS3.out.box9, HS5.out.box9⟩) (first
    | (go_at_call 15; refine ((HL _).out).mono ?_; rintro e9 w6 ⟨rfl, hb6⟩; have HB := hide (HB.out.trans (hb6.mono HB.out.size)); have HS3 := hide (HS3.out.below hb6); have HS5 := hide (HS5.out.below hb6); clear hb6)
    | (go_at_call 9; refine ((HO _).out).mono ?_; rintro e9 w6 ⟨rfl, hb6⟩; have HB := hide (HB.out.trans (hb6.mono HB.out.size)); have HS3 := hide (HS3.out.below hb6); have HS5 := hide (HS5.out.below hb6); clear hb6))
  all_goals
    go_wp2_with fail
    go_ret
    exact ⟨rfl, HB.out⟩

set_option maxRecDepth 100000 in
theorem headerDecodes_lifted (os : Os) (started : os.Started) (H : Type) (enc : TypeId × Value → H) :
    ReturnsInHanded {} Try.checked os 6 .any (Rows.headerDecodesSpec.pre6 enc Try.prog Try.f6 Rows.headerDecodesRow.domain false) (Rows.headerDecodesSpec.post enc Try.prog Try.f6 false true false false) := by
  refine returnsInHanded_of_change (C := Try.checked) own started (by kernel_rfl) Try.func6
    (ChangeSpec.witness6 (enc := enc) (C := Try.checked) false ⟨#[], #[.slice none 0 0], []⟩ 8 (by kernel_rfl) (by kernel_rfl) (by kernel_rfl) (by kernel_rfl)) ?_
  intro W base args ds gs before hval0 hW _ _
  have hval : ∀ (j : Nat) t v, Try.f6.params[j]? = some t → args[j]? = some v → Value.okWide Try.prog W .any base t v := hval0
  have hW' := hW
  obtain ⟨p, q, hA0, hV, rfl, hfz, hnd⟩ := hW
  have hA : DataW.TrodAll enc Try.prog W 0 (fun _ => true) true Try.f6.params.toList args.toList ds p := hA0
  rw [Try.params6] at hA hval
  obtain ⟨v0, vs0, d0, ds0, p0, q0, hargs0, rfl, rfl, h0, r0⟩ := trodAll_cons hA
  obtain ⟨rfl, rfl, rfl⟩ := trodAll_nil r0
  obtain rfl : args = #[v0] := by cases args; simp_all
  obtain ⟨rfl, rfl⟩ := trodVars_none hV
  simp only [List.append_nil] at hW'
  have hlt0 : ∀ x ∈ p0, x.block < W.heap.size := fun x hx => by simpa using hW'.lt x (by simp [hx])
  obtain ⟨a0, cap0, l0, rfl, hn0, hb0, hl0, hs0⟩ := open_bytes (hval 0 36 v0 rfl rfl) h0
  clear hA0
  refine (hdecodes_walk a0 cap0 l0 W hn0 hb0 hs0).mono fun e W' ⟨he, hb⟩ => ?_
  subst he
  refine ⟨_, rfl, _, _, _, [], (p0 ++ []), [], hW', ?_, ?_, rfl, hb.frame _, fun h => by cases h⟩
  · exact trodAll_cons_mk (shut_bool Try.underlying4 _) trodAll_mk0
  · exact trodAll_cons_mk (Below.trod laidOut (by kernel_rfl) (of_decide_eq_true (by kernel_rfl)) h0 hb hlt0) (trodAll_mk0)

theorem headerDecodes_holds : Rows.HeaderDecodesSaid :=
  OpenClaim.holds_of_wide 6 Try.f6 rfl rfl rfl rfl rfl rfl rfl ⟨rfl, rfl, rfl, rfl, rfl⟩ rfl rfl rfl rfl rfl (by kernel_rfl) Try.func6 (by kernel_rfl)
    (of_decide_eq_true (by kernel_rfl)) (by unfold Func.isWrapper; first | (rw [if_pos (by decide +kernel)]; kernel_rfl) | (rw [if_neg (by decide +kernel)]; exact ⟨rfl, rfl⟩))
    (fun os started H enc _ => headerDecodes_lifted os started H enc)
end Go.Proofs.Ytpmljlmcfofppaa.Oct
