/- For every number the statement MapsDecodes answers true and changes nothing that was there: it is the entry that the document says, or none; and the entry's number is it. No condition. -/
import Derived.Test.YtpdcnaijhiogdaaRows
import Derived.Test.YtpdcnaijhiogdaaMpc
import Derived.Test.YtpdcnaijhiogdaaMpo
import Derived.Test.YtpdcnaijhiogdaaTak
namespace Go.Proofs.Ytpdcnaijhiogdaa.Oct
open Go.RowKit Go.ChangeShapes Go.WideShapes Go.ChangeAt

/-- The cells of two blocks that hold the same entry. -/
theorem two_box {u : World} {A B : Nat} {k c : Int} {o : Bool} {t t' : TypeId} (h : StE u A #[.int .i64 k, .int .i64 c, .bool o] t) (h' : StE u B #[.int .i64 k, .int .i64 c, .bool o] t') :
    u.cell? ⟨A, 0, none⟩ = some (.int .i64 k) ∧ u.cell? ⟨A, 1, none⟩ = some (.int .i64 c) ∧ u.cell? ⟨A, 2, none⟩ = some (.bool o) ∧ u.cell? ⟨B, 0, none⟩ = some (.int .i64 k) ∧ u.cell? ⟨B, 1, none⟩ = some (.int .i64 c) ∧ u.cell? ⟨B, 2, none⟩ = some (.bool o) :=
  ⟨h.box.1, h.box.2.1, h.box.2.2, h'.box.1, h'.box.2.1, h'.box.2.2⟩

set_option maxHeartbeats 4000000 in
theorem mdecodes_walk (v : Int) (w : World) (h0 : 0 ≤ v) (h1 : v < 18446744073709551616) : Calls Try.prog 4 #[.int .u64 v] w fun e w' => e = .returned (.bool true) ∧ Below w.heap.size w w' := by
  have HL := fun u => hide (coded_any u)
  have HD := fun u => hide (decode_any v u h0 h1)
  have HX := fun u => hide (refdecode_any v u h0 h1)
  have HED := hide (enc_dec v h0 h1)
  generalize decK v = k at *
  generalize decC v = c at *
  generalize decO v = o at *
  have HE := fun u => hide (encode_any k c o u)
  have HO := fun u => hide (ofE_any k c o u)
  have hqe := fun u => neq_W u k c o k c o
  rw [show (k == k && c == c && o == o) = true by simp] at hqe
  have hq : ∀ u, (binOp .neq 30 (.agg #[.int .i64 k, .int .i64 c, .bool o]) (.agg #[.int .i64 k, .int .i64 c, .bool o])).run Try.prog u = .ok (.bool false) u := hqe
  have hg := fun u op p q => guard_W u op p q #[.int .i64 k, .int .i64 c, .bool o] #[.int .i64 k, .int .i64 c, .bool o]
  clear hqe
  generalize okV v = a at *
  have hvv : (v == v) = true := by simp
  cases a
  · have hn : noE false = 11 := rfl
    rw [hn] at HD
    generalize encN k c o = b at *
    generalize noE (okE k c o) = d at *
    clear hn HED
    go_enter Try.func4, Try.ntmps4
    go_wp2_with fail
    refine ((HD _).out).mono ?_
    rintro e9 w2 ⟨rfl, hb2⟩
    have HB2 := hide (hb2.alloc hb2.size (.cells #[.int .i64 k, .int .i64 c, .bool o] 23))
    have HS2 := hide (StE.new w2 #[.int .i64 k, .int .i64 c, .bool o] 23)
    clear hb2
    go_wp2_with fail
    generalize w2.alloc (.cells #[.int .i64 k, .int .i64 c, .bool o] 23) = w3 at *
    refine ((HX _).out).mono ?_
    rintro e9 w4 ⟨rfl, hb4⟩
    have HB4 := hide (HB2.out.trans (hb4.mono HB2.out.size))
    have HS4 := hide (HS2.out.below hb4)
    have hsz : w2.heap.size < w4.heap.size := HS4.out.lt
    have HB5 := hide (HB4.out.alloc HB4.out.size (.cells #[.int .i64 k, .int .i64 c, .bool o] 30))
    have HS := hide (HS4.out.below ((Below.refl _ _).alloc (Nat.le_refl _) (.cells #[.int .i64 k, .int .i64 c, .bool o] 30)))
    have HT := hide (StE.new w4 #[.int .i64 k, .int .i64 c, .bool o] 30)
    clear hb4
    go_wp2_with fail
    generalize w4.alloc (.cells #[.int .i64 k, .int .i64 c, .bool o] 30) = w5 at *
    have HB := hide HB5.out.drew
    have HS := hide HS.out.drew
    have HT := hide HT.out.drew
    obtain ⟨s0, s1, s2, s3, s4, s5⟩ := two_box HS.out HT.out
    go_region_held3 (fun u => u.cell? ⟨w2.heap.size, 0, none⟩ = some (.int .i64 k) ∧ u.cell? ⟨w2.heap.size, 1, none⟩ = some (.int .i64 c) ∧ u.cell? ⟨w2.heap.size, 2, none⟩ = some (.bool o) ∧ u.cell? ⟨w4.heap.size, 0, none⟩ = some (.int .i64 k) ∧ u.cell? ⟨w4.heap.size, 1, none⟩ = some (.int .i64 c) ∧ u.cell? ⟨w4.heap.size, 2, none⟩ = some (.bool o)) (first | go_keep | exact two_box HS.out HT.out) (first
      | (go_at_call 8; refine ((HO _).out).mono ?_; rintro e9 w6 ⟨rfl, hb6⟩; have HB := hide (HB.out.trans (hb6.mono HB.out.size)); have HS := hide (HS.out.below hb6); have HT := hide (HT.out.below hb6); clear hb6))
    all_goals
      obtain ⟨s0, s1, s2, s3, s4, s5⟩ := two_box HS.out HT.out
      go_wp2_with fail
      refine ((HE _).out).mono ?_
      rintro e9 w8 ⟨rfl, hb8⟩
      have HB := hide (HB.out.trans (hb8.mono HB.out.size))
      clear hb8
      go_wp2_with fail
      refine ((HL _).out).mono ?_
      rintro e9 w9 ⟨rfl, hb9⟩
      have HB := hide (HB.out.trans (hb9.mono HB.out.size))
      clear hb9
      go_wp2_with fail
      go_ret
      exact ⟨rfl, HB.out⟩
  · have he := HED.out rfl
    have hn : noE true = 0 := rfl
    rw [he.1, he.2, hn] at HE
    rw [hn] at HD
    clear hn HED he
    go_enter Try.func4, Try.ntmps4
    go_wp2_with fail
    refine ((HD _).out).mono ?_
    rintro e9 w2 ⟨rfl, hb2⟩
    have HB2 := hide (hb2.alloc hb2.size (.cells #[.int .i64 k, .int .i64 c, .bool o] 23))
    have HS2 := hide (StE.new w2 #[.int .i64 k, .int .i64 c, .bool o] 23)
    clear hb2
    go_wp2_with fail
    generalize w2.alloc (.cells #[.int .i64 k, .int .i64 c, .bool o] 23) = w3 at *
    refine ((HX _).out).mono ?_
    rintro e9 w4 ⟨rfl, hb4⟩
    have HB4 := hide (HB2.out.trans (hb4.mono HB2.out.size))
    have HS4 := hide (HS2.out.below hb4)
    have hsz : w2.heap.size < w4.heap.size := HS4.out.lt
    have HB5 := hide (HB4.out.alloc HB4.out.size (.cells #[.int .i64 k, .int .i64 c, .bool o] 30))
    have HS := hide (HS4.out.below ((Below.refl _ _).alloc (Nat.le_refl _) (.cells #[.int .i64 k, .int .i64 c, .bool o] 30)))
    have HT := hide (StE.new w4 #[.int .i64 k, .int .i64 c, .bool o] 30)
    clear hb4
    go_wp2_with fail
    generalize w4.alloc (.cells #[.int .i64 k, .int .i64 c, .bool o] 30) = w5 at *
    have HB := hide HB5.out.drew
    have HS := hide HS.out.drew
    have HT := hide HT.out.drew
    obtain ⟨s0, s1, s2, s3, s4, s5⟩ := two_box HS.out HT.out
    refine wp_region_held_drew (S := (fun u => u.cell? ⟨w2.heap.size, 0, none⟩ = some (.int .i64 k) ∧ u.cell? ⟨w2.heap.size, 1, none⟩ = some (.int .i64 c) ∧ u.cell? ⟨w2.heap.size, 2, none⟩ = some (.bool o) ∧ u.cell? ⟨w4.heap.size, 0, none⟩ = some (.int .i64 k) ∧ u.cell? ⟨w4.heap.size, 1, none⟩ = some (.int .i64 c) ∧ u.cell? ⟨w4.heap.size, 2, none⟩ = some (.bool o))) (by kernel_rfl) (two_box HS.out HT.out) (fun _ => ?_)
    refine any_take 0 (some 19) (.int .i64 0) rfl rfl (by kernel_rfl) (by kernel_rfl) (by kernel_rfl) (fun _ _ _ h => h) (by rfl) (two_box HS.out HT.out) ?_ ?_
    · intro w hSw
      obtain ⟨s0, s1, s2, s3, s4, s5⟩ := hSw
      go_simp
    simp only [Act.put, List.setIfInBounds_toArray, List.set_cons_zero, List.set_cons_succ]
    refine any_take 1 (some 20) (.bool true) rfl rfl (by kernel_rfl) (by kernel_rfl) (by kernel_rfl) (fun _ _ _ h => h) (by rfl) (two_box HS.out HT.out) ?_ ?_
    · intro w hSw
      obtain ⟨s0, s1, s2, s3, s4, s5⟩ := hSw
      go_simp
    simp only [Act.put, List.setIfInBounds_toArray, List.set_cons_zero, List.set_cons_succ]
    refine any_take 2 (some 21) (.bool true) rfl rfl (by kernel_rfl) (by kernel_rfl) (by kernel_rfl) (fun _ _ _ h => h) (by rfl) (two_box HS.out HT.out) ?_ ?_
    · intro w hSw
      obtain ⟨s0, s1, s2, s3, s4, s5⟩ := hSw
      go_simp
    simp only [Act.put, List.setIfInBounds_toArray, List.set_cons_zero, List.set_cons_succ]
    refine any_take 3 (some 22) (.bool false) rfl rfl (by kernel_rfl) (by kernel_rfl) (by kernel_rfl) (fun _ _ _ h => h) (by rfl) (two_box HS.out HT.out) ?_ ?_
    · intro w hSw
      obtain ⟨s0, s1, s2, s3, s4, s5⟩ := hSw
      go_simp
    simp only [Act.put, List.setIfInBounds_toArray, List.set_cons_zero, List.set_cons_succ]
    refine any_take 4 (some 23) (.bool false) rfl rfl (by kernel_rfl) (by kernel_rfl) (by kernel_rfl) (fun _ _ _ h => h) (by rfl) (two_box HS.out HT.out) ?_ ?_
    · intro w hSw
      obtain ⟨s0, s1, s2, s3, s4, s5⟩ := hSw
      go_simp
    simp only [Act.put, List.setIfInBounds_toArray, List.set_cons_zero, List.set_cons_succ]
    refine any_take 5 (some 24) (.agg #[.int .i64 k, .int .i64 c, .bool o]) rfl rfl (by kernel_rfl) (by kernel_rfl) (by kernel_rfl) (fun _ _ _ h => h) (by rfl) (two_box HS.out HT.out) ?_ ?_
    · intro w hSw
      obtain ⟨s0, s1, s2, s3, s4, s5⟩ := hSw
      go_simp
    simp only [Act.put, List.setIfInBounds_toArray, List.set_cons_zero, List.set_cons_succ]
    refine any_take 7 (some 26) (.agg #[.int .i64 k, .int .i64 c, .bool o]) rfl rfl (by kernel_rfl) (by kernel_rfl) (by kernel_rfl) (fun _ _ _ h => h) (by rfl) (two_box HS.out HT.out) ?_ ?_
    · intro w hSw
      obtain ⟨s0, s1, s2, s3, s4, s5⟩ := hSw
      go_simp
    simp only [Act.put, List.setIfInBounds_toArray, List.set_cons_zero, List.set_cons_succ]
    refine wpAnyH_ready (rs := [6]) (by kernel_rfl) (by simp) ?_
    refine AllReadyH.cons (i := 6) rfl (fun K hK => ?_) AllReadyH.nil
    go_simp
    refine ((HO _).out).mono ?_
    rintro e9 w6 ⟨rfl, hb6⟩
    have HB := hide (HB.out.trans (hb6.mono HB.out.size))
    have HS := hide (HS.out.below hb6)
    have HT := hide (HT.out.below hb6)
    clear hb6 s0 s1 s2 s3 s4 s5
    obtain ⟨s0, s1, s2, s3, s4, s5⟩ := two_box HS.out HT.out
    go_simp
    refine hK.out _ _ (two_box HS.out HT.out) (fun _ => ?_)
    clear hK K
    try simp only [Act.put, List.setIfInBounds_toArray, List.set_cons_zero, List.set_cons_succ]
    refine any_take 8 (some 27) (.bool false) rfl rfl (by kernel_rfl) (by kernel_rfl) (by kernel_rfl) (fun _ _ _ h => h) (by rfl) (two_box HS.out HT.out) ?_ ?_
    · intro w hSw
      obtain ⟨s0, s1, s2, s3, s4, s5⟩ := hSw
      go_simp
    simp only [Act.put, List.setIfInBounds_toArray, List.set_cons_zero, List.set_cons_succ]
    refine any_take 9 (some 28) (.bool false) rfl rfl (by kernel_rfl) (by kernel_rfl) (by kernel_rfl) (fun _ _ _ h => h) (by rfl) (two_box HS.out HT.out) ?_ ?_
    · intro w hSw
      obtain ⟨s0, s1, s2, s3, s4, s5⟩ := hSw
      go_simp
    simp only [Act.put, List.setIfInBounds_toArray, List.set_cons_zero, List.set_cons_succ]
    refine any_take 10 (some 29) (.bool false) rfl rfl (by kernel_rfl) (by kernel_rfl) (by kernel_rfl) (fun _ _ _ h => h) (by rfl) (two_box HS.out HT.out) ?_ ?_
    · intro w hSw
      obtain ⟨s0, s1, s2, s3, s4, s5⟩ := hSw
      go_simp
    simp only [Act.put, List.setIfInBounds_toArray, List.set_cons_zero, List.set_cons_succ]
    refine any_take 11 (some 30) (.bool true) rfl rfl (by kernel_rfl) (by kernel_rfl) (by kernel_rfl) (fun _ _ _ h => h) (by rfl) (two_box HS.out HT.out) ?_ ?_
    · intro w hSw
      obtain ⟨s0, s1, s2, s3, s4, s5⟩ := hSw
      go_simp
    simp only [Act.put, List.setIfInBounds_toArray, List.set_cons_zero, List.set_cons_succ]
    refine any_take 12 (some 31) (.bool false) rfl rfl (by kernel_rfl) (by kernel_rfl) (by kernel_rfl) (fun _ _ _ h => h) (by rfl) (two_box HS.out HT.out) ?_ ?_
    · intro w hSw
      obtain ⟨s0, s1, s2, s3, s4, s5⟩ := hSw
      go_simp
    simp only [Act.put, List.setIfInBounds_toArray, List.set_cons_zero, List.set_cons_succ]
    refine any_take 13 (some 32) (.bool false) rfl rfl (by kernel_rfl) (by kernel_rfl) (by kernel_rfl) (fun _ _ _ h => h) (by rfl) (two_box HS.out HT.out) ?_ ?_
    · intro w hSw
      obtain ⟨s0, s1, s2, s3, s4, s5⟩ := hSw
      go_simp
    simp only [Act.put, List.setIfInBounds_toArray, List.set_cons_zero, List.set_cons_succ]
    refine any_skip 14 (some 33) rfl rfl (by kernel_rfl) (by kernel_rfl) (by kernel_rfl) (fun _ _ _ h => h) (by rfl) (two_box HS.out HT.out) ?_
    simp only [Act.put, List.setIfInBounds_toArray, List.set_cons_zero, List.set_cons_succ]
    refine any_skip 15 (some 34) rfl rfl (by kernel_rfl) (by kernel_rfl) (by kernel_rfl) (fun _ _ _ h => h) (by rfl) (two_box HS.out HT.out) ?_
    simp only [Act.put, List.setIfInBounds_toArray, List.set_cons_zero, List.set_cons_succ]
    refine any_take 16 (some 35) (.bool false) rfl rfl (by kernel_rfl) (by kernel_rfl) (by kernel_rfl) (fun _ _ _ h => h) (by rfl) (two_box HS.out HT.out) ?_ ?_
    · intro w hSw
      obtain ⟨s0, s1, s2, s3, s4, s5⟩ := hSw
      go_simp
    simp only [Act.put, List.setIfInBounds_toArray, List.set_cons_zero, List.set_cons_succ]
    refine any_take 17 (some 36) (.bool false) rfl rfl (by kernel_rfl) (by kernel_rfl) (by kernel_rfl) (fun _ _ _ h => h) (by rfl) (two_box HS.out HT.out) ?_ ?_
    · intro w hSw
      obtain ⟨s0, s1, s2, s3, s4, s5⟩ := hSw
      go_simp
    simp only [Act.put, List.setIfInBounds_toArray, List.set_cons_zero, List.set_cons_succ]
    refine wpAnyH_done (by kernel_rfl) ?_ _
    go_wp2_with fail
    refine ((HE _).out).mono ?_
    rintro e9 w8 ⟨rfl, hb8⟩
    have HB := hide (HB.out.trans (hb8.mono HB.out.size))
    clear hb8
    go_wp2_with fail
    refine ((HL _).out).mono ?_
    rintro e9 w9 ⟨rfl, hb9⟩
    have HB := hide (HB.out.trans (hb9.mono HB.out.size))
    clear hb9
    go_wp2_with fail
    go_ret
    exact ⟨rfl, HB.out⟩

set_option maxRecDepth 100000 in
theorem mapsDecodes_lifted (os : Os) (started : os.Started) (H : Type) (enc : TypeId × Value → H) :
    ReturnsInHanded {} Try.checked os 4 .any (Rows.mapsDecodesSpec.pre6 enc Try.prog Try.f4 Rows.mapsDecodesRow.domain false) (Rows.mapsDecodesSpec.post enc Try.prog Try.f4 false true false false) := by
  refine returnsInHanded_of_change (C := Try.checked) own started (by kernel_rfl) Try.func4
    (ChangeSpec.witness6 (enc := enc) (C := Try.checked) false ⟨#[], #[.int .u64 0], []⟩ 8 (by kernel_rfl) (by kernel_rfl) (by kernel_rfl) (by kernel_rfl)) ?_
  intro W base args ds gs before hval0 hW _ _
  have hval : ∀ (j : Nat) t v, Try.f4.params[j]? = some t → args[j]? = some v → Value.okWide Try.prog W .any base t v := hval0
  have hW' := hW
  obtain ⟨p, q, hA0, hV, rfl, hfz, hnd⟩ := hW
  have hA : DataW.TrodAll enc Try.prog W 0 (fun _ => true) true Try.f4.params.toList args.toList ds p := hA0
  rw [Try.params4] at hA hval
  obtain ⟨v0, vs0, d0, ds0, p0, q0, hargs0, rfl, rfl, h0, r0⟩ := trodAll_cons hA
  obtain ⟨rfl, rfl, rfl⟩ := trodAll_nil r0
  obtain rfl : args = #[v0] := by cases args; simp_all
  obtain ⟨rfl, rfl⟩ := trodVars_none hV
  simp only [List.append_nil] at hW'
  obtain ⟨x0, rfl, rfl, rfl, w0⟩ := open_int Try.underlying24 (hval 0 24 v0 rfl rfl) h0
  clear hA0
  refine (mdecodes_walk x0 W (wf_u64 w0).1 (wf_u64 w0).2).mono fun e W' ⟨he, hb⟩ => ?_
  subst he
  refine ⟨_, rfl, _, _, _, [], ([] ++ []), [], hW', ?_, ?_, rfl, hb.frame _, fun h => by cases h⟩
  · exact trodAll_cons_mk (shut_bool Try.underlying4 _) trodAll_mk0
  · exact trodAll_cons_mk (shut_int Try.underlying24 w0) (trodAll_mk0)

theorem mapsDecodes_holds : Rows.MapsDecodesSaid :=
  OpenClaim.holds_of_wide 4 Try.f4 rfl rfl rfl rfl rfl rfl rfl ⟨rfl, rfl, rfl, rfl, rfl⟩ rfl rfl rfl rfl rfl (by kernel_rfl) Try.func4 (by kernel_rfl)
    (of_decide_eq_true (by kernel_rfl)) (by unfold Func.isWrapper; first | (rw [if_pos (by decide +kernel)]; kernel_rfl) | (rw [if_neg (by decide +kernel)]; exact ⟨rfl, rfl⟩))
    (fun os started H enc _ => mapsDecodes_lifted os started H enc)
end Go.Proofs.Ytpdcnaijhiogdaa.Oct
