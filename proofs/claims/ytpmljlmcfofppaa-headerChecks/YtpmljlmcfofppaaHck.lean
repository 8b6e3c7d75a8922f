/- For every header the statement HeaderChecks answers true and changes nothing that was there: Check says what the document says. No condition. -/
import Derived.Test.YtpmljlmcfofppaaRows
import Derived.Test.YtpmljlmcfofppaaHdl
import Derived.Test.YtpmljlmcfofppaaHdx
import Derived.Test.YtpmljlmcfofppaaHdo
namespace Go.Proofs.Ytpmljlmcfofppaa.Oct
open Go.RowKit Go.ChangeShapes Go.WideShapes Go.ChangeAt

set_option maxHeartbeats 2000000 in
theorem hchecks_walk (b s o j : Int) (k : Bool) (w : World) : Calls Try.prog 4 #[.agg #[.int .i64 b, .int .i64 s, .int .i64 o, .int .i64 j, .bool k]] w fun e w' => e = .returned (.bool true) ∧ Below w.heap.size w w' := by
  have hK := Kp.new w b s o j k
  have HK := hide hK.drew
  obtain ⟨c0, c1, c2, c3, c4⟩ := hK.box
  have HL := fun u => hide (laid_any u)
  have HC := fun u => hide (check_any b s o j k u)
  have HO := fun u => hide (of_any b s o j k u)
  have HX := fun u => hide (refcheck_any b s o j k u)
  generalize Hd.check ⟨b, s, o, j, k⟩ = x at *
  have hx : (x == x) = true := by simp
  clear hK
  go_enter Try.func4, Try.ntmps4
  go_wp2_with fail
  go_region_held3 (fun u => u.cell? ⟨w.heap.size, 0, none⟩ = some (.int .i64 b) ∧ u.cell? ⟨w.heap.size, 1, none⟩ = some (.int .i64 s) ∧ u.cell? ⟨w.heap.size, 2, none⟩ = some (.int .i64 o) ∧ u.cell? ⟨w.heap.size, 3, none⟩ = some (.int .i64 j) ∧ u.cell? ⟨w.heap.size, 4, none⟩ = some (.bool k)) (first | go_keep | (with_reducible exact HK.out.box) | exact HK.out.box) (first
    | (go_at_call 15; refine ((HL _).out).mono ?_; rintro e9 w2 ⟨rfl, hb2⟩; have HK := hide (HK.out.step hb2); clear hb2)
    | (go_at_call 24; refine ((HC _).out).mono ?_; rintro e9 w2 ⟨rfl, hb2⟩; have HK := hide (HK.out.step hb2); clear hb2)
    | (go_at_call 9; refine ((HO _).out).mono ?_; rintro e9 w2 ⟨rfl, hb2⟩; have HK := hide (HK.out.step hb2); clear hb2)
    | (go_at_call 25; refine ((HX _).out).mono ?_; rintro e9 w2 ⟨rfl, hb2⟩; have HK := hide (HK.out.step hb2); clear hb2))
  all_goals
    go_wp2_with fail
    go_ret
    exact ⟨rfl, HK.out.below⟩

set_option maxRecDepth 100000 in
theorem headerChecks_lifted (os : Os) (started : os.Started) (H : Type) (enc : TypeId × Value → H) :
    ReturnsInHanded {} Try.checked os 4 .any (Rows.headerChecksSpec.pre6 enc Try.prog Try.f4 Rows.headerChecksRow.domain false) (Rows.headerChecksSpec.post enc Try.prog Try.f4 false true false false) := by
  refine returnsInHanded_of_change (C := Try.checked) own started (by kernel_rfl) Try.func4
    (ChangeSpec.witness6 (enc := enc) (C := Try.checked) false ⟨#[], #[.agg #[.int .i64 0, .int .i64 0, .int .i64 0, .int .i64 0, .bool false]], []⟩ 8 (by kernel_rfl) (by kernel_rfl) (by kernel_rfl) (by kernel_rfl)) ?_
  intro W base args ds gs before hval0 hW _ _
  have hval : ∀ (j : Nat) t v, Try.f4.params[j]? = some t → args[j]? = some v → Value.okWide Try.prog W .any base t v := hval0
  have hW' := hW
  obtain ⟨p, q, hA0, hV, rfl, hfz, hnd⟩ := hW
  have hA : DataW.TrodAll enc Try.prog W 0 (fun _ => true) true Try.f4.params.toList args.toList ds p := hA0
  rw [Try.params4] at hA hval
  obtain ⟨v0, vs0, d0, ds0, p0, q0, hargs0, rfl, rfl, h0, r0⟩ := trodAll_cons hA
  obtain ⟨rfl, rfl, rfl⟩ := trodAll_nil r0
  obtain rfl : args = #[v0] := by cases args; simp_all
  obtain ⟨rfl, rfl⟩ := trodVars_none hV
  simp only [List.append_nil] at hW'
  have hlt0 : ∀ x ∈ p0, x.block < W.heap.size := fun x hx => by simpa using hW'.lt x (by simp [hx])
  obtain ⟨b0, s0, o0, j0, k0, rfl, hk0⟩ := open_hdr (hval 0 23 v0 rfl rfl) h0
  clear hA0
  refine (hchecks_walk b0 s0 o0 j0 k0 W).mono fun e W' ⟨he, hb⟩ => ?_
  subst he
  refine ⟨_, rfl, _, _, _, [], (p0 ++ []), [], hW', ?_, ?_, rfl, hb.frame _, fun h => by cases h⟩
  · exact trodAll_cons_mk (shut_bool Try.underlying4 _) trodAll_mk0
  · exact trodAll_cons_mk (Below.trod laidOut (by kernel_rfl) (of_decide_eq_true (by kernel_rfl)) h0 hb hlt0) (trodAll_mk0)

theorem headerChecks_holds : Rows.HeaderChecksSaid :=
  OpenClaim.holds_of_wide 4 Try.f4 rfl rfl rfl rfl rfl rfl rfl ⟨rfl, rfl, rfl, rfl, rfl⟩ rfl rfl rfl rfl rfl (by kernel_rfl) Try.func4 (by kernel_rfl)
    (of_decide_eq_true (by kernel_rfl)) (by unfold Func.isWrapper; first | (rw [if_pos (by decide +kernel)]; kernel_rfl) | (rw [if_neg (by decide +kernel)]; exact ⟨rfl, rfl⟩))
    (fun os started H enc _ => headerChecks_lifted os started H enc)
end Go.Proofs.Ytpmljlmcfofppaa.Oct
