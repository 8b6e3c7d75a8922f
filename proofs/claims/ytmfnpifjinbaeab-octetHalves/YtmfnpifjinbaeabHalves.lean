/- For every number of eight bytes the statement OctetHalves answers true and changes nothing that was there: the number that is put is its lower half, and its upper one 2^32 times; of four likewise. No condition. -/
import Derived.Test.YtmfnpifjinbaeabRows
import Derived.Test.YtmfnpifjinbaeabLow
import Derived.Test.YtmfnpifjinbaeabWr
import Derived.ProofKit
import Derived.OpenShut
import Derived.Carry
namespace Go.Proofs.Ytmfnpifjinbaeab.Oct
open Go.RowKit Go.ChangeShapes Go.WideShapes Go.ChangeAt

theorem halves_num (v : Int) (q k : Nat) (hq : q + k ≤ 8) : num (putN (List.replicate 8 0) 0 v 8) q k = v / 2 ^ (8 * q) % 256 ^ k := by
  refine num_of _ q _ k fun i hi => ?_
  rw [getD_putN _ _ _ _ _ (by simp), if_pos (by omega), Nat.sub_zero, Nat.mul_add, Int.pow_add, Int.ediv_ediv_of_nonneg (by exact Int.le_of_lt (Int.pow_pos (by omega)))]

theorem halves_u (B : Nat) (w : World) (v : Int) (H : Nat) (ho : Own w B (.slice (some ⟨H, 0, none⟩) 8 8) (putN (List.replicate 8 0) 0 v 8)) (q : Nat) (hq : q + 4 ≤ 8) :
    Calls Try.prog 13 #[.slice (some ⟨H, 0, none⟩) 8 8, .int .i64 q] w fun e w' => e = .returned (.tuple #[.int .u32 (v / 2 ^ (8 * q) % 4294967296), .bool true]) ∧ w' = w := by
  have hl : (putN (List.replicate 8 0) 0 v 8).length = 8 := by rw [putN_length]; simp
  have := U32_any (some ⟨H, 0, none⟩) 8 (putN (List.replicate 8 0) 0 v 8) q w (by rw [hl]; unfold maxLen; decide) ((Byts.zeros 8).putN 0 v 8) (by obtain ⟨a, cap, e, hl, _⟩ := ho.form; simp at e; rw [e.1]; exact hl) (by omega) (by omega)
  rw [hl, thereB_yes (by omega) (by omega) (by omega), numAt_yes (by omega), halves_num v q 4 hq] at this
  exact this

theorem halves_s (B : Nat) (w : World) (v : Int) (H : Nat) (ho : Own w B (.slice (some ⟨H, 0, none⟩) 8 8) (putN (List.replicate 8 0) 0 v 8)) (q : Nat) (hq : q + 2 ≤ 8) :
    Calls Try.prog 14 #[.slice (some ⟨H, 0, none⟩) 8 8, .int .i64 q] w fun e w' => e = .returned (.tuple #[.int .u16 (v / 2 ^ (8 * q) % 65536), .bool true]) ∧ w' = w := by
  have hl : (putN (List.replicate 8 0) 0 v 8).length = 8 := by rw [putN_length]; simp
  have := U16_any (some ⟨H, 0, none⟩) 8 (putN (List.replicate 8 0) 0 v 8) q w (by rw [hl]; unfold maxLen; decide) ((Byts.zeros 8).putN 0 v 8) (by obtain ⟨a, cap, e, hl, _⟩ := ho.form; simp at e; rw [e.1]; exact hl) (by omega) (by omega)
  rw [hl, thereB_yes (by omega) (by omega) (by omega), numAt_yes (by omega), halves_num v q 2 hq] at this
  exact this

theorem halves_put (B : Nat) (w : World) (v : Int) (H : Nat) (ho : Own w B (.slice (some ⟨H, 0, none⟩) 8 8) (List.replicate 8 0)) :
    Calls Try.prog 12 #[.slice (some ⟨H, 0, none⟩) 8 8, .int .i64 0, .int .u64 v] w fun e w' =>
      e = .returned (.bool true) ∧ Own w' B (.slice (some ⟨H, 0, none⟩) 8 8) (putN (List.replicate 8 0) 0 v 8) ∧ w.grownBy w' (some H) :=
  Put64_yes B H 8 (List.replicate 8 0) 0 v w (by unfold maxLen; decide) (by decide) ho

theorem halves_up (v : Int) (h0 : 0 ≤ v) (h1 : v < 18446744073709551616) : (v / 4294967296 % 65536 + v / 281474976710656 % 65536 * 65536 == v / 4294967296 % 4294967296) = true := by
  rw [beq_iff_eq]
  omega

theorem ret_bool {a : Bool} (h : a = true) : Ending.returned (.bool a) = .returned (.bool true) := by rw [h]

set_option maxHeartbeats 1000000 in
theorem halves_walk (v : Int) (h0 : 0 ≤ v) (h1 : v < 18446744073709551616) (w : World) :
    Calls Try.prog 4 #[.int .u64 v] w fun e w' => e = .returned (.bool true) ∧ Below w.heap.size w w' := by
  have hmk : (Instr.makeSlice 22 (.int .i64 8) (.int .i64 8)).run Try.prog w = .ok (.slice (some ⟨w.heap.size, 0, none⟩) 8 8) (w.alloc (.cells (madeCells #[.int .u8 0] 8) 5)) := run_make_bytes w 8 (by omega)
  have ho0 := Own.made w 8 (by unfold maxLen; decide)
  go_enter Try.func4, Try.ntmps4
  go_wp2_with fail
  refine (low_any _).mono ?_
  rintro e w1 ⟨rfl, hb⟩
  have ho1 := ho0.below hb
  have HB1 : Hid (Below w.heap.size w w1) := ((Below.refl _ _).alloc (Nat.le_refl _) _).trans (hb.mono (by simp))
  clear hb ho0 hmk
  go_wp2_with fail
  refine (halves_put _ _ v _ ho1).mono ?_
  rintro e w2 ⟨rfl, ho2, hg2⟩
  have HB2 : Hid (Below w.heap.size w w2) := HB1.out.grown hg2 HB1.out.size (by intro k hk; simp at hk; omega)
  clear hg2 ho1 HB1
  go_wp2_with fail
  refine (halves_u _ _ v _ ho2 0 (by omega)).mono ?_
  rintro e w3 ⟨rfl, rfl⟩
  go_wp2_with fail
  refine (halves_u _ _ v _ ho2 4 (by omega)).mono ?_
  rintro e w3 ⟨rfl, rfl⟩
  go_wp2_with fail
  refine (halves_s _ _ v _ ho2 4 (by omega)).mono ?_
  rintro e w3 ⟨rfl, rfl⟩
  go_wp2_with fail
  refine (halves_s _ _ v _ ho2 6 (by omega)).mono ?_
  rintro e w3 ⟨rfl, rfl⟩
  go_wp2_with fail
  go_ret
  exact ⟨ret_bool (halves_up v h0 h1), HB2.out⟩

theorem own : ownKnob Try.prog.godebug = none := by kernel_rfl
theorem laidOut : laidOutB Try.prog = true := by kernel_rfl

set_option maxRecDepth 100000 in
theorem halves_lifted (os : Os) (started : os.Started) (H : Type) (enc : TypeId × Value → H) :
    ReturnsInHanded {} Try.checked os 4 .any (Rows.octetHalvesSpec.pre6 enc Try.prog Try.f4 Rows.octetHalvesRow.domain false) (Rows.octetHalvesSpec.post enc Try.prog Try.f4 false true false false) := by
  refine returnsInHanded_of_change (C := Try.checked) own started (by kernel_rfl) Try.func4
    (ChangeSpec.witness6 (enc := enc) (C := Try.checked) false ⟨#[], #[.int .u64 0], []⟩ 8 (by kernel_rfl) (by kernel_rfl) (by kernel_rfl) (by kernel_rfl)) ?_
  intro W base args ds gs before hval0 hW _ _
  have hval : ∀ (j : Nat) t v, Try.f4.params[j]? = some t → args[j]? = some v → Value.okWide Try.prog W .any base t v := hval0
  have hW' := hW
  obtain ⟨p, q, hA0, hV, rfl, hfz, hnd⟩ := hW
  have hA : DataW.TrodAll enc Try.prog W 0 (fun _ => true) true Try.f4.params.toList args.toList ds p := hA0
  rw [Try.params4] at hA hval
  obtain ⟨v0, vs0, d0, ds0, p0, q0, hargs, rfl, rfl, h0, r0⟩ := trodAll_cons hA
  obtain ⟨rfl, rfl, rfl⟩ := trodAll_nil r0
  obtain rfl : args = #[v0] := by cases args; simp_all
  obtain ⟨rfl, rfl⟩ := trodVars_none hV
  obtain ⟨a0, rfl, rfl, rfl, w0⟩ := open_int Try.underlying26 (hval 0 26 v0 rfl rfl) h0
  clear hA0
  simp only [List.append_nil] at hW'
  have hx : 0 ≤ a0 ∧ a0 ≤ 18446744073709551615 := by simpa [Lit.wf, IntKind.min, IntKind.max, IntKind.signed, IntKind.bits] using w0
  refine (halves_walk a0 hx.1 (by omega) W).mono fun e W' ⟨he, hb⟩ => ?_
  subst he
  refine ⟨_, rfl, _, _, _, [], [], [], hW', ?_, ?_, rfl, hb.frame _, fun h => by cases h⟩
  · exact trodAll_cons_mk (shut_bool Try.underlying4 _) trodAll_mk0
  · exact trodAll_cons_mk (shut_int Try.underlying26 w0) trodAll_mk0

theorem halves_holds : Rows.OctetHalvesSaid :=
  OpenClaim.holds_of_wide 4 Try.f4 rfl rfl rfl rfl rfl rfl rfl ⟨rfl, rfl, rfl, rfl, rfl⟩ rfl rfl rfl rfl rfl (by kernel_rfl) Try.func4 (by kernel_rfl)
    (of_decide_eq_true (by kernel_rfl)) (by unfold Func.isWrapper; first | (rw [if_pos (by decide +kernel)]; kernel_rfl) | (rw [if_neg (by decide +kernel)]; exact ⟨rfl, rfl⟩))
    (fun os started H enc _ => halves_lifted os started H enc)
end Go.Proofs.Ytmfnpifjinbaeab.Oct
