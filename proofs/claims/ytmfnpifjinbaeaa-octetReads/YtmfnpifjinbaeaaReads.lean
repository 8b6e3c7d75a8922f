/- For all bytes and all places the statement OctetReads answers true and changes nothing that was there: the numbers at all places of all bytes are what the chapter says. No condition. -/
import Derived.Test.YtmfnpifjinbaeaaRows
import Derived.Test.YtmfnpifjinbaeaaLow
import Derived.Test.YtmfnpifjinbaeaaRef
import Derived.Test.YtmfnpifjinbaeaaOpen
namespace Go.Proofs.Ytmfnpifjinbaeaa.Oct
open Go.RowKit Go.ChangeShapes Go.WideShapes Go.ChangeAt

theorem numAt_lt (l : List Int) (p : Int) (n : Nat) (hb : Byts l) : 0 ≤ numAt l p n ∧ numAt l p n < 256 ^ n := by
  unfold numAt
  split
  · exact num_lt l _ hb n
  · exact ⟨Int.le_refl _, Int.pow_pos (by omega)⟩

set_option maxHeartbeats 1000000 in
theorem reads_walk (a : Option Addr) (cap : Nat) (l : List Int) (p : Int) (w : World) (hlen : l.length ≤ maxLen) (hb : Byts l) (hl : Lies w a l) (hp : p ≤ 9223372036854775807) (hp2 : -9223372036854775808 ≤ p) :
    Calls Try.prog 3 #[.slice a l.length cap, .int .i64 p] w fun e w' => e = .returned (.bool true) ∧ Below w.heap.size w w' := by
  have u2 := U16_any a cap l p w hlen hb hl hp hp2
  have u4 := U32_any a cap l p w hlen hb hl hp hp2
  have u8 := U64_any a cap l p w hlen hb hl hp hp2
  have n2 : Calls Try.prog 13 #[.slice a l.length cap, .int .i64 p, .int .i64 2] w fun e w' => e = .returned (.tuple #[.int .u64 (numAt l p 2), .bool (thereB l.length p 2)]) ∧ w' = w := Num_any a cap l p 2 (by omega) (by omega) w hlen hb hl hp hp2
  have n4 : Calls Try.prog 13 #[.slice a l.length cap, .int .i64 p, .int .i64 4] w fun e w' => e = .returned (.tuple #[.int .u64 (numAt l p 4), .bool (thereB l.length p 4)]) ∧ w' = w := Num_any a cap l p 4 (by omega) (by omega) w hlen hb hl hp hp2
  have n8 : Calls Try.prog 13 #[.slice a l.length cap, .int .i64 p, .int .i64 8] w fun e w' => e = .returned (.tuple #[.int .u64 (numAt l p 8), .bool (thereB l.length p 8)]) ∧ w' = w := Num_any a cap l p 8 (by omega) (by omega) w hlen hb hl hp hp2
  have b2 := numAt_lt l p 2 hb
  have b4 := numAt_lt l p 4 hb
  have b8 := numAt_lt l p 8 hb
  have c2 : 0 ≤ numAt l p 2 ∧ numAt l p 2 ≤ 65535 := ⟨b2.1, by have := b2.2; simp at this; omega⟩
  have c4 : 0 ≤ numAt l p 4 ∧ numAt l p 4 ≤ 4294967295 := ⟨b4.1, by have := b4.2; simp at this; omega⟩
  clear b2 b4 b8 hl hb
  generalize numAt l p 2 = x2 at *
  generalize numAt l p 4 = x4 at *
  generalize numAt l p 8 = x8 at *
  generalize thereB l.length p 2 = t2 at *
  generalize thereB l.length p 4 = t4 at *
  generalize thereB l.length p 8 = t8 at *
  unfold maxLen at hlen
  by_cases hbig : 300 < l.length
  · clear u2 u4 u8 n2 n4 n8
    go_enter Try.func3, Try.ntmps3
    go_wp2_with (go_at_call 9; refine (low_any _).mono ?_; rintro e w' ⟨rfl, hb⟩)
    go_ret
    exact ⟨rfl, hb⟩
  · have U2 := hide u2
    have U4 := hide u4
    have U8 := hide u8
    have N2 := hide n2
    have N4 := hide n4
    have N8 := hide n8
    clear u2 u4 u8 n2 n4 n8
    go_enter Try.func3, Try.ntmps3
    go_wp2_with fail
    refine U2.out.mono ?_
    rintro e w1 ⟨rfl, rfl⟩
    go_wp2_with fail
    refine U4.out.mono ?_
    rintro e w1 ⟨rfl, rfl⟩
    go_wp2_with fail
    refine U8.out.mono ?_
    rintro e w1 ⟨rfl, rfl⟩
    go_wp2_with fail
    refine N2.out.mono ?_
    rintro e w1 ⟨rfl, rfl⟩
    go_wp2_with fail
    refine N4.out.mono ?_
    rintro e w1 ⟨rfl, rfl⟩
    go_wp2_with fail
    refine N8.out.mono ?_
    rintro e w1 ⟨rfl, rfl⟩
    clear U2 U4 U8 N2 N4 N8
    go_wp2_with fail
    refine (low_any _).mono ?_
    rintro e w1 ⟨rfl, hb⟩
    go_wp2_with fail
    all_goals
      go_ret
      exact ⟨by simp, hb⟩

set_option maxRecDepth 100000 in
theorem octetReads_lifted (os : Os) (started : os.Started) (H : Type) (enc : TypeId × Value → H) :
    ReturnsInHanded {} Try.checked os 3 .any (Rows.octetReadsSpec.pre6 enc Try.prog Try.f3 Rows.octetReadsRow.domain false) (Rows.octetReadsSpec.post enc Try.prog Try.f3 false true false false) := by
  refine returnsInHanded_of_change (C := Try.checked) own started (by kernel_rfl) Try.func3
    (ChangeSpec.witness6 (enc := enc) (C := Try.checked) false ⟨#[], #[.slice none 0 0, .int .i64 0], []⟩ 8 (by kernel_rfl) (by kernel_rfl) (by kernel_rfl) (by kernel_rfl)) ?_
  intro W base args ds gs before hval0 hW _ _
  have hval : ∀ (j : Nat) t v, Try.f3.params[j]? = some t → args[j]? = some v → Value.okWide Try.prog W .any base t v := hval0
  have hW' := hW
  obtain ⟨p, q, hA0, hV, rfl, hfz, hnd⟩ := hW
  have hA : DataW.TrodAll enc Try.prog W 0 (fun _ => true) true Try.f3.params.toList args.toList ds p := hA0
  rw [Try.params3] at hA hval
  obtain ⟨v0, vs0, d0, ds0, p0, q0, hargs0, rfl, rfl, h0, r0⟩ := trodAll_cons hA
  obtain ⟨v1, vs1, d1, ds1, p1, q1, hargs1, rfl, rfl, h1, r1⟩ := trodAll_cons r0
  obtain ⟨rfl, rfl, rfl⟩ := trodAll_nil r1
  subst hargs1
  obtain rfl : args = #[v0, v1] := by cases args; simp_all
  obtain ⟨rfl, rfl⟩ := trodVars_none hV
  simp only [List.append_nil] at hW'
  have hlt0 : ∀ x ∈ p0, x.block < W.heap.size := fun x hx => by simpa using hW'.lt x (by simp [hx])
  obtain ⟨a0, cap0, l0, rfl, hc0, hn0, hb0, hl0⟩ := open_bytes (hval 0 22 v0 rfl rfl) h0
  obtain ⟨x1, rfl, rfl, rfl, w1⟩ := open_int Try.underlying3 (hval 1 3 v1 rfl rfl) h1
  clear hA0
  refine (reads_walk a0 cap0 l0 x1 W hn0 hb0 hl0 (wf_i64 w1).2 (wf_i64 w1).1).mono fun e W' ⟨he, hb⟩ => ?_
  subst he
  refine ⟨_, rfl, _, _, _, [], (p0 ++ ([] ++ [])), [], hW', ?_, ?_, rfl, hb.frame _, fun h => by cases h⟩
  · exact trodAll_cons_mk (shut_bool Try.underlying4 _) trodAll_mk0
  · exact trodAll_cons_mk (Below.trod laidOut (by kernel_rfl) (of_decide_eq_true (by kernel_rfl)) h0 hb hlt0) (trodAll_cons_mk (shut_int Try.underlying3 w1) (trodAll_mk0))

theorem octetReads_holds : Rows.OctetReadsSaid :=
  OpenClaim.holds_of_wide 3 Try.f3 rfl rfl rfl rfl rfl rfl rfl ⟨rfl, rfl, rfl, rfl, rfl⟩ rfl rfl rfl rfl rfl (by kernel_rfl) Try.func3 (by kernel_rfl)
    (of_decide_eq_true (by kernel_rfl)) (by unfold Func.isWrapper; first | (rw [if_pos (by decide +kernel)]; kernel_rfl) | (rw [if_neg (by decide +kernel)]; exact ⟨rfl, rfl⟩))
    (fun os started H enc _ => octetReads_lifted os started H enc)
end Go.Proofs.Ytmfnpifjinbaeaa.Oct
