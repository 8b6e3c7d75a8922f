/- The statements' own header and its document's; the example that holds at every input. -/
import Derived.Test.YtpmljlmcfofppaaHdc
namespace Go.Proofs.Ytpmljlmcfofppaa.Oct
open Go.RowKit

set_option maxHeartbeats 1000000 in
theorem of_any (b s o j : Int) (k : Bool) (w : World) : Calls Try.prog 9 #[.agg #[.int .i64 b, .int .i64 s, .int .i64 o, .int .i64 j, .bool k]] w fun e w' => e = .returned (.agg #[.int .i64 b, .int .i64 s, .int .i64 o, .int .i64 j, .bool k]) ∧ Below w.heap.size w w' := by
  have HN := hide (heap_alloc2_new w (.cells #[.int .i64 b, .int .i64 s, .int .i64 o, .int .i64 j, .bool k] 23) (.cells #[.int .i64 b, .int .i64 s, .int .i64 o, .int .i64 j, .bool k] 24))
  have HB := hide (((Below.refl w.heap.size w).alloc (Nat.le_refl _) (.cells #[.int .i64 b, .int .i64 s, .int .i64 o, .int .i64 j, .bool k] 23)).alloc (by simp) (.cells #[.int .i64 b, .int .i64 s, .int .i64 o, .int .i64 j, .bool k] 24))
  go_enter Try.func9, Try.ntmps9
  go_wp2_with fail
  refine bodyPost_ret (results_cell_row rfl _ _ (w.heap.size + 1) 24 _ (0, 0) _ rfl HN.out Try.underlying24 rfl (by kernel_rfl)) rfl ?_
  exact ⟨rfl, HB.out⟩

theorem laid_check : Hd.check ⟨9, 65536, 400, 29, false⟩ = 0 := by decide
theorem laid_first : Hd.at_ ⟨9, 65536, 400, 29, false⟩ 5 = 34 := by decide
theorem laid_least : Hd.least ⟨9, 65536, 400, 29, false⟩ = 29 := by decide
theorem laid_guest : Hd.guest ⟨9, 65536, 400, 29, false⟩ = 128 := by decide

set_option maxHeartbeats 1000000 in
theorem laid_any (w : World) : Calls Try.prog 15 #[] w fun e w' => e = .returned (.bool true) ∧ Below w.heap.size w w' := by
  have hK := Kp.new w 9 65536 400 29 false
  have HK := hide hK
  have HC := fun u => hide (check_any 9 65536 400 29 false u)
  have HF := fun u => hide (first_any 9 65536 400 29 false u)
  have HL := fun u => hide (least_any 9 65536 400 29 false u)
  have HG := fun u => hide (guest_any 9 65536 400 29 false u)
  have HE : ∀ u, Hid (Calls Try.prog 17 #[.agg #[.int .i64 9, .int .i64 65536, .int .i64 400, .int .i64 29, .bool false]] u fun e w' => e = .returned (.int .i64 64) ∧ Below u.heap.size u w') := fun u => hide (entries_any 9 65536 400 29 false u)
  rw [laid_check] at HC
  rw [laid_first] at HF
  rw [laid_least] at HL
  rw [laid_guest] at HG
  obtain ⟨c0, c1, c2, c3, c4⟩ := hK.box
  clear hK
  go_enter Try.func15, Try.ntmps15
  go_wp2_with (first
    | (go_at_call 24; refine ((HC _).out).mono ?_; rintro e9 w2 ⟨rfl, hb2⟩; have HK := hide (HK.out.step hb2);  obtain ⟨c0, c1, c2, c3, c4⟩ := HK.out.box; clear hb2)
    | (go_at_call 20; refine ((HF _).out).mono ?_; rintro e9 w2 ⟨rfl, hb2⟩; have HK := hide (HK.out.step hb2);  obtain ⟨c0, c1, c2, c3, c4⟩ := HK.out.box; clear hb2)
    | (go_at_call 22; refine ((HL _).out).mono ?_; rintro e9 w2 ⟨rfl, hb2⟩; have HK := hide (HK.out.step hb2);  obtain ⟨c0, c1, c2, c3, c4⟩ := HK.out.box; clear hb2)
    | (go_at_call 18; refine ((HG _).out).mono ?_; rintro e9 w2 ⟨rfl, hb2⟩; have HK := hide (HK.out.step hb2);  obtain ⟨c0, c1, c2, c3, c4⟩ := HK.out.box; clear hb2)
    | (go_at_call 17; refine ((HE _).out).mono ?_; rintro e9 w2 ⟨rfl, hb2⟩; have HK := hide (HK.out.step hb2);  obtain ⟨c0, c1, c2, c3, c4⟩ := HK.out.box; clear hb2))
  go_ret
  exact ⟨rfl, HK.out.below⟩
end Go.Proofs.Ytpmljlmcfofppaa.Oct
