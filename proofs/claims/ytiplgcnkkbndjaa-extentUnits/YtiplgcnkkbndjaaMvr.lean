/- Moved, by the reference. -/
import Derived.Test.YtiplgcnkkbndjaaFlr
import Derived.Test.YtiplgcnkkbndjaaMov
namespace Go.Proofs.Ytiplgcnkkbndjaa.Oct
open Go.RowKit

set_option maxHeartbeats 4000000 in
set_option maxRecDepth 100000 in
theorem refmoved_any (w : World) (a : Option Addr) (c : Nat) (L : List (Int × Int)) (h : LiesE w a L) (hl : L.length ≤ 1000) (hne : Near L) (u : Int) (hu : -1125899906842624 ≤ u ∧ u ≤ 1125899906842624) :
    Calls Try.prog 30 #[.slice a L.length c, .int .i64 u] w fun e w' => ∃ v N, e = .returned v ∧ Refd L N ∧ N.length ≤ 2000 ∧ OwnE w' w.heap.size v (N.map (mov u)) ∧ Below w.heap.size w w' := by
  obtain ⟨i1, hi, hz0, hz1, hz2⟩ := info_parts info_E
  have HNr := hide (refnorm_any w a c L h hl)
  clear h
  go_enter Try.func30, Try.ntmps30
  go_wp2_with fail
  refine HNr.out.mono ?_
  rintro e w1 ⟨v1, N, rfl, ho1, hr1, hNl, hb1⟩
  have HR := hide hr1
  have HB1 := hide hb1
  have HNe := hide (hr1.near hne)
  obtain ⟨aN, cN, hv1, hlN, _, _, _⟩ := ho1.form
  subst hv1
  have HM := hide hlN
  clear ho1 hr1 hb1 hlN HNr hne
  go_wp2_with fail
  go_loopw [5, 7] (fun v i wr => ∃ (k : Nat) (O : List (Int × Int)), k ≤ N.length ∧ i = .int .i64 k ∧ O = (N.take k).map (mov u) ∧ OwnE wr w1.heap.size v O ∧ Below w1.heap.size w1 wr) (fun _ i _ => N.length - (intOf i).toNat)
  case atStart => exact ⟨0, [], by omega, by simp, by simp, OwnE.nil _ _, Below.refl _ _⟩
  case round =>
    obtain ⟨k, O, hk, rfl, hO, ho, hbel⟩ := hrel
    have HO := hide ho
    have HBel := hide hbel
    have HOe := hide hO
    have hsz := hbel.size
    have hpl2 : O.length ≤ k := by rw [hO]; simp; omega
    clear ho hbel hO
    obtain ⟨ao, co, hvo, _, hoc, hom, _⟩ := HO.out.form
    subst hvo
    by_cases hlt : k < N.length
    · rcases HM.out with hnil | ⟨b, off, ha, hb, hc⟩
      · rw [hnil] at hlt; simp at hlt
      subst ha
      obtain ⟨q0, q1⟩ := hc k hlt
      have r0 := (HBel.out.cell (p := ⟨b, off + k * 2, none⟩) hb).trans q0
      have r1 := (HBel.out.cell (p := ⟨b, off + k * 2 + 1, none⟩) hb).trans q1
      have hk0 : (0 : Int) ≤ (k : Int) := by omega
      have hk1 : (k : Int) < (N.length : Int) := by omega
      have HSt := hide (take_step N k hlt)
      have hnx := HNe.out _ (getD_mem N k hlt)
      obtain ⟨x, hx⟩ : ∃ x, x = N.getD k (0, 0) := ⟨_, rfl⟩
      rw [← hx] at r0 r1 HSt hnx
      obtain ⟨x1, x2⟩ := x
      dsimp only at r0 r1 hnx
      clear hc q0 q1 hx
      have hm1 : IntKind.i64.wrap (x1 + u) = x1 + u := by rw [IntKind.wrap_i64]; omega
      have hm2 : IntKind.i64.wrap (x2 + u) = x2 + u := by rw [IntKind.wrap_i64]; omega
      have HN3 := hide (new2 wr.drew 37 (.int .i64 (x1 + u)) (.int .i64 (x2 + u)))
      have HO3 := hide (World.ownsRow.alloc (show OwnE wr.drew w1.heap.size (.slice ao O.length co) O from HO.out) (.cells #[.int .i64 (x1 + u), .int .i64 (x2 + u)] 37))
      have HB3 := hide ((HBel.out.drew).alloc HBel.out.size (.cells #[.int .i64 (x1 + u), .int .i64 (x2 + u)] 37))
      have e0 : wr.drew.cell? ⟨b, off + k * 2, none⟩ = some (.int .i64 x1) := r0
      have e1 : wr.drew.cell? ⟨b, off + k * 2 + 1, none⟩ = some (.int .i64 x2) := r1
      go_wp2_with fail
      go_region_law (refine step_append_row (by rfl) (.tmp 16) (.tmp 32) 22 (by rfl) w1.heap.size 37 i1 (.agg #[.int .i64 0, .int .i64 0]) 2 16 Try.underlying22 hi hz0 hz1 hz2 (by rfl) (by decide) (.slice ao O.length co) O.length (O.flatMap encE) (by rfl) HO3.out ⟨wr.heap.size, 0, none⟩ 1 1 [.int .i64 (x1 + u), .int .i64 (x2 + u)] (by rfl) (by rfl) (by exact HN3.out) (by simp [Value.oneCell']) (by unfold maxLen; omega) (by omega) HB3.out.size ?_; intro v5 w5 ho5 hg5 _; have HO5 := hide ho5; have HG5 := hide hg5; clear ho5 hg5)
      all_goals
        have ho6 : OwnE w5 w1.heap.size v5 (O ++ [(x1 + u, x2 + u)]) := by
          unfold OwnE
          rw [List.flatMap_append, List.length_append]
          exact HO5.out
        have HO6 := hide ho6
        have HB6 := hide (HB3.out.grown HG5.out HB3.out.size (fun q hq => (World.ownsRow.lt HO3.out q hq).1))
        have HE6 : Hid (O ++ [(x1 + u, x2 + u)] = (N.take (k + 1)).map (mov u)) := hide (by rw [HSt.out, List.map_append, ← HOe.out]; rfl)
        clear ho6
        go_wp2_with fail
        refine ⟨⟨k + 1, _, by omega, by go_num, HE6.out, HO6.out, HB6.out⟩, ?_⟩
        simp [intOf]; omega
    · obtain rfl : k = N.length := by omega
      have HE6 : Hid (O = N.map (mov u)) := hide (by have := HOe.out; rw [List.take_length] at this; exact this)
      clear HOe
      go_wp2_with fail
      go_ret
      refine ⟨_, N, rfl, HR.out, hNl, ?_, HB1.out.trans (HBel.out.mono HB1.out.size)⟩
      rw [← HE6.out]
      exact HO.out.mono HB1.out.size

end Go.Proofs.Ytiplgcnkkbndjaa.Oct
