/- What the call Join answers: the parts, one behind the other, as new memory. -/
import Derived.Test.YtmfnpifjinbaeacLow
import Derived.Test.YtmfnpifjinbaeacPts
namespace Go.Proofs.Ytmfnpifjinbaeac.Oct
open Go.RowKit

theorem over_join (m X q : List Int) : over (over m 0 X) X.length q = over m 0 (X ++ q) := by
  unfold over
  have e : List.drop (X.length + q.length) (X ++ List.drop X.length m) = List.drop (X.length + q.length) m := by
    rw [List.drop_append, List.drop_of_length_le (by omega), List.nil_append, List.drop_drop]
    congr 1
    omega
  simp [e]

theorem over_full (m X : List Int) (h : X.length = m.length) : over m 0 X = X := by
  simp [over, h]

set_option maxHeartbeats 1000000 in
theorem Join_some (b off cap : Nat) (Ls : List (List Int)) (w : World) (hn : Ls.length ≤ 1000000) (htot : Ls.flatten.length ≤ 1000000) (hblt : b < w.heap.size)
    (hc : ∀ r, r < Ls.length → ∃ ar cr, w.cell? ⟨b, off + r, none⟩ = some (.slice ar (Ls.getD r []).length cr) ∧ Sl w ar cr (Ls.getD r [])) :
    Calls Try.prog 9 #[.slice (some ⟨b, off, none⟩) Ls.length cap] w fun e w' => ∃ v, e = .returned v ∧ Own w' w.heap.size v Ls.flatten ∧ Below w.heap.size w w' := by
  have HC := hide hc
  clear hc
  go_enter Try.func9, Try.ntmps9
  go_wp2_with fail
  go_loop [3, 12] (fun t i => ∃ k : Nat, k ≤ Ls.length ∧ i = .int .i64 k ∧ t = .int .i64 ((Ls.take k).flatten.length)) (fun _ i => Ls.length - (intOf i).toNat)
  case atStart => exact ⟨0, by omega, rfl, rfl⟩
  case round =>
    obtain ⟨k, hk, rfl, rfl⟩ := hrel
    have hle1 := flat_le Ls k
    by_cases hlt : k < Ls.length
    · obtain ⟨ar, cr, hcell, hsl⟩ := HC.out k hlt
      have hle2 := flat_le Ls (k + 1)
      have hst := flat_step Ls k hlt
      have HST : Hid ((Ls.take (k + 1)).flatten.length = (Ls.take k).flatten.length + (Ls.getD k []).length) := by show _ = _; rw [hst]; simp
      rw [HST.out] at hle2
      clear hst hsl
      generalize Ls.getD k [] = q at *
      generalize (Ls.take k).flatten.length = t at *
      go_wp2_with fail
      go_round
      case rel => exact ⟨k + 1, by omega, by go_num, by rw [HST.out]; go_num⟩
      case measure => simp [intOf]; omega
    · obtain rfl : k = Ls.length := by omega
      rw [flat_all] at *
      generalize hT : Ls.flatten.length = T at htot hle1 ⊢
      have HT := hide hT
      clear hT
      have hmk := run_make_bytes w T (by omega)
      have HO := hide (Own.made w T (by unfold maxLen; omega))
      have HB := hide ((Below.refl w.heap.size w).alloc (Nat.le_refl _) (.cells (madeCells #[.int .u8 0] T) 5))
      go_wp2_with fail
      clear hmk
      go_loopw [7, 30] (fun t i wr => ∃ k : Nat, k ≤ Ls.length ∧ i = .int .i64 k ∧ t = .int .i64 ((Ls.take k).flatten.length) ∧ Own wr w.heap.size (.slice (some ⟨w.heap.size, 0, none⟩) T T) (over (List.replicate T 0) 0 (Ls.take k).flatten) ∧ Below w.heap.size w wr) (fun _ i _ => Ls.length - (intOf i).toNat)
      case atStart => exact ⟨0, by omega, rfl, rfl, by simpa [over] using HO.out, HB.out⟩
      case round =>
        obtain ⟨k, hk, rfl, rfl, ho, hbel⟩ := hrel
        have hle1 := flat_le Ls k
        rw [HT.out] at hle1
        by_cases hlt : k < Ls.length
        · obtain ⟨ar, cr, hcell0, hsl0⟩ := HC.out k hlt
          have hcell := (hbel.cell (p := ⟨b, off + k, none⟩) hblt).trans hcell0
          have HSL := hide ((hsl0.below hbel).lies)
          have hle2 := flat_le Ls (k + 1)
          have hst := flat_step Ls k hlt
          have HST : Hid ((Ls.take (k + 1)).flatten.length = (Ls.take k).flatten.length + (Ls.getD k []).length) := by show _ = _; rw [hst]; simp
          have HS2 := hide hst
          rw [HST.out, HT.out] at hle2
          have HJ : Hid (over (over (List.replicate T 0) 0 (Ls.take k).flatten) (Ls.take k).flatten.length (Ls.getD k []) = over (List.replicate T 0) 0 (Ls.take (k + 1)).flatten) := by show _ = _; rw [over_join, ← hst]
          have HLn : Hid (T = (over (List.replicate T 0) 0 (Ls.take k).flatten).length) := by show _ = _; rw [over_length (by rw [List.length_replicate]; omega)]; simp
          have HO2 := hide ho
          clear hst hsl0 hcell0 ho
          generalize Ls.getD k [] = q at *
          generalize (Ls.take k).flatten = X at *
          by_cases hend : X.length < T
          · obtain ⟨w1, hrun, ho1, hg1⟩ := run_copy_part (P := Try.prog) (dT := 22) (sT := 22) (ty := 3) Try.underlying22 size5 wr w.heap.size w.heap.size X.length T T (T - X.length) (T - X.length) q.length cr (some ⟨w.heap.size, X.length, none⟩) ar
              q (over (List.replicate T 0) 0 X) HO2.out HLn.out HSL.out (fun _ => rfl) (Nat.min_eq_left (by omega)).symm (by rw [← HLn.out]; omega)
            have HO3 := hide ho1
            have HB3 := hide (hbel.grown hg1 hbel.size (by intro j hj; simp at hj; omega))
            clear ho1 hg1
            go_wp2_with fail
            go_roundw
            case rel => exact ⟨k + 1, by omega, by go_num, by rw [HST.out]; go_num, by rw [← HJ.out]; exact HO3.out, HB3.out⟩
            case measure => simp [intOf]; omega
          · obtain rfl : q = [] := List.length_eq_zero_iff.1 (by omega)
            have hXT : X.length = T := by omega
            have hcp : ∀ (d a : Option Addr) (dLen dCap sCap : Nat) (w : World), (Builtin.copy_ #[22, 22] 3 #[.slice d dLen dCap, .slice a 0 sCap]).run Try.prog w = .ok (goInt 0) w :=
              fun d a dLen dCap sCap w => run_copy_none w 22 22 3 5 d a dLen dCap 0 sCap Try.underlying22 size5 (by simp)
            have HJ2 : Hid (over (List.replicate T 0) 0 (Ls.take (k + 1)).flatten = over (List.replicate T 0) 0 X) := by
              show _ = _
              rw [HS2.out, List.append_nil]
            go_wp2_with fail
            all_goals
              go_roundw
              case rel => exact ⟨k + 1, by omega, by go_num, by rw [HST.out, hXT]; simp, by rw [HJ2.out]; exact HO2.out, hbel⟩
              case measure => simp [intOf]; omega
        · obtain rfl : k = Ls.length := by omega
          rw [flat_all] at *
          rw [over_full _ _ (by rw [HT.out]; simp)] at ho
          go_wp2_with fail
          go_ret
          exact ⟨_, rfl, ho, hbel⟩

set_option maxHeartbeats 400000 in
theorem Join_empty (a : Option Addr) (cap : Nat) (w : World) :
    Calls Try.prog 9 #[.slice a 0 cap] w fun e w' => ∃ v, e = .returned v ∧ Own w' w.heap.size v [] ∧ Below w.heap.size w w' := by
  have hmk : (Instr.makeSlice 22 (.int .i64 0) (.int .i64 0)).run Try.prog w = .ok (.slice (some ⟨w.heap.size, 0, none⟩) 0 0) (w.alloc (.cells (madeCells #[.int .u8 0] 0) 5)) := run_make_bytes w 0 (by omega)
  have HO := hide (Own.made w 0 (by unfold maxLen; omega))
  go_enter Try.func9, Try.ntmps9
  go_wp2_with fail
  refine wp_loop_rounds 1 ?_
  rw [rounds_succ]
  go_wp2_with fail
  refine wp_loop_rounds 1 ?_
  rw [rounds_succ]
  go_wp2_with fail
  go_ret
  exact ⟨_, rfl, HO.out, (Below.refl _ _).alloc (Nat.le_refl _) _⟩

theorem Join_any (a : Option Addr) (cap : Nat) (Ls : List (List Int)) (w : World) (hn : Ls.length ≤ 1000000) (htot : Ls.flatten.length ≤ 1000000) (hp : Pts w a Ls) :
    Calls Try.prog 9 #[.slice a Ls.length cap] w fun e w' => ∃ v, e = .returned v ∧ Own w' w.heap.size v Ls.flatten ∧ Below w.heap.size w w' := by
  rcases hp with rfl | ⟨b, off, rfl, hlt, hc⟩
  · exact Join_empty a cap w
  · exact Join_some b off cap Ls w hn htot hlt hc
end Go.Proofs.Ytmfnpifjinbaeac.Oct
