/- Has, by the reference. -/
import Derived.Test.YtlkfabcjknaogaaNor
namespace Go.Proofs.Ytlkfabcjknaogaa.Oct
open Go.RowKit

theorem InE.of_at {L : List (Int × Int)} {k : Nat} {x : Int} (hk : k < L.length) (h1 : (L.getD k (0, 0)).1 ≤ x) (h2 : x < (L.getD k (0, 0)).2) : InE L x := by
  refine ⟨L.getD k (0, 0), ?_, h1, h2⟩
  have e : L.getD k (0, 0) = L[k] := by simp [hk]
  rw [e]
  exact List.getElem_mem hk

set_option maxHeartbeats 2000000 in
set_option maxRecDepth 100000 in
theorem refhas_any (w : World) (a : Option Addr) (c : Nat) (L : List (Int × Int)) (x : Int) (h : LiesE w a L) (hl : L.length ≤ 1000000) :
    Calls Try.prog 12 #[.slice a L.length c, .int .i64 x] w fun e w' => ∃ b, e = .returned (.bool b) ∧ (b = true ↔ InE L x) ∧ w' = w := by
  have HL := hide h
  clear h
  go_enter Try.func12, Try.ntmps12
  go_wp2_with fail
  go_loopw [5] (fun i wr => ∃ k : Nat, k ≤ L.length ∧ i = .int .i64 k ∧ (∀ r, r < k → ¬ ((L.getD r (0, 0)).1 ≤ x ∧ x < (L.getD r (0, 0)).2)) ∧ wr = w) (fun i _ => L.length - (intOf i).toNat)
  case atStart => exact ⟨0, by omega, by simp, fun r hr => by omega, rfl⟩
  case round =>
    obtain ⟨k, hk, rfl, hall, rfl⟩ := hrel
    have HAll := hide hall
    clear hall
    by_cases hlt : k < L.length
    · rcases HL.out with hnil | ⟨b, off, ha, hb, hc⟩
      · rw [hnil] at hlt; simp at hlt
      subst ha
      obtain ⟨c0, c1⟩ := hc k hlt
      have hk0 : (0 : Int) ≤ (k : Int) := by omega
      have hk1 : (k : Int) < (L.length : Int) := by omega
      have HI := hide (fun h1 h2 => InE.of_at (L := L) (x := x) hlt h1 h2)
      obtain ⟨o, ho⟩ : ∃ o, o = L.getD k (0, 0) := ⟨_, rfl⟩
      rw [← ho] at c0 c1 HI
      have HOk := hide ho
      clear hc ho
      obtain ⟨o1, o2⟩ := o
      dsimp only at c0 c1 HI
      have HNo : Hid (¬ (o1 ≤ x ∧ x < o2) → ∀ r, r < k + 1 → ¬ ((L.getD r (0, 0)).1 ≤ x ∧ x < (L.getD r (0, 0)).2)) := hide (fun hno r hr => by
        rcases Nat.lt_or_ge r k with hr2 | hr2
        · exact HAll.out r hr2
        · obtain rfl : r = k := by omega
          rw [← HOk.out]
          exact hno)
      by_cases h1 : o1 ≤ x
      · by_cases h2 : x < o2
        · go_wp2_with fail
          go_ret
          exact ⟨true, rfl, ⟨fun _ => HI.out h1 h2, fun _ => rfl⟩, rfl⟩
        · go_wp2_with fail
          go_roundw
          case rel => exact ⟨k + 1, by omega, by go_num, HNo.out (by omega), trivial⟩
          case measure => simp [intOf]; omega
      · go_wp2_with fail
        go_roundw
        case rel => exact ⟨k + 1, by omega, by go_num, HNo.out (by omega), trivial⟩
        case measure => simp [intOf]; omega
    · obtain rfl : k = L.length := by omega
      go_wp2_with fail
      go_ret
      refine ⟨false, rfl, ⟨fun h => (by cases h), fun ⟨p, hp, h1, h2⟩ => ?_⟩, rfl⟩
      obtain ⟨i, hi, rfl⟩ := List.getElem_of_mem hp
      exact absurd (show (L.getD i (0, 0)).1 ≤ x ∧ x < (L.getD i (0, 0)).2 by simp [hi]; exact ⟨h1, h2⟩) (HAll.out i hi)

end Go.Proofs.Ytlkfabcjknaogaa.Oct
