/- Has: is a byte in a set? -/
import Derived.Test.YtgmifbknmjdemaaGreatPHsr
namespace Go.Proofs.YtgmifbknmjdemaaGreat.Oct
open Go.RowKit

set_option maxHeartbeats 2000000 in
set_option maxRecDepth 100000 in
theorem has_any (w : World) (a : Option Addr) (c : Nat) (L : List (Int × Int)) (x : Int) (h : LiesE w a L) (hl : L.length ≤ 1000000) :
    Calls Tryz.prog 17 #[.slice a L.length c, .int .i64 x] w fun e w' => ∃ b, e = .returned (.bool b) ∧ (b = true ↔ InE L x) ∧ Below w.heap.size w w' := by
  have HL := hide h
  clear h
  go_enter Tryz.func17, Tryz.ntmps17
  go_wp2_with fail
  go_loopw [9] (fun i wr => ∃ k : Nat, k ≤ L.length ∧ i = .int .i64 k ∧ (∀ r, r < k → ¬ ((L.getD r (0, 0)).1 ≤ x ∧ x < (L.getD r (0, 0)).2)) ∧ Below w.heap.size w wr) (fun i _ => L.length - (intOf i).toNat)
  case atStart => exact ⟨0, by omega, by simp, fun r hr => by omega, Below.refl _ _⟩
  case round =>
    obtain ⟨k, hk, rfl, hall, hbel⟩ := hrel
    have HAll := hide hall
    have HBel := hide hbel
    clear hall hbel
    by_cases hlt : k < L.length
    · rcases HL.out with hnil | ⟨b, off, ha, hb, hc⟩
      · rw [hnil] at hlt; simp at hlt
      subst ha
      obtain ⟨q0, q1⟩ := hc k hlt
      have c0 := (HBel.out.cell (p := ⟨b, off + k * 2, none⟩) hb).trans q0
      have c1 := (HBel.out.cell (p := ⟨b, off + k * 2 + 1, none⟩) hb).trans q1
      have hk0 : (0 : Int) ≤ (k : Int) := by omega
      have hk1 : (k : Int) < (L.length : Int) := by omega
      have HI := hide (fun h1 h2 => InE.of_at (L := L) (x := x) hlt h1 h2)
      obtain ⟨o, ho⟩ : ∃ o, o = L.getD k (0, 0) := ⟨_, rfl⟩
      rw [← ho] at c0 c1 HI
      have HOk := hide ho
      clear hc ho q0 q1
      obtain ⟨o1, o2⟩ := o
      dsimp only at c0 c1 HI
      obtain ⟨d0, d1⟩ := box2e wr 40 (.int .i64 o1) (.int .i64 o2)
      have HB2 := hide (HBel.out.alloc HBel.out.size (.cells #[.int .i64 o1, .int .i64 o2] 40))
      have HNo : Hid (¬ (o1 ≤ x ∧ x < o2) → ∀ r, r < k + 1 → ¬ ((L.getD r (0, 0)).1 ≤ x ∧ x < (L.getD r (0, 0)).2)) := hide (fun hno r hr => by
        rcases Nat.lt_or_ge r k with hr2 | hr2
        · exact HAll.out r hr2
        · obtain rfl : r = k := by omega
          rw [← HOk.out]
          exact hno)
      by_cases h1 : o1 ≤ x
      · by_cases h2 : x < o2
        · go_wp2_with fail
          go_ret
          first
            | exact ⟨true, rfl, ⟨fun _ => HI.out h1 h2, fun _ => rfl⟩, HB2.out⟩
            | exact Or.inr ⟨rfl, HI.out h1 h2, HB2.out⟩
        · go_wp2_with fail
          go_roundw
          case rel => exact ⟨k + 1, by omega, by go_num, HNo.out (by omega), HB2.out⟩
          case measure => simp [intOf]; omega
      · go_wp2_with fail
        go_roundw
        case rel => exact ⟨k + 1, by omega, by go_num, HNo.out (by omega), HB2.out⟩
        case measure => simp [intOf]; omega
    · obtain rfl : k = L.length := by omega
      have HF : Hid (¬ InE L x) := hide (fun ⟨p, hp, h1, h2⟩ => by
        obtain ⟨i, hi, rfl⟩ := List.getElem_of_mem hp
        exact absurd (show (L.getD i (0, 0)).1 ≤ x ∧ x < (L.getD i (0, 0)).2 by simp [hi]; exact ⟨h1, h2⟩) (HAll.out i hi))
      go_wp2_with fail
      go_ret
      first
        | exact ⟨false, rfl, ⟨fun h => (by cases h), fun h => absurd h HF.out⟩, HBel.out⟩
        | exact Or.inl ⟨rfl, HF.out, HBel.out⟩

end Go.Proofs.YtgmifbknmjdemaaGreat.Oct
