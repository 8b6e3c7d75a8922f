/- What a first sector says: formed. -/
import Derived.Test.YthhodmiobpocbaaDoorPFba
namespace Go.Proofs.YthhodmiobpocbaaDoor.Oct
open Go.RowKit

/-- May each field be what it is? -/
def Bt.form (b : Bt) : Bool := (((((((b.each == 1 || b.each == 2 || b.each == 4 || b.each == 8) && witN 1 2 b.tabs) && witN 1 32768 b.secs) && witN 1 b.secs b.long) && witN 2 64 b.ahead) && witN 1 (b.ahead - 1) b.info) && witN 0 (b.ahead - 1) b.copy) && b.copy != b.info

set_option maxHeartbeats 8000000 in
theorem formed_any (b : Bt) (w : World) :
    Calls Tryd.prog 65 #[.agg b.cs] w fun e w' => e = .returned (.bool b.form) ∧ Below w.heap.size w w' := by
  obtain ⟨c0, c1, c2, c3, c4, c5, c6, c7⟩ := cells_of (Blk.new w b.cs 64)
  have HB := hide ((Below.refl w.heap.size w).alloc (Nat.le_refl _) (.cells b.cs 64))
  have HWi := fun x y n u => hide (within_any x y n u)
  by_cases he : (b.each == 1 || b.each == 2 || b.each == 4 || b.each == 8) = true
  · have HE := hide he
    have hcs : (b.each == 1) = true ∨ ((b.each == 1) = false ∧ (b.each == 2) = true) ∨ ((b.each == 1) = false ∧ (b.each == 2) = false ∧ (b.each == 4) = true) ∨ ((b.each == 1) = false ∧ (b.each == 2) = false ∧ (b.each == 4) = false ∧ (b.each == 8) = true) := by
      revert he
      cases (b.each == 1) <;> cases (b.each == 2) <;> cases (b.each == 4) <;> cases (b.each == 8) <;> simp
    clear he
    rcases hcs with f1 | ⟨f1, f2⟩ | ⟨f1, f2, f4⟩ | ⟨f1, f2, f4, f8⟩
    all_goals
      go_enter Tryd.func65, Tryd.ntmps65
      go_wp2_with fail
      refine (HWi _ _ _ _).out.mono ?_
      rintro e9 w2 ⟨rfl, h2⟩
      rw [h2]
      clear h2
      cases g0 : witN 1 2 b.tabs
      · have G0 := hide g0
        clear g0
        go_wp2_with fail
        go_ret
        exact ⟨by rw [show b.form = false by unfold Bt.form; rw [HE.out, G0.out]; rfl]; rfl, HB.out⟩
      have G0 := hide g0
      clear g0
      go_wp2_with fail
      refine (HWi _ _ _ _).out.mono ?_
      rintro e9 w3 ⟨rfl, h2⟩
      rw [h2]
      clear h2
      cases g1 : witN 1 32768 b.secs
      · have G1 := hide g1
        clear g1
        go_wp2_with fail
        go_ret
        exact ⟨by rw [show b.form = false by unfold Bt.form; rw [HE.out, G0.out, G1.out]; rfl]; rfl, HB.out⟩
      have G1 := hide g1
      clear g1
      go_wp2_with fail
      refine (HWi _ _ _ _).out.mono ?_
      rintro e9 w4 ⟨rfl, h2⟩
      rw [h2]
      clear h2
      cases g2 : witN 1 b.secs b.long
      · have G2 := hide g2
        clear g2
        go_wp2_with fail
        go_ret
        exact ⟨by rw [show b.form = false by unfold Bt.form; rw [HE.out, G0.out, G1.out, G2.out]; rfl]; rfl, HB.out⟩
      have G2 := hide g2
      clear g2
      go_wp2_with fail
      refine (HWi _ _ _ _).out.mono ?_
      rintro e9 w5 ⟨rfl, h2⟩
      rw [h2]
      clear h2
      cases g3 : witN 2 64 b.ahead
      · have G3 := hide g3
        clear g3
        go_wp2_with fail
        go_ret
        exact ⟨by rw [show b.form = false by unfold Bt.form; rw [HE.out, G0.out, G1.out, G2.out, G3.out]; rfl]; rfl, HB.out⟩
      have G3 := hide g3
      clear g3
      have hwr : IntKind.i64.wrap (b.ahead - 1) = b.ahead - 1 := by have := G3.out; simp [witN] at this; rw [IntKind.wrap_i64]; omega
      go_wp2_with fail
      refine (HWi _ _ _ _).out.mono ?_
      rintro e9 w6 ⟨rfl, h2⟩
      rw [h2]
      clear h2
      cases g4 : witN 1 (b.ahead - 1) b.info
      · have G4 := hide g4
        clear g4
        go_wp2_with fail
        go_ret
        exact ⟨by rw [show b.form = false by unfold Bt.form; rw [HE.out, G0.out, G1.out, G2.out, G3.out, G4.out]; rfl]; rfl, HB.out⟩
      have G4 := hide g4
      clear g4
      go_wp2_with fail
      refine (HWi _ _ _ _).out.mono ?_
      rintro e9 w7 ⟨rfl, h2⟩
      rw [h2]
      clear h2
      cases g5 : witN 0 (b.ahead - 1) b.copy
      · have G5 := hide g5
        clear g5
        go_wp2_with fail
        go_ret
        exact ⟨by rw [show b.form = false by unfold Bt.form; rw [HE.out, G0.out, G1.out, G2.out, G3.out, G4.out, G5.out]; rfl]; rfl, HB.out⟩
      have G5 := hide g5
      clear g5
      go_wp2_with fail
      go_ret
      exact ⟨by rw [show b.form = (b.copy != b.info) by unfold Bt.form; rw [HE.out, G0.out, G1.out, G2.out, G3.out, G4.out, G5.out]; rfl]; rfl, HB.out⟩
  · have e0 : b.form = false := by unfold Bt.form; simp only [Bool.not_eq_true] at he; rw [he]; rfl
    rw [e0]
    simp only [Bool.or_eq_true, beq_iff_eq, not_or] at he
    obtain ⟨⟨⟨e1, e2⟩, e4⟩, e8⟩ := he
    have f1 : (b.each == 1) = false := by simpa using e1
    have f2 : (b.each == 2) = false := by simpa using e2
    have f4 : (b.each == 4) = false := by simpa using e4
    have f8 : (b.each == 8) = false := by simpa using e8
    clear e0
    go_enter Tryd.func65, Tryd.ntmps65
    go_wp2_with fail
    go_ret
    exact ⟨rfl, HB.out⟩
end Go.Proofs.YthhodmiobpocbaaDoor.Oct
