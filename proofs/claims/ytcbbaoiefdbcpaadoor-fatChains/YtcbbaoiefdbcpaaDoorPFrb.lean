/- The document's words of a first sector: Check, where the form is wrong. -/
import Derived.Test.YtcbbaoiefdbcpaaDoorPFra
namespace Go.Proofs.YtcbbaoiefdbcpaaDoor.Oct
open Go.RowKit

set_option maxHeartbeats 16000000 in
set_option maxRecDepth 100000 in
theorem rchk_bad (b : Bt) (w : World) (hf : b.form = false) :
    Calls Tryd.prog 35 #[.agg b.cs] w fun e w' => e = .returned (.int .i64 11) ∧ Below w.heap.size w w' := by
  obtain ⟨c0, c1, c2, c3, c4, c5, c6, c7⟩ := cells_of (Blk.new w b.cs 36)
  have HB := hide ((Below.refl w.heap.size w).alloc (Nat.le_refl _) (.cells b.cs 36))
  by_cases he : (b.each == 1 || b.each == 2 || b.each == 4 || b.each == 8) = true
  · have hcs : (b.each == 1) = true ∨ ((b.each == 1) = false ∧ (b.each == 2) = true) ∨ ((b.each == 1) = false ∧ (b.each == 2) = false ∧ (b.each == 4) = true) ∨ ((b.each == 1) = false ∧ (b.each == 2) = false ∧ (b.each == 4) = false ∧ (b.each == 8) = true) := by
      revert he
      cases (b.each == 1) <;> cases (b.each == 2) <;> cases (b.each == 4) <;> cases (b.each == 8) <;> simp
    by_cases k0 : b.tabs < 1
    · have D0 : decide (b.tabs < 1) = true := by simp; omega
      clear k0 hf he
      rcases hcs with f1 | ⟨f1, f2⟩ | ⟨f1, f2, f4⟩ | ⟨f1, f2, f4, f8⟩
      all_goals
        go_enter Tryd.func35, Tryd.ntmps35
        go_wp2_with fail
        go_ret
        exact ⟨rfl, HB.out⟩
    by_cases k1 : 2 < b.tabs
    · have D1 : decide (2 < b.tabs) = true := by simp; omega
      have D0 : decide (b.tabs < 1) = false := by simp; omega
      clear k0 k1 hf he
      rcases hcs with f1 | ⟨f1, f2⟩ | ⟨f1, f2, f4⟩ | ⟨f1, f2, f4, f8⟩
      all_goals
        go_enter Tryd.func35, Tryd.ntmps35
        go_wp2_with fail
        go_ret
        exact ⟨rfl, HB.out⟩
    by_cases k2 : b.secs < 1
    · have D2 : decide (b.secs < 1) = true := by simp; omega
      have D0 : decide (b.tabs < 1) = false := by simp; omega
      have D1 : decide (2 < b.tabs) = false := by simp; omega
      clear k0 k1 k2 hf he
      rcases hcs with f1 | ⟨f1, f2⟩ | ⟨f1, f2, f4⟩ | ⟨f1, f2, f4, f8⟩
      all_goals
        go_enter Tryd.func35, Tryd.ntmps35
        go_wp2_with fail
        go_ret
        exact ⟨rfl, HB.out⟩
    by_cases k3 : 32768 < b.secs
    · have D3 : decide (32768 < b.secs) = true := by simp; omega
      have D0 : decide (b.tabs < 1) = false := by simp; omega
      have D1 : decide (2 < b.tabs) = false := by simp; omega
      have D2 : decide (b.secs < 1) = false := by simp; omega
      clear k0 k1 k2 k3 hf he
      rcases hcs with f1 | ⟨f1, f2⟩ | ⟨f1, f2, f4⟩ | ⟨f1, f2, f4, f8⟩
      all_goals
        go_enter Tryd.func35, Tryd.ntmps35
        go_wp2_with fail
        go_ret
        exact ⟨rfl, HB.out⟩
    by_cases k4 : b.long < 1
    · have D4 : decide (b.long < 1) = true := by simp; omega
      have D0 : decide (b.tabs < 1) = false := by simp; omega
      have D1 : decide (2 < b.tabs) = false := by simp; omega
      have D2 : decide (b.secs < 1) = false := by simp; omega
      have D3 : decide (32768 < b.secs) = false := by simp; omega
      clear k0 k1 k2 k3 k4 hf he
      rcases hcs with f1 | ⟨f1, f2⟩ | ⟨f1, f2, f4⟩ | ⟨f1, f2, f4, f8⟩
      all_goals
        go_enter Tryd.func35, Tryd.ntmps35
        go_wp2_with fail
        go_ret
        exact ⟨rfl, HB.out⟩
    by_cases k5 : b.secs < b.long
    · have D5 : decide (b.secs < b.long) = true := by simp; omega
      have D0 : decide (b.tabs < 1) = false := by simp; omega
      have D1 : decide (2 < b.tabs) = false := by simp; omega
      have D2 : decide (b.secs < 1) = false := by simp; omega
      have D3 : decide (32768 < b.secs) = false := by simp; omega
      have D4 : decide (b.long < 1) = false := by simp; omega
      clear k0 k1 k2 k3 k4 k5 hf he
      rcases hcs with f1 | ⟨f1, f2⟩ | ⟨f1, f2, f4⟩ | ⟨f1, f2, f4, f8⟩
      all_goals
        go_enter Tryd.func35, Tryd.ntmps35
        go_wp2_with fail
        go_ret
        exact ⟨rfl, HB.out⟩
    by_cases k6 : b.ahead < 2
    · have D6 : decide (b.ahead < 2) = true := by simp; omega
      have D0 : decide (b.tabs < 1) = false := by simp; omega
      have D1 : decide (2 < b.tabs) = false := by simp; omega
      have D2 : decide (b.secs < 1) = false := by simp; omega
      have D3 : decide (32768 < b.secs) = false := by simp; omega
      have D4 : decide (b.long < 1) = false := by simp; omega
      have D5 : decide (b.secs < b.long) = false := by simp; omega
      clear k0 k1 k2 k3 k4 k5 k6 hf he
      rcases hcs with f1 | ⟨f1, f2⟩ | ⟨f1, f2, f4⟩ | ⟨f1, f2, f4, f8⟩
      all_goals
        go_enter Tryd.func35, Tryd.ntmps35
        go_wp2_with fail
        go_ret
        exact ⟨rfl, HB.out⟩
    by_cases k7 : 64 < b.ahead
    · have D7 : decide (64 < b.ahead) = true := by simp; omega
      have D0 : decide (b.tabs < 1) = false := by simp; omega
      have D1 : decide (2 < b.tabs) = false := by simp; omega
      have D2 : decide (b.secs < 1) = false := by simp; omega
      have D3 : decide (32768 < b.secs) = false := by simp; omega
      have D4 : decide (b.long < 1) = false := by simp; omega
      have D5 : decide (b.secs < b.long) = false := by simp; omega
      have D6 : decide (b.ahead < 2) = false := by simp; omega
      clear k0 k1 k2 k3 k4 k5 k6 k7 hf he
      rcases hcs with f1 | ⟨f1, f2⟩ | ⟨f1, f2, f4⟩ | ⟨f1, f2, f4, f8⟩
      all_goals
        go_enter Tryd.func35, Tryd.ntmps35
        go_wp2_with fail
        go_ret
        exact ⟨rfl, HB.out⟩
    by_cases k8 : b.info < 1
    · have D8 : decide (b.info < 1) = true := by simp; omega
      have D0 : decide (b.tabs < 1) = false := by simp; omega
      have D1 : decide (2 < b.tabs) = false := by simp; omega
      have D2 : decide (b.secs < 1) = false := by simp; omega
      have D3 : decide (32768 < b.secs) = false := by simp; omega
      have D4 : decide (b.long < 1) = false := by simp; omega
      have D5 : decide (b.secs < b.long) = false := by simp; omega
      have D6 : decide (b.ahead < 2) = false := by simp; omega
      have D7 : decide (64 < b.ahead) = false := by simp; omega
      clear k0 k1 k2 k3 k4 k5 k6 k7 k8 hf he
      rcases hcs with f1 | ⟨f1, f2⟩ | ⟨f1, f2, f4⟩ | ⟨f1, f2, f4, f8⟩
      all_goals
        go_enter Tryd.func35, Tryd.ntmps35
        go_wp2_with fail
        go_ret
        exact ⟨rfl, HB.out⟩
    by_cases k9 : b.ahead ≤ b.info
    · have D9 : decide (b.ahead ≤ b.info) = true := by simp; omega
      have D0 : decide (b.tabs < 1) = false := by simp; omega
      have D1 : decide (2 < b.tabs) = false := by simp; omega
      have D2 : decide (b.secs < 1) = false := by simp; omega
      have D3 : decide (32768 < b.secs) = false := by simp; omega
      have D4 : decide (b.long < 1) = false := by simp; omega
      have D5 : decide (b.secs < b.long) = false := by simp; omega
      have D6 : decide (b.ahead < 2) = false := by simp; omega
      have D7 : decide (64 < b.ahead) = false := by simp; omega
      have D8 : decide (b.info < 1) = false := by simp; omega
      clear k0 k1 k2 k3 k4 k5 k6 k7 k8 k9 hf he
      rcases hcs with f1 | ⟨f1, f2⟩ | ⟨f1, f2, f4⟩ | ⟨f1, f2, f4, f8⟩
      all_goals
        go_enter Tryd.func35, Tryd.ntmps35
        go_wp2_with fail
        go_ret
        exact ⟨rfl, HB.out⟩
    by_cases k10 : b.copy < 0
    · have D10 : decide (b.copy < 0) = true := by simp; omega
      have D0 : decide (b.tabs < 1) = false := by simp; omega
      have D1 : decide (2 < b.tabs) = false := by simp; omega
      have D2 : decide (b.secs < 1) = false := by simp; omega
      have D3 : decide (32768 < b.secs) = false := by simp; omega
      have D4 : decide (b.long < 1) = false := by simp; omega
      have D5 : decide (b.secs < b.long) = false := by simp; omega
      have D6 : decide (b.ahead < 2) = false := by simp; omega
      have D7 : decide (64 < b.ahead) = false := by simp; omega
      have D8 : decide (b.info < 1) = false := by simp; omega
      have D9 : decide (b.ahead ≤ b.info) = false := by simp; omega
      clear k0 k1 k2 k3 k4 k5 k6 k7 k8 k9 k10 hf he
      rcases hcs with f1 | ⟨f1, f2⟩ | ⟨f1, f2, f4⟩ | ⟨f1, f2, f4, f8⟩
      all_goals
        go_enter Tryd.func35, Tryd.ntmps35
        go_wp2_with fail
        go_ret
        exact ⟨rfl, HB.out⟩
    by_cases k11 : b.ahead ≤ b.copy
    · have D11 : decide (b.ahead ≤ b.copy) = true := by simp; omega
      have D0 : decide (b.tabs < 1) = false := by simp; omega
      have D1 : decide (2 < b.tabs) = false := by simp; omega
      have D2 : decide (b.secs < 1) = false := by simp; omega
      have D3 : decide (32768 < b.secs) = false := by simp; omega
      have D4 : decide (b.long < 1) = false := by simp; omega
      have D5 : decide (b.secs < b.long) = false := by simp; omega
      have D6 : decide (b.ahead < 2) = false := by simp; omega
      have D7 : decide (64 < b.ahead) = false := by simp; omega
      have D8 : decide (b.info < 1) = false := by simp; omega
      have D9 : decide (b.ahead ≤ b.info) = false := by simp; omega
      have D10 : decide (b.copy < 0) = false := by simp; omega
      clear k0 k1 k2 k3 k4 k5 k6 k7 k8 k9 k10 k11 hf he
      rcases hcs with f1 | ⟨f1, f2⟩ | ⟨f1, f2, f4⟩ | ⟨f1, f2, f4, f8⟩
      all_goals
        go_enter Tryd.func35, Tryd.ntmps35
        go_wp2_with fail
        go_ret
        exact ⟨rfl, HB.out⟩
    by_cases k12 : b.copy = b.info
    · have D12 : (b.copy == b.info) = true := by simpa using k12
      have D0 : decide (b.tabs < 1) = false := by simp; omega
      have D1 : decide (2 < b.tabs) = false := by simp; omega
      have D2 : decide (b.secs < 1) = false := by simp; omega
      have D3 : decide (32768 < b.secs) = false := by simp; omega
      have D4 : decide (b.long < 1) = false := by simp; omega
      have D5 : decide (b.secs < b.long) = false := by simp; omega
      have D6 : decide (b.ahead < 2) = false := by simp; omega
      have D7 : decide (64 < b.ahead) = false := by simp; omega
      have D8 : decide (b.info < 1) = false := by simp; omega
      have D9 : decide (b.ahead ≤ b.info) = false := by simp; omega
      have D10 : decide (b.copy < 0) = false := by simp; omega
      have D11 : decide (b.ahead ≤ b.copy) = false := by simp; omega
      clear k0 k1 k2 k3 k4 k5 k6 k7 k8 k9 k10 k11 k12 hf he
      rcases hcs with f1 | ⟨f1, f2⟩ | ⟨f1, f2, f4⟩ | ⟨f1, f2, f4, f8⟩
      all_goals
        go_enter Tryd.func35, Tryd.ntmps35
        go_wp2_with fail
        go_ret
        exact ⟨rfl, HB.out⟩
    exfalso
    have hT : b.form = true := by
      unfold Bt.form
      rw [he]
      simp [witN]
      omega
    rw [hT] at hf
    exact absurd hf (by simp)
  · simp only [Bool.or_eq_true, beq_iff_eq, not_or] at he
    obtain ⟨⟨⟨e1, e2⟩, e4⟩, e8⟩ := he
    have f1 : (b.each == 1) = false := by simpa using e1
    have f2 : (b.each == 2) = false := by simpa using e2
    have f4 : (b.each == 4) = false := by simpa using e4
    have f8 : (b.each == 8) = false := by simpa using e8
    clear e1 e2 e4 e8 hf
    go_enter Tryd.func35, Tryd.ntmps35
    go_wp2_with fail
    go_ret
    exact ⟨rfl, HB.out⟩
end Go.Proofs.YtcbbaoiefdbcpaaDoor.Oct
