/- Whether a boot's numbers are greater than some. -/
import Derived.Test.YtbldkebolmellaaDoorFbt
namespace Go.Proofs.YtbldkebolmellaaDoor.Oct
open Go.RowKit

/-- Numbers that are no greater than some. -/
def Bt.some (b : Bt) : Prop := (-1099511627776 ≤ b.each ∧ b.each ≤ 1099511627776) ∧ (-1099511627776 ≤ b.ahead ∧ b.ahead ≤ 1099511627776) ∧ (-1099511627776 ≤ b.tabs ∧ b.tabs ≤ 1099511627776) ∧ (-1099511627776 ≤ b.secs ∧ b.secs ≤ 1099511627776) ∧ (-1099511627776 ≤ b.long ∧ b.long ≤ 1099511627776) ∧ (-1099511627776 ≤ b.root ∧ b.root ≤ 1099511627776) ∧ (-100000 ≤ b.tabs ∧ b.tabs ≤ 100000) ∧ (-100000 ≤ b.each ∧ b.each ≤ 100000)

/-- The six numbers that far looks at first. -/
def Bt.six (b : Bt) (i : Nat) : Int := ([b.each, b.ahead, b.tabs, b.secs, b.long, b.root] : List Int).getD i 0

theorem Bt.some_near {b : Bt} (h : b.some) : b.near := by
  obtain ⟨h0, h1, h2, h3, h4, h5, h6, h7⟩ := h
  have := mul_far b.tabs b.long 100000 1099511627776 (by omega) (by omega)
  unfold Bt.near
  omega

set_option maxHeartbeats 8000000 in
set_option maxRecDepth 100000 in
theorem far_any (b : Bt) (w : World) :
    Calls Tryd.prog 7 #[.agg b.cs] w fun e w' => (∃ r, e = .returned (.bool r) ∧ (r = false → b.some)) ∧ Below w.heap.size w w' := by
  obtain ⟨c0, c1, c2, c3, c4, c5, c6, c7⟩ := cells_of (Blk.new w b.cs 23)
  obtain ⟨w2, hw2⟩ : ∃ w2, w2 = (w.alloc (.cells b.cs 23)).alloc (.cells #[.int .i64 b.each, .int .i64 b.ahead, .int .i64 b.tabs, .int .i64 b.secs, .int .i64 b.long, .int .i64 b.root] 2) := ⟨_, rfl⟩
  have hb2 : Below w.heap.size w w2 := by rw [hw2]; exact ((Below.refl w.heap.size w).alloc (Nat.le_refl _) (.cells b.cs 23)).alloc (by simp) _
  have HI := hide (show Blk w2 w.heap.size b.cs 23 by rw [hw2]; exact (Blk.new w b.cs 23).below ((Below.refl _ _).alloc (Nat.le_refl _) _))
  have HK := hide (show Blk w2 (w.heap.size + 1) #[.int .i64 b.each, .int .i64 b.ahead, .int .i64 b.tabs, .int .i64 b.secs, .int .i64 b.long, .int .i64 b.root] 2 by rw [hw2]; have := Blk.new (w.alloc (.cells b.cs 23)) #[.int .i64 b.each, .int .i64 b.ahead, .int .i64 b.tabs, .int .i64 b.secs, .int .i64 b.long, .int .i64 b.root] 2; simpa using this)
  have hcell : ∀ j, j < 6 → w2.cell? ⟨w.heap.size + 1, j, none⟩ = Option.some (.int .i64 (b.six j)) := by
    intro j hj
    obtain rfl | rfl | rfl | rfl | rfl | rfl : j = 0 ∨ j = 1 ∨ j = 2 ∨ j = 3 ∨ j = 4 ∨ j = 5 := by omega
    · exact HK.out.cell 0 _ rfl
    · exact HK.out.cell 1 _ rfl
    · exact HK.out.cell 2 _ rfl
    · exact HK.out.cell 3 _ rfl
    · exact HK.out.cell 4 _ rfl
    · exact HK.out.cell 5 _ rfl
  have HC := hide hcell
  have HB := hide hb2
  have HW := hide hw2
  have HX := hide (cells_of HI.out)
  clear hb2 hw2 hcell
  go_enter Tryd.func7, Tryd.ntmps7
  go_wp2_with fail
  rw [← HW.out]
  clear c0 c1 c2 c3 c4 c5 c6 c7
  go_loopw [19] (fun i wr => wr = w2 ∧ ∃ j : Nat, j ≤ 6 ∧ i = .int .i64 (j : Int) ∧ ∀ k, k < j → -1099511627776 ≤ b.six k ∧ b.six k ≤ 1099511627776) (fun i _ => 6 - (intOf i).toNat)
  case atStart => exact ⟨rfl, 0, by omega, rfl, fun k hk => by omega⟩
  case round =>
    obtain ⟨rfl, j, hj, rfl, hall⟩ := hrel
    have HA := hide hall
    clear hall
    by_cases hj6 : j = 6
    · subst hj6
      have hd : decide (((6 : Nat) : Int) < 6) = false := by decide
      have g := HA.out
      have g0 := g 0 (by omega)
      have g1 := g 1 (by omega)
      have g2 := g 2 (by omega)
      have g3 := g 3 (by omega)
      have g4 := g 4 (by omega)
      have g5 := g 5 (by omega)
      have HG : Hid ((-1099511627776 ≤ b.each ∧ b.each ≤ 1099511627776) ∧ (-1099511627776 ≤ b.ahead ∧ b.ahead ≤ 1099511627776) ∧ (-1099511627776 ≤ b.tabs ∧ b.tabs ≤ 1099511627776) ∧ (-1099511627776 ≤ b.secs ∧ b.secs ≤ 1099511627776) ∧ (-1099511627776 ≤ b.long ∧ b.long ≤ 1099511627776) ∧ (-1099511627776 ≤ b.root ∧ b.root ≤ 1099511627776)) := hide ⟨g0, g1, g2, g3, g4, g5⟩
      clear g g0 g1 g2 g3 g4 g5
      obtain ⟨c0, c1, c2, c3, c4, c5, c6, c7⟩ := HX.out
      by_cases p0 : 100000 < b.tabs
      · have q0 : decide (100000 < b.tabs) = true := by simpa using p0
        clear p0
        go_wp2_with fail
        go_ret
        exact ⟨⟨true, rfl, fun h => by cases h⟩, HB.out⟩
      have q0 : decide (100000 < b.tabs) = false := by simpa using p0
      by_cases p1 : b.tabs < -100000
      · have q1 : decide (b.tabs < -100000) = true := by simpa using p1
        clear p0 p1
        go_wp2_with fail
        go_ret
        exact ⟨⟨true, rfl, fun h => by cases h⟩, HB.out⟩
      have q1 : decide (b.tabs < -100000) = false := by simpa using p1
      by_cases p2 : 100000 < b.each
      · have q2 : decide (100000 < b.each) = true := by simpa using p2
        clear p0 p1 p2
        go_wp2_with fail
        go_ret
        exact ⟨⟨true, rfl, fun h => by cases h⟩, HB.out⟩
      have q2 : decide (100000 < b.each) = false := by simpa using p2
      by_cases p3 : b.each < -100000
      · have q3 : decide (b.each < -100000) = true := by simpa using p3
        clear p0 p1 p2 p3
        go_wp2_with fail
        go_ret
        exact ⟨⟨true, rfl, fun h => by cases h⟩, HB.out⟩
      have q3 : decide (b.each < -100000) = false := by simpa using p3
      have HS : Hid b.some := hide ⟨HG.out.1, HG.out.2.1, HG.out.2.2.1, HG.out.2.2.2.1, HG.out.2.2.2.2.1, HG.out.2.2.2.2.2, ⟨by omega, by omega⟩, ⟨by omega, by omega⟩⟩
      clear p0 p1 p2 p3
      go_wp2_with fail
      go_ret
      exact ⟨⟨false, rfl, fun _ => HS.out⟩, HB.out⟩
    · have hlt : j < 6 := by omega
      have hd : decide ((j : Int) < 6) = true := by simp; omega
      have hcj := HC.out j hlt
      obtain ⟨v, hv⟩ : ∃ v, v = b.six j := ⟨_, rfl⟩
      rw [← hv] at hcj
      by_cases p0 : 1099511627776 < v
      · have q0 : decide (1099511627776 < v) = true := by simpa using p0
        clear p0 hv hj6
        go_wp2_with fail
        go_ret
        exact ⟨⟨true, rfl, fun h => by cases h⟩, HB.out⟩
      have q0 : decide (1099511627776 < v) = false := by simpa using p0
      by_cases p1 : v < -1099511627776
      · have q1 : decide (v < -1099511627776) = true := by simpa using p1
        clear p0 p1 hv hj6
        go_wp2_with fail
        go_ret
        exact ⟨⟨true, rfl, fun h => by cases h⟩, HB.out⟩
      have q1 : decide (v < -1099511627776) = false := by simpa using p1
      have HN : Hid (∀ k, k < j + 1 → -1099511627776 ≤ b.six k ∧ b.six k ≤ 1099511627776) := hide (fun k hk => by
        by_cases hkj : k = j
        · rw [hkj, ← hv]; omega
        · exact HA.out k (by omega))
      clear p0 p1 hv hj6
      go_wp2_with fail
      go_roundw
      case rel => exact ⟨trivial, j + 1, by omega, by go_num, HN.out⟩
      case measure => simp [intOf]; omega
end Go.Proofs.YtbldkebolmellaaDoor.Oct
