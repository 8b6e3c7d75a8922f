/- Where a cluster is, whatever the numbers: the program's At, the document's. -/
import Derived.Test.YtcbbaoiefdbcpaaDoorPFsp
import Derived.Test.YtcbbaoiefdbcpaaDoorPFra
namespace Go.Proofs.YtcbbaoiefdbcpaaDoor.Oct
open Go.RowKit

theorem mul_far (x y : Int) (m n : Nat) (hx : -(m : Int) ≤ x ∧ x ≤ m) (hy : -(n : Int) ≤ y ∧ y ≤ n) : -((m * n : Nat) : Int) ≤ x * y ∧ x * y ≤ ((m * n : Nat) : Int) := by
  have h1 : (x * y).natAbs ≤ m * n := by
    rw [Int.natAbs_mul]
    exact Nat.mul_le_mul (by omega) (by omega)
  omega

/-- Where a cluster begins, in 64 bits. -/
def Bt.atW (b : Bt) (n : Int) : Int := IntKind.i64.wrap (512 * (b.data + (n - 2) * b.each))

set_option maxHeartbeats 8000000 in
set_option maxRecDepth 100000 in
theorem at_far (b : Bt) (n : Int) (w : World) (hn : b.near) (he : -100000 ≤ b.each ∧ b.each ≤ 100000) (hc : -1073741824 ≤ n ∧ n ≤ 1073741824) :
    Calls Tryd.prog 33 #[.agg b.cs, .int .i64 n] w fun e w' => e = .returned (.agg #[.int .i64 (b.atW n), .int .i64 (IntKind.i64.wrap (b.atW n + 512 * b.each))]) ∧ Below w.heap.size w w' := by
  obtain ⟨w1, hw1⟩ : ∃ w1, w1 = w.alloc (.cells b.cs 63) := ⟨_, rfl⟩
  obtain ⟨w2, hw2⟩ : ∃ w2, w2 = w1.alloc (.cells #[.int .i64 0, .int .i64 0] 72) := ⟨_, rfl⟩
  have hs1 : w1.heap.size = w.heap.size + 1 := by rw [hw1]; simp
  have hb1 : Below w.heap.size w w1 := by rw [hw1]; exact (Below.refl _ _).alloc (Nat.le_refl _) _
  have hb2 : Below w1.heap.size w1 w2 := by rw [hw2]; exact (Below.refl _ _).alloc (Nat.le_refl _) _
  have HK2 := hide (show Blk w2 (w.heap.size + 1) #[.int .i64 0, .int .i64 0] 72 by rw [hw2, ← hs1]; exact Blk.new _ _ _)
  have HI2 := hide ((show Blk w1 w.heap.size b.cs 63 by rw [hw1]; exact Blk.new _ _ _).below hb2)
  have HB2 := hide (hb1.trans (hb2.mono hb1.size))
  have hne := hn
  obtain ⟨n0, n1, n2, n3, n4, n5, n6, n7⟩ := hn
  have HDa := fun u => hide (data_any b u hne)
  have HUn := fun u => hide (unit_any b u (by omega))
  have hq := mul_far (n - 2) b.each 2000000000 100000 (by omega) (by omega)
  have hdd : -120000000000000000 ≤ b.data ∧ b.data ≤ 120000000000000000 := by unfold Bt.data; omega
  have hpp : (n - 2) * (512 * b.each) = 512 * ((n - 2) * b.each) := by rw [Int.mul_left_comm]
  obtain ⟨X, hX⟩ : ∃ X, X = IntKind.i64.wrap (b.data * 512) := ⟨_, rfl⟩
  have m1 : IntKind.i64.wrap (b.data * 512) = X := hX.symm
  have m2 : IntKind.i64.wrap (n - 2) = n - 2 := by rw [IntKind.wrap_i64]; omega
  have m3 : IntKind.i64.wrap ((n - 2) * (512 * b.each)) = (n - 2) * (512 * b.each) := by rw [hpp, IntKind.wrap_i64]; omega
  have m4 : IntKind.i64.wrap (X + (n - 2) * (512 * b.each)) = b.atW n := by
    unfold Bt.atW
    rw [hX, hpp, IntKind.wrap_i64, IntKind.wrap_i64, IntKind.wrap_i64]
    omega
  obtain ⟨G, hG⟩ : ∃ G, G = b.atW n := ⟨_, rfl⟩
  rw [← hG] at m4
  obtain ⟨Y, hY⟩ : ∃ Y, Y = IntKind.i64.wrap (G + 512 * b.each) := ⟨_, rfl⟩
  have m5 : IntKind.i64.wrap (G + 512 * b.each) = Y := hY.symm
  have HGY := hide (And.intro hG hY)
  clear hX hG hY hpp hq n0 n1 n2 n3 n4 n5 n6 n7 he hc
  have HW2 := hide (show w2 = (w.alloc (.cells b.cs 63)).alloc (.cells #[.int .i64 0, .int .i64 0] 72) by rw [hw2, hw1])
  clear hw1 hw2 hb1 hb2 hs1 hdd hne
  have HI := hide HI2.out.drew
  have HK := hide HK2.out.drew
  have HB := hide HB2.out.drew
  have hsb : w2.drew.cell? ⟨w.heap.size, 0, none⟩ = some (.int .i64 b.each) ∧ w2.drew.cell? ⟨w.heap.size, 1, none⟩ = some (.int .i64 b.ahead) ∧ w2.drew.cell? ⟨w.heap.size, 2, none⟩ = some (.int .i64 b.tabs) ∧ w2.drew.cell? ⟨w.heap.size, 3, none⟩ = some (.int .i64 b.secs) ∧ w2.drew.cell? ⟨w.heap.size, 4, none⟩ = some (.int .i64 b.long) ∧ w2.drew.cell? ⟨w.heap.size, 5, none⟩ = some (.int .i64 b.root) ∧ w2.drew.cell? ⟨w.heap.size, 6, none⟩ = some (.int .i64 b.info) ∧ w2.drew.cell? ⟨w.heap.size, 7, none⟩ = some (.int .i64 b.copy) := cells_of HI.out
  go_enter Tryd.func33, Tryd.ntmps33
  go_wp2_with fail
  rw [← HW2.out]
  obtain ⟨c0, c1, c2, c3, c4, c5, c6, c7⟩ := cells_of HI2.out
  go_region_held3 (fun u => u.cell? ⟨w.heap.size, 0, none⟩ = some (.int .i64 b.each) ∧ u.cell? ⟨w.heap.size, 1, none⟩ = some (.int .i64 b.ahead) ∧ u.cell? ⟨w.heap.size, 2, none⟩ = some (.int .i64 b.tabs) ∧ u.cell? ⟨w.heap.size, 3, none⟩ = some (.int .i64 b.secs) ∧ u.cell? ⟨w.heap.size, 4, none⟩ = some (.int .i64 b.long) ∧ u.cell? ⟨w.heap.size, 5, none⟩ = some (.int .i64 b.root) ∧ u.cell? ⟨w.heap.size, 6, none⟩ = some (.int .i64 b.info) ∧ u.cell? ⟨w.heap.size, 7, none⟩ = some (.int .i64 b.copy)) (first | go_keep | exact hsb | exact cells_of HI.out) (first
    | (go_at_call 19; refine ((HDa _).out).mono ?_; rintro e9 w8 ⟨rfl, hb8⟩; have HI := hide (HI.out.below hb8); have HK := hide (HK.out.below hb8); have HB := hide (HB.out.trans (hb8.mono HB.out.size)); clear hb8)
    | (go_at_call 53; refine ((HUn _).out).mono ?_; rintro e9 w7 ⟨rfl, hb8⟩; have HI := hide (HI.out.below hb8); have HK := hide (HK.out.below hb8); have HB := hide (HB.out.trans (hb8.mono HB.out.size)); clear hb8))
  all_goals
    clear c0 c1 c2 c3 c4 c5 c6 c7
    obtain ⟨c0, c1, c2, c3, c4, c5, c6, c7⟩ := cells_of HI.out
    go_wp2_with fail
    refine ((HUn _).out).mono ?_
    rintro e9 w6 ⟨rfl, hb8⟩
    have HK := hide (HK.out.below hb8)
    have HB := hide (HB.out.trans (hb8.mono HB.out.size))
    clear hb8
    have z0 := HK.out.cell 0 _ rfl
    have z1 := HK.out.cell 1 _ rfl
    have f0 := HK.out.frozen 0
    have f1 := HK.out.frozen 1
    go_wp2_with fail
    refine bodyPost_ret (results_cell_row rfl _ _ (w.heap.size + 1) 72 _ (0, 0) _ rfl (((HK.out.set 0 (.int .i64 G)).set 1 (.int .i64 Y))) Tryd.underlying72 rfl (by kernel_rfl)) rfl ⟨by rw [← HGY.out.1, ← HGY.out.2]; rfl, ?_⟩
    exact (HB.out.setCell (p := ⟨w.heap.size + 1, 0, none⟩) (by show w.heap.size ≤ w.heap.size + 1; omega) _).setCell (p := ⟨w.heap.size + 1, 1, none⟩) (by show w.heap.size ≤ w.heap.size + 1; omega) _

set_option maxHeartbeats 8000000 in
set_option maxRecDepth 100000 in
theorem rat_far (b : Bt) (n : Int) (w : World) (hn : b.near) (he : -100000 ≤ b.each ∧ b.each ≤ 100000) (hc : -1073741824 ≤ n ∧ n ≤ 1073741824) :
    Calls Tryd.prog 34 #[.agg b.cs, .int .i64 n] w fun e w' => e = .returned (.agg #[.int .i64 (b.atW n), .int .i64 (IntKind.i64.wrap (b.atW n + 512 * b.each))]) ∧ Below w.heap.size w w' := by
  obtain ⟨w1, hw1⟩ : ∃ w1, w1 = w.alloc (.cells b.cs 36) := ⟨_, rfl⟩
  obtain ⟨w2, hw2⟩ : ∃ w2, w2 = w1.alloc (.cells #[.int .i64 0, .int .i64 0] 72) := ⟨_, rfl⟩
  have hs1 : w1.heap.size = w.heap.size + 1 := by rw [hw1]; simp
  have hb1 : Below w.heap.size w w1 := by rw [hw1]; exact (Below.refl _ _).alloc (Nat.le_refl _) _
  have hb2 : Below w1.heap.size w1 w2 := by rw [hw2]; exact (Below.refl _ _).alloc (Nat.le_refl _) _
  have HK2 := hide (show Blk w2 (w.heap.size + 1) #[.int .i64 0, .int .i64 0] 72 by rw [hw2, ← hs1]; exact Blk.new _ _ _)
  have HI2 := hide ((show Blk w1 w.heap.size b.cs 36 by rw [hw1]; exact Blk.new _ _ _).below hb2)
  have HB2 := hide (hb1.trans (hb2.mono hb1.size))
  have hne := hn
  obtain ⟨n0, n1, n2, n3, n4, n5, n6, n7⟩ := hn
  have HDa := fun u => hide (rdata_any b u hne)
  have hq := mul_far (n - 2) b.each 2000000000 100000 (by omega) (by omega)
  have hdd : -120000000000000000 ≤ b.data ∧ b.data ≤ 120000000000000000 := by unfold Bt.data; omega
  have m2 : IntKind.i64.wrap (n - 2) = n - 2 := by rw [IntKind.wrap_i64]; omega
  have m3 : IntKind.i64.wrap ((n - 2) * b.each) = (n - 2) * b.each := by rw [IntKind.wrap_i64]; omega
  have m4 : IntKind.i64.wrap (b.data + (n - 2) * b.each) = b.data + (n - 2) * b.each := by rw [IntKind.wrap_i64]; omega
  have m6 : IntKind.i64.wrap (512 * b.each) = 512 * b.each := by rw [IntKind.wrap_i64]; omega
  obtain ⟨G, hG⟩ : ∃ G, G = b.atW n := ⟨_, rfl⟩
  have m7 : IntKind.i64.wrap (512 * (b.data + (n - 2) * b.each)) = G := by rw [hG]; rfl
  obtain ⟨Y, hY⟩ : ∃ Y, Y = IntKind.i64.wrap (G + 512 * b.each) := ⟨_, rfl⟩
  have m5 : IntKind.i64.wrap (G + 512 * b.each) = Y := hY.symm
  have HGY := hide (And.intro hG hY)
  clear hG hY hq n0 n1 n2 n3 n4 n5 n6 n7 he hc
  have HW2 := hide (show w2 = (w.alloc (.cells b.cs 36)).alloc (.cells #[.int .i64 0, .int .i64 0] 72) by rw [hw2, hw1])
  clear hw1 hw2 hb1 hb2 hs1 hdd hne
  have HI := hide HI2.out.drew
  have HK := hide HK2.out.drew
  have HB := hide HB2.out.drew
  have hsb : w2.drew.cell? ⟨w.heap.size, 0, none⟩ = some (.int .i64 b.each) ∧ w2.drew.cell? ⟨w.heap.size, 1, none⟩ = some (.int .i64 b.ahead) ∧ w2.drew.cell? ⟨w.heap.size, 2, none⟩ = some (.int .i64 b.tabs) ∧ w2.drew.cell? ⟨w.heap.size, 3, none⟩ = some (.int .i64 b.secs) ∧ w2.drew.cell? ⟨w.heap.size, 4, none⟩ = some (.int .i64 b.long) ∧ w2.drew.cell? ⟨w.heap.size, 5, none⟩ = some (.int .i64 b.root) ∧ w2.drew.cell? ⟨w.heap.size, 6, none⟩ = some (.int .i64 b.info) ∧ w2.drew.cell? ⟨w.heap.size, 7, none⟩ = some (.int .i64 b.copy) := cells_of HI.out
  go_enter Tryd.func34, Tryd.ntmps34
  go_wp2_with fail
  rw [← HW2.out]
  obtain ⟨c0, c1, c2, c3, c4, c5, c6, c7⟩ := cells_of HI2.out
  go_region_held3 (fun u => u.cell? ⟨w.heap.size, 0, none⟩ = some (.int .i64 b.each) ∧ u.cell? ⟨w.heap.size, 1, none⟩ = some (.int .i64 b.ahead) ∧ u.cell? ⟨w.heap.size, 2, none⟩ = some (.int .i64 b.tabs) ∧ u.cell? ⟨w.heap.size, 3, none⟩ = some (.int .i64 b.secs) ∧ u.cell? ⟨w.heap.size, 4, none⟩ = some (.int .i64 b.long) ∧ u.cell? ⟨w.heap.size, 5, none⟩ = some (.int .i64 b.root) ∧ u.cell? ⟨w.heap.size, 6, none⟩ = some (.int .i64 b.info) ∧ u.cell? ⟨w.heap.size, 7, none⟩ = some (.int .i64 b.copy)) (first | go_keep | exact hsb | exact cells_of HI.out) (first
    | (go_at_call 50; refine ((HDa _).out).mono ?_; rintro e9 w8 ⟨rfl, hb8⟩; have HI := hide (HI.out.below hb8); have HK := hide (HK.out.below hb8); have HB := hide (HB.out.trans (hb8.mono HB.out.size)); clear hb8))
  all_goals
    clear c0 c1 c2 c3 c4 c5 c6 c7
    obtain ⟨c0, c1, c2, c3, c4, c5, c6, c7⟩ := cells_of HI.out
    have z0 := HK.out.cell 0 _ rfl
    have z1 := HK.out.cell 1 _ rfl
    have f0 := HK.out.frozen 0
    have f1 := HK.out.frozen 1
    go_wp2_with fail
    refine bodyPost_ret (results_cell_row rfl _ _ (w.heap.size + 1) 72 _ (0, 0) _ rfl (((HK.out.set 0 (.int .i64 G)).set 1 (.int .i64 Y))) Tryd.underlying72 rfl (by kernel_rfl)) rfl ⟨by rw [← HGY.out.1, ← HGY.out.2]; rfl, ?_⟩
    exact (HB.out.setCell (p := ⟨w.heap.size + 1, 0, none⟩) (by show w.heap.size ≤ w.heap.size + 1; omega) _).setCell (p := ⟨w.heap.size + 1, 1, none⟩) (by show w.heap.size ≤ w.heap.size + 1; omega) _
end Go.Proofs.YtcbbaoiefdbcpaaDoor.Oct
