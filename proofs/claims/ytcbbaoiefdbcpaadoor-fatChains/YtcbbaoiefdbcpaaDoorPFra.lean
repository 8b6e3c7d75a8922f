/- The document's words of a first sector: Data, Clusters, Check. -/
import Derived.Test.YtcbbaoiefdbcpaaDoorPFobFotFon
namespace Go.Proofs.YtcbbaoiefdbcpaaDoor.Oct
open Go.RowKit

set_option maxHeartbeats 4000000 in
theorem rdata_any (b : Bt) (w : World) (hn : b.near) :
    Calls Tryd.prog 50 #[.agg b.cs] w fun e w' => e = .returned (.int .i64 b.data) ∧ Below w.heap.size w w' := by
  obtain ⟨c0, c1, c2, c3, c4, c5, c6, c7⟩ := cells_of (Blk.new w b.cs 36)
  have HB := hide ((Below.refl w.heap.size w).alloc (Nat.le_refl _) (.cells b.cs 36))
  obtain ⟨n0, n1, n2, n3, n4, n5, n6, n7⟩ := hn
  have hm : IntKind.i64.wrap (b.tabs * b.long) = b.tabs * b.long := by rw [IntKind.wrap_i64]; omega
  have hd : IntKind.i64.wrap (b.ahead + b.tabs * b.long) = b.data := by rw [IntKind.wrap_i64]; unfold Bt.data; omega
  clear n0 n1 n2 n3 n4 n5 n6 n7
  go_enter Tryd.func50, Tryd.ntmps50
  go_wp2_with fail
  go_ret
  exact ⟨rfl, HB.out⟩

/-- The document's count of clusters. -/
theorem clus_ref (b : Bt) (q : Int) (hq : q = max b.each 1) : b.clus = if (b.secs - b.data).tdiv q < 0 then 0 else (b.secs - b.data).tdiv q := by
  unfold Bt.clus
  rw [← hq]
  by_cases h : 0 ≤ b.secs - b.data
  · rw [show max (b.secs - b.data) 0 = b.secs - b.data by omega, Int.tdiv_eq_ediv_of_nonneg h]
    have := Int.ediv_nonneg h (show 0 ≤ q by omega)
    rw [if_neg (by omega)]
  · rw [show max (b.secs - b.data) 0 = 0 by omega, Int.zero_ediv]
    have h1 : (b.secs - b.data).tdiv q = -((-(b.secs - b.data)) / q) := by
      rw [← Int.tdiv_eq_ediv_of_nonneg (a := -(b.secs - b.data)) (by omega), Int.neg_tdiv, Int.neg_neg]
    have h2 := Int.ediv_nonneg (show 0 ≤ -(b.secs - b.data) by omega) (show 0 ≤ q by omega)
    rw [h1]
    split <;> omega

set_option maxHeartbeats 8000000 in
theorem rclus_any (b : Bt) (w : World) (hn : b.near) :
    Calls Tryd.prog 29 #[.agg b.cs] w fun e w' => e = .returned (.int .i64 b.clus) ∧ Below w.heap.size w w' := by
  obtain ⟨w1, hw1⟩ : ∃ w1, w1 = w.alloc (.cells b.cs 36) := ⟨_, rfl⟩
  have HW1 := hide hw1
  have HB1 := hide (show Below w.heap.size w w1 by rw [hw1]; exact (Below.refl w.heap.size w).alloc (Nat.le_refl _) (.cells b.cs 36))
  have HI1 := hide (show Blk w1 w.heap.size b.cs 36 by rw [hw1]; exact Blk.new w b.cs 36)
  have HD := fun u => hide (rdata_any b u hn)
  have hs : IntKind.i64.wrap (b.secs - b.data) = b.secs - b.data := by
    obtain ⟨n0, n1, n2, n3, n4, n5, n6, n7⟩ := hn
    rw [IntKind.wrap_i64]; unfold Bt.data; omega
  have hab : -4611686018427387904 ≤ b.secs - b.data ∧ b.secs - b.data ≤ 4611686018427387904 := by
    obtain ⟨n0, n1, n2, n3, n4, n5, n6, n7⟩ := hn
    unfold Bt.data; omega
  obtain ⟨q, hq⟩ : ∃ q, q = max b.each 1 := ⟨_, rfl⟩
  have hcr := clus_ref b q hq
  have hnat : ((b.secs - b.data).tdiv q).natAbs ≤ (b.secs - b.data).natAbs := by rw [Int.natAbs_tdiv]; exact Nat.div_le_self _ _
  have hwq : IntKind.i64.wrap ((b.secs - b.data).tdiv q) = (b.secs - b.data).tdiv q := by rw [IntKind.wrap_i64]; omega
  have hq0 : ¬ q = 0 := by omega
  have hqb : (q == 0) = false := by simpa using hq0
  have HQ := hide hq
  have HCR := hide hcr
  obtain ⟨t, ht⟩ : ∃ t, t = (b.secs - b.data).tdiv q := ⟨_, rfl⟩
  rw [← ht] at hwq HCR
  clear hn hab hnat hcr hw1 hq
  have HI := hide HI1.out.drew
  have HB := hide HB1.out.drew
  have hsb : w1.drew.cell? ⟨w.heap.size, 0, none⟩ = some (.int .i64 b.each) ∧ w1.drew.cell? ⟨w.heap.size, 1, none⟩ = some (.int .i64 b.ahead) ∧ w1.drew.cell? ⟨w.heap.size, 2, none⟩ = some (.int .i64 b.tabs) ∧ w1.drew.cell? ⟨w.heap.size, 3, none⟩ = some (.int .i64 b.secs) ∧ w1.drew.cell? ⟨w.heap.size, 4, none⟩ = some (.int .i64 b.long) ∧ w1.drew.cell? ⟨w.heap.size, 5, none⟩ = some (.int .i64 b.root) ∧ w1.drew.cell? ⟨w.heap.size, 6, none⟩ = some (.int .i64 b.info) ∧ w1.drew.cell? ⟨w.heap.size, 7, none⟩ = some (.int .i64 b.copy) := cells_of HI.out
  obtain ⟨c0, c1, c2, c3, c4, c5, c6, c7⟩ := cells_of (Blk.new w b.cs 36)
  by_cases he : b.each < 1
  · obtain rfl : q = 1 := by have := HQ.out; omega
    have hde : decide (b.each < 1) = true := by simpa using he
    have ht1 : t = b.secs - b.data := by rw [ht, Int.tdiv_one]
    rw [ht1] at hwq HCR
    clear he ht ht1
    go_enter Tryd.func29, Tryd.ntmps29
    go_wp2_with fail
    rw [← HW1.out]
    clear c0 c1 c2 c3 c4 c5 c6 c7
    obtain ⟨c0, c1, c2, c3, c4, c5, c6, c7⟩ := cells_of HI1.out
    go_region_held3 (fun u => u.cell? ⟨w.heap.size, 0, none⟩ = some (.int .i64 b.each) ∧ u.cell? ⟨w.heap.size, 1, none⟩ = some (.int .i64 b.ahead) ∧ u.cell? ⟨w.heap.size, 2, none⟩ = some (.int .i64 b.tabs) ∧ u.cell? ⟨w.heap.size, 3, none⟩ = some (.int .i64 b.secs) ∧ u.cell? ⟨w.heap.size, 4, none⟩ = some (.int .i64 b.long) ∧ u.cell? ⟨w.heap.size, 5, none⟩ = some (.int .i64 b.root) ∧ u.cell? ⟨w.heap.size, 6, none⟩ = some (.int .i64 b.info) ∧ u.cell? ⟨w.heap.size, 7, none⟩ = some (.int .i64 b.copy)) (first | go_keep | exact hsb | exact cells_of HI.out) (first
      | (go_at_call 50; refine ((HD _).out).mono ?_; rintro e9 w8 ⟨rfl, hb8⟩; have HI := hide (HI.out.below hb8); have HB := hide (HB.out.trans (hb8.mono HB.out.size)); clear hb8))
    all_goals
      by_cases h0 : b.secs - b.data < 0
      · have hz : decide (b.secs - b.data < 0) = true := by simpa using h0
        have HE := hide (show b.clus = 0 by rw [HCR.out, if_pos h0])
        clear h0
        go_wp2_with fail
        go_ret
        exact ⟨by rw [HE.out]; rfl, HB.out⟩
      · have hz : decide (b.secs - b.data < 0) = false := by simpa using h0
        have HE := hide (show b.clus = b.secs - b.data by rw [HCR.out, if_neg h0])
        clear h0
        go_wp2_with fail
        go_ret
        exact ⟨by rw [HE.out]; rfl, HB.out⟩
  · obtain rfl : q = b.each := by have := HQ.out; omega
    have hde : decide (b.each < 1) = false := by simpa using he
    rw [ht] at hwq
    have hwt : IntKind.i64.wrap ((b.secs - b.data).tdiv b.each) = t := by rw [hwq, ht]
    clear he ht hwq
    go_enter Tryd.func29, Tryd.ntmps29
    go_wp2_with fail
    rw [← HW1.out]
    clear c0 c1 c2 c3 c4 c5 c6 c7
    obtain ⟨c0, c1, c2, c3, c4, c5, c6, c7⟩ := cells_of HI1.out
    go_region_held3 (fun u => u.cell? ⟨w.heap.size, 0, none⟩ = some (.int .i64 b.each) ∧ u.cell? ⟨w.heap.size, 1, none⟩ = some (.int .i64 b.ahead) ∧ u.cell? ⟨w.heap.size, 2, none⟩ = some (.int .i64 b.tabs) ∧ u.cell? ⟨w.heap.size, 3, none⟩ = some (.int .i64 b.secs) ∧ u.cell? ⟨w.heap.size, 4, none⟩ = some (.int .i64 b.long) ∧ u.cell? ⟨w.heap.size, 5, none⟩ = some (.int .i64 b.root) ∧ u.cell? ⟨w.heap.size, 6, none⟩ = some (.int .i64 b.info) ∧ u.cell? ⟨w.heap.size, 7, none⟩ = some (.int .i64 b.copy)) (first | go_keep | exact hsb | exact cells_of HI.out) (first
      | (go_at_call 50; refine ((HD _).out).mono ?_; rintro e9 w8 ⟨rfl, hb8⟩; have HI := hide (HI.out.below hb8); have HB := hide (HB.out.trans (hb8.mono HB.out.size)); clear hb8))
    all_goals
      by_cases h0 : t < 0
      · have hz : decide (t < 0) = true := by simpa using h0
        have HE := hide (show b.clus = 0 by rw [HCR.out, if_pos h0])
        clear h0
        go_wp2_with fail
        go_ret
        exact ⟨by rw [HE.out]; rfl, HB.out⟩
      · have hz : decide (t < 0) = false := by simpa using h0
        have HE := hide (show b.clus = t by rw [HCR.out, if_neg h0])
        clear h0
        go_wp2_with fail
        go_ret
        exact ⟨by rw [HE.out]; rfl, HB.out⟩
end Go.Proofs.YtcbbaoiefdbcpaaDoor.Oct
