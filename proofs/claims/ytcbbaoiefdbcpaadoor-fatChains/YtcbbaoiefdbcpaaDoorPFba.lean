/- What a first sector says: Data, Unit, At, Clusters. -/
import Derived.Test.YtcbbaoiefdbcpaaDoorPFcb
import Derived.Deep.RegionHeld3
import Derived.Lib.MinMax
namespace Go.Proofs.YtcbbaoiefdbcpaaDoor.Oct
open Go.RowKit

/-- What a first sector says. -/
structure Bt where
  each : Int
  ahead : Int
  tabs : Int
  secs : Int
  long : Int
  root : Int
  info : Int
  copy : Int

/-- Its cells. -/
abbrev Bt.cs (b : Bt) : Array Value := #[.int .i64 b.each, .int .i64 b.ahead, .int .i64 b.tabs, .int .i64 b.secs, .int .i64 b.long, .int .i64 b.root, .int .i64 b.info, .int .i64 b.copy]

/-- Numbers that go far in no sum. -/
def Bt.near (b : Bt) : Prop := -1099511627776 ≤ b.each ∧ b.each ≤ 1099511627776 ∧ -1099511627776 ≤ b.ahead ∧ b.ahead ≤ 1099511627776 ∧ -1099511627776 ≤ b.secs ∧ b.secs ≤ 1099511627776 ∧ -109951162777600000 ≤ b.tabs * b.long ∧ b.tabs * b.long ≤ 109951162777600000

def Bt.data (b : Bt) : Int := b.ahead + b.tabs * b.long

/-- How many clusters there are. -/
def Bt.clus (b : Bt) : Int := max (b.secs - b.data) 0 / max b.each 1

theorem cells_of {w : World} {R : Nat} {b : Bt} {t : TypeId} (h : Blk w R b.cs t) :
    w.cell? ⟨R, 0, none⟩ = some (.int .i64 b.each) ∧ w.cell? ⟨R, 1, none⟩ = some (.int .i64 b.ahead) ∧ w.cell? ⟨R, 2, none⟩ = some (.int .i64 b.tabs) ∧ w.cell? ⟨R, 3, none⟩ = some (.int .i64 b.secs) ∧ w.cell? ⟨R, 4, none⟩ = some (.int .i64 b.long) ∧ w.cell? ⟨R, 5, none⟩ = some (.int .i64 b.root) ∧ w.cell? ⟨R, 6, none⟩ = some (.int .i64 b.info) ∧ w.cell? ⟨R, 7, none⟩ = some (.int .i64 b.copy) :=
  ⟨h.cell 0 _ rfl, h.cell 1 _ rfl, h.cell 2 _ rfl, h.cell 3 _ rfl, h.cell 4 _ rfl, h.cell 5 _ rfl, h.cell 6 _ rfl, h.cell 7 _ rfl⟩

set_option maxHeartbeats 4000000 in
theorem data_any (b : Bt) (w : World) (hn : b.near) :
    Calls Tryd.prog 19 #[.agg b.cs] w fun e w' => e = .returned (.int .i64 b.data) ∧ Below w.heap.size w w' := by
  obtain ⟨c0, c1, c2, c3, c4, c5, c6, c7⟩ := cells_of (Blk.new w b.cs 63)
  have HB := hide ((Below.refl w.heap.size w).alloc (Nat.le_refl _) (.cells b.cs 63))
  obtain ⟨n0, n1, n2, n3, n4, n5, n6, n7⟩ := hn
  have hm : IntKind.i64.wrap (b.tabs * b.long) = b.tabs * b.long := by rw [IntKind.wrap_i64]; omega
  have hd : IntKind.i64.wrap (b.ahead + b.tabs * b.long) = b.data := by rw [IntKind.wrap_i64]; unfold Bt.data; omega
  clear n0 n1 n2 n3 n4 n5 n6 n7
  go_enter Tryd.func19, Tryd.ntmps19
  go_wp2_with fail
  go_ret
  exact ⟨rfl, HB.out⟩

set_option maxHeartbeats 8000000 in
theorem clus_any (b : Bt) (w : World) (hn : b.near) :
    Calls Tryd.prog 20 #[.agg b.cs] w fun e w' => e = .returned (.int .i64 b.clus) ∧ Below w.heap.size w w' := by
  obtain ⟨w1, hw1⟩ : ∃ w1, w1 = w.alloc (.cells b.cs 63) := ⟨_, rfl⟩
  have HW1 := hide hw1
  have HB := hide (show Below w.heap.size w w1 by rw [hw1]; exact (Below.refl w.heap.size w).alloc (Nat.le_refl _) (.cells b.cs 63))
  have HI := hide (show Blk w1 w.heap.size b.cs 63 by rw [hw1]; exact Blk.new w b.cs 63)
  have HD := fun u => hide (data_any b u hn)
  have hs : IntKind.i64.wrap (b.secs - b.data) = b.secs - b.data := by
    obtain ⟨n0, n1, n2, n3, n4, n5, n6, n7⟩ := hn
    rw [IntKind.wrap_i64]; unfold Bt.data; omega
  have hge : b.secs - b.data ≤ 4611686018427387904 := by
    obtain ⟨n0, n1, n2, n3, n4, n5, n6, n7⟩ := hn
    unfold Bt.data; omega
  obtain ⟨x, hx⟩ : ∃ x, x = max (b.secs - b.data) 0 := ⟨_, rfl⟩
  obtain ⟨y, hy⟩ : ∃ y, y = max b.each 1 := ⟨_, rfl⟩
  have h0 : ¬ (max b.each 1 = 0) := by omega
  have hub : (max b.each 1 == 0) = false := by simpa using h0
  have hq : IntKind.i64.wrap ((max (b.secs - b.data) 0).tdiv (max b.each 1)) = b.clus := by
    unfold Bt.clus
    rw [← hx, ← hy, Int.tdiv_eq_ediv_of_nonneg (by omega)]
    have h1 : 0 ≤ x / y := Int.ediv_nonneg (by omega) (by omega)
    have h2 : x / y ≤ x := Int.ediv_le_self _ (by omega)
    rw [IntKind.wrap_i64]; omega
  clear hn hw1 hge hx hy x y
  go_enter Tryd.func20, Tryd.ntmps20
  go_wp2_with fail
  rw [← HW1.out]
  obtain ⟨c0, c1, c2, c3, c4, c5, c6, c7⟩ := cells_of HI.out
  have HI := hide HI.out.drew
  have HB := hide HB.out.drew
  go_region_held3 (fun u => u.cell? ⟨w.heap.size, 0, none⟩ = some (.int .i64 b.each) ∧ u.cell? ⟨w.heap.size, 1, none⟩ = some (.int .i64 b.ahead) ∧ u.cell? ⟨w.heap.size, 2, none⟩ = some (.int .i64 b.tabs) ∧ u.cell? ⟨w.heap.size, 3, none⟩ = some (.int .i64 b.secs) ∧ u.cell? ⟨w.heap.size, 4, none⟩ = some (.int .i64 b.long) ∧ u.cell? ⟨w.heap.size, 5, none⟩ = some (.int .i64 b.root) ∧ u.cell? ⟨w.heap.size, 6, none⟩ = some (.int .i64 b.info) ∧ u.cell? ⟨w.heap.size, 7, none⟩ = some (.int .i64 b.copy)) (first | go_keep | exact cells_of HI.out) (first
    | (go_at_call 19; refine ((HD _).out).mono ?_; rintro e9 w8 ⟨rfl, hb8⟩; have HI := hide (HI.out.below hb8); have HB := hide (HB.out.trans (hb8.mono HB.out.size)); clear hb8))
  all_goals
    go_wp2_with fail
    go_ret
    exact ⟨rfl, HB.out⟩
end Go.Proofs.YtcbbaoiefdbcpaaDoor.Oct
