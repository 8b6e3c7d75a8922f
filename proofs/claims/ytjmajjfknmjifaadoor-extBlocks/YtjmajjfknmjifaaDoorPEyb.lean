/- What a super says: Groups, Table, Group, Check, for numbers that are near. -/
import Derived.Test.YtjmajjfknmjifaaDoorPEya
import Derived.Test.YtjmajjfknmjifaaDoorPJbk
import Derived.Deep.RegionHeld3
import Derived.BigQuiet
import Derived.Lib.MinMax
namespace Go.Proofs.YtjmajjfknmjifaaDoor.Oct
open Go.RowKit

/-- Is a number one from the least to the most? -/
def winE (x y n : Int) : Bool := decide (x ≤ n) && decide (n ≤ y)

set_option maxHeartbeats 1000000 in
theorem within_ext (x y n : Int) (w : World) :
    Calls Tryd.prog 46 #[.int .i64 x, .int .i64 y, .int .i64 n] w fun e w' => e = .returned (.bool (winE x y n)) ∧ w' = w := by
  unfold winE
  by_cases h1 : x ≤ n
  · have d1 : decide (x ≤ n) = true := by simpa using h1
    by_cases h2 : n ≤ y
    · have d2 : decide (n ≤ y) = true := by simpa using h2
      rw [d1, d2]
      clear h1 h2
      go_enter Tryd.func46, Tryd.ntmps46
      go_wp2_with fail
      go_ret
      exact ⟨rfl, rfl⟩
    · have d2 : decide (n ≤ y) = false := by simpa using h2
      rw [d1, d2]
      clear h1 h2
      go_enter Tryd.func46, Tryd.ntmps46
      go_wp2_with fail
      go_ret
      exact ⟨rfl, rfl⟩
  · have d1 : decide (x ≤ n) = false := by simpa using h1
    rw [d1]
    clear h1
    go_enter Tryd.func46, Tryd.ntmps46
    go_wp2_with fail
    go_ret
    exact ⟨rfl, rfl⟩

/-- What a super says. -/
structure Sp where
  ino : Int
  blo : Int
  fbl : Int
  fin : Int
  per : Int
  each : Int
  first : Int
  ty : Bool

/-- Its cells. -/
abbrev Sp.cs (s : Sp) : Array Value := #[.int .i64 s.ino, .int .i64 s.blo, .int .i64 s.fbl, .int .i64 s.fin, .int .i64 s.per, .int .i64 s.each, .int .i64 s.first, .bool s.ty]

def Sp.z : Sp := ⟨0, 0, 0, 0, 0, 0, 0, false⟩

/-- Numbers that go far in no sum. -/
def Sp.near (s : Sp) : Prop := (-1099511627776 ≤ s.blo ∧ s.blo ≤ 1099511627776) ∧ (-1099511627776 ≤ s.per ∧ s.per ≤ 1099511627776) ∧ (-1099511627776 ≤ s.each ∧ s.each ≤ 1099511627776) ∧ (-1099511627776 ≤ s.ino ∧ s.ino ≤ 1099511627776)

/-- How many groups there are. -/
def Sp.grp (s : Sp) : Int := (max s.blo 2 - 1 - 1) / max s.per 1 + 1

def Sp.tab (s : Sp) : Int := s.each.tdiv 8

theorem cells_sp {w : World} {R : Nat} {s : Sp} {t : TypeId} (h : Blk w R s.cs t) :
    w.cell? ⟨R, 0, none⟩ = some (.int .i64 s.ino) ∧ w.cell? ⟨R, 1, none⟩ = some (.int .i64 s.blo) ∧ w.cell? ⟨R, 2, none⟩ = some (.int .i64 s.fbl) ∧ w.cell? ⟨R, 3, none⟩ = some (.int .i64 s.fin) ∧ w.cell? ⟨R, 4, none⟩ = some (.int .i64 s.per) ∧ w.cell? ⟨R, 5, none⟩ = some (.int .i64 s.each) ∧ w.cell? ⟨R, 6, none⟩ = some (.int .i64 s.first) ∧ w.cell? ⟨R, 7, none⟩ = some (.bool s.ty) :=
  ⟨h.cell 0 _ rfl, h.cell 1 _ rfl, h.cell 2 _ rfl, h.cell 3 _ rfl, h.cell 4 _ rfl, h.cell 5 _ rfl, h.cell 6 _ rfl, h.cell 7 _ rfl⟩

set_option maxHeartbeats 2000000 in
theorem per_any (s : Sp) (w : World) :
    Calls Tryd.prog 59 #[.agg s.cs] w fun e w' => e = .returned (.int .i64 (max s.per 1)) ∧ Below w.heap.size w w' := by
  obtain ⟨c0, c1, c2, c3, c4, c5, c6, c7⟩ := cells_sp (Blk.new w s.cs 23)
  have HB := hide ((Below.refl w.heap.size w).alloc (Nat.le_refl _) (.cells s.cs 23))
  go_enter Tryd.func59, Tryd.ntmps59
  go_wp2_with fail
  go_ret
  exact ⟨rfl, HB.out⟩

set_option maxHeartbeats 2000000 in
theorem tab_any (s : Sp) (w : World) :
    Calls Tryd.prog 50 #[.agg s.cs] w fun e w' => e = .returned (.int .i64 (IntKind.i64.wrap s.tab)) ∧ Below w.heap.size w w' := by
  obtain ⟨c0, c1, c2, c3, c4, c5, c6, c7⟩ := cells_sp (Blk.new w s.cs 23)
  have HB := hide ((Below.refl w.heap.size w).alloc (Nat.le_refl _) (.cells s.cs 23))
  obtain ⟨Z, hZ⟩ : ∃ Z, Z = IntKind.i64.wrap s.tab := ⟨_, rfl⟩
  have hZ2 : IntKind.i64.wrap (s.each.tdiv 8) = Z := hZ.symm
  rw [← hZ]
  clear hZ
  go_enter Tryd.func50, Tryd.ntmps50
  go_wp2_with fail
  go_ret
  exact ⟨rfl, HB.out⟩

set_option maxHeartbeats 4000000 in
set_option maxRecDepth 100000 in
theorem grp_any2 (s : Sp) (w : World) (hb : -1099511627776 ≤ s.blo ∧ s.blo ≤ 1099511627776) (hp : -1099511627776 ≤ s.per ∧ s.per ≤ 1099511627776) :
    Calls Tryd.prog 48 #[.agg s.cs] w fun e w' => e = .returned (.int .i64 s.grp) ∧ Below w.heap.size w w' := by
  obtain ⟨b0, b1⟩ := hb
  obtain ⟨p0, p1⟩ := hp
  obtain ⟨w1, hw1⟩ : ∃ w1, w1 = w.alloc (.cells s.cs 23) := ⟨_, rfl⟩
  have HI := hide (show Blk w1 w.heap.size s.cs 23 by rw [hw1]; exact Blk.new _ _ _)
  have HB := hide (show Below w.heap.size w w1 by rw [hw1]; exact (Below.refl _ _).alloc (Nat.le_refl _) _)
  have HW1 := hide hw1
  have HPe := fun u => hide (per_any s u)
  obtain ⟨M, hM⟩ : ∃ M, max s.blo 2 = M := ⟨_, rfl⟩
  obtain ⟨Q, hQ⟩ : ∃ Q, max s.per 1 = Q := ⟨_, rfl⟩
  have hMb : 2 ≤ M ∧ M ≤ 1099511627776 := by omega
  have hQb : 1 ≤ Q ∧ Q ≤ 1099511627776 := by omega
  obtain ⟨D, hD⟩ : ∃ D, D = (M - 1 - 1) / Q := ⟨_, rfl⟩
  have hDb : 0 ≤ D ∧ D ≤ 1099511627776 := by
    constructor
    · rw [hD]; exact Int.ediv_nonneg (by omega) (by omega)
    · have h1 := Int.ediv_le_self Q (a := M - 1 - 1) (by omega)
      omega
  have hG : s.grp = D + 1 := by unfold Sp.grp; rw [hM, hQ, hD]
  rw [hG]
  have m1 : IntKind.i64.wrap (M - 1) = M - 1 := by rw [IntKind.wrap_i64]; omega
  have m2 : IntKind.i64.wrap (M - 1 - 1) = M - 1 - 1 := by rw [IntKind.wrap_i64]; omega
  have m3 : IntKind.i64.wrap ((M - 1 - 1).tdiv Q) = D := by rw [Int.tdiv_eq_ediv_of_nonneg (by omega), ← hD, IntKind.wrap_i64]; omega
  have m4 : IntKind.i64.wrap (D + 1) = D + 1 := by rw [IntKind.wrap_i64]; omega
  have hQ0 : ¬ Q = 0 := by omega
  rw [hQ] at HPe
  have HD := hide hD
  obtain ⟨c0, c1, c2, c3, c4, c5, c6, c7⟩ := cells_sp HI.out
  rw [hw1] at c0 c1 c2 c3 c4 c5 c6 c7
  clear b0 b1 p0 p1 hD hG hMb hQb hDb hQ hw1
  go_enter Tryd.func48, Tryd.ntmps48
  go_wp2_with fail
  refine (HPe _).out.mono ?_
  rintro e9 w2 ⟨rfl, h2⟩
  rw [← HW1.out] at h2
  have HB2 := hide (HB.out.trans (h2.mono HB.out.size))
  clear h2
  go_wp2_with fail
  go_ret
  exact ⟨rfl, HB2.out⟩

/-- A group's blocks. -/
def Sp.from (s : Sp) (g : Int) : Int := 1 + g * max s.per 1
def Sp.upto (s : Sp) (g : Int) : Int := min (s.from g + max s.per 1) s.blo

set_option maxHeartbeats 4000000 in
set_option maxRecDepth 100000 in
theorem group_any (s : Sp) (g : Int) (w : World) (hb : -1099511627776 ≤ s.blo ∧ s.blo ≤ 1099511627776) (hp : -1099511627776 ≤ s.per ∧ s.per ≤ 1099511627776) (hg : -100000 ≤ g ∧ g ≤ 100000) :
    Calls Tryd.prog 49 #[.agg s.cs, .int .i64 g] w fun e w' => e = .returned (.tuple #[.int .i64 (s.from g), .int .i64 (s.upto g)]) ∧ Below w.heap.size w w' := by
  obtain ⟨b0, b1⟩ := hb
  obtain ⟨p0, p1⟩ := hp
  obtain ⟨w1, hw1⟩ : ∃ w1, w1 = w.alloc (.cells s.cs 23) := ⟨_, rfl⟩
  have HI := hide (show Blk w1 w.heap.size s.cs 23 by rw [hw1]; exact Blk.new _ _ _)
  have HB := hide (show Below w.heap.size w w1 by rw [hw1]; exact (Below.refl _ _).alloc (Nat.le_refl _) _)
  have HW1 := hide hw1
  have HPe := fun u => hide (per_any s u)
  obtain ⟨Q, hQ⟩ : ∃ Q, max s.per 1 = Q := ⟨_, rfl⟩
  have hQb : 1 ≤ Q ∧ Q ≤ 1099511627776 := by omega
  have hgQ : -110000000000000000 ≤ g * Q ∧ g * Q ≤ 110000000000000000 := by
    have h1 : (g * Q).natAbs ≤ 100000 * 1099511627776 := by
      rw [Int.natAbs_mul]
      exact Nat.mul_le_mul (by omega) (by omega)
    omega
  have m1 : IntKind.i64.wrap (g * Q) = g * Q := by rw [IntKind.wrap_i64]; omega
  obtain ⟨A, hA⟩ : ∃ A, A = 1 + g * Q := ⟨_, rfl⟩
  have m2 : IntKind.i64.wrap (1 + g * Q) = A := by rw [IntKind.wrap_i64]; omega
  have m3 : IntKind.i64.wrap (A + Q) = A + Q := by rw [IntKind.wrap_i64]; omega
  have e1 : s.from g = A := by unfold Sp.from; rw [hQ, hA]
  have e2 : s.upto g = min (A + Q) s.blo := by unfold Sp.upto; rw [e1, hQ]
  rw [e1, e2]
  rw [hQ] at HPe
  obtain ⟨c0, c1, c2, c3, c4, c5, c6, c7⟩ := cells_sp HI.out
  rw [hw1] at c0 c1 c2 c3 c4 c5 c6 c7
  clear b0 b1 p0 p1 hQb hgQ hA e1 e2 hQ hw1
  go_enter Tryd.func49, Tryd.ntmps49
  go_wp2_with fail
  refine (HPe _).out.mono ?_
  rintro e9 w2 ⟨rfl, h2⟩
  rw [← HW1.out] at h2
  have HB2 := hide (HB.out.trans (h2.mono HB.out.size))
  have HI2 := hide (HI.out.below h2)
  clear h2 c0 c1 c2 c3 c4 c5 c6 c7
  obtain ⟨c0, c1, c2, c3, c4, c5, c6, c7⟩ := cells_sp HI2.out
  have hcc := cells_sp HI2.out.drew
  go_wp2_with fail
  have HI3 := hide HI2.out.drew
  have HB3 := hide HB2.out.drew
  go_region_held3 (fun u => u.cell? ⟨w.heap.size, 0, none⟩ = some (.int .i64 s.ino) ∧ u.cell? ⟨w.heap.size, 1, none⟩ = some (.int .i64 s.blo) ∧ u.cell? ⟨w.heap.size, 2, none⟩ = some (.int .i64 s.fbl) ∧ u.cell? ⟨w.heap.size, 3, none⟩ = some (.int .i64 s.fin) ∧ u.cell? ⟨w.heap.size, 4, none⟩ = some (.int .i64 s.per) ∧ u.cell? ⟨w.heap.size, 5, none⟩ = some (.int .i64 s.each) ∧ u.cell? ⟨w.heap.size, 6, none⟩ = some (.int .i64 s.first) ∧ u.cell? ⟨w.heap.size, 7, none⟩ = some (.bool s.ty)) (first | go_keep | exact hcc | exact cells_sp HI3.out) (first
    | (go_at_call 59; refine ((HPe _).out).mono ?_; rintro e9 w8 ⟨rfl, hb8⟩; have HI3 := hide (HI3.out.below hb8); have HB3 := hide (HB3.out.trans (hb8.mono HB3.out.size)); clear hb8))
  all_goals
    go_wp2_with fail
    go_ret2
    exact ⟨rfl, HB3.out⟩
end Go.Proofs.YtjmajjfknmjifaaDoor.Oct
