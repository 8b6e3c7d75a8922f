/- A volume's fixed blocks. -/
import Derived.Test.YtjmajjfknmjifaaDoorPEzf
import Derived.Test.YtjmajjfknmjifaaDoorPEzg
import Derived.Test.YtjmajjfknmjifaaDoorPEze
import Derived.Test.YtjmajjfknmjifaaDoorPEzc
namespace Go.Proofs.YtjmajjfknmjifaaDoor.Oct
open Go.RowKit

/-- What the volume of 128 blocks says: ahead of its groups, behind them; its group's row. -/
def s0 : Sp := ⟨16, 128, 0, 0, 128, 16, 11, true⟩
def s1 : Sp := ⟨16, 128, 120, 6, 128, 16, 11, true⟩
def r1 : Rw := ⟨3, 4, 5, 120, 6, 1⟩

/-- A volume's cells. -/
abbrev volX (s : Sp) (r b n d : Value) : Array Value := #[.int .i64 s.ino, .int .i64 s.blo, .int .i64 s.fbl, .int .i64 s.fin, .int .i64 s.per, .int .i64 s.each, .int .i64 s.first, .bool s.ty, r, b, n, d]

theorem cells_vx {w : World} {R : Nat} {s : Sp} {r b n d : Value} {t : TypeId} (h : Blk w R (volX s r b n d) t) :
    (w.cell? ⟨R, 0, none⟩ = some (.int .i64 s.ino) ∧ w.cell? ⟨R, 1, none⟩ = some (.int .i64 s.blo) ∧ w.cell? ⟨R, 2, none⟩ = some (.int .i64 s.fbl) ∧ w.cell? ⟨R, 3, none⟩ = some (.int .i64 s.fin) ∧ w.cell? ⟨R, 4, none⟩ = some (.int .i64 s.per) ∧ w.cell? ⟨R, 5, none⟩ = some (.int .i64 s.each) ∧ w.cell? ⟨R, 6, none⟩ = some (.int .i64 s.first) ∧ w.cell? ⟨R, 7, none⟩ = some (.bool s.ty)) ∧ w.cell? ⟨R, 8, none⟩ = some r ∧ w.cell? ⟨R, 9, none⟩ = some b ∧ w.cell? ⟨R, 10, none⟩ = some n ∧ w.cell? ⟨R, 11, none⟩ = some d :=
  ⟨⟨h.cell 0 _ rfl, h.cell 1 _ rfl, h.cell 2 _ rfl, h.cell 3 _ rfl, h.cell 4 _ rfl, h.cell 5 _ rfl, h.cell 6 _ rfl, h.cell 7 _ rfl⟩, h.cell 8 _ rfl, h.cell 9 _ rfl, h.cell 10 _ rfl, h.cell 11 _ rfl⟩

theorem cells_v1 {w : World} {R : Nat} {r b n d : Value} {t : TypeId} (h : Blk w R (volX s1 r b n d) t) :
    (w.cell? ⟨R, 0, none⟩ = some (.int .i64 16) ∧ w.cell? ⟨R, 1, none⟩ = some (.int .i64 128) ∧ w.cell? ⟨R, 2, none⟩ = some (.int .i64 120) ∧ w.cell? ⟨R, 3, none⟩ = some (.int .i64 6) ∧ w.cell? ⟨R, 4, none⟩ = some (.int .i64 128) ∧ w.cell? ⟨R, 5, none⟩ = some (.int .i64 16) ∧ w.cell? ⟨R, 6, none⟩ = some (.int .i64 11) ∧ w.cell? ⟨R, 7, none⟩ = some (.bool true)) ∧ w.cell? ⟨R, 8, none⟩ = some r ∧ w.cell? ⟨R, 9, none⟩ = some b ∧ w.cell? ⟨R, 10, none⟩ = some n ∧ w.cell? ⟨R, 11, none⟩ = some d := cells_vx h

theorem cells_r1 {w : World} {g : Nat} (h : CellsAt w g r1.cs.toList) : w.cell? ⟨g, 0, none⟩ = some (.int .i64 3) ∧ w.cell? ⟨g, 1, none⟩ = some (.int .i64 4) ∧ w.cell? ⟨g, 2, none⟩ = some (.int .i64 5) ∧ w.cell? ⟨g, 3, none⟩ = some (.int .i64 120) ∧ w.cell? ⟨g, 4, none⟩ = some (.int .i64 6) ∧ w.cell? ⟨g, 5, none⟩ = some (.int .i64 1) :=
  ⟨h 0 _ rfl, h 1 _ rfl, h 2 _ rfl, h 3 _ rfl, h 4 _ rfl, h 5 _ rfl⟩

theorem s1_group (w : World) : Calls Tryd.prog 49 #[.agg #[.int .i64 16, .int .i64 128, .int .i64 120, .int .i64 6, .int .i64 128, .int .i64 16, .int .i64 11, .bool true], .int .i64 0] w fun e w' => e = .returned (.tuple #[.int .i64 1, .int .i64 128]) ∧ Below w.heap.size w w' :=
  group_any s1 0 w (by decide) (by decide) (by decide)

theorem s1_tab (w : World) : Calls Tryd.prog 50 #[.agg #[.int .i64 16, .int .i64 128, .int .i64 120, .int .i64 6, .int .i64 128, .int .i64 16, .int .i64 11, .bool true]] w fun e w' => e = .returned (.int .i64 2) ∧ Below w.heap.size w w' :=
  tab_any s1 w

set_option maxHeartbeats 4000000 in
set_option maxRecDepth 100000 in
theorem fixed_ok (R gr cr : Nat) (b n d : Value) (w : World) (hR : Blk w R (volX s1 (.slice (some ⟨gr, 0, none⟩) 1 cr) b n d) 82) (hr : CellsAt w gr r1.cs.toList) :
    Calls Tryd.prog 73 #[.pointer (some ⟨R, 0, none⟩), .int .i64 0] w fun e w' => (∃ g c, e = .returned (.slice (some ⟨g, 0, none⟩) 6 c) ∧ CellsAt w' g ([1, 2, 3, 4, 5, 6].map (Value.int .i64)) ∧ w.heap.size ≤ g) ∧ Below w.heap.size w w' := by
  have HW := fun u => hide (within_ext 0 0 0 u)
  have HG := fun u => hide (s1_group u)
  have HT := fun u => hide (s1_tab u)
  obtain ⟨⟨c0, c1, c2, c3, c4, c5, c6, c7⟩, c8, c9, c10, c11⟩ := cells_v1 hR
  obtain ⟨e0, e1, e2, e3, e4, e5⟩ := cells_r1 hr
  have HR := hide hR
  have HRw := hide hr
  clear hR hr
  go_enter Tryd.func73, Tryd.ntmps73
  go_wp2_with fail
  refine (HW _).out.mono ?_
  rintro e9 w2 ⟨rfl, h2⟩
  rw [h2, show winE 0 0 0 = true by decide]
  clear h2
  obtain ⟨w3, hw3⟩ : ∃ w3, w3 = w.alloc (.cells #[.int .i64 3, .int .i64 4, .int .i64 5, .int .i64 120, .int .i64 6, .int .i64 1] 41) := ⟨_, rfl⟩
  have hb3 : Below w.heap.size w w3 := by rw [hw3]; exact (Below.refl _ _).alloc (Nat.le_refl _) _
  have HI3 := hide (show Blk w3 w.heap.size #[.int .i64 3, .int .i64 4, .int .i64 5, .int .i64 120, .int .i64 6, .int .i64 1] 41 by rw [hw3]; exact Blk.new _ _ _)
  have HR3 := hide (HR.out.below hb3)
  have HB3 := hide hb3
  have HW3 := hide hw3
  rw [hw3] at hb3
  obtain ⟨⟨f0, f1, f2, f3, f4, f5, f6, f7⟩, f8, f9, f10, f11⟩ := cells_v1 (HR.out.below hb3)
  clear hb3 hw3
  go_wp2_with fail
  rw [← HW3.out]
  clear f0 f1 f2 f3 f4 f5 f6 f7 f8 f9 f10 f11 c0 c1 c2 c3 c4 c5 c6 c7 c8 c9 c10 c11 e0 e1 e2 e3 e4 e5
  refine (HG _).out.mono ?_
  rintro e9 w4 ⟨rfl, h4⟩
  have HI4 := hide (HI3.out.below h4)
  have HR4 := hide (HR3.out.below h4)
  have HB4 := hide (HB3.out.trans (h4.mono HB3.out.size))
  clear h4
  have e0 : w4.cell? ⟨w.heap.size, 0, none⟩ = some (.int .i64 3) := HI4.out.cell 0 _ rfl
  have e1 : w4.cell? ⟨w.heap.size, 1, none⟩ = some (.int .i64 4) := HI4.out.cell 1 _ rfl
  have hb5 : Below w4.heap.size w4 (w4.alloc (.cells #[.int .i64 1, .int .i64 2, .int .i64 3, .int .i64 4] 2)) := (Below.refl _ _).alloc (Nat.le_refl _) _
  obtain ⟨⟨f0, f1, f2, f3, f4, f5, f6, f7⟩, f8, f9, f10, f11⟩ := cells_v1 (HR4.out.below hb5)
  have HI5 := hide (HI4.out.below hb5)
  have HR5 := hide (HR4.out.below hb5)
  have HB5 := hide (HB4.out.trans (hb5.mono HB4.out.size))
  have HO5 := hide (show OwnZ (w4.alloc (.cells #[.int .i64 1, .int .i64 2, .int .i64 3, .int .i64 4] 2)) w4.heap.size (.slice (some ⟨w4.heap.size, 0, none⟩) 4 4) [1, 2, 3, 4] from ⟨rfl, Or.inr ⟨w4.heap.size, 4, _, rfl, Nat.le_refl _, heap_alloc_new w4 _, Nat.le_refl _, by unfold maxLen; omega, rfl, rfl⟩⟩)
  have HS4 := hide HB4.out.size
  have HL4 := hide HI4.out.lt
  have HS5 := hide hb5.size
  clear hb5
  go_wp2_with fail
  clear f0 f1 f2 f3 f4 f5 f6 f7 f8 f9 f10 f11 e0 e1
  refine (HT _).out.mono ?_
  rintro e9 w6 ⟨rfl, h6⟩
  have HI6 := hide (HI5.out.below h6)
  have HO6 := hide (HO5.out.below h6)
  have HB6 := hide (HB5.out.trans (h6.mono HB5.out.size))
  have HS6 := hide (Nat.le_trans HS5.out h6.size)
  clear h6
  obtain ⟨i64i, hi64, hz64, hs64, hy64⟩ := info_parts info_z64
  go_wp2_with fail
  go_loopw [8, 60] (fun l i wr => ∃ (j : Nat) (v : Value), j ≤ 2 ∧ i = .int .i64 (j : Int) ∧ l = v ∧ OwnZ wr w4.heap.size v ([1, 2, 3, 4, 5, 6].take (4 + j)) ∧ Blk wr w.heap.size #[.int .i64 3, .int .i64 4, .int .i64 5, .int .i64 120, .int .i64 6, .int .i64 1] 41 ∧ Below w.heap.size w wr ∧ w4.heap.size ≤ wr.heap.size) (fun _ i _ => 2 - (intOf i).toNat)
  case atStart => exact ⟨0, _, by omega, rfl, rfl, HO6.out, HI6.out, HB6.out, HS6.out⟩
  case round =>
    obtain ⟨j, v, hj, rfl, rfl, ho, hi, hb, hs⟩ := hrel
    have HOr := hide ho
    have HIr := hide hi
    have HBr := hide hb
    have HSr := hide hs
    clear ho hi hb hs
    obtain rfl | rfl | rfl : j = 0 ∨ j = 1 ∨ j = 2 := by omega
    · have e2 : wr.cell? ⟨w.heap.size, 2, none⟩ = some (.int .i64 5) := HIr.out.cell 2 _ rfl
      have hbx : Below wr.heap.size wr (wr.alloc (.cells #[.int .i64 5] 2)) := (Below.refl _ _).alloc (Nat.le_refl _) _
      have HOx := hide (HOr.out.below hbx)
      have HBx := hide (HBr.out.trans (hbx.mono HBr.out.size))
      have HIx := hide (HIr.out.below hbx)
      have HCx := hide (show (wr.alloc (.cells #[.int .i64 5] 2)).cell? ⟨wr.heap.size, 0, none⟩ = some (.int .i64 5) from (Blk.new wr #[.int .i64 5] 2).cell 0 _ rfl)
      have HSx := hide (Nat.le_trans HSr.out hbx.size)
      clear hbx
      go_wp2_with (refine wpList_append_own_at _ (by rfl) _ _ 42 (by rfl) w4.heap.size 2 i64i (.int .i64 0) 1 8 Tryd.underlying42 hi64 hz64 hs64 hy64 rfl (by decide) _ 4 ([1, 2, 3, 4].map (Value.int .i64)) (by rfl) HOx.out ⟨wr.heap.size, 0, none⟩ 1 1 [.int .i64 5] (by rfl) rfl (fun k u hu => by match k, hu with | 0, hu => (simp at hu; subst hu; exact HCx.out)) (by simp [Value.oneCell']) (by unfold maxLen; omega) (by omega) HSx.out ?_; intro v9 w9 ho9 hg9 _ _)
      have HO9 := hide (show OwnZ w9 w4.heap.size v9 [1, 2, 3, 4, 5] from ho9)
      have HB9 := hide (HBx.out.grown hg9 HBx.out.size (fun k hk => Nat.le_trans HS4.out (World.ownsRow.lt HOx.out k hk).1))
      have HI9 := hide (HIx.out.chg (Chg.of_grown hg9) (fun e => by have := (World.ownsRow.lt HOx.out _ e.symm).1; have := HL4.out; omega))
      have HS9 := hide (Nat.le_trans HSx.out hg9.size)
      clear ho9 hg9 e2
      go_roundw
      case rel => exact ⟨1, _, by omega, by go_num, rfl, HO9.out, HI9.out, HB9.out, HS9.out⟩
      case measure => simp [intOf]
    · have e2 : wr.cell? ⟨w.heap.size, 2, none⟩ = some (.int .i64 5) := HIr.out.cell 2 _ rfl
      have hbx : Below wr.heap.size wr (wr.alloc (.cells #[.int .i64 6] 2)) := (Below.refl _ _).alloc (Nat.le_refl _) _
      have HOx := hide (HOr.out.below hbx)
      have HBx := hide (HBr.out.trans (hbx.mono HBr.out.size))
      have HIx := hide (HIr.out.below hbx)
      have HCx := hide (show (wr.alloc (.cells #[.int .i64 6] 2)).cell? ⟨wr.heap.size, 0, none⟩ = some (.int .i64 6) from (Blk.new wr #[.int .i64 6] 2).cell 0 _ rfl)
      have HSx := hide (Nat.le_trans HSr.out hbx.size)
      clear hbx
      go_wp2_with (refine wpList_append_own_at _ (by rfl) _ _ 42 (by rfl) w4.heap.size 2 i64i (.int .i64 0) 1 8 Tryd.underlying42 hi64 hz64 hs64 hy64 rfl (by decide) _ 5 ([1, 2, 3, 4, 5].map (Value.int .i64)) (by rfl) HOx.out ⟨wr.heap.size, 0, none⟩ 1 1 [.int .i64 6] (by rfl) rfl (fun k u hu => by match k, hu with | 0, hu => (simp at hu; subst hu; exact HCx.out)) (by simp [Value.oneCell']) (by unfold maxLen; omega) (by omega) HSx.out ?_; intro v9 w9 ho9 hg9 _ _)
      have HO9 := hide (show OwnZ w9 w4.heap.size v9 [1, 2, 3, 4, 5, 6] from ho9)
      have HB9 := hide (HBx.out.grown hg9 HBx.out.size (fun k hk => Nat.le_trans HS4.out (World.ownsRow.lt HOx.out k hk).1))
      have HI9 := hide (HIx.out.chg (Chg.of_grown hg9) (fun e => by have := (World.ownsRow.lt HOx.out _ e.symm).1; have := HL4.out; omega))
      have HS9 := hide (Nat.le_trans HSx.out hg9.size)
      clear ho9 hg9 e2
      go_roundw
      case rel => exact ⟨2, _, by omega, by go_num, rfl, HO9.out, HI9.out, HB9.out, HS9.out⟩
      case measure => simp [intOf]
    · obtain ⟨g, c, hv, hc, hg⟩ := OwnZ.form HOr.out (by simp)
      replace hv : _ = Value.slice (some ⟨g, 0, none⟩) 6 c := hv
      subst hv
      have HC := hide (show CellsAt wr g ([1, 2, 3, 4, 5, 6].map (Value.int .i64)) from hc)
      have HG2 := hide (Nat.le_trans HS4.out hg)
      clear hc hg
      go_wp2_with fail
      go_ret
      exact ⟨⟨g, c, rfl, HC.out, HG2.out⟩, HBr.out⟩
end Go.Proofs.YtjmajjfknmjifaaDoor.Oct
