/- Small calls of the statements of parts: an entry's bytes; the sort of one partition. -/
import Derived.Test.YtjpdfchdgphdoaaGreatDoorPLst
import Derived.Test.YtjpdfchdgphdoaaGreatDoorPMbb
import Derived.BigQuiet
namespace Go.Proofs.YtjpdfchdgphdoaaGreatDoor.Oct
open Go.RowKit

set_option maxRecDepth 100000 in
set_option maxHeartbeats 1000000 in
theorem row15 (w : World) : Calls Tryz.prog 18 #[.int .u64 12, .int .u64 8, .int .u64 40] w fun e w' => ∃ v, e = .returned v ∧ Own w' w.heap.size v (([0, 0, 0, 0, 12, 0, 0, 0] ++ bytesOf 8 4) ++ bytesOf 40 4) ∧ Below w.heap.size w w' := by
  have HO0 : Hid (Own (w.alloc (.cells #[.int .u8 0, .int .u8 0, .int .u8 0, .int .u8 0, .int .u8 12, .int .u8 0, .int .u8 0, .int .u8 0] 5)) w.heap.size (.slice (some ⟨w.heap.size, 0, none⟩) 8 8) [0, 0, 0, 0, 12, 0, 0, 0]) := hide (World.ownsRow_lit (base := w.heap.size) (e := 5) (size := 1) w #[.int .u8 0, .int .u8 0, .int .u8 0, .int .u8 0, .int .u8 12, .int .u8 0, .int .u8 0, .int .u8 0] 8 (Nat.le_refl _) (by decide) (by simp))
  have HB0 := hide ((Below.refl w.heap.size w).alloc (Nat.le_refl _) (.cells #[.int .u8 0, .int .u8 0, .int .u8 0, .int .u8 0, .int .u8 12, .int .u8 0, .int .u8 0, .int .u8 0] 5))
  have HBy : ∀ (x : Int) (u : World), 0 ≤ x → x < 1000 → Hid (Calls Tryz.prog 33 #[.int .u64 x, .int .i64 4] u fun e w' => ∃ r, e = .returned r ∧ Own w' u.heap.size r (bytesOf x 4) ∧ Below u.heap.size u w') := fun x u h0 h1 => hide (Bytes_any x 4 u (by omega) h0 (by omega))
  go_enter Tryz.func18, Tryz.ntmps18
  go_wp2_with fail
  refine ((HBy 8 _ (by omega) (by omega)).out).mono ?_
  rintro e9 w1 ⟨r1, rfl, ho1, hb1⟩
  obtain ⟨a1, c1, rfl, hl1, _⟩ := ho1.form
  have HL1 := hide hl1
  have HO1 := hide (HO0.out.below hb1)
  have HB1 := hide (HB0.out.trans (hb1.mono HB0.out.size))
  have hbl : (bytesOf 8 4).length = 4 := bytesOf_length 8 4
  have hs1 := HB1.out.size
  rw [hbl]
  have HBl := hide hbl
  clear ho1 hb1 hl1 hbl HO0 HB0
  go_wp2_with (at_builtin; refine wpList_append_bytes rfl _ _ 22 rfl Tryz.underlying22 info5 w.heap.size _ [0, 0, 0, 0, 12, 0, 0, 0] rfl (by exact HO1.out) a1 4 c1 (bytesOf 8 4) rfl HBl.out.symm (by exact HL1.out) (by rw [HBl.out]; simp) hs1 ?_; intro v2 w2 ho2 hg2; have HO2 := hide ho2; have HB2 := hide (Own.behind HO1.out HB1.out hg2 hs1); clear ho2 hg2)
  refine ((HBy 40 _ (by omega) (by omega)).out).mono ?_
  rintro e9 w3 ⟨r3, rfl, ho3, hb3⟩
  obtain ⟨a3, c3, rfl, hl3, _⟩ := ho3.form
  have HL3 := hide hl3
  have HO3 := hide (HO2.out.below hb3)
  have HB3 := hide (HB2.out.trans (hb3.mono HB2.out.size))
  have hbl : (bytesOf 40 4).length = 4 := bytesOf_length 40 4
  have hs3 := HB3.out.size
  rw [hbl]
  have HBm := hide hbl
  clear ho3 hb3 hl3 hbl HO2 HB2
  go_wp2_with (at_builtin; refine wpList_append_bytes rfl _ _ 22 rfl Tryz.underlying22 info5 w.heap.size _ ([0, 0, 0, 0, 12, 0, 0, 0] ++ bytesOf 8 4) rfl (by exact HO3.out) a3 4 c3 (bytesOf 40 4) rfl HBm.out.symm (by exact HL3.out) (by rw [List.length_append, HBm.out, HBl.out]; simp) hs3 ?_; intro v4 w4 ho4 hg4; have HO4 := hide ho4; have HB4 := hide (Own.behind HO3.out HB3.out hg4 hs3); clear ho4 hg4)
  go_ret
  exact ⟨_, rfl, HO4.out, HB4.out⟩

set_option maxRecDepth 100000 in
theorem len64_one (w : World) : Calls Tryz.prog 92 #[.int .u64 1] w fun e w' => e = .returned (.int .i64 1) ∧ w' = w := by
  go_enter Tryz.func92, Tryz.ntmps92
  go_wp2_with fail
  go_ret
  exact ⟨by kernel_rfl, rfl⟩

theorem len_one (w : World) : Calls Tryz.prog 61 #[.int .u64 1] w fun e w' => e = .returned (.int .i64 1) ∧ w' = w := by
  go_enter Tryz.func61, Tryz.ntmps61
  go_wp2_with fail
  refine (len64_one w).mono ?_
  rintro e9 w9 ⟨rfl, h9⟩
  rw [h9]
  clear h9
  go_wp2_with fail
  go_ret
  exact ⟨rfl, rfl⟩

set_option maxRecDepth 100000 in
set_option maxHeartbeats 1000000 in
theorem ins_one (w : World) (a : Option Addr) (c : Nat) (fv : Value) : Calls Tryz.prog 83 #[.slice a 1 c, .int .i64 0, .int .i64 1, fv] w fun e w' => e = .returned (.tuple #[]) ∧ Below w.heap.size w w' := by
  go_enter Tryz.func83, Tryz.ntmps83
  go_wp2_with fail
  go_loopw [8] (fun i wr => i = .int .i64 1 ∧ Below w.heap.size w wr) (fun _ _ => 0)
  case atStart => exact ⟨rfl, Below.refl _ _⟩
  case round =>
    obtain ⟨rfl, hb⟩ := hrel
    have HB := hide hb
    clear hb
    go_wp2_with fail
    go_end0
    exact ⟨rfl, HB.out⟩

set_option maxRecDepth 100000 in
set_option maxHeartbeats 4000000 in
theorem pdq_one (w : World) (a : Option Addr) (c : Nat) (fv : Value) : Calls Tryz.prog 60 #[.slice a 1 c, .int .i64 0, .int .i64 1, .int .i64 1, fv] w fun e w' => e = .returned (.tuple #[]) ∧ Below w.heap.size w w' := by
  go_enter Tryz.func60, Tryz.ntmps60
  go_wp2_with fail
  go_loopw [1, 2] (fun x y wr => x = .int .i64 0 ∧ y = .int .i64 1 ∧ Below w.heap.size w wr) (fun _ _ _ => 0)
  case atStart => exact ⟨rfl, rfl, Below.refl _ _⟩
  case round =>
    obtain ⟨rfl, rfl, hb⟩ := hrel
    have HB := hide hb
    clear hb
    go_wp2_with fail
    refine (ins_one _ _ _ _).mono ?_
    rintro e9 w9 ⟨rfl, h9⟩
    have H9 := hide (HB.out.trans (h9.mono HB.out.size))
    clear h9
    go_wp2_with fail
    refine bodyPost_ret (results_none rfl _ _ _) rfl ?_
    exact ⟨rfl, H9.out⟩

set_option maxRecDepth 100000 in
set_option maxHeartbeats 1000000 in
theorem sort_one (w : World) (a : Option Addr) (c : Nat) (fv : Value) : Calls Tryz.prog 42 #[.slice a 1 c, fv] w fun e w' => e = .returned (.tuple #[]) ∧ Below w.heap.size w w' := by
  go_enter Tryz.func42, Tryz.ntmps42
  go_wp2_with fail
  refine (len_one _).mono ?_
  rintro e9 w9 ⟨rfl, h9⟩
  rw [h9]
  clear h9
  go_wp2_with fail
  refine (pdq_one _ _ _ _).mono ?_
  rintro e9 w9 ⟨rfl, h9⟩
  have H9 := hide h9
  clear h9
  go_wp2_with fail
  go_end0
  exact ⟨rfl, H9.out⟩
end Go.Proofs.YtjpdfchdgphdoaaGreatDoor.Oct
