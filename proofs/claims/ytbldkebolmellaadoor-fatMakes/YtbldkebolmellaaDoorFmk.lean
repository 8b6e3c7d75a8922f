/- A volume is made: the numbers with which a table begins. -/
import Derived.Test.YtbldkebolmellaaDoorFpu
import Derived.Test.YtbldkebolmellaaDoorFcb
namespace Go.Proofs.YtbldkebolmellaaDoor.Oct
open Go.RowKit

theorem ix_bg (u : World) : (Instr.index 109 (.agg #[.int .u32 268435448, .int .u32 268435455, .int .u32 268435455]) (.int .i64 0)).run Tryd.prog u = .ok (.int .u32 268435448) u ∧ (Instr.index 109 (.agg #[.int .u32 268435448, .int .u32 268435455, .int .u32 268435455]) (.int .i64 1)).run Tryd.prog u = .ok (.int .u32 268435455) u ∧ (Instr.index 109 (.agg #[.int .u32 268435448, .int .u32 268435455, .int .u32 268435455]) (.int .i64 2)).run Tryd.prog u = .ok (.int .u32 268435455) u := ⟨by kernel_rfl, by kernel_rfl, by kernel_rfl⟩

/-- A table's first numbers, at a place. -/
def begL (l : List Int) (p : Nat) : Nat → List Int
  | 0 => l
  | 1 => putN l p 268435448 4
  | 2 => putN (putN l p 268435448 4) (p + 4) 268435455 4
  | _ => putN (putN (putN l p 268435448 4) (p + 4) 268435455 4) (p + 8) 268435455 4

theorem begL_len (l : List Int) (p k : Nat) : (begL l p k).length = l.length := by
  unfold begL
  split <;> simp only [putN_length]

set_option maxHeartbeats 8000000 in
set_option maxRecDepth 100000 in
theorem begin_ok (B g n : Nat) (l : List Int) (s : Int) (p : Nat) (w : World) (hn : l.length = n) (hn2 : n ≤ 1000000000) (hs : IntKind.i64.wrap (s * 512) = (p : Int)) (hp : p + 12 ≤ n) (hown : Own w B (.slice (some ⟨g, 0, none⟩) n n) l) :
    Calls Tryd.prog 46 #[.slice (some ⟨g, 0, none⟩) n n, .int .i64 s] w fun e w' => (∃ v, e = .returned v) ∧ Own w' B (.slice (some ⟨g, 0, none⟩) n n) (begL l p 3) ∧ Chg (fun k => some k = some g) w w' := by
  have HP : ∀ (j q : Nat) (v : Int) (u : World), q + 4 ≤ n → Own u B (.slice (some ⟨g, 0, none⟩) n n) (begL l p j) → Hid (Calls Tryd.prog 35 #[.slice (some ⟨g, 0, none⟩) n n, .int .i64 (q : Int), .int .u32 v] u fun e w' => e = .returned (.bool true) ∧ Own w' B (.slice (some ⟨g, 0, none⟩) n n) (putN (begL l p j) q v 4) ∧ u.grownBy w' (some g)) := fun j q v u hq ho => hide (by
    have hl : (begL l p j).length = n := by rw [begL_len]; exact hn
    have h := Put32_yes B g n (begL l p j) q v u (by rw [hl]; unfold maxLen; omega) (by rw [hl]; omega) (by rw [hl]; exact ho)
    rw [hl] at h
    exact h)
  have m0 : IntKind.i64.wrap (p : Int) = (p : Int) := by rw [IntKind.wrap_i64]; omega
  have m1 : IntKind.i64.wrap ((p : Int) + 4) = (p : Int) + 4 := by rw [IntKind.wrap_i64]; omega
  have m2 : IntKind.i64.wrap ((p : Int) + 8) = (p : Int) + 8 := by rw [IntKind.wrap_i64]; omega
  have HP0 := fun u ho => HP 0 p 268435448 u (by omega) ho
  have HP1 := fun u ho => HP 1 (p + 4) 268435455 u (by omega) ho
  have HP2 := fun u ho => HP 2 (p + 8) 268435455 u (by omega) ho
  push_cast at HP1 HP2
  have i0 := fun u => (ix_bg u).1
  have i1 := fun u => (ix_bg u).2.1
  have i2 := fun u => (ix_bg u).2.2
  have HO := hide hown
  clear hown hn hn2 hp HP
  go_enter Tryd.func46, Tryd.ntmps46
  go_wp2_with fail
  go_loopw [7] (fun i wr => ∃ j : Nat, j ≤ 3 ∧ i = .int .i64 (j : Int) ∧ Own wr B (.slice (some ⟨g, 0, none⟩) n n) (begL l p j) ∧ Chg (fun k => some k = some g) w wr) (fun i _ => 3 - (intOf i).toNat)
  case atStart => exact ⟨0, by omega, rfl, HO.out, Chg.refl _ _⟩
  case round =>
    obtain ⟨j, hj, rfl, ho, hc⟩ := hrel
    have HOr := hide ho
    have HCr := hide hc
    clear ho hc
    obtain rfl | rfl | rfl | rfl : j = 0 ∨ j = 1 ∨ j = 2 ∨ j = 3 := by omega
    · have HPj := HP0 wr HOr.out
      clear HP0 HP1 HP2
      go_wp2_with fail
      refine HPj.out.mono ?_
      rintro e9 w5 ⟨rfl, ho5, hg5⟩
      have HO5 := hide ho5
      have HC5 := hide (HCr.out.trans (Chg.of_grown hg5))
      clear ho5 hg5
      go_wp2_with fail
      go_roundw
      case rel => exact ⟨1, by omega, by go_num, HO5.out, HC5.out⟩
      case measure => simp [intOf]
    · have HPj := HP1 wr HOr.out
      clear HP0 HP1 HP2
      go_wp2_with fail
      refine HPj.out.mono ?_
      rintro e9 w5 ⟨rfl, ho5, hg5⟩
      have HO5 := hide ho5
      have HC5 := hide (HCr.out.trans (Chg.of_grown hg5))
      clear ho5 hg5
      go_wp2_with fail
      go_roundw
      case rel => exact ⟨2, by omega, by go_num, HO5.out, HC5.out⟩
      case measure => simp [intOf]
    · have HPj := HP2 wr HOr.out
      clear HP0 HP1 HP2
      go_wp2_with fail
      refine HPj.out.mono ?_
      rintro e9 w5 ⟨rfl, ho5, hg5⟩
      have HO5 := hide ho5
      have HC5 := hide (HCr.out.trans (Chg.of_grown hg5))
      clear ho5 hg5
      go_wp2_with fail
      go_roundw
      case rel => exact ⟨3, by omega, by go_num, HO5.out, HC5.out⟩
      case measure => simp [intOf]
    · go_wp2_with fail
      exact bodyPost_end (results_none rfl _ _ _) rfl ⟨⟨_, rfl⟩, HOr.out, HCr.out⟩
end Go.Proofs.YtbldkebolmellaaDoor.Oct
