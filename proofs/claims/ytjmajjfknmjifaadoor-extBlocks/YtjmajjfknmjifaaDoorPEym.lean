/- The document's rows: RowAt, PutRow. -/
import Derived.Test.YtjmajjfknmjifaaDoorPEyn
import Derived.Test.YtjmajjfknmjifaaDoorPRef
namespace Go.Proofs.YtjmajjfknmjifaaDoor.Oct
open Go.RowKit

set_option maxHeartbeats 400000 in
theorem rint2_any (a : Option Addr) (cap : Nat) (l : List Int) (p : Nat) (w : World) (h5 : l.length ≤ 1000000) (hb : Byts l) (hl : Lies w a l) (hp : p + 2 ≤ l.length) :
    Calls Tryd.prog 37 #[.slice a l.length cap, .int .i64 p, .int .i64 2] w fun e w' => e = .returned (.int .i64 (num l p 2)) ∧ w' = w := by
  have HN : Hid (Calls Tryd.prog 64 #[.slice a l.length cap, .int .i64 p, .int .i64 2] w fun e w' => e = .returned (.tuple #[.int .u64 (num l p 2), .bool true]) ∧ w' = w) := hide (by
    have := Num_any a cap l p 2 (by omega) (by omega) w (by unfold maxLen; omega) hb hl (by omega) (by omega)
    rw [thereB_yes (by omega) (by omega) (by omega), numAt_yes hp] at this
    exact this)
  have hn := num_lt l p hb 2
  have hn2 : 0 ≤ num l p 2 ∧ num l p 2 < 4294967296 := by constructor <;> omega
  clear hl hb hn
  generalize num l p 2 = v at *
  go_enter Tryd.func37, Tryd.ntmps37
  go_wp2_with fail
  refine HN.out.mono ?_
  rintro e9 w2 ⟨rfl, rfl⟩
  go_wp2_with fail
  go_ret
  exact ⟨rfl, rfl⟩
set_option maxHeartbeats 400000 in
theorem rint4_any (a : Option Addr) (cap : Nat) (l : List Int) (p : Nat) (w : World) (h5 : l.length ≤ 1000000) (hb : Byts l) (hl : Lies w a l) (hp : p + 4 ≤ l.length) :
    Calls Tryd.prog 37 #[.slice a l.length cap, .int .i64 p, .int .i64 4] w fun e w' => e = .returned (.int .i64 (num l p 4)) ∧ w' = w := by
  have HN : Hid (Calls Tryd.prog 64 #[.slice a l.length cap, .int .i64 p, .int .i64 4] w fun e w' => e = .returned (.tuple #[.int .u64 (num l p 4), .bool true]) ∧ w' = w) := hide (by
    have := Num_any a cap l p 4 (by omega) (by omega) w (by unfold maxLen; omega) hb hl (by omega) (by omega)
    rw [thereB_yes (by omega) (by omega) (by omega), numAt_yes hp] at this
    exact this)
  have hn := num_lt l p hb 4
  have hn2 : 0 ≤ num l p 4 ∧ num l p 4 < 4294967296 := by constructor <;> omega
  clear hl hb hn
  generalize num l p 4 = v at *
  go_enter Tryd.func37, Tryd.ntmps37
  go_wp2_with fail
  refine HN.out.mono ?_
  rintro e9 w2 ⟨rfl, rfl⟩
  go_wp2_with fail
  go_ret
  exact ⟨rfl, rfl⟩

theorem ret_rrow {fn : Func} {p : Tmp} (hr : fn.results = #[.cell p 52]) (tmps : Array Value) (w : World) (R : Nat) (r : Rw)
    (hp : tmps.getD p undef = .pointer (some ⟨R, 0, none⟩)) (hs : Blk w R r.cs 52) :
    (results fn tmps).run Tryd.prog w = .ok (.agg r.cs) w :=
  results_cell_row hr tmps w R 52 r.cs (0, 0) _ hp hs Tryd.underlying52 rfl (by kernel_rfl)

set_option maxHeartbeats 4000000 in
theorem rrow_any (a : Option Addr) (cap : Nat) (l : List Int) (q : Nat) (w : World) (h5 : l.length ≤ 1000000) (hb : Byts l) (hl : Lies w a l) (hq : q + 32 ≤ l.length) :
    Calls Tryd.prog 20 #[.slice a l.length cap, .int .i64 q] w fun e w' => e = .returned (.agg (rwOf ((l.drop q).take 32)).cs) ∧ Below w.heap.size w w' := by
  obtain ⟨w1, hw1⟩ : ∃ w1, w1 = w.alloc (.cells #[.int .i64 0, .int .i64 0, .int .i64 0, .int .i64 0, .int .i64 0, .int .i64 0] 52) := ⟨_, rfl⟩
  have hb1 : Below w.heap.size w w1 := by rw [hw1]; exact (Below.refl _ _).alloc (Nat.le_refl _) _
  have hk1 : Blk w1 w.heap.size #[.int .i64 0, .int .i64 0, .int .i64 0, .int .i64 0, .int .i64 0, .int .i64 0] 52 := by rw [hw1]; exact Blk.new _ _ _
  have hl1 := hl.below hb1
  have g2 := fun (k : Nat) (hk : k + 2 ≤ 32) => hide (rint2_any a cap l (q + k) w1 h5 hb hl1 (by omega))
  have g4 := fun (k : Nat) (hk : k + 4 ≤ 32) => hide (rint4_any a cap l (q + k) w1 h5 hb hl1 (by omega))
  have e2 := fun (k z : Nat) (hk : k + z ≤ 32) => num_partE l q 32 k (by omega) z hk
  have HG0 := g4 0 (by omega)
  have HG4 := g4 4 (by omega)
  have HG8 := g4 8 (by omega)
  have HG12 := g2 12 (by omega)
  have HG14 := g2 14 (by omega)
  have HG16 := g2 16 (by omega)
  rw [← e2 0 4 (by omega)] at HG0
  rw [← e2 4 4 (by omega)] at HG4
  rw [← e2 8 4 (by omega)] at HG8
  rw [← e2 12 2 (by omega)] at HG12
  rw [← e2 14 2 (by omega)] at HG14
  rw [← e2 16 2 (by omega)] at HG16
  push_cast at HG0 HG4 HG8 HG12 HG14 HG16
  rw [Int.add_zero] at HG0
  have hq2 : (q : Int) ≤ 1000000 := by omega
  unfold rwOf
  generalize (l.drop q).take 32 = m at *
  generalize num m 0 4 = v0 at *
  generalize num m 4 4 = v4 at *
  generalize num m 8 4 = v8 at *
  generalize num m 12 2 = v12 at *
  generalize num m 14 2 = v14 at *
  generalize num m 16 2 = v16 at *
  generalize l.length = n at *
  have HB1 := hide hb1
  have HK1 := hide hk1
  have HW1 := hide hw1
  clear e2 g2 g4 h5 hb hl hl1 hq hb1 hk1 hw1
  go_enter Tryd.func20, Tryd.ntmps20
  go_wp2_with fail
  rw [← HW1.out]
  refine HG0.out.mono ?_
  rintro e9 w3 ⟨rfl, h3⟩
  rw [h3]
  clear h3
  go_wp2_with fail
  refine HG4.out.mono ?_
  rintro e9 w3 ⟨rfl, h3⟩
  rw [h3]
  clear h3
  go_wp2_with fail
  refine HG8.out.mono ?_
  rintro e9 w3 ⟨rfl, h3⟩
  rw [h3]
  clear h3
  go_wp2_with fail
  refine HG12.out.mono ?_
  rintro e9 w3 ⟨rfl, h3⟩
  rw [h3]
  clear h3
  go_wp2_with fail
  refine HG14.out.mono ?_
  rintro e9 w3 ⟨rfl, h3⟩
  rw [h3]
  clear h3
  go_wp2_with fail
  refine HG16.out.mono ?_
  rintro e9 w3 ⟨rfl, h3⟩
  rw [h3]
  clear h3
  have z0 := HK1.out.cell 0 _ rfl
  have z1 := HK1.out.cell 1 _ rfl
  have z2 := HK1.out.cell 2 _ rfl
  have z3 := HK1.out.cell 3 _ rfl
  have z4 := HK1.out.cell 4 _ rfl
  have z5 := HK1.out.cell 5 _ rfl
  have f0 := HK1.out.frozen 0
  have f1 := HK1.out.frozen 1
  have f2 := HK1.out.frozen 2
  have f3 := HK1.out.frozen 3
  have f4 := HK1.out.frozen 4
  have f5 := HK1.out.frozen 5
  go_wp2_with fail
  exact bodyPost_ret (ret_rrow rfl _ _ w.heap.size ⟨v0, v4, v8, v12, v14, v16⟩ rfl (blk6e HK1.out _ _ _ _ _ _)) rfl ⟨rfl, below6e HB1.out (Nat.le_refl _) _ _ _ _ _ _⟩
end Go.Proofs.YtjmajjfknmjifaaDoor.Oct
