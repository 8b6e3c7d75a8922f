/- A header out of its bytes: the program's calls. -/
import Derived.Test.YtpmljlmcfofppaaHdc
import Derived.Test.YtpmljlmcfofppaaZer
import Derived.Laws.ResultCell
namespace Go.Proofs.Ytpmljlmcfofppaa.Oct
open Go.RowKit

/-- The fields may not be. -/
def badF (l : List Int) : Prop := 12 < num l 4 4 ∨ 16777216 < num l 8 8 ∨ 1 < num l 24 4

/-- The header that the fields say. -/
def hdF (l : List Int) : Hd := ⟨num l 4 4, num l 8 8, num l 16 4, num l 20 4, num l 24 4 == 1⟩

/-- A header as a value. -/
def vH (h : Hd) : Value := .agg #[.int .i64 h.bits, .int .i64 h.size, .int .i64 h.host, .int .i64 h.journal, .bool h.backed]
def zH : Hd := ⟨0, 0, 0, 0, false⟩

theorem u32_at (a : Option Addr) (cap : Nat) (l : List Int) (p : Nat) (w : World) (h5 : l.length ≤ 1000000) (hb : Byts l) (hl : Lies w a l) (hp : p + 4 ≤ l.length) :
    Calls Try.prog 42 #[.slice a l.length cap, .int .i64 p] w fun e w' => e = .returned (.tuple #[.int .u32 (num l p 4), .bool true]) ∧ w' = w := by
  have := U32_any a cap l p w (by unfold maxLen; omega) hb hl (by omega) (by omega)
  rw [thereB_yes (by omega) (by omega) (by omega), numAt_yes hp] at this
  exact this

theorem u64_at (a : Option Addr) (cap : Nat) (l : List Int) (p : Nat) (w : World) (h5 : l.length ≤ 1000000) (hb : Byts l) (hl : Lies w a l) (hp : p + 8 ≤ l.length) :
    Calls Try.prog 53 #[.slice a l.length cap, .int .i64 p] w fun e w' => e = .returned (.tuple #[.int .u64 (num l p 8), .bool true]) ∧ w' = w := by
  have := U64_any a cap l p w (by unfold maxLen; omega) hb hl (by omega) (by omega)
  rw [thereB_yes (by omega) (by omega) (by omega), numAt_yes hp] at this
  exact this

set_option maxHeartbeats 2000000 in
theorem fields_any (a : Option Addr) (cap : Nat) (l : List Int) (w : World) (h5 : l.length ≤ 1000000) (hb : Byts l) (hl : Lies w a l) (h28 : 28 ≤ l.length) :
    Calls Try.prog 43 #[.slice a l.length cap] w fun e w' => ((badF l ∧ e = .returned (.tuple #[vH zH, .int .i64 11])) ∨ (¬ badF l ∧ e = .returned (.tuple #[vH (hdF l), .int .i64 0]))) ∧ Below w.heap.size w w' := by
  have n1 := num_lt l 4 hb 4
  have n2 := num_lt l 8 hb 8
  have n3 := num_lt l 16 hb 4
  have n4 := num_lt l 20 hb 4
  have n5 := num_lt l 24 hb 4
  have HL := hide (hl.alloc (.cells #[.int .i64 0, .int .i64 0, .int .i64 0, .int .i64 0, .bool false] 23))
  have HB := hide ((Below.refl w.heap.size w).alloc (Nat.le_refl _) (.cells #[.int .i64 0, .int .i64 0, .int .i64 0, .int .i64 0, .bool false] 23))
  have C1 : ∀ u, Lies u a l → Hid (Calls Try.prog 42 #[.slice a l.length cap, .int .i64 4] u fun e w' => e = .returned (.tuple #[.int .u32 (num l 4 4), .bool true]) ∧ w' = u) := fun u hu => hide (u32_at a cap l 4 u h5 hb hu (by omega))
  have C2 : ∀ u, Lies u a l → Hid (Calls Try.prog 53 #[.slice a l.length cap, .int .i64 8] u fun e w' => e = .returned (.tuple #[.int .u64 (num l 8 8), .bool true]) ∧ w' = u) := fun u hu => hide (u64_at a cap l 8 u h5 hb hu (by omega))
  have C3 : ∀ u, Lies u a l → Hid (Calls Try.prog 42 #[.slice a l.length cap, .int .i64 16] u fun e w' => e = .returned (.tuple #[.int .u32 (num l 16 4), .bool true]) ∧ w' = u) := fun u hu => hide (u32_at a cap l 16 u h5 hb hu (by omega))
  have C4 : ∀ u, Lies u a l → Hid (Calls Try.prog 42 #[.slice a l.length cap, .int .i64 20] u fun e w' => e = .returned (.tuple #[.int .u32 (num l 20 4), .bool true]) ∧ w' = u) := fun u hu => hide (u32_at a cap l 20 u h5 hb hu (by omega))
  have C5 : ∀ u, Lies u a l → Hid (Calls Try.prog 42 #[.slice a l.length cap, .int .i64 24] u fun e w' => e = .returned (.tuple #[.int .u32 (num l 24 4), .bool true]) ∧ w' = u) := fun u hu => hide (u32_at a cap l 24 u h5 hb hu (by omega))
  have HBad : Hid ((12 < num l 4 4 ∨ 16777216 < num l 8 8 ∨ 1 < num l 24 4) → badF l) := hide (fun h => h)
  have HGood : Hid (¬ (12 < num l 4 4 ∨ 16777216 < num l 8 8 ∨ 1 < num l 24 4) → ¬ badF l) := hide (fun h => h)
  have HV : Hid (vH (hdF l) = .agg #[.int .i64 (num l 4 4), .int .i64 (num l 8 8), .int .i64 (num l 16 4), .int .i64 (num l 20 4), .bool (num l 24 4 == 1)]) := hide rfl
  generalize num l 4 4 = v1 at *
  generalize num l 8 8 = v2 at *
  generalize num l 16 4 = v3 at *
  generalize num l 20 4 = v4 at *
  generalize num l 24 4 = v5 at *
  have p4 : (256 : Int) ^ 4 = 4294967296 := by decide
  have p8 : (256 : Int) ^ 8 = 18446744073709551616 := by decide
  rw [p4] at n1 n3 n4 n5
  rw [p8] at n2
  clear p4 p8
  clear hl hb
  go_enter Try.func43, Try.ntmps43
  go_wp2_with fail
  refine ((C1 _ HL.out).out).mono ?_
  rintro e9 w2 ⟨rfl, h2⟩
  subst h2
  go_wp2_with fail
  refine ((C2 _ HL.out).out).mono ?_
  rintro e9 w2 ⟨rfl, h2⟩
  subst h2
  go_wp2_with fail
  refine ((C3 _ HL.out).out).mono ?_
  rintro e9 w2 ⟨rfl, h2⟩
  subst h2
  go_wp2_with fail
  refine ((C4 _ HL.out).out).mono ?_
  rintro e9 w2 ⟨rfl, h2⟩
  subst h2
  go_wp2_with fail
  refine ((C5 _ HL.out).out).mono ?_
  rintro e9 w2 ⟨rfl, h2⟩
  subst h2
  by_cases b1 : 12 < v1
  · go_wp2_with fail
    refine bodyPost_ret (v := .tuple #[.agg #[.int .i64 0, .int .i64 0, .int .i64 0, .int .i64 0, .bool false], .int .i64 11]) ?_ rfl ⟨Or.inl ⟨HBad.out (Or.inl b1), rfl⟩, ((Below.refl w.heap.size w).alloc (Nat.le_refl _) (.cells #[.int .i64 0, .int .i64 0, .int .i64 0, .int .i64 0, .bool false] 23))⟩
    rw [results_cell_tmp rfl]
    go_simp
  by_cases b2 : 16777216 < v2
  · go_wp2_with fail
    refine bodyPost_ret (v := .tuple #[.agg #[.int .i64 0, .int .i64 0, .int .i64 0, .int .i64 0, .bool false], .int .i64 11]) ?_ rfl ⟨Or.inl ⟨HBad.out (Or.inr (Or.inl b2)), rfl⟩, ((Below.refl w.heap.size w).alloc (Nat.le_refl _) (.cells #[.int .i64 0, .int .i64 0, .int .i64 0, .int .i64 0, .bool false] 23))⟩
    rw [results_cell_tmp rfl]
    go_simp
  by_cases b3 : 1 < v5
  · go_wp2_with fail
    refine bodyPost_ret (v := .tuple #[.agg #[.int .i64 0, .int .i64 0, .int .i64 0, .int .i64 0, .bool false], .int .i64 11]) ?_ rfl ⟨Or.inl ⟨HBad.out (Or.inr (Or.inr b3)), rfl⟩, ((Below.refl w.heap.size w).alloc (Nat.le_refl _) (.cells #[.int .i64 0, .int .i64 0, .int .i64 0, .int .i64 0, .bool false] 23))⟩
    rw [results_cell_tmp rfl]
    go_simp
  · go_wp2_with fail
    refine bodyPost_ret (v := .tuple #[.agg #[.int .i64 v1, .int .i64 v2, .int .i64 v3, .int .i64 v4, .bool (v5 == 1)], .int .i64 0]) ?_ rfl ⟨Or.inr ⟨HGood.out (by omega), by rw [HV.out]⟩, ((Below.refl w.heap.size w).alloc (Nat.le_refl _) (.cells #[.int .i64 v1, .int .i64 v2, .int .i64 v3, .int .i64 v4, .bool (v5 == 1)] 23))⟩
    rw [results_cell_tmp rfl]
    go_simp

end Go.Proofs.Ytpmljlmcfofppaa.Oct
