/- The document's table in memory; its rows. -/
import Derived.Test.YtpbnjobjjnhplaaDoorPRdLow
import Derived.Test.YtpbnjobjjnhplaaDoorPGpj
namespace Go.Proofs.YtpbnjobjjnhplaaDoor.Oct
open Go.RowKit

/-- Are all 0? -/
def allZ (l : List Int) : Bool := l.all (fun x => decide (x = 0))

theorem allZ_no (l : List Int) (k : Nat) (hk : k < l.length) (h : l.getD k 0 ≠ 0) : allZ l = false := by
  unfold allZ
  rw [List.all_eq_false]
  refine ⟨l[k], List.getElem_mem hk, ?_⟩
  simpa [hk] using h

theorem allZ_yes (l : List Int) (h : ∀ j, j < l.length → l.getD j 0 = 0) : allZ l = true := by
  unfold allZ
  rw [List.all_eq_true]
  intro x hx
  obtain ⟨k, hk, rfl⟩ := List.getElem_of_mem hx
  have := h k hk
  simpa [hk] using this

set_option maxHeartbeats 400000 in
theorem Zero_some (b off cap : Nat) (l : List Int) (w : World) (hlen : l.length ≤ maxLen)
    (hc : ∀ k, k < l.length → w.cell? ⟨b, off + k, none⟩ = some (.int .u8 (l.getD k 0))) :
    Calls Tryd.prog 96 #[.slice (some ⟨b, off, none⟩) l.length cap] w fun e w' => e = .returned (.bool (allZ l)) ∧ w' = w := by
  unfold maxLen at hlen
  go_enter Tryd.func96, Tryd.ntmps96
  go_wp2_with fail
  go_loop [7] (fun i => ∃ k : Nat, k ≤ l.length ∧ i = .int .i64 k ∧ ∀ j, j < k → l.getD j 0 = 0) (fun i => l.length - (intOf i).toNat)
  case atStart => exact ⟨0, by omega, rfl, by intro j hj; omega⟩
  case round =>
    obtain ⟨k, hk, rfl, hz⟩ := hrel
    have HZ := hide hz
    clear hz
    by_cases hlt : k < l.length
    · have hcell := hc k hlt
      clear hc
      generalize hx : l.getD k 0 = x at *
      have HX := hide hx
      clear hx
      by_cases h0 : x = 0
      · subst h0
        go_wp2_with fail
        go_round
        case rel => exact ⟨k + 1, by omega, by go_num, fun j hj => by
          rcases Nat.lt_or_ge j k with h | h
          · exact HZ.out j h
          · obtain rfl : j = k := by omega
            exact HX.out⟩
        case measure => simp [intOf]; omega
      · have hne : (x != 0) = true := by simp [h0]
        have HF : Hid (allZ l = false) := allZ_no l k hlt (by rw [HX.out]; exact h0)
        clear h0
        go_wp2_with fail
        go_ret
        exact ⟨by rw [HF.out]; rfl, rfl⟩
    · obtain rfl : k = l.length := by omega
      have HF : Hid (allZ l = true) := allZ_yes l HZ.out
      clear hc
      go_wp2_with fail
      go_ret
      exact ⟨by rw [HF.out]; rfl, rfl⟩

set_option maxHeartbeats 400000 in
theorem Zero_empty (a : Option Addr) (cap : Nat) (w : World) :
    Calls Tryd.prog 96 #[.slice a 0 cap] w fun e w' => e = .returned (.bool true) ∧ w' = w := by
  go_enter Tryd.func96, Tryd.ntmps96
  go_wp2_with fail
  refine wp_loop_rounds 1 ?_
  rw [rounds_succ]
  go_wp2_with fail
  go_ret
  exact ⟨rfl, rfl⟩

theorem Zero_any (a : Option Addr) (cap : Nat) (l : List Int) (w : World) (hlen : l.length ≤ maxLen) (hl : Lies w a l) :
    Calls Tryd.prog 96 #[.slice a l.length cap] w fun e w' => e = .returned (.bool (allZ l)) ∧ w' = w := by
  rcases hl with rfl | ⟨b, off, rfl, _, hc⟩
  · exact Zero_empty a cap w
  · exact Zero_some b off cap l w hlen hc
set_option maxHeartbeats 400000 in
theorem IsZero_some (b off cap : Nat) (l : List Int) (w : World) (hlen : l.length ≤ maxLen)
    (hc : ∀ k, k < l.length → w.cell? ⟨b, off + k, none⟩ = some (.int .u8 (l.getD k 0))) :
    Calls Tryd.prog 31 #[.slice (some ⟨b, off, none⟩) l.length cap] w fun e w' => e = .returned (.bool (allZ l)) ∧ w' = w := by
  unfold maxLen at hlen
  go_enter Tryd.func31, Tryd.ntmps31
  go_wp2_with fail
  go_loop [3] (fun i => ∃ k : Nat, k ≤ l.length ∧ i = .int .i64 k ∧ ∀ j, j < k → l.getD j 0 = 0) (fun i => l.length - (intOf i).toNat)
  case atStart => exact ⟨0, by omega, rfl, by intro j hj; omega⟩
  case round =>
    obtain ⟨k, hk, rfl, hz⟩ := hrel
    have HZ := hide hz
    clear hz
    by_cases hlt : k < l.length
    · have hcell := hc k hlt
      clear hc
      generalize hx : l.getD k 0 = x at *
      have HX := hide hx
      clear hx
      by_cases h0 : x = 0
      · subst h0
        go_wp2_with fail
        go_round
        case rel => exact ⟨k + 1, by omega, by go_num, fun j hj => by
          rcases Nat.lt_or_ge j k with h | h
          · exact HZ.out j h
          · obtain rfl : j = k := by omega
            exact HX.out⟩
        case measure => simp [intOf]; omega
      · have hne : (x != 0) = true := by simp [h0]
        have HF : Hid (allZ l = false) := allZ_no l k hlt (by rw [HX.out]; exact h0)
        clear h0
        go_wp2_with fail
        go_ret
        exact ⟨by rw [HF.out]; rfl, rfl⟩
    · obtain rfl : k = l.length := by omega
      have HF : Hid (allZ l = true) := allZ_yes l HZ.out
      clear hc
      go_wp2_with fail
      go_ret
      exact ⟨by rw [HF.out]; rfl, rfl⟩

set_option maxHeartbeats 400000 in
theorem IsZero_empty (a : Option Addr) (cap : Nat) (w : World) :
    Calls Tryd.prog 31 #[.slice a 0 cap] w fun e w' => e = .returned (.bool true) ∧ w' = w := by
  go_enter Tryd.func31, Tryd.ntmps31
  go_wp2_with fail
  refine wp_loop_rounds 1 ?_
  rw [rounds_succ]
  go_wp2_with fail
  go_ret
  exact ⟨rfl, rfl⟩

theorem IsZero_any (a : Option Addr) (cap : Nat) (l : List Int) (w : World) (hlen : l.length ≤ maxLen) (hl : Lies w a l) :
    Calls Tryd.prog 31 #[.slice a l.length cap] w fun e w' => e = .returned (.bool (allZ l)) ∧ w' = w := by
  rcases hl with rfl | ⟨b, off, rfl, _, hc⟩
  · exact IsZero_empty a cap w
  · exact IsZero_some b off cap l w hlen hc
end Go.Proofs.YtpbnjobjjnhplaaDoor.Oct

namespace Go.Proofs.YtpbnjobjjnhplaaDoor.Oct
open Go.RowKit

/-- A slice with its bytes. -/
def SlG (w : World) (v : Value) (l : List Int) : Prop := ∃ a c, v = .slice a l.length c ∧ Sl w a c l

theorem SlG.below {w w' : World} {v : Value} {l : List Int} (h : SlG w v l) (hb : Below w.heap.size w w') : SlG w' v l := by
  obtain ⟨a, c, h1, h2⟩ := h
  exact ⟨a, c, h1, h2.below hb⟩

/-- Rows of the document's entries. -/
def LiesD (w : World) (a : Option Addr) (L : List E4) : Prop :=
  L = [] ∨ ∃ b off, a = some ⟨b, off, none⟩ ∧ b < w.heap.size ∧ ∀ k x, L[k]? = some x → ∃ v1 v2, w.cell? ⟨b, off + k * 4, none⟩ = some v1 ∧ w.cell? ⟨b, off + k * 4 + 1, none⟩ = some (.int .i64 x.fi) ∧ w.cell? ⟨b, off + k * 4 + 2, none⟩ = some (.int .i64 x.la) ∧ w.cell? ⟨b, off + k * 4 + 3, none⟩ = some v2 ∧ SlG w v1 x.ids ∧ SlG w v2 x.rest

theorem LiesD.below {w w' : World} {a : Option Addr} {L : List E4} (h : LiesD w a L) (hb : Below w.heap.size w w') : LiesD w' a L := by
  rcases h with h | ⟨b, off, h1, h2, h3⟩
  · exact Or.inl h
  · refine Or.inr ⟨b, off, h1, Nat.lt_of_lt_of_le h2 hb.size, fun k x hk => ?_⟩
    obtain ⟨v1, v2, q0, q1, q2, q3, q4, q5⟩ := h3 k x hk
    exact ⟨v1, v2, (hb.cell (p := ⟨b, _, none⟩) h2).trans q0, (hb.cell (p := ⟨b, _, none⟩) h2).trans q1, (hb.cell (p := ⟨b, _, none⟩) h2).trans q2, (hb.cell (p := ⟨b, _, none⟩) h2).trans q3, q4.below hb, q5.below hb⟩

/-- The document's table: its cells. -/
abbrev Tb.rc (t : Tb) (vi v : Value) : Array Value := #[.int .i64 t.sec, .int .i64 t.fst, .int .i64 t.lst, vi, v, .int .i64 t.at_, .int .i64 t.beh]

theorem rc_cells {u : World} {R : Nat} {t : Tb} {vi v : Value} (h : Blk u R (t.rc vi v) 34) : u.cell? ⟨R, 0, none⟩ = some (.int .i64 t.sec) ∧ u.cell? ⟨R, 1, none⟩ = some (.int .i64 t.fst) ∧ u.cell? ⟨R, 2, none⟩ = some (.int .i64 t.lst) ∧ u.cell? ⟨R, 4, none⟩ = some v ∧ u.cell? ⟨R, 5, none⟩ = some (.int .i64 t.at_) ∧ u.cell? ⟨R, 6, none⟩ = some (.int .i64 t.beh) :=
  ⟨h.cell 0 _ rfl, h.cell 1 _ rfl, h.cell 2 _ rfl, h.cell 4 _ rfl, h.cell 5 _ rfl, h.cell 6 _ rfl⟩

set_option maxHeartbeats 1000000 in
theorem rrows_any (n : Nat) (w : World) (hn : n ≤ 1000000) : Calls Tryd.prog 30 #[.int .i64 (n : Int)] w fun e w' => e = .returned (.int .i64 (rowsG n)) ∧ w' = w := by
  have e1 : IntKind.i64.wrap ((n : Int) * 128) = (n : Int) * 128 := by rw [IntKind.wrap_i64]; omega
  have e2 : wrap64 (((n : Int) * 128).tdiv 512) = ((n : Int) * 128) / 512 := by
    rw [Int.tdiv_eq_ediv_of_nonneg (by omega)]
    unfold wrap64
    omega
  have e3 : wrap64 (((n : Int) * 128).tmod 512) = ((n : Int) * 128) % 512 := by
    rw [Int.tmod_eq_emod_of_nonneg (by omega)]
    unfold wrap64
    omega
  have e4 : wrap64 (((n : Int) * 128) / 512 + 1) = ((n : Int) * 128) / 512 + 1 := by unfold wrap64; omega
  by_cases h : ((n : Int) * 128) % 512 = 0
  · have hr := hide (show rowsG n = ((n : Int) * 128) / 512 by unfold rowsG; omega)
    have hq : ((n : Int) * 128 % 512 != 0) = false := by rw [h]; rfl
    have E2 := hide e2
    clear hn h e2 e3 e4
    go_enter Tryd.func30, Tryd.ntmps30
    go_wp2_with fail
    go_ret
    exact ⟨by rw [hr.out, ← E2.out]; rfl, rfl⟩
  · have hr := hide (show rowsG n = ((n : Int) * 128) / 512 + 1 by unfold rowsG; omega)
    have hq : ((n : Int) * 128 % 512 != 0) = true := by simpa using h
    have E2 := hide e2
    have E4 := hide e4
    clear hn h e2 e3 e4
    go_enter Tryd.func30, Tryd.ntmps30
    go_wp2_with fail
    go_ret
    exact ⟨by rw [hr.out, ← E4.out, ← E2.out]; rfl, rfl⟩
end Go.Proofs.YtpbnjobjjnhplaaDoor.Oct
