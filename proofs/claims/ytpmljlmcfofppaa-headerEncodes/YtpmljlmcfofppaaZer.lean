/- Are all bytes 0: the program's call and the document's. -/
import Derived.Test.YtpmljlmcfofppaaRd
namespace Go.Proofs.Ytpmljlmcfofppaa.Oct
open Go.RowKit

/-- Are all 0? -/
def allZ (l : List Int) : Bool := l.all (fun x => decide (x = 0))

theorem allZ_no (l : List Int) (k : Nat) (hk : k < l.length) (h : l.getD k 0 ≠ 0) : allZ l = false := by
  unfold allZ
  rw [List.all_eq_false]
  refine ⟨l[k], List.getElem_mem hk, ?_⟩
  simpa [hk] using h

theorem allZ_yes (l : List Int) (h : ∀ j, j < l.length → l.getD j 0 = 0) : allZ l = true := by
  unfold allZ
  rw [List.all_eq_true]
  intro x hx
  obtain ⟨k, hk, rfl⟩ := List.getElem_of_mem hx
  have := h k hk
  simpa [hk] using this

set_option maxHeartbeats 400000 in
theorem Zero_some (b off cap : Nat) (l : List Int) (w : World) (hlen : l.length ≤ maxLen)
    (hc : ∀ k, k < l.length → w.cell? ⟨b, off + k, none⟩ = some (.int .u8 (l.getD k 0))) :
    Calls Try.prog 44 #[.slice (some ⟨b, off, none⟩) l.length cap] w fun e w' => e = .returned (.bool (allZ l)) ∧ w' = w := by
  unfold maxLen at hlen
  go_enter Try.func44, Try.ntmps44
  go_wp2_with fail
  go_loop [7] (fun i => ∃ k : Nat, k ≤ l.length ∧ i = .int .i64 k ∧ ∀ j, j < k → l.getD j 0 = 0) (fun i => l.length - (intOf i).toNat)
  case atStart => exact ⟨0, by omega, rfl, by intro j hj; omega⟩
  case round =>
    obtain ⟨k, hk, rfl, hz⟩ := hrel
    have HZ := hide hz
    clear hz
    by_cases hlt : k < l.length
    · have hcell := hc k hlt
      clear hc
      generalize hx : l.getD k 0 = x at *
      have HX := hide hx
      clear hx
      by_cases h0 : x = 0
      · subst h0
        go_wp2_with fail
        go_round
        case rel => exact ⟨k + 1, by omega, by go_num, fun j hj => by
          rcases Nat.lt_or_ge j k with h | h
          · exact HZ.out j h
          · obtain rfl : j = k := by omega
            exact HX.out⟩
        case measure => simp [intOf]; omega
      · have hne : (x != 0) = true := by simp [h0]
        have HF : Hid (allZ l = false) := allZ_no l k hlt (by rw [HX.out]; exact h0)
        clear h0
        go_wp2_with fail
        go_ret
        exact ⟨by rw [HF.out]; rfl, rfl⟩
    · obtain rfl : k = l.length := by omega
      have HF : Hid (allZ l = true) := allZ_yes l HZ.out
      clear hc
      go_wp2_with fail
      go_ret
      exact ⟨by rw [HF.out]; rfl, rfl⟩

set_option maxHeartbeats 400000 in
theorem Zero_empty (a : Option Addr) (cap : Nat) (w : World) :
    Calls Try.prog 44 #[.slice a 0 cap] w fun e w' => e = .returned (.bool true) ∧ w' = w := by
  go_enter Try.func44, Try.ntmps44
  go_wp2_with fail
  refine wp_loop_rounds 1 ?_
  rw [rounds_succ]
  go_wp2_with fail
  go_ret
  exact ⟨rfl, rfl⟩

theorem Zero_any (a : Option Addr) (cap : Nat) (l : List Int) (w : World) (hlen : l.length ≤ maxLen) (hl : Lies w a l) :
    Calls Try.prog 44 #[.slice a l.length cap] w fun e w' => e = .returned (.bool (allZ l)) ∧ w' = w := by
  rcases hl with rfl | ⟨b, off, rfl, _, hc⟩
  · exact Zero_empty a cap w
  · exact Zero_some b off cap l w hlen hc
set_option maxHeartbeats 400000 in
theorem IsZero_some (b off cap : Nat) (l : List Int) (w : World) (hlen : l.length ≤ maxLen)
    (hc : ∀ k, k < l.length → w.cell? ⟨b, off + k, none⟩ = some (.int .u8 (l.getD k 0))) :
    Calls Try.prog 49 #[.slice (some ⟨b, off, none⟩) l.length cap] w fun e w' => e = .returned (.bool (allZ l)) ∧ w' = w := by
  unfold maxLen at hlen
  go_enter Try.func49, Try.ntmps49
  go_wp2_with fail
  go_loop [3] (fun i => ∃ k : Nat, k ≤ l.length ∧ i = .int .i64 k ∧ ∀ j, j < k → l.getD j 0 = 0) (fun i => l.length - (intOf i).toNat)
  case atStart => exact ⟨0, by omega, rfl, by intro j hj; omega⟩
  case round =>
    obtain ⟨k, hk, rfl, hz⟩ := hrel
    have HZ := hide hz
    clear hz
    by_cases hlt : k < l.length
    · have hcell := hc k hlt
      clear hc
      generalize hx : l.getD k 0 = x at *
      have HX := hide hx
      clear hx
      by_cases h0 : x = 0
      · subst h0
        go_wp2_with fail
        go_round
        case rel => exact ⟨k + 1, by omega, by go_num, fun j hj => by
          rcases Nat.lt_or_ge j k with h | h
          · exact HZ.out j h
          · obtain rfl : j = k := by omega
            exact HX.out⟩
        case measure => simp [intOf]; omega
      · have hne : (x != 0) = true := by simp [h0]
        have HF : Hid (allZ l = false) := allZ_no l k hlt (by rw [HX.out]; exact h0)
        clear h0
        go_wp2_with fail
        go_ret
        exact ⟨by rw [HF.out]; rfl, rfl⟩
    · obtain rfl : k = l.length := by omega
      have HF : Hid (allZ l = true) := allZ_yes l HZ.out
      clear hc
      go_wp2_with fail
      go_ret
      exact ⟨by rw [HF.out]; rfl, rfl⟩

set_option maxHeartbeats 400000 in
theorem IsZero_empty (a : Option Addr) (cap : Nat) (w : World) :
    Calls Try.prog 49 #[.slice a 0 cap] w fun e w' => e = .returned (.bool true) ∧ w' = w := by
  go_enter Try.func49, Try.ntmps49
  go_wp2_with fail
  refine wp_loop_rounds 1 ?_
  rw [rounds_succ]
  go_wp2_with fail
  go_ret
  exact ⟨rfl, rfl⟩

theorem IsZero_any (a : Option Addr) (cap : Nat) (l : List Int) (w : World) (hlen : l.length ≤ maxLen) (hl : Lies w a l) :
    Calls Try.prog 49 #[.slice a l.length cap] w fun e w' => e = .returned (.bool (allZ l)) ∧ w' = w := by
  rcases hl with rfl | ⟨b, off, rfl, _, hc⟩
  · exact IsZero_empty a cap w
  · exact IsZero_some b off cap l w hlen hc
end Go.Proofs.Ytpmljlmcfofppaa.Oct
