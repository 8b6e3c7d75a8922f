/- What the reference's calls In and Num answer. -/
import Derived.Test.YtjmajjfknmjifaaDoorPRdWr
namespace Go.Proofs.YtjmajjfknmjifaaDoor.Oct
open Go.RowKit

set_option maxHeartbeats 400000 in
theorem In_any (a : Option Addr) (len cap : Nat) (p n : Int) (w : World) (hlen : len ≤ maxLen) (hp : p ≤ 9223372036854775807) (hp2 : -9223372036854775808 ≤ p) :
    Calls Tryd.prog 19 #[.slice a len cap, .int .i64 p, .int .i64 n] w fun e w' => e = .returned (.bool (thereB len p n)) ∧ w' = w := by
  unfold maxLen at hlen
  by_cases h0 : 0 ≤ p
  · by_cases h1 : 0 ≤ n
    · by_cases h3 : p ≤ len
      · by_cases h2 : n ≤ len - p
        · rw [thereB_yes h0 h1 h2]
          go_enter Tryd.func19, Tryd.ntmps19
          go_wp2
          go_ret
          exact ⟨by simp, rfl⟩
        · rw [thereB_no (by omega)]
          go_enter Tryd.func19, Tryd.ntmps19
          go_wp2
          go_ret
          exact ⟨by simp, rfl⟩
      · rw [thereB_no (by omega)]
        go_enter Tryd.func19, Tryd.ntmps19
        go_wp2
        go_ret
        exact ⟨by simp, rfl⟩
    · rw [thereB_no (by omega)]
      go_enter Tryd.func19, Tryd.ntmps19
      go_wp2
      go_ret
      exact ⟨by simp, rfl⟩
  · rw [thereB_no (by omega)]
    go_enter Tryd.func19, Tryd.ntmps19
    go_wp2
    go_ret
    exact ⟨by simp, rfl⟩

theorem In_yes (a : Option Addr) (len cap : Nat) (p n : Int) (w : World) (hlen : len ≤ maxLen) (h0 : 0 ≤ p) (h1 : 0 ≤ n) (h2 : n ≤ len - p) :
    Calls Tryd.prog 19 #[.slice a len cap, .int .i64 p, .int .i64 n] w fun e w' => e = .returned (.bool true) ∧ w' = w := by
  have := In_any a len cap p n w hlen (by unfold maxLen at hlen; omega) (by omega)
  rwa [thereB_yes h0 h1 h2] at this

theorem In_no (a : Option Addr) (len cap : Nat) (p n : Int) (w : World) (hlen : len ≤ maxLen) (hp : p ≤ 9223372036854775807) (hp2 : -9223372036854775808 ≤ p) (h : ¬ (0 ≤ p ∧ 0 ≤ n ∧ n ≤ len - p)) :
    Calls Tryd.prog 19 #[.slice a len cap, .int .i64 p, .int .i64 n] w fun e w' => e = .returned (.bool false) ∧ w' = w := by
  have := In_any a len cap p n w hlen hp hp2
  rwa [thereB_no h] at this

theorem pow_small (k : Nat) (hk : k ≤ 8) : (256 : Int) ^ k ≤ 18446744073709551616 := by
  have h1 : (256 : Nat) ^ k ≤ 256 ^ 8 := Nat.pow_le_pow_right (by omega) hk
  have h2 : (256 : Nat) ^ 8 = 18446744073709551616 := by decide
  rw [int_pow256]
  omega

theorem num_step (l : List Int) (p k : Nat) (hb : Byts l) (hk : k < 8) (x y : Int) (hx : l.getD (p + k) 0 = x) (hy : (256 ^ k % 18446744073709551616 : Int) = y) :
    IntKind.u64.wrap (num l p k + IntKind.u64.wrap (x * y)) = num l p (k + 1) := by
  have h1 := num_lt l p hb (k + 1)
  have h2 := pow_small (k + 1) (by omega)
  have h0 := num_lt l p hb k
  have hp : (0 : Int) < 256 ^ k := Int.pow_pos (by omega)
  have e : (256 ^ k % 18446744073709551616 : Int) = 256 ^ k := by
    rw [Int.pow_succ] at h2
    exact Int.emod_eq_of_lt (by omega) (by omega)
  rw [e] at hy
  subst hy
  have e2 : num l p (k + 1) = num l p k + x * 256 ^ k := by rw [num, hx]
  rw [e2] at h1 ⊢
  rw [IntKind.wrap_u64, IntKind.wrap_u64]
  have hx0 := hb (p + k)
  rw [hx] at hx0
  have e3 : 0 ≤ x * 256 ^ k := Int.mul_nonneg hx0.1 (by omega)
  generalize x * 256 ^ k = z at *
  omega

theorem pow_step (k : Nat) (y : Int) (hy : (256 ^ k % 18446744073709551616 : Int) = y) : IntKind.u64.wrap (y * 256) = 256 ^ (k + 1) % 18446744073709551616 := by
  rw [IntKind.wrap_u64, ← hy, Int.pow_succ]
  omega

set_option maxHeartbeats 400000 in
theorem Num_yes (b off cap : Nat) (l : List Int) (p n : Nat) (hn : n ≤ 8) (w : World) (hlen : l.length ≤ maxLen) (hp : p + n ≤ l.length) (hb : Byts l)
    (hc : ∀ k, k < l.length → w.cell? ⟨b, off + k, none⟩ = some (.int .u8 (l.getD k 0))) :
    Calls Tryd.prog 64 #[.slice (some ⟨b, off, none⟩) l.length cap, .int .i64 p, .int .i64 n] w fun e w' => e = .returned (.tuple #[.int .u64 (num l p n), .bool true]) ∧ w' = w := by
  unfold maxLen at hlen
  go_enter Tryd.func64, Tryd.ntmps64
  go_wp2_with (go_at_call 19; refine (In_yes _ _ _ _ _ _ (by unfold maxLen; omega) (by omega) (by omega) (by omega)).mono ?_; rintro e w' ⟨rfl, rfl⟩)
  go_loop [8, 9, 10] (fun v q i => ∃ k : Nat, k ≤ n ∧ i = .int .i64 k ∧ v = .int .u64 (num l p k) ∧ q = .int .u64 (256 ^ k % 18446744073709551616)) (fun _ _ i => n - (intOf i).toNat)
  case atStart => exact ⟨0, by omega, rfl, rfl, rfl⟩
  case round =>
    obtain ⟨k, hk, rfl, rfl, rfl⟩ := hrel
    by_cases hlt : k < n
    · have hcell := hc (p + k) (by omega)
      have hbk := hb (p + k)
      have HB : Hid (Byts l) := hb
      clear hc hb
      generalize hx : l.getD (p + k) 0 = x at *
      have HX : Hid (l.getD (p + k) 0 = x) := hx
      clear hx
      obtain ⟨y, hy⟩ : ∃ y : Int, (256 ^ k % 18446744073709551616) = y := ⟨_, rfl⟩
      rw [hy]
      have HY : Hid ((256 ^ k % 18446744073709551616 : Int) = y) := hy
      clear hy
      go_wp2
      go_round
      case rel => exact ⟨k + 1, by omega, by go_num, by rw [num_step l p k HB.out (by omega) x y HX.out HY.out], by rw [pow_step k y HY.out]⟩
      case measure => simp [intOf]; omega
    · have hk4 : k = n := by omega
      subst hk4
      go_wp2
      go_ret2
      exact ⟨rfl, rfl⟩

set_option maxHeartbeats 400000 in
theorem Num_no (a : Option Addr) (len cap : Nat) (p n : Int) (w : World) (hlen : len ≤ maxLen) (hp : p ≤ 9223372036854775807) (hp2 : -9223372036854775808 ≤ p) (h : ¬ (0 ≤ p ∧ 0 ≤ n ∧ n ≤ len - p)) :
    Calls Tryd.prog 64 #[.slice a len cap, .int .i64 p, .int .i64 n] w fun e w' => e = .returned (.tuple #[.int .u64 0, .bool false]) ∧ w' = w := by
  have hno := fun w => In_no a len cap p n w hlen hp hp2 h
  go_enter Tryd.func64, Tryd.ntmps64
  go_wp2_with (go_at_call 19; refine (hno _).mono ?_; rintro e w' ⟨rfl, rfl⟩)
  go_ret2
  exact ⟨rfl, rfl⟩

theorem Num_any (a : Option Addr) (cap : Nat) (l : List Int) (p : Int) (n : Nat) (hn : 0 < n) (hn8 : n ≤ 8) (w : World) (hlen : l.length ≤ maxLen) (hb : Byts l) (hl : Lies w a l) (hp : p ≤ 9223372036854775807) (hp2 : -9223372036854775808 ≤ p) :
    Calls Tryd.prog 64 #[.slice a l.length cap, .int .i64 p, .int .i64 n] w fun e w' => e = .returned (.tuple #[.int .u64 (numAt l p n), .bool (thereB l.length p n)]) ∧ w' = w := by
  by_cases h : 0 ≤ p ∧ (0 : Int) ≤ n ∧ n ≤ l.length - p
  · obtain ⟨p, rfl⟩ := Int.eq_ofNat_of_zero_le h.1
    rcases hl with rfl | ⟨b, off, rfl, _, hc⟩
    · simp at h
      omega
    rw [thereB_yes h.1 h.2.1 h.2.2, numAt_yes (by omega)]
    exact Num_yes b off cap l p n hn8 w hlen (by omega) hb hc
  · have e : numAt l p n = 0 := by rw [numAt, if_neg]; rw [thereB_no h]; simp
    rw [thereB_no h, e]
    exact Num_no a l.length cap p n w hlen hp hp2 h
end Go.Proofs.YtjmajjfknmjifaaDoor.Oct
