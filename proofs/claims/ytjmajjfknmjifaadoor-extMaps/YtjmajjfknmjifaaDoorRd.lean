/- What the calls that read numbers out of bytes answer, at all places: contracts of the program's functions there, read and U16, U32, U64. -/
import Derived.Test.YtjmajjfknmjifaaDoorChecked
import Derived.Test.YtjmajjfknmjifaaDoorMem
import Derived.WalkKit
namespace Go.Proofs.YtjmajjfknmjifaaDoor.Oct
open Go.RowKit

/-- Are n bytes there at a place? -/
def thereB (len : Nat) (p n : Int) : Bool := decide (0 ≤ p ∧ 0 ≤ n ∧ n ≤ len - p)

theorem thereB_yes {len : Nat} {p n : Int} (h0 : 0 ≤ p) (h1 : 0 ≤ n) (h2 : n ≤ len - p) : thereB len p n = true := by simp [thereB, h0, h1, h2]
theorem thereB_no {len : Nat} {p n : Int} (h : ¬ (0 ≤ p ∧ 0 ≤ n ∧ n ≤ len - p)) : thereB len p n = false := by simpa [thereB] using h

set_option maxHeartbeats 400000 in
theorem there_any (a : Option Addr) (len cap : Nat) (p n : Int) (w : World) (hlen : len ≤ maxLen) (hp : p ≤ 9223372036854775807) (hp2 : -9223372036854775808 ≤ p) :
    Calls Tryd.prog 67 #[.slice a len cap, .int .i64 p, .int .i64 n] w fun e w' => e = .returned (.bool (thereB len p n)) ∧ w' = w := by
  unfold maxLen at hlen
  by_cases h0 : 0 ≤ p
  · by_cases h1 : 0 ≤ n
    · by_cases h2 : n ≤ len - p
      · rw [thereB_yes h0 h1 h2]
        go_enter Tryd.func67, Tryd.ntmps67
        go_wp2
        go_ret
        exact ⟨by simp, rfl⟩
      · rw [thereB_no (by omega)]
        go_enter Tryd.func67, Tryd.ntmps67
        go_wp2
        go_ret
        exact ⟨by simp, rfl⟩
    · rw [thereB_no (by omega)]
      go_enter Tryd.func67, Tryd.ntmps67
      go_wp2
      go_ret
      exact ⟨by simp, rfl⟩
  · rw [thereB_no (by omega)]
    go_enter Tryd.func67, Tryd.ntmps67
    go_wp2
    go_ret
    exact ⟨by simp, rfl⟩

theorem there_yes (a : Option Addr) (len cap : Nat) (p n : Int) (w : World) (hlen : len ≤ maxLen) (h0 : 0 ≤ p) (h1 : 0 ≤ n) (h2 : n ≤ len - p) :
    Calls Tryd.prog 67 #[.slice a len cap, .int .i64 p, .int .i64 n] w fun e w' => e = .returned (.bool true) ∧ w' = w := by
  have := there_any a len cap p n w hlen (by unfold maxLen at hlen; omega) (by omega)
  rwa [thereB_yes h0 h1 h2] at this

theorem there_no (a : Option Addr) (len cap : Nat) (p n : Int) (w : World) (hlen : len ≤ maxLen) (hp : p ≤ 9223372036854775807) (hp2 : -9223372036854775808 ≤ p) (h : ¬ (0 ≤ p ∧ 0 ≤ n ∧ n ≤ len - p)) :
    Calls Tryd.prog 67 #[.slice a len cap, .int .i64 p, .int .i64 n] w fun e w' => e = .returned (.bool false) ∧ w' = w := by
  have := there_any a len cap p n w hlen hp hp2
  rwa [thereB_no h] at this

/-- The number of n bytes at a place; 0, where they aren't there. -/
def numAt (l : List Int) (p : Int) (n : Nat) : Int := if thereB l.length p n then num l p.toNat n else 0

theorem numAt_yes {l : List Int} {p : Nat} {n : Nat} (h : p + n ≤ l.length) : numAt l p n = num l p n := by
  rw [numAt, if_pos (thereB_yes (by omega) (by omega) (by omega)), Int.toNat_natCast]

set_option maxHeartbeats 400000 in
theorem read16_yes (b off cap : Nat) (l : List Int) (p : Nat) (w : World) (hlen : l.length ≤ maxLen) (hp : p + 2 ≤ l.length) (hb : Byts l)
    (hc : ∀ k, k < l.length → w.cell? ⟨b, off + k, none⟩ = some (.int .u8 (l.getD k 0))) :
    Calls Tryd.prog 80 #[.slice (some ⟨b, off, none⟩) l.length cap, .int .i64 p, .int .i64 2] w fun e w' => e = .returned (.tuple #[.int .u16 (num l p 2), .bool true]) ∧ w' = w := by
  unfold maxLen at hlen
  go_enter Tryd.func80, Tryd.ntmps80
  go_wp2_with (go_at_call 67; refine (there_yes _ _ _ _ _ _ (by unfold maxLen; omega) (by omega) (by omega) (by omega)).mono ?_; rintro e w' ⟨rfl, rfl⟩)
  go_loop [8, 16] (fun v i => ∃ k : Nat, k ≤ 2 ∧ i = .int .i64 k ∧ v = .int .u16 (num l p k)) (fun _ i => 2 - (intOf i).toNat)
  case atStart => exact ⟨0, by omega, rfl, rfl⟩
  case round =>
    obtain ⟨k, hk, rfl, rfl⟩ := hrel
    by_cases hlt : k < 2
    · have hcell := hc (p + k) (by omega)
      have HS : Hid (bits .or .u16 (num l p k) (l.getD (p + k) 0 % 2 ^ 16 * 2 ^ (8 * k) % 2 ^ 16) = num l p (k + 1)) :=
        or_step16 _ _ k hlt (num_lt l p hb k) (hb (p + k))
      clear hc hb
      go_wp2
      go_round
      case rel =>
        refine ⟨k + 1, by omega, by go_num, ?_⟩
        have := HS.out
        simp only [List.getD_eq_getElem?_getD] at this
        rw [← this]
        rfl
      case measure => simp [intOf]; omega
    · have hk4 : k = 2 := by omega
      subst hk4
      go_wp2
      go_ret2
      exact ⟨rfl, rfl⟩

set_option maxHeartbeats 400000 in
theorem read16_no (a : Option Addr) (len cap : Nat) (p : Int) (w : World) (hlen : len ≤ maxLen) (hp : p ≤ 9223372036854775807) (hp2 : -9223372036854775808 ≤ p) (h : ¬ (0 ≤ p ∧ (0 : Int) ≤ 2 ∧ 2 ≤ len - p)) :
    Calls Tryd.prog 80 #[.slice a len cap, .int .i64 p, .int .i64 2] w fun e w' => e = .returned (.tuple #[.int .u16 0, .bool false]) ∧ w' = w := by
  have hno := fun w => there_no a len cap p 2 w hlen hp hp2 h
  go_enter Tryd.func80, Tryd.ntmps80
  go_wp2_with (go_at_call 67; refine (hno _).mono ?_; rintro e w' ⟨rfl, rfl⟩)
  go_ret2
  exact ⟨rfl, rfl⟩

/-- U16 at all places of all bytes. -/
theorem U16_any (a : Option Addr) (cap : Nat) (l : List Int) (p : Int) (w : World) (hlen : l.length ≤ maxLen) (hb : Byts l) (hl : Lies w a l) (hp : p ≤ 9223372036854775807) (hp2 : -9223372036854775808 ≤ p) :
    Calls Tryd.prog 60 #[.slice a l.length cap, .int .i64 p] w fun e w' => e = .returned (.tuple #[.int .u16 (numAt l p 2), .bool (thereB l.length p 2)]) ∧ w' = w := by
  by_cases h : 0 ≤ p ∧ (0 : Int) ≤ 2 ∧ 2 ≤ l.length - p
  · obtain ⟨p, rfl⟩ := Int.eq_ofNat_of_zero_le h.1
    rcases hl with rfl | ⟨b, off, rfl, _, hc⟩
    · simp at h
      omega
    have hy := fun w => read16_yes b off cap l p w hlen (by omega) hb
    rw [thereB_yes h.1 h.2.1 h.2.2, numAt_yes (by omega)]
    have hc' : Hid (∀ k, k < l.length → w.cell? ⟨b, off + k, none⟩ = some (.int .u8 (l.getD k 0))) := hc
    clear hc
    go_enter Tryd.func60, Tryd.ntmps60
    go_wp2_with (go_at_call 80; refine (hy _ hc'.out).mono ?_; rintro e w' ⟨rfl, rfl⟩)
    go_ret2
    exact ⟨rfl, rfl⟩
  · have hn := fun w => read16_no a l.length cap p w hlen hp hp2 h
    have e : numAt l p 2 = 0 := by rw [numAt, if_neg]; rw [show ((2 : Nat) : Int) = 2 from rfl, thereB_no h]; simp
    rw [thereB_no h, e]
    go_enter Tryd.func60, Tryd.ntmps60
    go_wp2_with (go_at_call 80; refine (hn _).mono ?_; rintro e w' ⟨rfl, rfl⟩)
    go_ret2
    exact ⟨rfl, rfl⟩
set_option maxHeartbeats 400000 in
theorem read32_yes (b off cap : Nat) (l : List Int) (p : Nat) (w : World) (hlen : l.length ≤ maxLen) (hp : p + 4 ≤ l.length) (hb : Byts l)
    (hc : ∀ k, k < l.length → w.cell? ⟨b, off + k, none⟩ = some (.int .u8 (l.getD k 0))) :
    Calls Tryd.prog 61 #[.slice (some ⟨b, off, none⟩) l.length cap, .int .i64 p, .int .i64 4] w fun e w' => e = .returned (.tuple #[.int .u32 (num l p 4), .bool true]) ∧ w' = w := by
  unfold maxLen at hlen
  go_enter Tryd.func61, Tryd.ntmps61
  go_wp2_with (go_at_call 67; refine (there_yes _ _ _ _ _ _ (by unfold maxLen; omega) (by omega) (by omega) (by omega)).mono ?_; rintro e w' ⟨rfl, rfl⟩)
  go_loop [8, 16] (fun v i => ∃ k : Nat, k ≤ 4 ∧ i = .int .i64 k ∧ v = .int .u32 (num l p k)) (fun _ i => 4 - (intOf i).toNat)
  case atStart => exact ⟨0, by omega, rfl, rfl⟩
  case round =>
    obtain ⟨k, hk, rfl, rfl⟩ := hrel
    by_cases hlt : k < 4
    · have hcell := hc (p + k) (by omega)
      have HS : Hid (bits .or .u32 (num l p k) (l.getD (p + k) 0 % 2 ^ 32 * 2 ^ (8 * k) % 2 ^ 32) = num l p (k + 1)) :=
        or_step32 _ _ k hlt (num_lt l p hb k) (hb (p + k))
      clear hc hb
      go_wp2
      go_round
      case rel =>
        refine ⟨k + 1, by omega, by go_num, ?_⟩
        have := HS.out
        simp only [List.getD_eq_getElem?_getD] at this
        rw [← this]
        rfl
      case measure => simp [intOf]; omega
    · have hk4 : k = 4 := by omega
      subst hk4
      go_wp2
      go_ret2
      exact ⟨rfl, rfl⟩

set_option maxHeartbeats 400000 in
theorem read32_no (a : Option Addr) (len cap : Nat) (p : Int) (w : World) (hlen : len ≤ maxLen) (hp : p ≤ 9223372036854775807) (hp2 : -9223372036854775808 ≤ p) (h : ¬ (0 ≤ p ∧ (0 : Int) ≤ 4 ∧ 4 ≤ len - p)) :
    Calls Tryd.prog 61 #[.slice a len cap, .int .i64 p, .int .i64 4] w fun e w' => e = .returned (.tuple #[.int .u32 0, .bool false]) ∧ w' = w := by
  have hno := fun w => there_no a len cap p 4 w hlen hp hp2 h
  go_enter Tryd.func61, Tryd.ntmps61
  go_wp2_with (go_at_call 67; refine (hno _).mono ?_; rintro e w' ⟨rfl, rfl⟩)
  go_ret2
  exact ⟨rfl, rfl⟩

/-- U32 at all places of all bytes. -/
theorem U32_any (a : Option Addr) (cap : Nat) (l : List Int) (p : Int) (w : World) (hlen : l.length ≤ maxLen) (hb : Byts l) (hl : Lies w a l) (hp : p ≤ 9223372036854775807) (hp2 : -9223372036854775808 ≤ p) :
    Calls Tryd.prog 34 #[.slice a l.length cap, .int .i64 p] w fun e w' => e = .returned (.tuple #[.int .u32 (numAt l p 4), .bool (thereB l.length p 4)]) ∧ w' = w := by
  by_cases h : 0 ≤ p ∧ (0 : Int) ≤ 4 ∧ 4 ≤ l.length - p
  · obtain ⟨p, rfl⟩ := Int.eq_ofNat_of_zero_le h.1
    rcases hl with rfl | ⟨b, off, rfl, _, hc⟩
    · simp at h
      omega
    have hy := fun w => read32_yes b off cap l p w hlen (by omega) hb
    rw [thereB_yes h.1 h.2.1 h.2.2, numAt_yes (by omega)]
    have hc' : Hid (∀ k, k < l.length → w.cell? ⟨b, off + k, none⟩ = some (.int .u8 (l.getD k 0))) := hc
    clear hc
    go_enter Tryd.func34, Tryd.ntmps34
    go_wp2_with (go_at_call 61; refine (hy _ hc'.out).mono ?_; rintro e w' ⟨rfl, rfl⟩)
    go_ret2
    exact ⟨rfl, rfl⟩
  · have hn := fun w => read32_no a l.length cap p w hlen hp hp2 h
    have e : numAt l p 4 = 0 := by rw [numAt, if_neg]; rw [show ((4 : Nat) : Int) = 4 from rfl, thereB_no h]; simp
    rw [thereB_no h, e]
    go_enter Tryd.func34, Tryd.ntmps34
    go_wp2_with (go_at_call 61; refine (hn _).mono ?_; rintro e w' ⟨rfl, rfl⟩)
    go_ret2
    exact ⟨rfl, rfl⟩
end Go.Proofs.YtjmajjfknmjifaaDoor.Oct
