/- What the calls Same of the reference, Pad and the statements' own example answer. -/
import Derived.Test.YtpbnjobjjnhplaaDoorChecked
import Derived.Test.YtpbnjobjjnhplaaDoorPNumMem
import Derived.WalkKit
namespace Go.Proofs.YtpbnjobjjnhplaaDoor.Oct
open Go.RowKit

/-- Are n bytes there at a place? -/
def thereB (len : Nat) (p n : Int) : Bool := decide (0 ≤ p ∧ 0 ≤ n ∧ n ≤ len - p)

theorem thereB_yes {len : Nat} {p n : Int} (h0 : 0 ≤ p) (h1 : 0 ≤ n) (h2 : n ≤ len - p) : thereB len p n = true := by simp [thereB, h0, h1, h2]
theorem thereB_no {len : Nat} {p n : Int} (h : ¬ (0 ≤ p ∧ 0 ≤ n ∧ n ≤ len - p)) : thereB len p n = false := by simpa [thereB] using h

set_option maxHeartbeats 400000 in
theorem there_any (a : Option Addr) (len cap : Nat) (p n : Int) (w : World) (hlen : len ≤ maxLen) (hp : p ≤ 9223372036854775807) (hp2 : -9223372036854775808 ≤ p) :
    Calls Tryd.prog 104 #[.slice a len cap, .int .i64 p, .int .i64 n] w fun e w' => e = .returned (.bool (thereB len p n)) ∧ w' = w := by
  unfold maxLen at hlen
  by_cases h0 : 0 ≤ p
  · by_cases h1 : 0 ≤ n
    · by_cases h2 : n ≤ len - p
      · rw [thereB_yes h0 h1 h2]
        go_enter Tryd.func104, Tryd.ntmps104
        go_wp2
        go_ret
        exact ⟨by simp, rfl⟩
      · rw [thereB_no (by omega)]
        go_enter Tryd.func104, Tryd.ntmps104
        go_wp2
        go_ret
        exact ⟨by simp, rfl⟩
    · rw [thereB_no (by omega)]
      go_enter Tryd.func104, Tryd.ntmps104
      go_wp2
      go_ret
      exact ⟨by simp, rfl⟩
  · rw [thereB_no (by omega)]
    go_enter Tryd.func104, Tryd.ntmps104
    go_wp2
    go_ret
    exact ⟨by simp, rfl⟩

theorem there_yes (a : Option Addr) (len cap : Nat) (p n : Int) (w : World) (hlen : len ≤ maxLen) (h0 : 0 ≤ p) (h1 : 0 ≤ n) (h2 : n ≤ len - p) :
    Calls Tryd.prog 104 #[.slice a len cap, .int .i64 p, .int .i64 n] w fun e w' => e = .returned (.bool true) ∧ w' = w := by
  have := there_any a len cap p n w hlen (by unfold maxLen at hlen; omega) (by omega)
  rwa [thereB_yes h0 h1 h2] at this

theorem there_no (a : Option Addr) (len cap : Nat) (p n : Int) (w : World) (hlen : len ≤ maxLen) (hp : p ≤ 9223372036854775807) (hp2 : -9223372036854775808 ≤ p) (h : ¬ (0 ≤ p ∧ 0 ≤ n ∧ n ≤ len - p)) :
    Calls Tryd.prog 104 #[.slice a len cap, .int .i64 p, .int .i64 n] w fun e w' => e = .returned (.bool false) ∧ w' = w := by
  have := there_any a len cap p n w hlen hp hp2
  rwa [thereB_no h] at this

/-- The number of n bytes at a place; 0, where they aren't there. -/
def numAt (l : List Int) (p : Int) (n : Nat) : Int := if thereB l.length p n then num l p.toNat n else 0

theorem numAt_yes {l : List Int} {p : Nat} {n : Nat} (h : p + n ≤ l.length) : numAt l p n = num l p n := by
  rw [numAt, if_pos (thereB_yes (by omega) (by omega) (by omega)), Int.toNat_natCast]

set_option maxHeartbeats 400000 in
theorem read32_yes (b off cap : Nat) (l : List Int) (p : Nat) (w : World) (hlen : l.length ≤ maxLen) (hp : p + 4 ≤ l.length) (hb : Byts l)
    (hc : ∀ k, k < l.length → w.cell? ⟨b, off + k, none⟩ = some (.int .u8 (l.getD k 0))) :
    Calls Tryd.prog 95 #[.slice (some ⟨b, off, none⟩) l.length cap, .int .i64 p, .int .i64 4] w fun e w' => e = .returned (.tuple #[.int .u32 (num l p 4), .bool true]) ∧ w' = w := by
  unfold maxLen at hlen
  go_enter Tryd.func95, Tryd.ntmps95
  go_wp2_with (go_at_call 104; refine (there_yes _ _ _ _ _ _ (by unfold maxLen; omega) (by omega) (by omega) (by omega)).mono ?_; rintro e w' ⟨rfl, rfl⟩)
  go_loop [8, 16] (fun v i => ∃ k : Nat, k ≤ 4 ∧ i = .int .i64 k ∧ v = .int .u32 (num l p k)) (fun _ i => 4 - (intOf i).toNat)
  case atStart => exact ⟨0, by omega, rfl, rfl⟩
  case round =>
    obtain ⟨k, hk, rfl, rfl⟩ := hrel
    by_cases hlt : k < 4
    · have hcell := hc (p + k) (by omega)
      have HS : Hid (bits .or .u32 (num l p k) (l.getD (p + k) 0 % 2 ^ 32 * 2 ^ (8 * k) % 2 ^ 32) = num l p (k + 1)) :=
        or_step32 _ _ k hlt (num_lt l p hb k) (hb (p + k))
      clear hc hb
      go_wp2
      go_round
      case rel =>
        refine ⟨k + 1, by omega, by go_num, ?_⟩
        have := HS.out
        simp only [List.getD_eq_getElem?_getD] at this
        rw [← this]
        rfl
      case measure => simp [intOf]; omega
    · have hk4 : k = 4 := by omega
      subst hk4
      go_wp2
      go_ret2
      exact ⟨rfl, rfl⟩

set_option maxHeartbeats 400000 in
theorem read32_no (a : Option Addr) (len cap : Nat) (p : Int) (w : World) (hlen : len ≤ maxLen) (hp : p ≤ 9223372036854775807) (hp2 : -9223372036854775808 ≤ p) (h : ¬ (0 ≤ p ∧ (0 : Int) ≤ 4 ∧ 4 ≤ len - p)) :
    Calls Tryd.prog 95 #[.slice a len cap, .int .i64 p, .int .i64 4] w fun e w' => e = .returned (.tuple #[.int .u32 0, .bool false]) ∧ w' = w := by
  have hno := fun w => there_no a len cap p 4 w hlen hp hp2 h
  go_enter Tryd.func95, Tryd.ntmps95
  go_wp2_with (go_at_call 104; refine (hno _).mono ?_; rintro e w' ⟨rfl, rfl⟩)
  go_ret2
  exact ⟨rfl, rfl⟩

/-- U32 at all places of all bytes. -/
theorem U32_any (a : Option Addr) (cap : Nat) (l : List Int) (p : Int) (w : World) (hlen : l.length ≤ maxLen) (hb : Byts l) (hl : Lies w a l) (hp : p ≤ 9223372036854775807) (hp2 : -9223372036854775808 ≤ p) :
    Calls Tryd.prog 78 #[.slice a l.length cap, .int .i64 p] w fun e w' => e = .returned (.tuple #[.int .u32 (numAt l p 4), .bool (thereB l.length p 4)]) ∧ w' = w := by
  by_cases h : 0 ≤ p ∧ (0 : Int) ≤ 4 ∧ 4 ≤ l.length - p
  · obtain ⟨p, rfl⟩ := Int.eq_ofNat_of_zero_le h.1
    rcases hl with rfl | ⟨b, off, rfl, _, hc⟩
    · simp at h
      omega
    have hy := fun w => read32_yes b off cap l p w hlen (by omega) hb
    rw [thereB_yes h.1 h.2.1 h.2.2, numAt_yes (by omega)]
    have hc' : Hid (∀ k, k < l.length → w.cell? ⟨b, off + k, none⟩ = some (.int .u8 (l.getD k 0))) := hc
    clear hc
    go_enter Tryd.func78, Tryd.ntmps78
    go_wp2_with (go_at_call 95; refine (hy _ hc'.out).mono ?_; rintro e w' ⟨rfl, rfl⟩)
    go_ret2
    exact ⟨rfl, rfl⟩
  · have hn := fun w => read32_no a l.length cap p w hlen hp hp2 h
    have e : numAt l p 4 = 0 := by rw [numAt, if_neg]; rw [show ((4 : Nat) : Int) = 4 from rfl, thereB_no h]; simp
    rw [thereB_no h, e]
    go_enter Tryd.func78, Tryd.ntmps78
    go_wp2_with (go_at_call 95; refine (hn _).mono ?_; rintro e w' ⟨rfl, rfl⟩)
    go_ret2
    exact ⟨rfl, rfl⟩
set_option maxHeartbeats 400000 in
theorem read64_yes (b off cap : Nat) (l : List Int) (p : Nat) (w : World) (hlen : l.length ≤ maxLen) (hp : p + 8 ≤ l.length) (hb : Byts l)
    (hc : ∀ k, k < l.length → w.cell? ⟨b, off + k, none⟩ = some (.int .u8 (l.getD k 0))) :
    Calls Tryd.prog 106 #[.slice (some ⟨b, off, none⟩) l.length cap, .int .i64 p, .int .i64 8] w fun e w' => e = .returned (.tuple #[.int .u64 (num l p 8), .bool true]) ∧ w' = w := by
  unfold maxLen at hlen
  go_enter Tryd.func106, Tryd.ntmps106
  go_wp2_with (go_at_call 104; refine (there_yes _ _ _ _ _ _ (by unfold maxLen; omega) (by omega) (by omega) (by omega)).mono ?_; rintro e w' ⟨rfl, rfl⟩)
  go_loop [8, 16] (fun v i => ∃ k : Nat, k ≤ 8 ∧ i = .int .i64 k ∧ v = .int .u64 (num l p k)) (fun _ i => 8 - (intOf i).toNat)
  case atStart => exact ⟨0, by omega, rfl, rfl⟩
  case round =>
    obtain ⟨k, hk, rfl, rfl⟩ := hrel
    by_cases hlt : k < 8
    · have hcell := hc (p + k) (by omega)
      have HS : Hid (bits .or .u64 (num l p k) (l.getD (p + k) 0 % 2 ^ 64 * 2 ^ (8 * k) % 2 ^ 64) = num l p (k + 1)) :=
        or_step64 _ _ k hlt (num_lt l p hb k) (hb (p + k))
      clear hc hb
      go_wp2
      go_round
      case rel =>
        refine ⟨k + 1, by omega, by go_num, ?_⟩
        have := HS.out
        simp only [List.getD_eq_getElem?_getD] at this
        rw [← this]
        rfl
      case measure => simp [intOf]; omega
    · have hk4 : k = 8 := by omega
      subst hk4
      go_wp2
      go_ret2
      exact ⟨rfl, rfl⟩

set_option maxHeartbeats 400000 in
theorem read64_no (a : Option Addr) (len cap : Nat) (p : Int) (w : World) (hlen : len ≤ maxLen) (hp : p ≤ 9223372036854775807) (hp2 : -9223372036854775808 ≤ p) (h : ¬ (0 ≤ p ∧ (0 : Int) ≤ 8 ∧ 8 ≤ len - p)) :
    Calls Tryd.prog 106 #[.slice a len cap, .int .i64 p, .int .i64 8] w fun e w' => e = .returned (.tuple #[.int .u64 0, .bool false]) ∧ w' = w := by
  have hno := fun w => there_no a len cap p 8 w hlen hp hp2 h
  go_enter Tryd.func106, Tryd.ntmps106
  go_wp2_with (go_at_call 104; refine (hno _).mono ?_; rintro e w' ⟨rfl, rfl⟩)
  go_ret2
  exact ⟨rfl, rfl⟩

/-- U64 at all places of all bytes. -/
theorem U64_any (a : Option Addr) (cap : Nat) (l : List Int) (p : Int) (w : World) (hlen : l.length ≤ maxLen) (hb : Byts l) (hl : Lies w a l) (hp : p ≤ 9223372036854775807) (hp2 : -9223372036854775808 ≤ p) :
    Calls Tryd.prog 98 #[.slice a l.length cap, .int .i64 p] w fun e w' => e = .returned (.tuple #[.int .u64 (numAt l p 8), .bool (thereB l.length p 8)]) ∧ w' = w := by
  by_cases h : 0 ≤ p ∧ (0 : Int) ≤ 8 ∧ 8 ≤ l.length - p
  · obtain ⟨p, rfl⟩ := Int.eq_ofNat_of_zero_le h.1
    rcases hl with rfl | ⟨b, off, rfl, _, hc⟩
    · simp at h
      omega
    have hy := fun w => read64_yes b off cap l p w hlen (by omega) hb
    rw [thereB_yes h.1 h.2.1 h.2.2, numAt_yes (by omega)]
    have hc' : Hid (∀ k, k < l.length → w.cell? ⟨b, off + k, none⟩ = some (.int .u8 (l.getD k 0))) := hc
    clear hc
    go_enter Tryd.func98, Tryd.ntmps98
    go_wp2_with (go_at_call 106; refine (hy _ hc'.out).mono ?_; rintro e w' ⟨rfl, rfl⟩)
    go_ret2
    exact ⟨rfl, rfl⟩
  · have hn := fun w => read64_no a l.length cap p w hlen hp hp2 h
    have e : numAt l p 8 = 0 := by rw [numAt, if_neg]; rw [show ((8 : Nat) : Int) = 8 from rfl, thereB_no h]; simp
    rw [thereB_no h, e]
    go_enter Tryd.func98, Tryd.ntmps98
    go_wp2_with (go_at_call 106; refine (hn _).mono ?_; rintro e w' ⟨rfl, rfl⟩)
    go_ret2
    exact ⟨rfl, rfl⟩
end Go.Proofs.YtpbnjobjjnhplaaDoor.Oct

namespace Go.Proofs.YtpbnjobjjnhplaaDoor.Oct
open Go.RowKit

theorem info5 : (Tryd.prog.info? 5).map (fun i => (i.zero, i.size, i.bytes)) = some (some (.int .u8 0), 1, 1) := by kernel_rfl
theorem size5 : (Tryd.prog.info? 5).map (·.size) = some 1 := by kernel_rfl

/-- Two lists of bytes as the same text? -/
theorem Same_any (a a' : Option Addr) (cap cap' : Nat) (l l' : List Int) (w : World) (hl : Lies w a l) (hl' : Lies w a' l') (hb : Byts l) (hb' : Byts l') :
    Calls Tryd.prog 39 #[.slice a l.length cap, .slice a' l'.length cap'] w fun e w' => e = .returned (.bool (decide (l = l'))) ∧ w' = w := by
  have h1 := run_text (P := Tryd.prog) (dst := 9) Tryd.underlying31 Tryd.underlying5 Tryd.underlying9 w a l cap hl
  have h2 := run_text (P := Tryd.prog) (dst := 9) Tryd.underlying31 Tryd.underlying5 Tryd.underlying9 w a' l' cap' hl'
  go_enter Tryd.func39, Tryd.ntmps39
  go_wp2
  go_ret
  refine ⟨?_, rfl⟩
  rw [← beq_text hb hb']
  rfl

/-- make of so many bytes. -/
theorem run_make_bytes (w : World) (n : Nat) (hn : n ≤ 140737488355328) :
    (Instr.makeSlice 31 (.int .i64 (n : Int)) (.int .i64 (n : Int))).run Tryd.prog w = .ok (.slice (some ⟨w.heap.size, 0, none⟩) n n) (w.alloc (.cells (madeCells #[.int .u8 0] n) 5)) := by
  obtain ⟨i0, hi, hz0, hz1, hz2⟩ := info_parts info5
  have h := run_make (P := Tryd.prog) w 31 5 i0 (.int .u8 0) Tryd.underlying31 hi hz0 .i64 .i64 (n : Int) (n : Int) (by omega) (Int.le_refl _) (by rw [hz2]; omega) (by omega)
  simpa [hz1, Value.cells] using h

end Go.Proofs.YtpbnjobjjnhplaaDoor.Oct
