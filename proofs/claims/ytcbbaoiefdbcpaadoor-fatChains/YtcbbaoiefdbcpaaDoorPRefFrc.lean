/- The document's numbers in bytes; its reading of a sector with the counts. -/
import Derived.Test.YtcbbaoiefdbcpaaDoorPRdLow
import Derived.Test.YtcbbaoiefdbcpaaDoorPFccFcd
import Derived.Handy
namespace Go.Proofs.YtcbbaoiefdbcpaaDoor.Oct
open Go.RowKit

set_option maxHeartbeats 400000 in
theorem In_any (a : Option Addr) (len cap : Nat) (p n : Int) (w : World) (hlen : len ≤ maxLen) (hp : p ≤ 9223372036854775807) (hp2 : -9223372036854775808 ≤ p) :
    Calls Tryd.prog 63 #[.slice a len cap, .int .i64 p, .int .i64 n] w fun e w' => e = .returned (.bool (thereB len p n)) ∧ w' = w := by
  unfold maxLen at hlen
  by_cases h0 : 0 ≤ p
  · by_cases h1 : 0 ≤ n
    · by_cases h3 : p ≤ len
      · by_cases h2 : n ≤ len - p
        · rw [thereB_yes h0 h1 h2]
          go_enter Tryd.func63, Tryd.ntmps63
          go_wp2
          go_ret
          exact ⟨by simp, rfl⟩
        · rw [thereB_no (by omega)]
          go_enter Tryd.func63, Tryd.ntmps63
          go_wp2
          go_ret
          exact ⟨by simp, rfl⟩
      · rw [thereB_no (by omega)]
        go_enter Tryd.func63, Tryd.ntmps63
        go_wp2
        go_ret
        exact ⟨by simp, rfl⟩
    · rw [thereB_no (by omega)]
      go_enter Tryd.func63, Tryd.ntmps63
      go_wp2
      go_ret
      exact ⟨by simp, rfl⟩
  · rw [thereB_no (by omega)]
    go_enter Tryd.func63, Tryd.ntmps63
    go_wp2
    go_ret
    exact ⟨by simp, rfl⟩

theorem In_yes (a : Option Addr) (len cap : Nat) (p n : Int) (w : World) (hlen : len ≤ maxLen) (h0 : 0 ≤ p) (h1 : 0 ≤ n) (h2 : n ≤ len - p) :
    Calls Tryd.prog 63 #[.slice a len cap, .int .i64 p, .int .i64 n] w fun e w' => e = .returned (.bool true) ∧ w' = w := by
  have := In_any a len cap p n w hlen (by unfold maxLen at hlen; omega) (by omega)
  rwa [thereB_yes h0 h1 h2] at this

theorem In_no (a : Option Addr) (len cap : Nat) (p n : Int) (w : World) (hlen : len ≤ maxLen) (hp : p ≤ 9223372036854775807) (hp2 : -9223372036854775808 ≤ p) (h : ¬ (0 ≤ p ∧ 0 ≤ n ∧ n ≤ len - p)) :
    Calls Tryd.prog 63 #[.slice a len cap, .int .i64 p, .int .i64 n] w fun e w' => e = .returned (.bool false) ∧ w' = w := by
  have := In_any a len cap p n w hlen hp hp2
  rwa [thereB_no h] at this

theorem pow_small (k : Nat) (hk : k ≤ 8) : (256 : Int) ^ k ≤ 18446744073709551616 := by
  have h1 : (256 : Nat) ^ k ≤ 256 ^ 8 := Nat.pow_le_pow_right (by omega) hk
  have h2 : (256 : Nat) ^ 8 = 18446744073709551616 := by decide
  rw [int_pow256]
  omega

theorem num_step (l : List Int) (p k : Nat) (hb : Byts l) (hk : k < 8) (x y : Int) (hx : l.getD (p + k) 0 = x) (hy : (256 ^ k % 18446744073709551616 : Int) = y) :
    IntKind.u64.wrap (num l p k + IntKind.u64.wrap (x * y)) = num l p (k + 1) := by
  have h1 := num_lt l p hb (k + 1)
  have h2 := pow_small (k + 1) (by omega)
  have h0 := num_lt l p hb k
  have hp : (0 : Int) < 256 ^ k := Int.pow_pos (by omega)
  have e : (256 ^ k % 18446744073709551616 : Int) = 256 ^ k := by
    rw [Int.pow_succ] at h2
    exact Int.emod_eq_of_lt (by omega) (by omega)
  rw [e] at hy
  subst hy
  have e2 : num l p (k + 1) = num l p k + x * 256 ^ k := by rw [num, hx]
  rw [e2] at h1 ⊢
  rw [IntKind.wrap_u64, IntKind.wrap_u64]
  have hx0 := hb (p + k)
  rw [hx] at hx0
  have e3 : 0 ≤ x * 256 ^ k := Int.mul_nonneg hx0.1 (by omega)
  generalize x * 256 ^ k = z at *
  omega

theorem pow_step (k : Nat) (y : Int) (hy : (256 ^ k % 18446744073709551616 : Int) = y) : IntKind.u64.wrap (y * 256) = 256 ^ (k + 1) % 18446744073709551616 := by
  rw [IntKind.wrap_u64, ← hy, Int.pow_succ]
  omega

set_option maxHeartbeats 400000 in
theorem Num_yes (b off cap : Nat) (l : List Int) (p n : Nat) (hn : n ≤ 8) (w : World) (hlen : l.length ≤ maxLen) (hp : p + n ≤ l.length) (hb : Byts l)
    (hc : ∀ k, k < l.length → w.cell? ⟨b, off + k, none⟩ = some (.int .u8 (l.getD k 0))) :
    Calls Tryd.prog 51 #[.slice (some ⟨b, off, none⟩) l.length cap, .int .i64 p, .int .i64 n] w fun e w' => e = .returned (.tuple #[.int .u64 (num l p n), .bool true]) ∧ w' = w := by
  unfold maxLen at hlen
  go_enter Tryd.func51, Tryd.ntmps51
  go_wp2_with (go_at_call 63; refine (In_yes _ _ _ _ _ _ (by unfold maxLen; omega) (by omega) (by omega) (by omega)).mono ?_; rintro e w' ⟨rfl, rfl⟩)
  go_loop [8, 9, 10] (fun v q i => ∃ k : Nat, k ≤ n ∧ i = .int .i64 k ∧ v = .int .u64 (num l p k) ∧ q = .int .u64 (256 ^ k % 18446744073709551616)) (fun _ _ i => n - (intOf i).toNat)
  case atStart => exact ⟨0, by omega, rfl, rfl, rfl⟩
  case round =>
    obtain ⟨k, hk, rfl, rfl, rfl⟩ := hrel
    by_cases hlt : k < n
    · have hcell := hc (p + k) (by omega)
      have hbk := hb (p + k)
      have HB : Hid (Byts l) := hb
      clear hc hb
      generalize hx : l.getD (p + k) 0 = x at *
      have HX : Hid (l.getD (p + k) 0 = x) := hx
      clear hx
      obtain ⟨y, hy⟩ : ∃ y : Int, (256 ^ k % 18446744073709551616) = y := ⟨_, rfl⟩
      rw [hy]
      have HY : Hid ((256 ^ k % 18446744073709551616 : Int) = y) := hy
      clear hy
      go_wp2
      go_round
      case rel => exact ⟨k + 1, by omega, by go_num, by rw [num_step l p k HB.out (by omega) x y HX.out HY.out], by rw [pow_step k y HY.out]⟩
      case measure => simp [intOf]; omega
    · have hk4 : k = n := by omega
      subst hk4
      go_wp2
      go_ret2
      exact ⟨rfl, rfl⟩

set_option maxHeartbeats 400000 in
theorem Num_no (a : Option Addr) (len cap : Nat) (p n : Int) (w : World) (hlen : len ≤ maxLen) (hp : p ≤ 9223372036854775807) (hp2 : -9223372036854775808 ≤ p) (h : ¬ (0 ≤ p ∧ 0 ≤ n ∧ n ≤ len - p)) :
    Calls Tryd.prog 51 #[.slice a len cap, .int .i64 p, .int .i64 n] w fun e w' => e = .returned (.tuple #[.int .u64 0, .bool false]) ∧ w' = w := by
  have hno := fun w => In_no a len cap p n w hlen hp hp2 h
  go_enter Tryd.func51, Tryd.ntmps51
  go_wp2_with (go_at_call 63; refine (hno _).mono ?_; rintro e w' ⟨rfl, rfl⟩)
  go_ret2
  exact ⟨rfl, rfl⟩

theorem Num_any (a : Option Addr) (cap : Nat) (l : List Int) (p : Int) (n : Nat) (hn : 0 < n) (hn8 : n ≤ 8) (w : World) (hlen : l.length ≤ maxLen) (hb : Byts l) (hl : Lies w a l) (hp : p ≤ 9223372036854775807) (hp2 : -9223372036854775808 ≤ p) :
    Calls Tryd.prog 51 #[.slice a l.length cap, .int .i64 p, .int .i64 n] w fun e w' => e = .returned (.tuple #[.int .u64 (numAt l p n), .bool (thereB l.length p n)]) ∧ w' = w := by
  by_cases h : 0 ≤ p ∧ (0 : Int) ≤ n ∧ n ≤ l.length - p
  · obtain ⟨p, rfl⟩ := Int.eq_ofNat_of_zero_le h.1
    rcases hl with rfl | ⟨b, off, rfl, _, hc⟩
    · simp at h
      omega
    rw [thereB_yes h.1 h.2.1 h.2.2, numAt_yes (by omega)]
    exact Num_yes b off cap l p n hn8 w hlen (by omega) hb hc
  · have e : numAt l p n = 0 := by rw [numAt, if_neg]; rw [thereB_no h]; simp
    rw [thereB_no h, e]
    exact Num_no a l.length cap p n w hlen hp hp2 h
end Go.Proofs.YtcbbaoiefdbcpaaDoor.Oct

namespace Go.Proofs.YtcbbaoiefdbcpaaDoor.Oct
open Go.RowKit

set_option maxHeartbeats 400000 in
theorem rint1 (a : Option Addr) (cap : Nat) (l : List Int) (p : Nat) (w : World) (h5 : l.length ≤ 1000000) (hb : Byts l) (hl : Lies w a l) (hp : p + 1 ≤ l.length) :
    Calls Tryd.prog 30 #[.slice a l.length cap, .int .i64 p, .int .i64 1] w fun e w' => e = .returned (.int .i64 (num l p 1)) ∧ w' = w := by
  have HN : Hid (Calls Tryd.prog 51 #[.slice a l.length cap, .int .i64 p, .int .i64 1] w fun e w' => e = .returned (.tuple #[.int .u64 (num l p 1), .bool true]) ∧ w' = w) := hide (by
    have := Num_any a cap l p 1 (by omega) (by omega) w (by unfold maxLen; omega) hb hl (by omega) (by omega)
    rw [thereB_yes (by omega) (by omega) (by omega), numAt_yes hp] at this
    exact this)
  have hn := num_lt l p hb 1
  have p4 : (256 : Int) ^ 1 = 256 := by decide
  rw [p4] at hn
  clear p4 hl hb
  generalize num l p 1 = v at *
  go_enter Tryd.func30, Tryd.ntmps30
  go_wp2_with fail
  refine HN.out.mono ?_
  rintro e9 w2 ⟨rfl, rfl⟩
  go_wp2_with fail
  go_ret
  exact ⟨rfl, rfl⟩

set_option maxHeartbeats 400000 in
theorem rint2 (a : Option Addr) (cap : Nat) (l : List Int) (p : Nat) (w : World) (h5 : l.length ≤ 1000000) (hb : Byts l) (hl : Lies w a l) (hp : p + 2 ≤ l.length) :
    Calls Tryd.prog 30 #[.slice a l.length cap, .int .i64 p, .int .i64 2] w fun e w' => e = .returned (.int .i64 (num l p 2)) ∧ w' = w := by
  have HN : Hid (Calls Tryd.prog 51 #[.slice a l.length cap, .int .i64 p, .int .i64 2] w fun e w' => e = .returned (.tuple #[.int .u64 (num l p 2), .bool true]) ∧ w' = w) := hide (by
    have := Num_any a cap l p 2 (by omega) (by omega) w (by unfold maxLen; omega) hb hl (by omega) (by omega)
    rw [thereB_yes (by omega) (by omega) (by omega), numAt_yes hp] at this
    exact this)
  have hn := num_lt l p hb 2
  have p4 : (256 : Int) ^ 2 = 65536 := by decide
  rw [p4] at hn
  clear p4 hl hb
  generalize num l p 2 = v at *
  go_enter Tryd.func30, Tryd.ntmps30
  go_wp2_with fail
  refine HN.out.mono ?_
  rintro e9 w2 ⟨rfl, rfl⟩
  go_wp2_with fail
  go_ret
  exact ⟨rfl, rfl⟩

set_option maxHeartbeats 400000 in
theorem rint4 (a : Option Addr) (cap : Nat) (l : List Int) (p : Nat) (w : World) (h5 : l.length ≤ 1000000) (hb : Byts l) (hl : Lies w a l) (hp : p + 4 ≤ l.length) :
    Calls Tryd.prog 30 #[.slice a l.length cap, .int .i64 p, .int .i64 4] w fun e w' => e = .returned (.int .i64 (num l p 4)) ∧ w' = w := by
  have HN : Hid (Calls Tryd.prog 51 #[.slice a l.length cap, .int .i64 p, .int .i64 4] w fun e w' => e = .returned (.tuple #[.int .u64 (num l p 4), .bool true]) ∧ w' = w) := hide (by
    have := Num_any a cap l p 4 (by omega) (by omega) w (by unfold maxLen; omega) hb hl (by omega) (by omega)
    rw [thereB_yes (by omega) (by omega) (by omega), numAt_yes hp] at this
    exact this)
  have hn := num_lt l p hb 4
  have p4 : (256 : Int) ^ 4 = 4294967296 := by decide
  rw [p4] at hn
  clear p4 hl hb
  generalize num l p 4 = v at *
  go_enter Tryd.func30, Tryd.ntmps30
  go_wp2_with fail
  refine HN.out.mono ?_
  rintro e9 w2 ⟨rfl, rfl⟩
  go_wp2_with fail
  go_ret
  exact ⟨rfl, rfl⟩

set_option maxHeartbeats 4000000 in
set_option maxRecDepth 100000 in
theorem rcounts_any (a : Option Addr) (cap : Nat) (l : List Int) (w : World) (hlen : l.length ≤ 1000000) (hb : Byts l) (hl : Lies w a l) :
    Calls Tryd.prog 28 #[.slice a l.length cap] w fun e w' => e = .returned (.tuple #[.int .i64 (parC l).1, .int .i64 (parC l).2.1, .int .i64 (parC l).2.2]) ∧ w' = w := by
  by_cases h5 : l.length = 512
  · have C := fun (p : Nat) (hp : p + 4 ≤ l.length) => hide (rint4 a cap l p w hlen hb hl hp)
    rw [h5] at C ⊢
    have C0 := C 0 (by omega)
    have C1 := C 484 (by omega)
    have C2 := C 508 (by omega)
    have C3 := C 488 (by omega)
    have C4 := C 492 (by omega)
    push_cast at C0 C1 C2 C3 C4
    have HE := hide (show parC l = if num l 0 4 = 1096897106 ∧ num l 484 4 = 1631679090 ∧ num l 508 4 = 2857697280 then (num l 488 4, num l 492 4, 0) else (0, 0, 10) from if_pos h5)
    obtain ⟨pc, hpc⟩ : ∃ pc, pc = parC l := ⟨_, rfl⟩
    rw [← hpc] at HE ⊢
    clear hpc C hlen hb hl h5
    generalize num l 0 4 = v0 at *
    generalize num l 484 4 = v1 at *
    generalize num l 508 4 = v2 at *
    generalize num l 488 4 = f at *
    generalize num l 492 4 = x at *
    go_enter Tryd.func28, Tryd.ntmps28
    go_wp2_with fail
    refine C0.out.mono ?_
    rintro e9 w2 ⟨rfl, h2⟩
    rw [h2]
    clear h2
    by_cases k0 : v0 = 1096897106
    · have q0 : (v0 != 1096897106) = false := by simpa using k0
      have K0 := hide k0
      clear k0
      go_wp2_with fail
      refine C1.out.mono ?_
      rintro e9 w2 ⟨rfl, h2⟩
      rw [h2]
      clear h2
      by_cases k1 : v1 = 1631679090
      · have q1 : (v1 != 1631679090) = false := by simpa using k1
        have K1 := hide k1
        clear k1
        go_wp2_with fail
        refine C2.out.mono ?_
        rintro e9 w2 ⟨rfl, h2⟩
        rw [h2]
        clear h2
        by_cases k2 : v2 = 2857697280
        · have q2 : (v2 != 2857697280) = false := by simpa using k2
          have HP := hide (show pc = (f, x, 0) by rw [HE.out, if_pos ⟨K0.out, K1.out, k2⟩])
          clear k2
          go_wp2_with fail
          refine C3.out.mono ?_
          rintro e9 w2 ⟨rfl, h2⟩
          rw [h2]
          clear h2
          go_wp2_with fail
          refine C4.out.mono ?_
          rintro e9 w2 ⟨rfl, h2⟩
          rw [h2]
          clear h2
          go_wp2_with fail
          go_returns
          exact ⟨by rw [HP.out]; rfl, rfl⟩
        · have q2 : (v2 != 2857697280) = true := by simpa using k2
          have HP := hide (show pc = (0, 0, 10) by rw [HE.out, if_neg (fun c => k2 c.2.2)])
          clear k2
          go_wp2_with fail
          go_returns
          exact ⟨by rw [HP.out]; rfl, rfl⟩
      · have q1 : (v1 != 1631679090) = true := by simpa using k1
        have HP := hide (show pc = (0, 0, 10) by rw [HE.out, if_neg (fun c => k1 c.2.1)])
        clear k1
        go_wp2_with fail
        go_returns
        exact ⟨by rw [HP.out]; rfl, rfl⟩
    · have q0 : (v0 != 1096897106) = true := by simpa using k0
      have HP := hide (show pc = (0, 0, 10) by rw [HE.out, if_neg (fun c => k0 c.1)])
      clear k0
      go_wp2_with fail
      go_returns
      exact ⟨by rw [HP.out]; rfl, rfl⟩
  · have e0 : parC l = (0, 0, 4) := by unfold parC; rw [if_neg h5]
    rw [e0]
    obtain ⟨n, hn⟩ : ∃ n, n = l.length := ⟨_, rfl⟩
    rw [← hn] at h5 hlen ⊢
    clear hn hl hb e0
    go_enter Tryd.func28, Tryd.ntmps28
    go_wp2_with fail
    go_returns
    exact ⟨rfl, rfl⟩
end Go.Proofs.YtcbbaoiefdbcpaaDoor.Oct
