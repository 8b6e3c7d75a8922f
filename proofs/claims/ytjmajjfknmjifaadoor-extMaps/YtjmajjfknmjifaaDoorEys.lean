/- The document's bits: Bit, Clear. -/
import Derived.Test.YtjmajjfknmjifaaDoorEyf
namespace Go.Proofs.YtjmajjfknmjifaaDoor.Oct
open Go.RowKit

set_option maxHeartbeats 4000000 in
set_option maxRecDepth 100000 in
theorem rbit_any (a : Option Addr) (cap : Nat) (B : List Int) (i : Int) (w : World) (hlen : B.length ≤ 1000000) (hl : Lies w a B) (hb : Byts B) (hi : -9223372036854775808 ≤ i ∧ i ≤ 9223372036854775807) :
    Calls Tryd.prog 24 #[.slice a B.length cap, .int .i64 i] w fun e w' => e = .returned (.bool (hasB B i)) ∧ w' = w := by
  have hw8 : IntKind.i64.wrap (8 * (B.length : Int)) = 8 * (B.length : Int) := by rw [IntKind.wrap_i64]; omega
  by_cases h : 0 ≤ i ∧ i < 8 * (B.length : Int)
  · have hv : hasB B i = (B.getD (i / 8).toNat 0 / 2 ^ (i % 8).toNat % 2 == 1) := hasB_in h
    obtain ⟨k, hk⟩ : ∃ k : Nat, i / 8 = (k : Int) := ⟨(i / 8).toNat, by omega⟩
    obtain ⟨q, hq⟩ : ∃ q : Nat, i % 8 = (q : Int) := ⟨(i % 8).toNat, by omega⟩
    have hkt : i.tdiv 8 = (k : Int) := by rw [Int.tdiv_eq_ediv_of_nonneg h.1, hk]
    have hqt : i.tmod 8 = (q : Int) := by rw [Int.tmod_eq_emod_of_nonneg h.1, hq]
    have hkw : IntKind.i64.wrap (k : Int) = (k : Int) := by rw [IntKind.wrap_i64]; omega
    have hk0 : (0 : Int) ≤ (k : Int) := by omega
    have hkl : k < B.length := by omega
    have hk1 : (k : Int) < (B.length : Int) := by omega
    have d0 : decide (i < 0) = false := by simp; omega
    have d1 : decide (8 * (B.length : Int) ≤ i) = false := by simp; omega
    have HQ8 := hide (show q < 8 by omega)
    rw [hv, hk, hq]
    simp only [Int.toNat_natCast]
    obtain ⟨b, off, rfl, hc⟩ : ∃ b off, a = some ⟨b, off, none⟩ ∧ w.cell? ⟨b, off + k, none⟩ = some (.int .u8 (B.getD k 0)) := by
      rcases hl with hn | ⟨b, off, hp, _, hc⟩
      · rw [hn] at hkl; simp at hkl
      · exact ⟨b, off, hp, hc k hkl⟩
    have hx := hb k
    obtain ⟨x, hxe⟩ : ∃ x, x = B.getD k 0 := ⟨_, rfl⟩
    rw [← hxe] at hc hx ⊢
    have hxw : IntKind.i64.wrap x = x := by rw [IntKind.wrap_i64]; omega
    have HX := hide hx
    have HQt := hide hqt
    obtain ⟨n, hn⟩ : ∃ n, n = B.length := ⟨_, rfl⟩
    rw [← hn] at hk1 hw8 d1 ⊢
    clear hn hxe hx hv h hk hq hkl hi hlen hl hb
    go_enter Tryd.func24, Tryd.ntmps24
    go_wp2_with fail
    go_loopw [5, 6] (fun c f wr => ∃ j : Nat, j ≤ q ∧ f = .int .i64 (j : Int) ∧ c = .int .i64 (x / 2 ^ j) ∧ wr = w) (fun _ f _ => q - (intOf f).toNat)
    case atStart => exact ⟨0, by omega, rfl, by simp, rfl⟩
    case round =>
      obtain ⟨j, hj, rfl, rfl, hw⟩ := hrel
      rw [hw]
      clear hw
      have hy0 : 0 ≤ x / 2 ^ j := Int.ediv_nonneg HX.out.1 (Int.le_of_lt (Int.pow_pos (by omega)))
      have hy1 : x / 2 ^ j < 256 := by
        have h1 := Int.ediv_le_self (2 ^ j) (a := x) HX.out.1
        have := HX.out.2
        omega
      by_cases hlt : j < q
      · have hs : (x / 2 ^ j).tdiv 2 = x / 2 ^ (j + 1) := by
          rw [Int.tdiv_eq_ediv_of_nonneg hy0, Int.ediv_ediv_of_nonneg (Int.le_of_lt (Int.pow_pos (by omega))), Int.pow_succ]
        have hsw : IntKind.i64.wrap (x / 2 ^ (j + 1)) = x / 2 ^ (j + 1) := by rw [← hs, Int.tdiv_eq_ediv_of_nonneg hy0, IntKind.wrap_i64]; omega
        have q1 : IntKind.i64.wrap ((j : Int) + 1) = (j : Int) + 1 := by rw [IntKind.wrap_i64]; have := HQ8.out; omega
        have hlt2 : (j : Int) < (q : Int) := by omega
        have HS := hide (And.intro hs hsw)
        have HJ := hide hlt
        obtain ⟨y, hy⟩ : ∃ y, y = x / 2 ^ j := ⟨_, rfl⟩
        obtain ⟨z, hz⟩ : ∃ z, z = x / 2 ^ (j + 1) := ⟨_, rfl⟩
        rw [← hy, ← hz] at hs
        rw [← hz] at hsw
        rw [← hy]
        have HZ := hide hz
        clear hy hz hy0 hy1 hlt hj HS
        go_wp2_with fail
        go_roundw
        case rel => exact ⟨j + 1, by have := HJ.out; omega, by go_num, by rw [HZ.out], by first | rfl | trivial⟩
        case measure => have := HJ.out; simp [intOf]; omega
      · obtain rfl : j = q := by omega
        have hm : (x / 2 ^ j).tmod 2 = x / 2 ^ j % 2 := Int.tmod_eq_emod_of_nonneg hy0
        obtain ⟨d, hdd⟩ : ∃ d, d = (x / 2 ^ j % 2 == 1) := ⟨_, rfl⟩
        have HD := hide hdd
        obtain ⟨y, hy⟩ : ∃ y, y = x / 2 ^ j := ⟨_, rfl⟩
        rw [← hy] at hm hdd ⊢
        obtain ⟨z, hz⟩ : ∃ z, z = y % 2 := ⟨_, rfl⟩
        have hz2 : 0 ≤ z ∧ z < 2 := by rw [hz]; omega
        have hzw : IntKind.i64.wrap z = z := by rw [IntKind.wrap_i64]; omega
        rw [← hz] at hm hdd
        have hd : (z == 1) = d := hdd.symm
        clear hz hy hdd hy0 hy1 hj hz2 hlt
        go_wp2_with fail
        go_ret
        exact ⟨by rw [HD.out]; rfl, rfl⟩
  · rw [hasB_off h]
    by_cases h0 : i < 0
    · have d0 : decide (i < 0) = true := by simpa using h0
      generalize B.length = n at *
      clear h h0 hl hlen hw8
      go_enter Tryd.func24, Tryd.ntmps24
      go_wp2_with fail
      go_ret
      exact ⟨rfl, rfl⟩
    · have d0 : decide (i < 0) = false := by simpa using h0
      have d1 : decide (8 * (B.length : Int) ≤ i) = true := by simp; omega
      obtain ⟨n, hn⟩ : ∃ n, n = B.length := ⟨_, rfl⟩
      rw [← hn] at d1 hw8 ⊢
      clear h h0 hl hlen hn hi
      go_enter Tryd.func24, Tryd.ntmps24
      go_wp2_with fail
      go_ret
      exact ⟨rfl, rfl⟩

set_option maxHeartbeats 4000000 in
set_option maxRecDepth 100000 in
theorem rclear_any (a : Option Addr) (cap : Nat) (B : List Int) (n : Int) (w : World) (hlen : B.length ≤ 1000000) (hl : Lies w a B) (hb : Byts B) :
    Calls Tryd.prog 29 #[.slice a B.length cap, .int .i64 n] w fun e w' => e = .returned (.int .i64 (freeB B (min n (8 * (B.length : Int))).toNat)) ∧ w' = w := by
  have HHa := fun (i : Int) (h : 0 ≤ i ∧ i ≤ 8000000) => hide (rbit_any a cap B i w hlen hl hb (by omega))
  have hw8 : IntKind.i64.wrap (8 * (B.length : Int)) = 8 * (B.length : Int) := by rw [IntKind.wrap_i64]; omega
  obtain ⟨M, hM⟩ : ∃ M, min n (8 * (B.length : Int)) = M := ⟨_, rfl⟩
  have HMb := hide (show M ≤ 8000000 by omega)
  rw [hM]
  obtain ⟨q, hq⟩ : ∃ q, q = B.length := ⟨_, rfl⟩
  rw [← hq] at HHa hM hw8 ⊢
  have HM := hide hM
  clear hlen hl hb hq hM
  go_enter Tryd.func29, Tryd.ntmps29
  go_wp2_with fail
  go_loopw [5, 6] (fun f i wr => ∃ k : Nat, (k : Int) ≤ max M 0 ∧ i = .int .i64 (k : Int) ∧ f = .int .i64 (freeB B k) ∧ wr = w) (fun _ i _ => M.toNat - (intOf i).toNat)
  case atStart => exact ⟨0, by omega, rfl, rfl, rfl⟩
  case round =>
    obtain ⟨k, hk, rfl, rfl, hw⟩ := hrel
    rw [hw]
    clear hw
    by_cases hlt : (k : Int) < M
    · have HHk := HHa (k : Int) (by have := HMb.out; omega)
      have q1 : IntKind.i64.wrap ((k : Int) + 1) = (k : Int) + 1 := by rw [IntKind.wrap_i64]; have := HMb.out; omega
      have hf := freeB_in B k
      have q2 : IntKind.i64.wrap (freeB B k + 1) = freeB B k + 1 := by rw [IntKind.wrap_i64]; have := HMb.out; omega
      have HF := hide (show freeB B (k + 1) = freeB B k + if hasB B (k : Int) = true then 0 else 1 from rfl)
      have HJ := hide hlt
      have d1 : decide ((k : Int) < n) = true := by have := HM.out; simp; omega
      have d2 : decide ((k : Int) < 8 * (q : Int)) = true := by have := HM.out; simp; omega
      obtain ⟨f, hfe⟩ : ∃ f, f = freeB B k := ⟨_, rfl⟩
      rw [← hfe] at q2 HF ⊢
      obtain ⟨h, hh⟩ : ∃ h, h = hasB B (k : Int) := ⟨_, rfl⟩
      rw [← hh] at HHk HF
      clear hh hfe hf hk hlt
      go_wp2_with fail
      refine HHk.out.mono ?_
      rintro e9 w3 ⟨rfl, h3⟩
      rw [h3]
      clear h3
      cases h
      · go_wp2_with fail
        go_roundw
        case rel => exact ⟨k + 1, by have := HJ.out; omega, by push_cast; rfl, by rw [HF.out]; rfl, by first | rfl | trivial⟩
        case measure => have := HJ.out; simp [intOf]; omega
      · go_wp2_with fail
        go_roundw
        case rel => exact ⟨k + 1, by have := HJ.out; omega, by push_cast; rfl, by rw [HF.out]; simp, by first | rfl | trivial⟩
        case measure => have := HJ.out; simp [intOf]; omega
    · have hke : k = M.toNat := by omega
      have HK := hide hke
      by_cases hn : (k : Int) < n
      · have d1 : decide ((k : Int) < n) = true := by simpa using hn
        have d2 : decide ((k : Int) < 8 * (q : Int)) = false := by have := HM.out; simp; omega
        clear hke hk hlt hn
        go_wp2_with fail
        go_ret
        exact ⟨by rw [← HK.out]; rfl, rfl⟩
      · have d1 : decide ((k : Int) < n) = false := by simpa using hn
        clear hke hk hlt hn
        go_wp2_with fail
        go_ret
        exact ⟨by rw [← HK.out]; rfl, rfl⟩
end Go.Proofs.YtjmajjfknmjifaaDoor.Oct
