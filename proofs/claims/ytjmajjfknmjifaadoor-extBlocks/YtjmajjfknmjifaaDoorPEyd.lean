/- Bits: asked, set, counted, by the program. -/
import Derived.Test.YtjmajjfknmjifaaDoorPEyb
import Derived.Test.YtjmajjfknmjifaaDoorPRdWr
namespace Go.Proofs.YtjmajjfknmjifaaDoor.Oct
open Go.RowKit

set_option maxHeartbeats 1000000 in
theorem mbits_any (a : Option Addr) (n cap : Nat) (w : World) (hn : n ≤ 1000000000) :
    Calls Tryd.prog 47 #[.slice a n cap] w fun e w' => e = .returned (.int .i64 (8 * (n : Int))) ∧ w' = w := by
  have hw : IntKind.i64.wrap ((n : Int) * 8) = 8 * (n : Int) := by rw [IntKind.wrap_i64]; omega
  have hw2 : IntKind.i64.wrap (n : Int) = (n : Int) := by rw [IntKind.wrap_i64]; omega
  clear hn
  go_enter Tryd.func47, Tryd.ntmps47
  go_wp2_with fail
  go_ret
  exact ⟨rfl, rfl⟩

set_option maxHeartbeats 4000000 in
set_option maxRecDepth 100000 in
theorem has_any (a : Option Addr) (cap : Nat) (B : List Int) (i : Int) (w : World) (hlen : B.length ≤ 1000000) (hl : Lies w a B) (hb : Byts B) (hi : -9223372036854775808 ≤ i ∧ i ≤ 9223372036854775807) :
    Calls Tryd.prog 26 #[.slice a B.length cap, .int .i64 i] w fun e w' => e = .returned (.bool (hasB B i)) ∧ w' = w := by
  have HBi := fun u => hide (mbits_any a B.length cap u (by omega))
  have HWi := fun u => hide (within_ext 0 (8 * (B.length : Int) - 1) i u)
  by_cases h : 0 ≤ i ∧ i < 8 * (B.length : Int)
  · have hv : hasB B i = (B.getD (i / 8).toNat 0 / 2 ^ (i % 8).toNat % 2 == 1) := hasB_in h
    have hwv : winE 0 (8 * (B.length : Int) - 1) i = true := by unfold winE; simp; omega
    have hw1 : IntKind.i64.wrap (8 * (B.length : Int) - 1) = 8 * (B.length : Int) - 1 := by rw [IntKind.wrap_i64]; omega
    obtain ⟨k, hk⟩ : ∃ k : Nat, i / 8 = (k : Int) := ⟨(i / 8).toNat, by omega⟩
    obtain ⟨q, hq⟩ : ∃ q : Nat, i % 8 = (q : Int) := ⟨(i % 8).toNat, by omega⟩
    have hkt : i.tdiv 8 = (k : Int) := by rw [Int.tdiv_eq_ediv_of_nonneg h.1, hk]
    have hqt : i.tmod 8 = (q : Int) := by rw [Int.tmod_eq_emod_of_nonneg h.1, hq]
    have hkw : IntKind.i64.wrap (k : Int) = (k : Int) := by rw [IntKind.wrap_i64]; omega
    have hk0 : (0 : Int) ≤ (k : Int) := by omega
    have hkl : k < B.length := by omega
    have hk1 : (k : Int) < (B.length : Int) := by omega
    have hq0 : (0 : Int) ≤ (q : Int) := by omega
    have hq8 : (q : Int) ≤ 8 := by omega
    rw [hv, hk, hq]
    simp only [Int.toNat_natCast]
    obtain ⟨b, off, rfl, hc⟩ : ∃ b off, a = some ⟨b, off, none⟩ ∧ w.cell? ⟨b, off + k, none⟩ = some (.int .u8 (B.getD k 0)) := by
      rcases hl with hn | ⟨b, off, hp, _, hc⟩
      · rw [hn] at hkl; simp at hkl
      · exact ⟨b, off, hp, hc k hkl⟩
    have hx := hb k
    obtain ⟨x, hxe⟩ : ∃ x, x = B.getD k 0 := ⟨_, rfl⟩
    rw [← hxe] at hc hx ⊢
    obtain ⟨y, hy⟩ : ∃ y : Nat, x / 2 ^ q = (y : Int) := ⟨(x / 2 ^ q).toNat, by have := Int.ediv_nonneg hx.1 (b := 2 ^ q) (by exact Int.le_of_lt (Int.pow_pos (by omega))); omega⟩
    have hyb : y < 256 := by
      have h1 := Int.ediv_le_self (2 ^ q) (a := x) hx.1
      omega
    have hya := and_one y hyb
    rw [hwv] at HWi
    rw [hy]
    obtain ⟨z, hz⟩ : ∃ z, z = (y : Int) % 2 := ⟨_, rfl⟩
    rw [← hz] at hya ⊢
    obtain ⟨d, hdd⟩ : ∃ d, d = (z == 1) := ⟨_, rfl⟩
    rw [← hdd]
    have hd : (z == 1) = d := hdd.symm
    obtain ⟨n, hn⟩ : ∃ n, n = B.length := ⟨_, rfl⟩
    rw [← hn] at HBi HWi hk1 hw1 ⊢
    clear hv hwv hk hq hkl hlen hl hb hi h hx hxe hyb hz hn hdd
    go_enter Tryd.func26, Tryd.ntmps26
    go_wp2_with fail
    refine (HBi _).out.mono ?_
    rintro e9 w2 ⟨rfl, h2⟩
    rw [h2]
    clear h2
    go_wp2_with fail
    refine (HWi _).out.mono ?_
    rintro e9 w2 ⟨rfl, h2⟩
    rw [h2]
    clear h2
    go_wp2_with fail
    go_ret
    exact ⟨rfl, rfl⟩
  · rw [hasB_off h]
    have hwv : winE 0 (8 * (B.length : Int) - 1) i = false := by
      unfold winE
      by_cases h0 : 0 ≤ i
      · have : ¬ i ≤ 8 * (B.length : Int) - 1 := by omega
        simp [this]
      · simp [h0]
    have hw1 : IntKind.i64.wrap (8 * (B.length : Int) - 1) = 8 * (B.length : Int) - 1 := by rw [IntKind.wrap_i64]; omega
    rw [hwv] at HWi
    obtain ⟨n, hn⟩ : ∃ n, n = B.length := ⟨_, rfl⟩
    rw [← hn] at HBi HWi hw1 ⊢
    clear hwv hlen hl hb hi h hn
    go_enter Tryd.func26, Tryd.ntmps26
    go_wp2_with fail
    refine (HBi _).out.mono ?_
    rintro e9 w2 ⟨rfl, h2⟩
    rw [h2]
    clear h2
    go_wp2_with fail
    refine (HWi _).out.mono ?_
    rintro e9 w2 ⟨rfl, h2⟩
    rw [h2]
    clear h2
    go_wp2_with fail
    go_ret
    exact ⟨rfl, rfl⟩
end Go.Proofs.YtjmajjfknmjifaaDoor.Oct
