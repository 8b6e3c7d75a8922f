/- Plain mathematics on numbers in bytes: the number of some bytes, the lowest first; the steps of a loop that reads it and of one that writes it. -/
import Derived.WalkKit
import Derived.Laws.BitsAllLaws
namespace Go.Proofs.YtjmajjfknmjifaaDoor.Oct
open Go.RowKit

/-- A fact kept from the walk. -/
theorem hide {p : Prop} (h : p) : Hid p := h

/-- All are bytes. -/
def Byts (l : List Int) : Prop := ∀ k, 0 ≤ l.getD k 0 ∧ l.getD k 0 < 256

/-- The number of the first k bytes from place p on, the lowest first. -/
def num (l : List Int) (p : Nat) : Nat → Int
  | 0 => 0
  | k + 1 => num l p k + l.getD (p + k) 0 * 256 ^ k

theorem num_lt (l : List Int) (p : Nat) (hb : Byts l) : ∀ k, 0 ≤ num l p k ∧ num l p k < 256 ^ k
  | 0 => by simp [num]
  | k + 1 => by
    have ih := num_lt l p hb k
    have h := hb (p + k)
    have hp : (0 : Int) < 256 ^ k := Int.pow_pos (by omega)
    generalize hx : l.getD (p + k) 0 = x at *
    simp only [num, Int.pow_succ, hx]
    generalize (256 : Int) ^ k = y at *
    have e1 : x * y ≤ 255 * y := Int.mul_le_mul_of_nonneg_right (by omega) (by omega)
    have e2 : 0 ≤ x * y := Int.mul_nonneg h.1 (by omega)
    omega

theorem pow256 (k : Nat) : (256 : Nat) ^ k = 2 ^ (8 * k) := by rw [Nat.pow_mul]

theorem nat_or_step (a x k : Nat) (ha : a < 256 ^ k) : a ||| (x * 2 ^ (8 * k)) = a + x * 256 ^ k := by
  rw [Nat.or_comm, nat_join (8 * k) _ _ (by simp) (by rw [← pow256]; exact ha), pow256, Nat.add_comm]

theorem int_pow (k : Nat) : ((2 : Int) ^ (8 * k)) = ((2 ^ (8 * k) : Nat) : Int) := by simp
theorem int_pow256 (k : Nat) : ((256 : Int) ^ k) = ((256 ^ k : Nat) : Int) := by simp

theorem small_shift (x k n : Nat) (hx : x < 256) (hk : k < n) : x * 2 ^ (8 * k) < 256 ^ n := by
  have h1 : 256 ^ (k + 1) ≤ 256 ^ n := Nat.pow_le_pow_right (by omega) hk
  rw [Nat.pow_succ, pow256] at h1
  have h2 : x * 2 ^ (8 * k) < 256 * 2 ^ (8 * k) := Nat.mul_lt_mul_of_pos_right hx (Nat.two_pow_pos _)
  omega

theorem or_step32 (a x : Int) (k : Nat) (hk : k < 4) (ha : 0 ≤ a ∧ a < 256 ^ k) (hx : 0 ≤ x ∧ x < 256) :
    bits .or .u32 a (x % 4294967296 * 2 ^ (8 * k) % 4294967296) = a + x * 256 ^ k := by
  obtain ⟨a, rfl⟩ := Int.eq_ofNat_of_zero_le ha.1
  obtain ⟨x, rfl⟩ := Int.eq_ofNat_of_zero_le hx.1
  have h1 := small_shift x k 4 (by omega) hk
  have e1 : ((x : Int) % 4294967296 * 2 ^ (8 * k) % 4294967296) = ((x * 2 ^ (8 * k) : Nat) : Int) := by
    have h : (256 : Nat) ^ 4 = 4294967296 := by decide
    rw [h] at h1
    rw [int_pow, Int.emod_eq_of_lt (a := (x : Int)) (by omega) (by omega), ← Int.natCast_mul, Int.emod_eq_of_lt (by omega) (by omega)]
  have ha2 : a < 256 ^ k := by have := ha.2; rw [int_pow256] at this; omega
  have ha3 : a < 4294967296 := by
    have h : (256 : Nat) ^ k ≤ 256 ^ 4 := Nat.pow_le_pow_right (by omega) (by omega)
    have h' : (256 : Nat) ^ 4 = 4294967296 := by decide
    omega
  rw [e1, u32_or_nat a _ ha3 (by have h' : (256 : Nat) ^ 4 = 4294967296 := by decide
                                 omega), nat_or_step a x k ha2, int_pow256]
  simp

theorem or_step16 (a x : Int) (k : Nat) (hk : k < 2) (ha : 0 ≤ a ∧ a < 256 ^ k) (hx : 0 ≤ x ∧ x < 256) :
    bits .or .u16 a (x % 65536 * 2 ^ (8 * k) % 65536) = a + x * 256 ^ k := by
  obtain ⟨a, rfl⟩ := Int.eq_ofNat_of_zero_le ha.1
  obtain ⟨x, rfl⟩ := Int.eq_ofNat_of_zero_le hx.1
  have h1 := small_shift x k 2 (by omega) hk
  have h : (256 : Nat) ^ 2 = 65536 := by decide
  have e1 : ((x : Int) % 65536 * 2 ^ (8 * k) % 65536) = ((x * 2 ^ (8 * k) : Nat) : Int) := by
    rw [h] at h1
    rw [int_pow, Int.emod_eq_of_lt (a := (x : Int)) (by omega) (by omega), ← Int.natCast_mul, Int.emod_eq_of_lt (by omega) (by omega)]
  have ha2 : a < 256 ^ k := by have := ha.2; rw [int_pow256] at this; omega
  have ha3 : a < 65536 := by
    have h : (256 : Nat) ^ k ≤ 256 ^ 2 := Nat.pow_le_pow_right (by omega) (by omega)
    omega
  rw [e1, u16_or_nat a _ ha3 (by omega), nat_or_step a x k ha2, int_pow256]
  simp

theorem or_step64 (a x : Int) (k : Nat) (hk : k < 8) (ha : 0 ≤ a ∧ a < 256 ^ k) (hx : 0 ≤ x ∧ x < 256) :
    bits .or .u64 a (x % 18446744073709551616 * 2 ^ (8 * k) % 18446744073709551616) = a + x * 256 ^ k := by
  obtain ⟨a, rfl⟩ := Int.eq_ofNat_of_zero_le ha.1
  obtain ⟨x, rfl⟩ := Int.eq_ofNat_of_zero_le hx.1
  have h1 := small_shift x k 8 (by omega) hk
  have h : (256 : Nat) ^ 8 = 18446744073709551616 := by decide
  have e1 : ((x : Int) % 18446744073709551616 * 2 ^ (8 * k) % 18446744073709551616) = ((x * 2 ^ (8 * k) : Nat) : Int) := by
    rw [h] at h1
    rw [int_pow, Int.emod_eq_of_lt (a := (x : Int)) (by omega) (by omega), ← Int.natCast_mul, Int.emod_eq_of_lt (by omega) (by omega)]
  have ha2 : a < 256 ^ k := by have := ha.2; rw [int_pow256] at this; omega
  have ha3 : a < 18446744073709551616 := by
    have h : (256 : Nat) ^ k ≤ 256 ^ 8 := Nat.pow_le_pow_right (by omega) (by omega)
    omega
  rw [e1, u64_or_nat a _ ha3 (by omega), nat_or_step a x k ha2, int_pow256]
  simp
end Go.Proofs.YtjmajjfknmjifaaDoor.Oct
