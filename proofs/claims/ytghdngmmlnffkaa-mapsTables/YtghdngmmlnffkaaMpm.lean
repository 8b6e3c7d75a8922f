/- Entries of tables and their numbers. No program in it. -/
import Derived.Test.YtghdngmmlnffkaaNum
namespace Go.Proofs.Ytghdngmmlnffkaa.Oct
open Go.RowKit

/-- May it be an entry? -/
def okE (k c : Int) (o : Bool) : Bool := decide (k = 2 ∧ 1 ≤ c ∧ c < 8192 ∨ (k = 0 ∨ k = 1) ∧ c = 0 ∧ o = false)

/-- An entry's number; 0 where it is none. -/
def encN (k c : Int) (o : Bool) : Int := if okE k c o then (if k = 2 then c * 256 + (if o then 9223372036854775808 else 0) else k) else 0

/-- No error, or that the form is wrong. -/
def noE (b : Bool) : Int := if b then 0 else 11

/-- The entry that a number would be. -/
def preK (v : Int) : Int := if v < 2 then v else 2
def preC (v : Int) : Int := if v < 2 then 0 else v % 9223372036854775808 / 256
def preO (v : Int) : Bool := if v < 2 then false else decide (9223372036854775808 ≤ v)

/-- Is a number an entry's? -/
def okV (v : Int) : Bool := decide (v < 2 ∨ v % 9223372036854775808 % 256 = 0 ∧ 1 ≤ v % 9223372036854775808 / 256 ∧ v % 9223372036854775808 / 256 < 8192)

def decK (v : Int) : Int := if okV v then preK v else 0
def decC (v : Int) : Int := if okV v then preC v else 0
def decO (v : Int) : Bool := if okV v then preO v else false

theorem encN_bd (k c : Int) (o : Bool) : 0 ≤ encN k c o ∧ encN k c o < 18446744073709551616 := by
  unfold encN okE
  split
  · rename_i h
    simp only [decide_eq_true_eq] at h
    split
    · split <;> omega
    · omega
  · omega

/-- What the way back tells. -/
theorem okV_iff (v : Int) (h0 : 0 ≤ v) (h1 : v < 18446744073709551616) : okV v = (okE (preK v) (preC v) (preO v) && decide (encN (preK v) (preC v) (preO v) = v)) := by
  by_cases h2 : v < 2
  · have k1 : preK v = v := if_pos h2
    have k2 : preC v = 0 := if_pos h2
    have k3 : preO v = false := if_pos h2
    have k4 : okE v 0 false = true := decide_eq_true (Or.inr ⟨by omega, rfl, rfl⟩)
    have k5 : okV v = true := decide_eq_true (Or.inl h2)
    have k6 : encN v 0 false = v := by unfold encN; rw [if_pos k4, if_neg (by omega)]
    rw [k1, k2, k3, k4, k5, k6]; simp
  · have k1 : preK v = 2 := if_neg h2
    have k2 : preC v = v % 9223372036854775808 / 256 := if_neg h2
    have k3 : preO v = decide (9223372036854775808 ≤ v) := if_neg h2
    rw [k1, k2, k3]
    by_cases h3 : 1 ≤ v % 9223372036854775808 / 256 ∧ v % 9223372036854775808 / 256 < 8192
    · have k4 : okE 2 (v % 9223372036854775808 / 256) (decide (9223372036854775808 ≤ v)) = true := decide_eq_true (Or.inl ⟨rfl, h3⟩)
      have k6 : encN 2 (v % 9223372036854775808 / 256) (decide (9223372036854775808 ≤ v)) = v % 9223372036854775808 / 256 * 256 + (if 9223372036854775808 ≤ v then 9223372036854775808 else 0) := by
        unfold encN; rw [if_pos k4, if_pos rfl]; simp
      rw [k4, k6, Bool.true_and]
      unfold okV
      congr 1
      refine propext ⟨fun h => ?_, fun h => ?_⟩
      · split <;> omega
      · split at h <;> omega
    · have k4 : okE 2 (v % 9223372036854775808 / 256) (decide (9223372036854775808 ≤ v)) = false := decide_eq_false (by
        rintro (h | h)
        · exact h3 h.2
        · omega)
      rw [k4, Bool.false_and]
      exact decide_eq_false (by omega)

theorem enc_dec (v : Int) (h0 : 0 ≤ v) (h1 : v < 18446744073709551616) (h : okV v = true) : okE (decK v) (decC v) (decO v) = true ∧ encN (decK v) (decC v) (decO v) = v := by
  unfold decK decC decO
  simp only [h, if_true]
  rw [okV_iff v h0 h1] at h
  simpa using h

theorem dec_enc (k c : Int) (o : Bool) (h : okE k c o = true) : okV (encN k c o) = true ∧ decK (encN k c o) = k ∧ decC (encN k c o) = c ∧ decO (encN k c o) = o := by
  have hv : okV (encN k c o) = true ∧ preK (encN k c o) = k ∧ preC (encN k c o) = c ∧ preO (encN k c o) = o := by
    unfold encN
    simp only [h, if_true]
    unfold okE at h
    simp only [decide_eq_true_eq] at h
    rcases h with ⟨rfl, h1, h2⟩ | ⟨h1, rfl, rfl⟩
    · cases o
      · simp only [if_true, Bool.false_eq_true, if_false]
        unfold okV preK preC preO
        simp only [decide_eq_true_eq]
        rw [if_neg (by omega), if_neg (by omega), if_neg (by omega)]
        refine ⟨by omega, rfl, by omega, ?_⟩
        simp; omega
      · simp only [if_true]
        unfold okV preK preC preO
        simp only [decide_eq_true_eq]
        rw [if_neg (by omega), if_neg (by omega), if_neg (by omega)]
        refine ⟨by omega, rfl, by omega, ?_⟩
        simp; omega
    · have : ¬ k = 2 := by omega
      simp only [this, if_false]
      unfold okV preK preC preO
      simp only [decide_eq_true_eq]
      rw [if_pos (by omega), if_pos (by omega), if_pos (by omega)]
      exact ⟨by omega, rfl, rfl, rfl⟩
  unfold decK decC decO
  simp only [hv.1, if_true, true_and]
  exact hv.2

/-- The highest bit. -/
theorem and_high (v : Int) (h0 : 0 ≤ v) (h1 : v < 18446744073709551616) : bits .and .u64 v 9223372036854775808 = if 9223372036854775808 ≤ v then 9223372036854775808 else 0 := by
  obtain ⟨n, rfl⟩ := Int.eq_ofNat_of_zero_le h0
  have hn : n < 18446744073709551616 := by omega
  have e : (9223372036854775808 : Int) = ((9223372036854775808 : Nat) : Int) := rfl
  rw [e, u64_and_nat n 9223372036854775808 hn (by decide)]
  by_cases h : (9223372036854775808 : Nat) ≤ n
  · rw [if_pos (by omega)]
    have e3 : n = 9223372036854775808 ||| (n - 9223372036854775808) := by rw [nat_join 63 _ _ (by decide) (by omega)]; omega
    rw [e3, Nat.and_comm]
    congr 1
    apply Nat.eq_of_testBit_eq
    intro i
    rw [Nat.testBit_and, Nat.testBit_or]
    cases Nat.testBit 9223372036854775808 i <;> simp
  · rw [if_neg (by omega)]
    have : n &&& 9223372036854775808 = 0 := by
      apply Nat.eq_of_testBit_eq
      intro i
      have e2 : (9223372036854775808 : Nat) = 2 ^ 63 := by decide
      rw [Nat.testBit_and, e2, Nat.testBit_two_pow, Nat.zero_testBit]
      by_cases hi : 63 = i
      · subst hi
        rw [Nat.testBit_lt_two_pow (by omega)]; rfl
      · simp [hi]
    rw [this]; rfl

/-- All but the highest bit. -/
theorem andNot_high (v : Int) (h0 : 0 ≤ v) (h1 : v < 18446744073709551616) : bits .andNot .u64 v 9223372036854775808 = v % 9223372036854775808 := by
  obtain ⟨n, rfl⟩ := Int.eq_ofNat_of_zero_le h0
  have hn : n < 18446744073709551616 := by omega
  have e : (9223372036854775808 : Int) = ((9223372036854775808 : Nat) : Int) := rfl
  rw [e, u64_andNot_nat n 9223372036854775808 hn (by decide)]
  have e2 : (18446744073709551615 - 9223372036854775808 : Nat) = 2 ^ 63 - 1 := by decide
  rw [e2, Nat.and_two_pow_sub_one_eq_mod]
  rfl

/-- The highest bit is set. -/
theorem or_high (v : Int) (h0 : 0 ≤ v) (h1 : v < 9223372036854775808) : bits .or .u64 v 9223372036854775808 = v + 9223372036854775808 := by
  obtain ⟨n, rfl⟩ := Int.eq_ofNat_of_zero_le h0
  have hn : n < 9223372036854775808 := by omega
  have e : (9223372036854775808 : Int) = ((9223372036854775808 : Nat) : Int) := rfl
  rw [e, u64_or_nat n 9223372036854775808 (by omega) (by decide), Nat.or_comm, nat_join 63 _ n (by decide) hn]
  omega
end Go.Proofs.Ytghdngmmlnffkaa.Oct
