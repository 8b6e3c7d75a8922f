/- Bits in bytes, as lists: asked, set, counted. No program in it. -/
import Derived.Test.YtjmajjfknmjifaaDoorPNumMem
namespace Go.Proofs.YtjmajjfknmjifaaDoor.Oct
open Go.RowKit

/-- Is a bit set? -/
def hasB (B : List Int) (i : Int) : Bool := decide (0 ≤ i) && decide (i < 8 * (B.length : Int)) && (B.getD (i / 8).toNat 0 / 2 ^ (i % 8).toNat % 2 == 1)

/-- A byte with a bit set, or not. -/
def putBit (x : Int) (k : Nat) (on : Bool) : Int := x - x / 2 ^ k % 2 * 2 ^ k + (if on = true then 2 ^ k else 0)

/-- Bits with one set, or not. -/
def setB (B : List Int) (i : Int) (on : Bool) : List Int := if 0 ≤ i ∧ i < 8 * (B.length : Int) then B.set (i / 8).toNat (putBit (B.getD (i / 8).toNat 0) (i % 8).toNat on) else B

theorem setB_len (B : List Int) (i : Int) (on : Bool) : (setB B i on).length = B.length := by
  unfold setB
  split
  · simp
  · rfl

theorem hasB_off {B : List Int} {i : Int} (h : ¬ (0 ≤ i ∧ i < 8 * (B.length : Int))) : hasB B i = false := by
  unfold hasB
  by_cases h0 : 0 ≤ i
  · have : ¬ i < 8 * (B.length : Int) := fun h1 => h ⟨h0, h1⟩
    simp [this]
  · simp [h0]

theorem hasB_in {B : List Int} {i : Int} (h : 0 ≤ i ∧ i < 8 * (B.length : Int)) : hasB B i = (B.getD (i / 8).toNat 0 / 2 ^ (i % 8).toNat % 2 == 1) := by
  unfold hasB
  simp [h.1, h.2]

/-- A byte's bits behind one that is put. -/
theorem putBit_all : ∀ x : Nat, x < 256 → ∀ k : Nat, k < 8 → ∀ on : Bool, (0 ≤ putBit (x : Int) k on ∧ putBit (x : Int) k on < 256) ∧ ∀ j : Nat, j < 8 → (putBit (x : Int) k on / 2 ^ j % 2 == 1) = if j = k then on else ((x : Int) / 2 ^ j % 2 == 1) := by decide +kernel

theorem putBit_byt {x : Int} (h : 0 ≤ x ∧ x < 256) {k : Nat} (hk : k < 8) (on : Bool) : 0 ≤ putBit x k on ∧ putBit x k on < 256 := by
  obtain ⟨n, rfl⟩ : ∃ n : Nat, x = (n : Int) := ⟨x.toNat, by omega⟩
  exact (putBit_all n (by omega) k hk on).1

theorem putBit_get {x : Int} (h : 0 ≤ x ∧ x < 256) {k : Nat} (hk : k < 8) (on : Bool) {j : Nat} (hj : j < 8) : (putBit x k on / 2 ^ j % 2 == 1) = if j = k then on else (x / 2 ^ j % 2 == 1) := by
  obtain ⟨n, rfl⟩ : ∃ n : Nat, x = (n : Int) := ⟨x.toNat, by omega⟩
  exact (putBit_all n (by omega) k hk on).2 j hj

theorem setB_byts {B : List Int} (h : Byts B) (i : Int) (on : Bool) : Byts (setB B i on) := by
  unfold setB
  split
  · rename_i hi
    intro j
    by_cases hj : j = (i / 8).toNat
    · subst hj
      have hl : (i / 8).toNat < B.length := by omega
      simp only [List.getD_eq_getElem?_getD, List.getElem?_set_self hl, Option.getD_some]
      have hx := h (i / 8).toNat
      rw [List.getD_eq_getElem?_getD] at hx
      exact putBit_byt hx (by omega) on
    · have := h j
      simp only [List.getD_eq_getElem?_getD] at this ⊢
      rw [List.getElem?_set_ne (fun e => hj e.symm)]
      exact this
  · exact h

/-- All bits behind one that is set. -/
theorem hasB_set {B : List Int} (h : Byts B) (i : Int) (on : Bool) (j : Int) (hi : 0 ≤ i ∧ i < 8 * (B.length : Int)) : hasB (setB B i on) j = if j = i then on else hasB B j := by
  have hl : (i / 8).toNat < B.length := by omega
  by_cases hj : 0 ≤ j ∧ j < 8 * (B.length : Int)
  · rw [hasB_in (by rw [setB_len]; exact hj), hasB_in hj]
    have hx := h (i / 8).toNat
    unfold setB
    rw [if_pos hi]
    by_cases hb : (j / 8).toNat = (i / 8).toNat
    · rw [hb]
      have e : (B.set (i / 8).toNat (putBit (B.getD (i / 8).toNat 0) (i % 8).toNat on)).getD (i / 8).toNat 0 = putBit (B.getD (i / 8).toNat 0) (i % 8).toNat on := by
        rw [List.getD_eq_getElem?_getD, List.getElem?_set_self hl, Option.getD_some]
      rw [e, putBit_get hx (by omega) on (by omega)]
      by_cases hm : (j % 8).toNat = (i % 8).toNat
      · rw [if_pos hm, if_pos (by omega)]
      · rw [if_neg hm, if_neg (by intro e; exact hm (by rw [e]))]
    · have e : (B.set (i / 8).toNat (putBit (B.getD (i / 8).toNat 0) (i % 8).toNat on)).getD (j / 8).toNat 0 = B.getD (j / 8).toNat 0 := by
        rw [List.getD_eq_getElem?_getD, List.getElem?_set_ne (fun e => hb e.symm), ← List.getD_eq_getElem?_getD]
      rw [e, if_neg (by intro e; exact hb (by rw [e]))]
  · rw [hasB_off (by rw [setB_len]; exact hj), hasB_off hj, if_neg (by intro e; exact hj (by rw [e]; exact hi))]

/-- What the machine makes of it. -/
theorem or_bit : ∀ x : Nat, x < 256 → ∀ k : Nat, k < 8 → bits .or .u8 (x : Int) (2 ^ k) = putBit (x : Int) k true := by decide +kernel
theorem andNot_bit : ∀ x : Nat, x < 256 → ∀ k : Nat, k < 8 → bits .andNot .u8 (x : Int) (2 ^ k) = putBit (x : Int) k false := by decide +kernel
theorem and_one : ∀ x : Nat, x < 256 → bits .and .u8 (x : Int) 1 = (x : Int) % 2 := by decide +kernel

/-- How many of the first so many bits aren't set. -/
def freeB (B : List Int) : Nat → Int
  | 0 => 0
  | n + 1 => freeB B n + if hasB B (n : Int) = true then 0 else 1

theorem freeB_in (B : List Int) : ∀ n : Nat, 0 ≤ freeB B n ∧ freeB B n ≤ n
  | 0 => by simp [freeB]
  | n + 1 => by
    have := freeB_in B n
    rw [freeB]
    split <;> omega
end Go.Proofs.YtjmajjfknmjifaaDoor.Oct
