/- Headers: the numbers that the chapter says. No program in it. -/
import Derived.Test.YtiokjlckngkhnaaGreatPNumMem
namespace Go.Proofs.YtiokjlckngkhnaaGreat.Oct

/-- A header's fields. -/
structure Hd where
  bits : Int
  size : Int
  host : Int
  journal : Int
  backed : Bool

/-- A number of eight bytes with a sign. -/
def I64 (x : Int) : Prop := -9223372036854775808 ≤ x ∧ x ≤ 9223372036854775807

structure Hd.Ok (h : Hd) : Prop where
  b : I64 h.bits
  s : I64 h.size
  o : I64 h.host
  j : I64 h.journal

/-- A cluster's bytes. -/
def clN (bits : Int) : Int := if bits = 10 then 1024 else if bits = 11 then 2048 else if bits = 12 then 4096 else 512

theorem clN_cases (b : Int) : clN b = 512 ∨ clN b = 1024 ∨ clN b = 2048 ∨ clN b = 4096 := by
  unfold clN
  split
  · omega
  split
  · omega
  split <;> omega

/-- A number, cut. -/
def cutN (n most : Int) : Int := if n < 0 then 0 else if most < n then most else n

theorem cutN_bd {n most : Int} (h : 0 ≤ most) : 0 ≤ cutN n most ∧ cutN n most ≤ most := by
  unfold cutN
  split
  · omega
  split <;> omega

/-- How many hold so many bytes. -/
def upN (b c : Int) : Int := (b + c - 1) / c

theorem upN_zero_or {b c : Int} (hc : 0 < c) : upN b c = if b % c = 0 then b / c else b / c + 1 := by
  unfold upN
  have h1 := Int.emod_add_mul_ediv b c
  have h2 := Int.emod_nonneg b (show c ≠ 0 by omega)
  have h3 := Int.emod_lt_of_pos b hc
  generalize b / c = q at *
  generalize b % c = r at *
  have e : b + c - 1 = (r + c - 1) + c * q := by omega
  rw [e, Int.add_mul_ediv_left _ _ (by omega)]
  split
  · rename_i h; subst h
    rw [Int.zero_add, Int.ediv_eq_zero_of_lt (by omega) (by omega)]; omega
  · have : (r + c - 1) / c = 1 := by
      have e2 : r + c - 1 = (r - 1) + c * 1 := by omega
      rw [e2, Int.add_mul_ediv_left _ _ (by omega), Int.ediv_eq_zero_of_lt (by omega) (by omega)]
      omega
    omega

theorem upN_bd {b c : Int} (hb : 0 ≤ b) (hc : 0 < c) : 0 ≤ upN b c ∧ upN b c ≤ b := by
  have h1 : 0 ≤ b / c := Int.ediv_nonneg hb (by omega)
  have h2 : b / c ≤ b := Int.ediv_le_self _ hb
  refine ⟨?_, ?_⟩
  · rw [upN_zero_or hc]; split <;> omega
  · by_cases h0 : b = 0
    · subst h0; unfold upN; rw [Int.zero_add, Int.ediv_eq_zero_of_lt (by omega) (by omega)]; omega
    · unfold upN
      have : b + c - 1 ≤ b * c := by
        have : (b - 1) * (c - 1) ≥ 0 := Int.mul_nonneg (by omega) (by omega)
        rw [Int.sub_mul, Int.mul_sub, Int.one_mul, Int.mul_one] at this
        omega
      exact Int.ediv_le_of_le_mul hc this

def Hd.cl (h : Hd) : Int := clN h.bits
def Hd.guest (h : Hd) : Int := upN (cutN h.size 16777216) h.cl
def Hd.refs (h : Hd) : Int := upN (2 * cutN h.host 8192) h.cl
def Hd.jour (h : Hd) : Int := cutN h.journal 8192
def Hd.at_ (h : Hd) : Nat → Int
  | 0 => 0
  | 1 => 1
  | 2 => 1 + h.jour
  | 3 => 1 + h.jour + h.refs
  | 4 => 1 + h.jour + h.refs + 1
  | _ => 1 + h.jour + h.refs + 1 + 1
def Hd.least (h : Hd) : Int := upN (4608 + (h.refs + 18) * h.cl) h.cl

theorem Hd.cl_cases (h : Hd) : h.cl = 512 ∨ h.cl = 1024 ∨ h.cl = 2048 ∨ h.cl = 4096 := clN_cases _
theorem Hd.cl_bd (h : Hd) : 512 ≤ h.cl ∧ h.cl ≤ 4096 := by have := h.cl_cases; omega
theorem Hd.guest_bd (h : Hd) : 0 ≤ h.guest ∧ h.guest ≤ 16777216 := by
  have h1 := cutN_bd (n := h.size) (most := 16777216) (by omega)
  have h2 := upN_bd h1.1 (show 0 < h.cl by have := h.cl_bd; omega)
  unfold Hd.guest; omega
theorem Hd.refs_bd (h : Hd) : 0 ≤ h.refs ∧ h.refs ≤ 16384 := by
  have h1 := cutN_bd (n := h.host) (most := 8192) (by omega)
  have h2 := upN_bd (b := 2 * cutN h.host 8192) (by omega) (show 0 < h.cl by have := h.cl_bd; omega)
  unfold Hd.refs; omega
theorem Hd.jour_bd (h : Hd) : 0 ≤ h.jour ∧ h.jour ≤ 8192 := cutN_bd (by omega)
theorem Hd.rc_bd (h : Hd) : 0 ≤ (h.refs + 18) * h.cl ∧ (h.refs + 18) * h.cl ≤ 16402 * 4096 := by
  have h1 := h.refs_bd
  have h2 := h.cl_bd
  exact ⟨Int.mul_nonneg (by omega) (by omega), Int.mul_le_mul (by omega) h2.2 (by omega) (by omega)⟩

/-- What Check answers. -/
def Hd.check (h : Hd) : Int :=
  if h.bits < 9 ∨ 12 < h.bits ∨ h.size < 512 ∨ 16777216 < h.size ∨ h.size % 512 ≠ 0 then 11
  else if h.cl / 8 * (h.cl / 8) < h.guest ∨ h.host < 1 ∨ 8192 < h.host ∨ 4194304 / h.cl < h.host then 20
  else if h.journal < h.least ∨ 8192 < h.journal ∨ h.host < h.at_ 5 then 11
  else 0
end Go.Proofs.YtiokjlckngkhnaaGreat.Oct
