/- What the document's Put lays: lists alone. -/
import Derived.Test.YtjmajjfknmjifaaDoorPEza
namespace Go.Proofs.YtjmajjfknmjifaaDoor.Oct
open Go.RowKit

/-- Where a super's numbers stand, how many bytes each has. -/
def fpos : Nat → Nat
  | 0 => 0 | 1 => 4 | 2 => 12 | 3 => 16 | 4 => 20 | 5 => 24 | 6 => 32 | 7 => 36 | 8 => 40 | 9 => 76 | 10 => 84 | 11 => 96 | 12 => 100 | 13 => 56 | 14 => 88 | _ => 0
def fwid : Nat → Nat
  | 13 => 2 | 14 => 2 | _ => 4
def fval (s : Sp) : Nat → Int
  | 0 => s.ino | 1 => s.blo | 2 => s.fbl | 3 => s.fin | 4 => 1 | 5 => 0 | 6 => s.per | 7 => s.per | 8 => s.each | 9 => 1 | 10 => s.first | 11 => if s.ty = true then 2 else 0 | 12 => 0 | 13 => 61267 | 14 => 128 | _ => 0

/-- Numbers laid in some order. -/
def puts (s : Sp) (K : List Nat) (l : List Int) : List Int := K.foldl (fun l k => putN l (fpos k) (fval s k) (fwid k)) l

theorem f_apart : ∀ i : Nat, i < 15 → ∀ j : Nat, j < 15 → i ≠ j → fpos i + fwid i ≤ fpos j ∨ fpos j + fwid j ≤ fpos i := by decide
theorem f_in : ∀ i : Nat, i < 15 → fpos i + fwid i ≤ 1024 := by decide

theorem putN_commE (l : List Int) (p q : Nat) (a b : Int) (n m : Nat) (h : p + n ≤ q ∨ q + m ≤ p) (hp : p + n ≤ l.length) (hq : q + m ≤ l.length) : putN (putN l p a n) q b m = putN (putN l q b m) p a n :=
  list_eqE _ _ (by simp only [putN_length]) fun i => by
    rw [getD_putN _ _ _ _ _ (by rw [putN_length]; exact hq), getD_putN _ _ _ _ _ hp, getD_putN _ _ _ _ _ (by rw [putN_length]; exact hp), getD_putN _ _ _ _ _ hq]
    by_cases h1 : q ≤ i ∧ i < q + m
    · rw [if_pos h1, if_neg (by omega), if_pos h1]
    · rw [if_neg h1, if_neg h1]

theorem puts_len (s : Sp) : ∀ (K : List Nat) (l : List Int), (puts s K l).length = l.length
  | [], _ => rfl
  | k :: K, l => by
    have h := puts_len s K (putN l (fpos k) (fval s k) (fwid k))
    rw [putN_length] at h
    exact h

theorem puts_perm (s : Sp) {K K' : List Nat} (h : K.Perm K') : K.Nodup → (∀ k ∈ K, k < 15) → ∀ l : List Int, 1024 ≤ l.length → puts s K l = puts s K' l := by
  induction h with
  | nil => intro _ _ _ _; rfl
  | cons x _ ih =>
    intro hn ha l hl
    exact ih (List.nodup_cons.1 hn).2 (fun k hk => ha k (List.mem_cons_of_mem _ hk)) _ (by rw [putN_length]; exact hl)
  | swap x y K =>
    intro hn ha l hl
    have hx := ha x (by simp)
    have hy := ha y (by simp)
    have hne : y ≠ x := fun e => by rw [e] at hn; simp at hn
    show puts s K (putN (putN l (fpos y) (fval s y) (fwid y)) (fpos x) (fval s x) (fwid x)) = puts s K (putN (putN l (fpos x) (fval s x) (fwid x)) (fpos y) (fval s y) (fwid y))
    rw [putN_commE _ _ _ _ _ _ _ (f_apart y hy x hx hne) (by have := f_in y hy; omega) (by have := f_in x hx; omega)]
  | trans h1 _ ih1 ih2 =>
    intro hn ha l hl
    rw [ih1 hn ha l hl]
    exact ih2 (h1.nodup_iff.1 hn) (fun k hk => ha k (h1.mem_iff.2 hk)) l hl

theorem puts_num (s : Sp) (K : List Nat) (k : Nat) (hk : k ∈ K) (hn : K.Nodup) (ha : ∀ k ∈ K, k < 15) (l : List Int) (hl : 1024 ≤ l.length) : num (puts s K l) (fpos k) (fwid k) = fval s k % 256 ^ fwid k := by
  have hp : K.Perm (K.erase k ++ [k]) := (List.perm_cons_erase hk).trans (List.perm_append_singleton k (K.erase k)).symm
  rw [puts_perm s hp hn ha l hl]
  unfold puts
  rw [List.foldl_append]
  have hlen := puts_len s (K.erase k) l
  unfold puts at hlen
  exact num_put_same _ _ _ _ (by rw [hlen]; have := f_in k (ha k hk); omega)

/-- The order of the program, that of the document. -/
def ordP : List Nat := [4, 5, 9, 12, 0, 1, 2, 3, 6, 7, 8, 13, 10, 14, 11]
def ordD : List Nat := [0, 1, 2, 3, 4, 5, 6, 7, 8, 9, 10, 11, 12, 13, 14]

theorem spB_puts (s : Sp) (l : List Int) : spB s l 0 = puts s ordP l := by
  unfold spB puts ordP
  simp only [spP, f4P, List.foldl_cons, List.foldl_nil, fpos, fwid, fval, Nat.zero_add]

theorem spB_doc (s : Sp) (l : List Int) (hl : 1024 ≤ l.length) : puts s ordD l = spB s l 0 := by
  rw [spB_puts]
  exact puts_perm s (by decide) (by decide) (by decide) l hl

theorem spB_num (s : Sp) (l : List Int) (hl : 1024 ≤ l.length) (k : Nat) (hk : k < 15) : num (spB s l 0) (fpos k) (fwid k) = fval s k % 256 ^ fwid k := by
  rw [← spB_doc s l hl]
  exact puts_num s ordD k (by
    have : ∀ k, k < 15 → k ∈ ordD := by decide
    exact this k hk) (by decide) (by decide) l hl

/-- What is put is parsed. -/
theorem par_spB (s : Sp) (l : List Int) (hl : l.length = 1024) (hk : s.chk = 0) : parE (spB s l 0) = (s, 0) := by
  obtain ⟨h0, h1, h2, h3, h4, h5, h6⟩ := Sp.nums hk
  have p4 : (256 : Int) ^ 4 = 4294967296 := by decide
  have p2 : (256 : Int) ^ 2 = 65536 := by decide
  have e := fun k hk => spB_num s l (by omega) k hk
  have e0 : num (spB s l 0) 0 4 = s.ino := by rw [show num (spB s l 0) 0 4 = s.ino % 256 ^ 4 from e 0 (by omega), p4]; omega
  have e1 : num (spB s l 0) 4 4 = s.blo := by rw [show num (spB s l 0) 4 4 = s.blo % 256 ^ 4 from e 1 (by omega), p4]; omega
  have e2 : num (spB s l 0) 12 4 = s.fbl := by rw [show num (spB s l 0) 12 4 = s.fbl % 256 ^ 4 from e 2 (by omega), p4]; omega
  have e3 : num (spB s l 0) 16 4 = s.fin := by rw [show num (spB s l 0) 16 4 = s.fin % 256 ^ 4 from e 3 (by omega), p4]; omega
  have e4 : num (spB s l 0) 20 4 = 1 := by rw [show num (spB s l 0) 20 4 = 1 % 256 ^ 4 from e 4 (by omega)]; decide
  have e5 : num (spB s l 0) 24 4 = 0 := by rw [show num (spB s l 0) 24 4 = 0 % 256 ^ 4 from e 5 (by omega)]; decide
  have e6 : num (spB s l 0) 32 4 = s.per := by rw [show num (spB s l 0) 32 4 = s.per % 256 ^ 4 from e 6 (by omega), p4]; omega
  have e8 : num (spB s l 0) 40 4 = s.each := by rw [show num (spB s l 0) 40 4 = s.each % 256 ^ 4 from e 8 (by omega), p4]; omega
  have e9 : num (spB s l 0) 76 4 = 1 := by rw [show num (spB s l 0) 76 4 = 1 % 256 ^ 4 from e 9 (by omega)]; decide
  have e10 : num (spB s l 0) 84 4 = s.first := by rw [show num (spB s l 0) 84 4 = s.first % 256 ^ 4 from e 10 (by omega), p4]; omega
  have e11 : num (spB s l 0) 96 4 = if s.ty = true then 2 else 0 := by
    rw [show num (spB s l 0) 96 4 = (if s.ty = true then 2 else 0) % 256 ^ 4 from e 11 (by omega), p4]
    split <;> decide
  have e12 : num (spB s l 0) 100 4 = 0 := by rw [show num (spB s l 0) 100 4 = 0 % 256 ^ 4 from e 12 (by omega)]; decide
  have e13 : num (spB s l 0) 56 2 = 61267 := by rw [show num (spB s l 0) 56 2 = 61267 % 256 ^ 2 from e 13 (by omega)]; decide
  have e14 : num (spB s l 0) 88 2 = 128 := by rw [show num (spB s l 0) 88 2 = 128 % 256 ^ 2 from e 14 (by omega)]; decide
  have hs : spOf (spB s l 0) = s := by
    unfold spOf
    rw [e0, e1, e2, e3, e6, e8, e10, e11]
    obtain ⟨x0, x1, x2, x3, x4, x5, x6, ty⟩ := s
    cases ty <;> rfl
  have hlen : (spB s l 0).length = 1024 := by rw [spB_len]; exact hl
  unfold parE
  rw [hs, e4, e5, e9, e11, e12, e13, e14, hlen, hk]
  cases s.ty <;> simp
end Go.Proofs.YtjmajjfknmjifaaDoor.Oct
