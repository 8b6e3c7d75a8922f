/- Numbers put into bytes, and parts of bytes: lists alone. -/
import Derived.Test.YtjmajjfknmjifaaDoorPEyl
import Derived.Test.YtjmajjfknmjifaaDoorPLowLst
namespace Go.Proofs.YtjmajjfknmjifaaDoor.Oct
open Go.RowKit

theorem list_eqE (l m : List Int) (h : l.length = m.length) (he : ∀ i, l.getD i 0 = m.getD i 0) : l = m := by
  refine List.ext_getElem h fun i h1 h2 => ?_
  have := he i
  simpa [List.getD_eq_getElem?_getD, List.getElem?_eq_getElem h1, List.getElem?_eq_getElem h2] using this

theorem bytesOf_getE (v : Int) : ∀ (k i : Nat), i < k → (bytesOf v k).getD i 0 = v / 256 ^ i % 256
  | 0, i, h => by omega
  | k + 1, i, h => by
    show (bytesOf v k ++ [v / 256 ^ k % 256]).getD i 0 = _
    rw [List.getD_eq_getElem?_getD]
    by_cases hk : i < k
    · rw [List.getElem?_append_left (by rw [bytesOf_length]; exact hk), ← List.getD_eq_getElem?_getD, bytesOf_getE v k i hk]
    · obtain rfl : i = k := by omega
      rw [List.getElem?_append_right (by rw [bytesOf_length]; omega), bytesOf_length, Nat.sub_self]
      rfl

theorem over_getE (m : List Int) (o : Nat) (l : List Int) (h : o + l.length ≤ m.length) (i : Nat) : (over m o l).getD i 0 = if o ≤ i ∧ i < o + l.length then l.getD (i - o) 0 else m.getD i 0 := by
  have ht : (m.take o).length = o := by simp; omega
  unfold over
  simp only [List.getD_eq_getElem?_getD]
  split
  · rename_i hi
    rw [List.getElem?_append_right (by omega), List.getElem?_append_left (by omega), ht]
  · rename_i hi
    by_cases h1 : i < o
    · rw [List.getElem?_append_left (by omega), List.getElem?_take_of_lt h1]
    · rw [List.getElem?_append_right (by omega), List.getElem?_append_right (by omega), List.getElem?_drop, ht]
      congr 2
      omega

theorem over_putE (l : List Int) (p : Nat) (v : Int) (k : Nat) (h : p + k ≤ l.length) : over l p (bytesOf v k) = putN l p v k := by
  have hp : ∀ k : Nat, (2 : Int) ^ (8 * k) = 256 ^ k := fun k => by rw [Int.pow_mul]; rfl
  apply list_eqE
  · rw [over_length (by rw [bytesOf_length]; exact h), putN_length]
  · intro i
    rw [over_getE _ _ _ (by rw [bytesOf_length]; exact h), getD_putN _ _ _ _ _ h, bytesOf_length]
    split
    · rw [bytesOf_getE _ _ _ (by omega), hp]
    · rfl

theorem num_partE (l : List Int) (a n p : Nat) (h : a + n ≤ l.length) : ∀ k, p + k ≤ n → num ((l.drop a).take n) p k = num l (a + p) k
  | 0, _ => rfl
  | k + 1, hk => by
    have h1 : p + k < n := by omega
    have e : ((l.drop a).take n).getD (p + k) 0 = l.getD (a + p + k) 0 := by
      rw [List.getD_eq_getElem?_getD, List.getElem?_take, if_pos h1, List.getElem?_drop, List.getD_eq_getElem?_getD]
      congr 2
      omega
    rw [num, num, num_partE l a n p h k (by omega), e]

theorem num_congrE (l m : List Int) (p q : Nat) : ∀ n, (∀ i, i < n → l.getD (p + i) 0 = m.getD (q + i) 0) → num l p n = num m q n
  | 0, _ => rfl
  | n + 1, h => by rw [num, num, num_congrE l m p q n (fun i hi => h i (by omega)), h n (by omega)]

theorem num_put_same (l : List Int) (p : Nat) (v : Int) (k : Nat) (h : p + k ≤ l.length) : num (putN l p v k) p k = v % 256 ^ k :=
  num_of _ _ _ _ fun i hi => by rw [getD_putN _ _ _ _ _ h, if_pos ⟨by omega, by omega⟩, Nat.add_sub_cancel_left]

theorem num_put_other (l : List Int) (p q : Nat) (v : Int) (k n : Nat) (h : p + k ≤ l.length) (hd : q + n ≤ p ∨ p + k ≤ q) : num (putN l p v k) q n = num l q n :=
  num_congrE _ _ _ _ _ fun i hi => by rw [getD_putN _ _ _ _ _ h, if_neg (by omega)]

/-- A row that is written is read. -/
theorem rw_back (r : Rw) (l : List Int) (q : Nat) (hf : r.fits) (hq : q + 32 ≤ l.length) : rwOf (((rwB r l q).drop q).take 32) = r := by
  have hl := fun k hk => rwP_len r l q k hk
  have e := fun (k z : Nat) (hk : k + z ≤ 32) => num_partE (rwB r l q) q 32 k (by rw [rwB_len]; exact hq) z hk
  have p4 : (256 : Int) ^ 4 = 4294967296 := by decide
  have p2 : (256 : Int) ^ 2 = 65536 := by decide
  obtain ⟨h1, h2, h3, h4, h5, h6⟩ := hf
  unfold rwOf
  rw [e 0 4 (by omega), e 4 4 (by omega), e 8 4 (by omega), e 12 2 (by omega), e 14 2 (by omega), e 16 2 (by omega)]
  unfold rwB
  have s6 : ∀ a n, a + n ≤ 16 → num (rwP r l q 6) (q + a) n = num (rwP r l q 5) (q + a) n := fun a n h => by rw [show rwP r l q 6 = putN (rwP r l q 5) (q + 16) r.fo 2 by conv => { lhs; rw [rwP] }]; exact num_put_other _ _ _ _ _ _ (by rw [hl 5 (by omega)]; omega) (by omega)
  have s5 : ∀ a n, a + n ≤ 14 → num (rwP r l q 5) (q + a) n = num (rwP r l q 4) (q + a) n := fun a n h => by rw [show rwP r l q 5 = putN (rwP r l q 4) (q + 14) r.fi 2 by conv => { lhs; rw [rwP] }]; exact num_put_other _ _ _ _ _ _ (by rw [hl 4 (by omega)]; omega) (by omega)
  have s4 : ∀ a n, a + n ≤ 12 → num (rwP r l q 4) (q + a) n = num (rwP r l q 3) (q + a) n := fun a n h => by rw [show rwP r l q 4 = putN (rwP r l q 3) (q + 12) r.fb 2 by conv => { lhs; rw [rwP] }]; exact num_put_other _ _ _ _ _ _ (by rw [hl 3 (by omega)]; omega) (by omega)
  have s3 : ∀ a n, a + n ≤ 8 → num (rwP r l q 3) (q + a) n = num (rwP r l q 2) (q + a) n := fun a n h => by rw [show rwP r l q 3 = putN (rwP r l q 2) (q + 8) r.tab 4 by conv => { lhs; rw [rwP] }]; exact num_put_other _ _ _ _ _ _ (by rw [hl 2 (by omega)]; omega) (by omega)
  have s2 : ∀ a n, a + n ≤ 4 → num (rwP r l q 2) (q + a) n = num (rwP r l q 1) (q + a) n := fun a n h => by rw [show rwP r l q 2 = putN (rwP r l q 1) (q + 4) r.ino 4 by conv => { lhs; rw [rwP] }]; exact num_put_other _ _ _ _ _ _ (by rw [hl 1 (by omega)]; omega) (by omega)
  have t1 : num (rwP r l q 1) (q + 0) 4 = r.blo := by rw [show rwP r l q 1 = putN (rwP r l q 0) (q + 0) r.blo 4 by conv => { lhs; rw [rwP] }, num_put_same _ _ _ _ (by rw [hl 0 (by omega)]; omega), p4]; omega
  have t2 : num (rwP r l q 2) (q + 4) 4 = r.ino := by rw [show rwP r l q 2 = putN (rwP r l q 1) (q + 4) r.ino 4 by conv => { lhs; rw [rwP] }, num_put_same _ _ _ _ (by rw [hl 1 (by omega)]; omega), p4]; omega
  have t3 : num (rwP r l q 3) (q + 8) 4 = r.tab := by rw [show rwP r l q 3 = putN (rwP r l q 2) (q + 8) r.tab 4 by conv => { lhs; rw [rwP] }, num_put_same _ _ _ _ (by rw [hl 2 (by omega)]; omega), p4]; omega
  have t4 : num (rwP r l q 4) (q + 12) 2 = r.fb := by rw [show rwP r l q 4 = putN (rwP r l q 3) (q + 12) r.fb 2 by conv => { lhs; rw [rwP] }, num_put_same _ _ _ _ (by rw [hl 3 (by omega)]; omega), p2]; omega
  have t5 : num (rwP r l q 5) (q + 14) 2 = r.fi := by rw [show rwP r l q 5 = putN (rwP r l q 4) (q + 14) r.fi 2 by conv => { lhs; rw [rwP] }, num_put_same _ _ _ _ (by rw [hl 4 (by omega)]; omega), p2]; omega
  have t6 : num (rwP r l q 6) (q + 16) 2 = r.fo := by rw [show rwP r l q 6 = putN (rwP r l q 5) (q + 16) r.fo 2 by conv => { lhs; rw [rwP] }, num_put_same _ _ _ _ (by rw [hl 5 (by omega)]; omega), p2]; omega
  rw [t6, s6 14 2 (by omega), t5, s6 12 2 (by omega), s5 12 2 (by omega), t4, s6 8 4 (by omega), s5 8 4 (by omega), s4 8 4 (by omega), t3, s6 4 4 (by omega), s5 4 4 (by omega), s4 4 4 (by omega), s3 4 4 (by omega), t2,
    s6 0 4 (by omega), s5 0 4 (by omega), s4 0 4 (by omega), s3 0 4 (by omega), s2 0 4 (by omega), t1]
end Go.Proofs.YtjmajjfknmjifaaDoor.Oct
