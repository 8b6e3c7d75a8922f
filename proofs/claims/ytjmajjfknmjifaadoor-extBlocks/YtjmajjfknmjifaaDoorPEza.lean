/- Parts of bytes behind what is written into them; the bits of a map that is made: lists alone. -/
import Derived.Test.YtjmajjfknmjifaaDoorPEyn
import Derived.Test.YtjmajjfknmjifaaDoorPEyf
import Derived.Test.YtjmajjfknmjifaaDoorPEyi
namespace Go.Proofs.YtjmajjfknmjifaaDoor.Oct
open Go.RowKit

/-- A part of bytes. -/
def cutE (l : List Int) (p n : Nat) : List Int := (l.drop p).take n

theorem cutE_get (l : List Int) (p n i : Nat) : (cutE l p n).getD i 0 = if i < n then l.getD (p + i) 0 else 0 := by
  unfold cutE
  simp only [List.getD_eq_getElem?_getD, List.getElem?_take, List.getElem?_drop]
  split <;> rfl

theorem cutE_len {l : List Int} {p n : Nat} (h : p + n ≤ l.length) : (cutE l p n).length = n := by
  unfold cutE
  simp only [List.length_take, List.length_drop]
  omega

theorem cutE_byts {l : List Int} (h : Byts l) (p n : Nat) : Byts (cutE l p n) := (h.drop _).take _

theorem cut_over_same (l : List Int) (p : Nat) (m : List Int) (h : p + m.length ≤ l.length) : cutE (over l p m) p m.length = m :=
  list_eqE _ _ (cutE_len (by rw [over_length h]; exact h)) fun i => by
    rw [cutE_get]
    split
    · rw [over_getE _ _ _ h, if_pos ⟨by omega, by omega⟩, Nat.add_sub_cancel_left]
    · rw [List.getD_eq_getElem?_getD, List.getElem?_eq_none (by omega)]
      rfl

theorem cut_over_other (l : List Int) (p : Nat) (m : List Int) (q n : Nat) (h : p + m.length ≤ l.length) (hq : q + n ≤ l.length) (hd : q + n ≤ p ∨ p + m.length ≤ q) : cutE (over l p m) q n = cutE l q n :=
  list_eqE _ _ (by rw [cutE_len (by rw [over_length h]; exact hq), cutE_len hq]) fun i => by
    rw [cutE_get, cutE_get]
    split
    · rw [over_getE _ _ _ h, if_neg (by omega)]
    · rfl

theorem cut_put_other (l : List Int) (p : Nat) (v : Int) (k q n : Nat) (h : p + k ≤ l.length) (hq : q + n ≤ l.length) (hd : q + n ≤ p ∨ p + k ≤ q) : cutE (putN l p v k) q n = cutE l q n :=
  list_eqE _ _ (by rw [cutE_len (by rw [putN_length]; exact hq), cutE_len hq]) fun i => by
    rw [cutE_get, cutE_get]
    split
    · rw [getD_putN _ _ _ _ _ h, if_neg (by omega)]
    · rfl

theorem cut_put_in (l : List Int) (o p : Nat) (v : Int) (k n : Nat) (h : p + k ≤ n) (hn : o + n ≤ l.length) : cutE (putN l (o + p) v k) o n = putN (cutE l o n) p v k :=
  list_eqE _ _ (by rw [cutE_len (by rw [putN_length]; exact hn), putN_length, cutE_len hn]) fun i => by
    rw [cutE_get, getD_putN _ _ _ _ _ (by omega), getD_putN _ _ _ _ _ (by rw [cutE_len hn]; exact h), cutE_get]
    by_cases hi : i < n
    · rw [if_pos hi, if_pos hi]
      by_cases hp : p ≤ i ∧ i < p + k
      · rw [if_pos hp, if_pos (by omega), show o + i - (o + p) = i - p by omega]
      · rw [if_neg hp, if_neg (by omega)]
    · rw [if_neg hi, if_neg hi, if_neg (by omega)]

theorem cut_set_other (l : List Int) (p : Nat) (v : Int) (q n : Nat) (hq : q + n ≤ l.length) (hd : q + n ≤ p ∨ p < q) : cutE (l.set p v) q n = cutE l q n :=
  list_eqE _ _ (by rw [cutE_len (by rw [List.length_set]; exact hq), cutE_len hq]) fun i => by
    rw [cutE_get, cutE_get]
    split
    · rw [List.getD_eq_getElem?_getD, List.getElem?_set_ne (by omega), ← List.getD_eq_getElem?_getD]
    · rfl

theorem cut_zero (m o n : Nat) (h : o + n ≤ m) : cutE (List.replicate m 0) o n = List.replicate n 0 := by
  unfold cutE
  rw [List.drop_replicate, List.take_replicate]
  congr 1
  omega

theorem cut_spB (s : Sp) (l : List Int) (o n : Nat) (h : 1024 ≤ n) (hn : o + n ≤ l.length) : cutE (spB s l o) o n = spB s (cutE l o n) 0 := by
  unfold spB
  simp only [spP, f4P]
  repeat rw [cut_put_in _ _ _ _ _ _ (by omega) (by (try simp only [putN_length]); exact hn)]

theorem cut_spB_other (s : Sp) (l : List Int) (o q n : Nat) (h : o + 1024 ≤ l.length) (hq : q + n ≤ l.length) (hd : q + n ≤ o ∨ o + 1024 ≤ q) : cutE (spB s l o) q n = cutE l q n := by
  unfold spB
  simp only [spP, f4P]
  repeat rw [cut_put_other _ _ _ _ _ _ (by (try simp only [putN_length]); omega) (by (try simp only [putN_length]); exact hq) (by omega)]

theorem cut_rwB (r : Rw) (l : List Int) (o q n : Nat) (h : q + 32 ≤ n) (hn : o + n ≤ l.length) : cutE (rwB r l (o + q)) o n = rwB r (cutE l o n) q := by
  unfold rwB
  simp only [rwP, Nat.add_assoc]
  repeat rw [cut_put_in _ _ _ _ _ _ (by omega) (by (try simp only [putN_length]); exact hn)]

theorem cut_rwB_other (r : Rw) (l : List Int) (o q n : Nat) (h : o + 32 ≤ l.length) (hq : q + n ≤ l.length) (hd : q + n ≤ o ∨ o + 32 ≤ q) : cutE (rwB r l o) q n = cutE l q n := by
  unfold rwB
  simp only [rwP]
  repeat rw [cut_put_other _ _ _ _ _ _ (by (try simp only [putN_length]); omega) (by (try simp only [putN_length]); exact hq) (by omega)]

theorem spB_len (s : Sp) (l : List Int) (o : Nat) : (spB s l o).length = l.length := spP_len s l o 11 (by omega)

theorem spB_byts (s : Sp) {l : List Int} (h : Byts l) (o : Nat) : Byts (spB s l o) := by
  unfold spB
  simp only [spP, f4P]
  repeat apply Byts.putN
  exact h

theorem rwB_byts (r : Rw) {l : List Int} (h : Byts l) (o : Nat) : Byts (rwB r l o) := by
  unfold rwB
  simp only [rwP]
  repeat apply Byts.putN
  exact h

/-- The root's inode. -/
def rootB (l : List Int) (o : Nat) (blk : Int) : Nat → List Int
  | 0 => l
  | 1 => putN (rootB l o blk 0) (o + 0) 16877 2
  | 2 => putN (rootB l o blk 1) (o + 4) 1024 4
  | 3 => putN (rootB l o blk 2) (o + 26) 2 2
  | 4 => putN (rootB l o blk 3) (o + 28) 2 4
  | 5 => putN (rootB l o blk 4) (o + 40) blk 4
  | _ + 6 => []

theorem rootB_len (l : List Int) (o : Nat) (b : Int) : ∀ k, k ≤ 5 → (rootB l o b k).length = l.length
  | 0, _ => by rw [rootB]
  | 1, _ => by rw [rootB, putN_length]; exact rootB_len l o b 0 (by omega)
  | 2, _ => by rw [rootB, putN_length]; exact rootB_len l o b 1 (by omega)
  | 3, _ => by rw [rootB, putN_length]; exact rootB_len l o b 2 (by omega)
  | 4, _ => by rw [rootB, putN_length]; exact rootB_len l o b 3 (by omega)
  | 5, _ => by rw [rootB, putN_length]; exact rootB_len l o b 4 (by omega)
  | n + 6, h => by omega

theorem rootB_byts {l : List Int} (h : Byts l) (o : Nat) (b : Int) : Byts (rootB l o b 5) := by
  simp only [rootB]
  repeat apply Byts.putN
  exact h

theorem cut_rootB_other (l : List Int) (o : Nat) (b : Int) (q n : Nat) (h : o + 128 ≤ l.length) (hq : q + n ≤ l.length) (hd : q + n ≤ o ∨ o + 128 ≤ q) : cutE (rootB l o b 5) q n = cutE l q n := by
  simp only [rootB]
  repeat rw [cut_put_other _ _ _ _ _ _ (by (try simp only [putN_length]); omega) (by (try simp only [putN_length]); exact hq) (by omega)]

/-- A row of a folder that names the root. -/
def dotB (l : List Int) (o : Nat) (z : Int) (m : List Int) : List Int := over (((putN (putN l o 2 4) (o + 4) z 2).set (o + 6) (m.length : Int)).set (o + 7) 2) (o + 8) m

theorem dotB_len (l : List Int) (o : Nat) (z : Int) (m : List Int) (h : o + 8 + m.length ≤ l.length) : (dotB l o z m).length = l.length := by
  unfold dotB
  rw [over_length (by simp only [List.length_set, putN_length]; exact h)]
  simp only [List.length_set, putN_length]

theorem Byts.setE {l : List Int} (h : Byts l) (p : Nat) (x : Int) (hx : 0 ≤ x ∧ x < 256) : Byts (l.set p x) := by
  intro j
  rw [List.getD_eq_getElem?_getD]
  by_cases hj : p = j
  · subst hj
    by_cases hl : p < l.length
    · rw [List.getElem?_set_self hl]
      exact hx
    · rw [List.getElem?_eq_none (by rw [List.length_set]; omega)]
      exact ⟨by decide, by decide⟩
  · rw [List.getElem?_set_ne hj, ← List.getD_eq_getElem?_getD]
    exact h j

theorem dotB_byts {l : List Int} (h : Byts l) (o : Nat) (z : Int) {m : List Int} (hm : Byts m) (hm2 : m.length < 256) : Byts (dotB l o z m) :=
  (((((h.putN _ _ _).putN _ _ _).setE _ _ (by omega)).setE _ _ (by omega)).over hm _)

theorem cut_dotB_other (l : List Int) (o : Nat) (z : Int) (m : List Int) (q n : Nat) (h : o + 8 + m.length ≤ l.length) (hq : q + n ≤ l.length) (hd : q + n ≤ o ∨ o + 8 + m.length ≤ q) : cutE (dotB l o z m) q n = cutE l q n := by
  unfold dotB
  rw [cut_over_other _ _ _ _ _ (by simp only [List.length_set, putN_length]; omega) (by simp only [List.length_set, putN_length]; exact hq) (by omega)]
  rw [cut_set_other _ _ _ _ _ (by simp only [List.length_set, putN_length]; exact hq) (by omega)]
  rw [cut_set_other _ _ _ _ _ (by simp only [putN_length]; exact hq) (by omega)]
  rw [cut_put_other _ _ _ _ _ _ (by (try simp only [putN_length]); omega) (by (try simp only [putN_length]); exact hq) (by omega)]
  rw [cut_put_other _ _ _ _ _ _ (by omega) hq (by omega)]

/-- The bits of a map that is made. -/
theorem fbL_has (x y : Int) : ∀ n : Nat, n ≤ 8192 → ∀ i : Int, 0 ≤ i → hasB (fbL x y n) i = if i < (n : Int) then (decide (i < x) || decide (y ≤ i)) else false
  | 0, _, i, hi => by
    rw [if_neg (by omega)]
    unfold hasB fbL
    have h0 : (List.replicate 1024 (0 : Int)).getD (i / 8).toNat 0 = 0 := by
      rw [List.getD_eq_getElem?_getD, List.getElem?_replicate]
      split <;> rfl
    have h1 : ((0 : Int) % 2 == 1) = false := by decide
    rw [h0, Int.zero_ediv, h1, Bool.and_false]
  | n + 1, hn, i, hi => by
    have hl := fbL_len x y n
    rw [fbL, hasB_set (fbL_byts x y n) _ _ _ (by rw [hl]; omega), fbL_has x y n (by omega) i hi]
    by_cases h1 : i = (n : Int)
    · rw [if_pos h1, if_pos (by omega), h1]
    · rw [if_neg h1]
      by_cases h2 : i < (n : Int)
      · rw [if_pos h2, if_pos (by omega)]
      · rw [if_neg h2, if_neg (by omega)]

/-- How many of the first bits are free. -/
def freeF (x y : Int) : Nat → Int
  | 0 => 0
  | n + 1 => freeF x y n + if ((n : Int) < x ∨ y ≤ (n : Int)) then 0 else 1

theorem freeB_fbL (x y : Int) : ∀ n : Nat, n ≤ 8192 → freeB (fbL x y 8192) n = freeF x y n
  | 0, _ => rfl
  | n + 1, h => by
    have hh := fbL_has x y 8192 (Nat.le_refl _) (n : Int) (by omega)
    rw [if_pos (show (n : Int) < ((8192 : Nat) : Int) by omega)] at hh
    rw [freeB, freeF, freeB_fbL x y n (by omega), hh]
    clear hh
    generalize freeF x y n = q
    by_cases h1 : (n : Int) < x <;> by_cases h2 : y ≤ (n : Int) <;> simp [h1, h2]

end Go.Proofs.YtjmajjfknmjifaaDoor.Oct
