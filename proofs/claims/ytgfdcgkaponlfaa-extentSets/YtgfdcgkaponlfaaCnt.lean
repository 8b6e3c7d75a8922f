/- How many numbers are in a set, counted one by one: the sum of the lengths; two sets with nothing in common. -/
import Derived.Test.YtgfdcgkaponlfaaByt
namespace Go.Proofs.Ytgfdcgkaponlfaa.Oct
open Go.RowKit

open Classical in
noncomputable def cnt (P : Int → Prop) (lo : Int) : Nat → Int
  | 0 => 0
  | n + 1 => cnt P lo n + (if P (lo + (n : Int)) then 1 else 0)

theorem cnt_add (P Q R : Int → Prop) (lo : Int) (h : ∀ x, R x ↔ P x ∨ Q x) (hd : ∀ x, P x → ¬ Q x) : ∀ n, cnt R lo n = cnt P lo n + cnt Q lo n
  | 0 => rfl
  | n + 1 => by
    unfold cnt
    rw [cnt_add P Q R lo h hd n]
    by_cases hp : P (lo + (n : Int))
    · have hq := hd _ hp
      have hr := (h _).2 (Or.inl hp)
      simp only [hp, hq, hr, if_true, if_false]
      omega
    · by_cases hq : Q (lo + (n : Int))
      · have hr := (h _).2 (Or.inr hq)
        simp only [hp, hq, hr, if_true, if_false]
        omega
      · have hr : ¬ R (lo + (n : Int)) := fun hr => ((h _).1 hr).elim hp hq
        simp only [hp, hq, hr, if_false]
        omega

theorem cnt_one (p1 p2 lo : Int) (h1 : lo ≤ p1) (h2 : p1 ≤ p2) : ∀ n : Nat, cnt (fun x => p1 ≤ x ∧ x < p2) lo n = if lo + (n : Int) ≤ p1 then 0 else if lo + (n : Int) ≤ p2 then lo + (n : Int) - p1 else p2 - p1
  | 0 => by
    unfold cnt
    have : lo + ((0 : Nat) : Int) ≤ p1 := by omega
    rw [if_pos this]
  | n + 1 => by
    unfold cnt
    rw [cnt_one p1 p2 lo h1 h2 n]
    have e : ((n + 1 : Nat) : Int) = (n : Int) + 1 := by omega
    rw [e]
    split <;> split <;> split <;> (try split) <;> (try split) <;> omega

theorem cnt_none (P : Int → Prop) (lo : Int) (h : ∀ x, ¬ P x) : ∀ n, cnt P lo n = 0
  | 0 => rfl
  | n + 1 => by
    unfold cnt
    rw [cnt_none P lo h n, if_neg (h _)]
    rfl

theorem sumE_acc : ∀ (L : List (Int × Int)) (acc : Int), sumE acc L = acc + sumE 0 L
  | [], acc => by simp [sumE]
  | p :: L, acc => by
    have e1 : sumE acc (p :: L) = sumE (acc + (p.2 - p.1)) L := rfl
    have e2 : sumE 0 (p :: L) = sumE (0 + (p.2 - p.1)) L := rfl
    rw [e1, e2, sumE_acc L (acc + (p.2 - p.1)), sumE_acc L (0 + (p.2 - p.1))]
    omega

theorem cnt_sum (lo : Int) (n : Nat) : ∀ (L : List (Int × Int)), Form L → (∀ p ∈ L, lo ≤ p.1 ∧ p.2 ≤ lo + (n : Int)) → cnt (InE L) lo n = sumE 0 L
  | [], _, _ => by
    rw [cnt_none _ _ InE.nil]
    rfl
  | p :: L, hf, hr => by
    have hp := hr p (by simp)
    have h1 := hf.1 p (by simp)
    rw [cnt_add (fun x => p.1 ≤ x ∧ x < p.2) (InE L) (InE (p :: L)) lo (fun x => inE_cons p L x) (fun x hx hl => by have := hf.rest hl; omega) n,
      cnt_sum lo n L hf.tail (fun q hq => hr q (by simp [hq])), cnt_one p.1 p.2 lo hp.1 (by omega) n]
    have e : sumE 0 (p :: L) = sumE (0 + (p.2 - p.1)) L := rfl
    rw [e, sumE_acc L (0 + (p.2 - p.1)), if_neg (by omega)]
    split <;> omega

theorem near_sub {R L : List (Int × Int)} (hf : Form R) (hs : ∀ x, InE R x → InE L x) (hn : Near L) : Near R := by
  intro p hp
  have h1 := hf.1 p hp
  obtain ⟨q, hq, q1, q2⟩ := hs p.1 ⟨p, hp, Int.le_refl _, h1⟩
  obtain ⟨r, hr, r1, r2⟩ := hs (p.2 - 1) ⟨p, hp, by omega, by omega⟩
  have := hn q hq
  have := hn r hr
  omega

theorem sum_parts {A B N : List (Int × Int)} (hA : Form A) (hB : Form B) (hN : Form N) (nA : Near A) (nB : Near B) (nN : Near N) (h : ∀ x, InE N x ↔ InE A x ∨ InE B x) (hd : ∀ x, InE A x → ¬ InE B x) : sumE 0 A + sumE 0 B = sumE 0 N := by
  have c := cnt_add (InE A) (InE B) (InE N) (-1125899906842624) h hd 2251799813685248
  have r : ∀ L, Near L → ∀ p ∈ L, (-1125899906842624 : Int) ≤ p.1 ∧ p.2 ≤ -1125899906842624 + ((2251799813685248 : Nat) : Int) := fun L hL p hp => by have := hL p hp; omega
  rw [cnt_sum _ _ A hA (r A nA), cnt_sum _ _ B hB (r B nB), cnt_sum _ _ N hN (r N nN)] at c
  exact c.symm

theorem sum_bound {N : List (Int × Int)} (hn : Near N) (hl : N.length ≤ 1000) : -4611686018427387904 < sumE 0 N ∧ sumE 0 N < 4611686018427387904 := by
  have h := sum_near N 0 0 hn (by simp) (by simp) (by omega)
  have h3 := h.2
  rw [Nat.zero_add] at h3
  omega
end Go.Proofs.Ytgfdcgkaponlfaa.Oct
