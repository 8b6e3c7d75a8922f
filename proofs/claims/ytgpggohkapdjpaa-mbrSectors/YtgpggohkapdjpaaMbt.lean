/- Disks that are laid, sector by sector; the example that every statement of mbr asks for: no program. -/
import Derived.Test.YtgpggohkapdjpaaMbq
namespace Go.Proofs.Ytgpggohkapdjpaa.Oct
open Go.RowKit

theorem over_getM {m l : List Int} {o : Nat} (h : o + l.length ≤ m.length) (i : Nat) : (over m o l).getD i 0 = if o ≤ i ∧ i < o + l.length then l.getD (i - o) 0 else m.getD i 0 := by
  unfold over
  rw [List.getD_eq_getElem?_getD, List.getElem?_append]
  have ht : (m.take o).length = o := by simp; omega
  rw [ht]
  split
  · rename_i h1
    rw [if_neg (by omega), List.getElem?_take, if_pos h1, List.getD_eq_getElem?_getD]
  · rename_i h1
    rw [List.getElem?_append]
    split
    · rename_i h2
      rw [if_pos (by omega), List.getD_eq_getElem?_getD]
    · rename_i h2
      rw [if_neg (by omega), List.getElem?_drop, List.getD_eq_getElem?_getD]
      congr 2
      omega

theorem list_eq {l m : List Int} (hl : l.length = m.length) (h : ∀ i, i < l.length → l.getD i 0 = m.getD i 0) : l = m := by
  apply List.ext_getElem hl
  intro i h1 h2
  have := h i h1
  rw [List.getD_eq_getElem?_getD, List.getElem?_eq_getElem h1, List.getD_eq_getElem?_getD, List.getElem?_eq_getElem h2] at this
  simpa using this

theorem secD_len {d : List Int} {s : Nat} (h : 512 * s + 512 ≤ d.length) : (secD d s).length = 512 := by
  unfold secD
  simp
  omega

theorem secD_get {d : List Int} {s : Nat} (i : Nat) (hi : i < 512) : (secD d s).getD i 0 = d.getD (512 * s + i) 0 := getD_part d (512 * s) 512 i hi

/-- What is laid within a sector changes that one alone. -/
theorem secD_over {d l : List Int} {t q s : Nat} (hq : q + l.length ≤ 512) (ht : 512 * t + 512 ≤ d.length) (hs : 512 * s + 512 ≤ d.length) :
    secD (over d (512 * t + q) l) s = if s = t then over (secD d t) q l else secD d s := by
  have hlen : (over d (512 * t + q) l).length = d.length := over_length (by omega)
  have h1 : (secD (over d (512 * t + q) l) s).length = 512 := secD_len (by rw [hlen]; exact hs)
  split
  · rename_i he
    subst he
    apply list_eq (by rw [h1, over_length (by rw [secD_len ht]; omega), secD_len ht])
    intro i hi
    rw [h1] at hi
    rw [secD_get i hi, over_getM (by omega), over_getM (by rw [secD_len ht]; omega), secD_get i hi]
    by_cases hc : q ≤ i ∧ i < q + l.length
    · rw [if_pos (by omega), if_pos hc]
      congr 1
      omega
    · rw [if_neg (by omega), if_neg hc]
  · rename_i he
    apply list_eq (by rw [h1, secD_len hs])
    intro i hi
    rw [h1] at hi
    rw [secD_get i hi, over_getM (by omega), secD_get i hi, if_neg]
    intro hc
    rcases Nat.lt_trichotomy s t with h | h | h
    · omega
    · exact he h
    · omega

theorem secD_layD {d : List Int} {t s : Nat} {L : List M3} {mk : List Int} (ht : 512 * t + 512 ≤ d.length) (hs : 512 * s + 512 ≤ d.length) : ∀ k, k ≤ 4 →
    secD (layD d (512 * t) L mk k) s = if s = t then layD (secD d t) 0 L mk k else secD d s
  | 0, _ => by
    unfold layD
    split
    · rename_i h; rw [h]
    · rfl
  | k + 1, hk => by
    have ih := secD_layD (L := L) (mk := mk) ht hs k (by omega)
    have ih2 := secD_layD (L := L) (mk := mk) ht ht k (by omega)
    have hl := layD_len (D := d) (t := 512 * t) (L := L) (mk := mk) ht k (by omega)
    rw [layD, show 512 * t + 446 + 16 * k = 512 * t + (446 + 16 * k) by omega, secD_over (by rw [rowD_len]; omega) (by rw [hl]; exact ht) (by rw [hl]; exact hs), ih]
    split
    · rw [ih2, if_pos rfl, layD, Nat.zero_add]
    · rfl

/-- A sector with entries. -/
def secL (L : List M3) (mk : List Int) (S : List Int) : List Int := over (layD S 0 L mk (min 4 L.length)) 510 [85, 170]

theorem secD_layS {d : List Int} {n : Nat} {x : LD} {s : Nat} (hn : 0 < n) (hd : d.length = 512 * n) (hs : s < n) :
    secD (layS d n x) s = if s = (x.at_ % p64 % n).toNat then secL x.L x.mb (secD d s) else secD d s := by
  have ht := at_fits x.at_ n hn
  have hl := layD_len (D := d) (t := 512 * (x.at_ % p64 % n).toNat) (L := x.L) (mk := x.mb) (by omega) (min 4 x.L.length) (by omega)
  unfold layS
  rw [secD_over (by simp) (by omega) (by omega), secD_layD (by omega) (by omega) _ (by omega), secD_layD (by omega) (by omega) _ (by omega)]
  by_cases h : s = (x.at_ % p64 % n).toNat
  · rw [if_pos h, if_pos h, if_pos rfl]
    unfold secL
    rw [← h]
  · rw [if_neg h, if_neg h, if_neg h]

theorem secD_zero {n s : Nat} (hs : s < n) : secD (List.replicate (512 * n) 0) s = List.replicate 512 0 := by
  unfold secD
  rw [List.drop_replicate, List.take_replicate]
  congr 1
  omega

def secA : List Int := secL [(12, 8, 40), (5, 64, 32)] [] (List.replicate 512 0)
def secB : List Int := secL [(11, 1, 10)] [] (List.replicate 512 0)

theorem secA_c : entC secA = 0 := by decide +kernel
theorem secA_e : entsM secA = [(12, 8, 40), (5, 64, 32), (0, 0, 0), (0, 0, 0)] := by decide +kernel
theorem secB_c : entC secB = 0 := by decide +kernel
theorem secB_e : entsM secB = [(11, 1, 10), (0, 0, 0), (0, 0, 0), (0, 0, 0)] := by decide +kernel

/-- The example's rows. -/
def exX (a b : Option Addr) : List LD := [⟨0, a, [(12, 8, 40), (5, 64, 32)], 2, none, [], 0⟩, ⟨64, b, [(11, 1, 10)], 1, none, [], 0⟩]

def stEx : MS := ⟨[(4096, 24576, 12, 0), (33280, 38400, 11, 4)], [(0, 512), (32768, 33280)], 32768, 49152, false⟩

theorem exD_sec (a b : Option Addr) (s : Nat) (hs : s < 100) : secD (diskD 100 (exX a b) 2) s = if s = 64 then secB else if s = 0 then secA else List.replicate 512 0 := by
  have h0 : (diskD 100 (exX a b) 0).length = 512 * 100 := diskD_len 100 _ (by omega) 0
  have h1 : (diskD 100 (exX a b) 1).length = 512 * 100 := diskD_len 100 _ (by omega) 1
  have e2 : diskD 100 (exX a b) 2 = layS (diskD 100 (exX a b) 1) 100 ⟨64, b, [(11, 1, 10)], 1, none, [], 0⟩ := rfl
  have e1 : diskD 100 (exX a b) 1 = layS (diskD 100 (exX a b) 0) 100 ⟨0, a, [(12, 8, 40), (5, 64, 32)], 2, none, [], 0⟩ := rfl
  have e0 : diskD 100 (exX a b) 0 = List.replicate (512 * 100) 0 := rfl
  have t2 : ((64 : Int) % p64 % ((100 : Nat) : Int)).toNat = 64 := by decide
  have t1 : ((0 : Int) % p64 % ((100 : Nat) : Int)).toNat = 0 := by decide
  rw [e2, secD_layS (by omega) h1 hs, e1, secD_layS (by omega) h0 hs, e0, secD_zero hs]
  dsimp only
  rw [t2, t1]
  by_cases h64 : s = 64
  · rw [if_pos h64, if_pos h64, if_neg (by omega)]
    rfl
  · rw [if_neg h64, if_neg h64]
    rfl
end Go.Proofs.Ytgpggohkapdjpaa.Oct
