/- The given disk of the statements of parts, as a list: one partition. No program. -/
import Derived.Test.YtjpdfchdgphdoaaGreatDoorPMbp
import Derived.Test.YtjpdfchdgphdoaaGreatDoorPLst
namespace Go.Proofs.YtjpdfchdgphdoaaGreatDoor.Oct
open Go.RowKit

/-- Entries that are laid on a disk: at a sector; their first bytes. -/
structure LD where
  at_ : Int
  a : Option Addr
  L : List M3
  c : Nat
  ma : Option Addr
  mb : List Int
  mc : Nat

def LD.z : LD := ⟨0, none, [], 0, none, [], 0⟩

/-- Such rows lie from the address on. -/
def LiesL (w : World) (p : Option Addr) (X : List LD) : Prop :=
  X = [] ∨ ∃ b off, p = some ⟨b, off, none⟩ ∧ b < w.heap.size ∧ ∀ k, k < X.length →
    (w.cell? ⟨b, off + k * 3, none⟩ = some (.int .i64 (X.getD k LD.z).at_) ∧ w.cell? ⟨b, off + k * 3 + 1, none⟩ = some (.slice (X.getD k LD.z).a (X.getD k LD.z).L.length (X.getD k LD.z).c) ∧ w.cell? ⟨b, off + k * 3 + 2, none⟩ = some (.slice (X.getD k LD.z).ma (X.getD k LD.z).mb.length (X.getD k LD.z).mc)) ∧
    LiesM w (X.getD k LD.z).a (X.getD k LD.z).L ∧ Lies w (X.getD k LD.z).ma (X.getD k LD.z).mb

theorem LiesL.below {w w' : World} {p : Option Addr} {X : List LD} (h : LiesL w p X) (hb : Below w.heap.size w w') : LiesL w' p X := by
  rcases h with rfl | ⟨b, off, rfl, hlt, hc⟩
  · exact Or.inl rfl
  · exact Or.inr ⟨b, off, rfl, Nat.lt_of_lt_of_le hlt hb.size, fun k hk => ⟨⟨(hb.cell (p := ⟨b, off + k * 3, none⟩) hlt).trans (hc k hk).1.1, (hb.cell (p := ⟨b, off + k * 3 + 1, none⟩) hlt).trans (hc k hk).1.2.1, (hb.cell (p := ⟨b, off + k * 3 + 2, none⟩) hlt).trans (hc k hk).1.2.2⟩, (hc k hk).2.1.below hb, (hc k hk).2.2.below hb⟩⟩

def p64 : Int := 18446744073709551616

/-- An entry's bytes. -/
def rowD (x : M3) (m : Int) : List Int := (([m, 0, 0, 0] ++ [x.1 % 256, 0, 0, 0]) ++ bytesOf (x.2.1 % p64) 4) ++ bytesOf (x.2.2 % p64) 4

theorem rowD_len (x : M3) (m : Int) : (rowD x m).length = 16 := by simp [rowD, bytesOf_length]

/-- The first k entries are laid from a place on. -/
def layD (D : List Int) (t : Nat) (L : List M3) (mk : List Int) : Nat → List Int
  | 0 => D
  | k + 1 => over (layD D t L mk k) (t + 446 + 16 * k) (rowD (L.getD k zm3) (mk.getD k 0))

/-- A sector is laid. -/
def layS (D : List Int) (n : Nat) (x : LD) : List Int :=
  over (layD D (512 * (x.at_ % p64 % n).toNat) x.L x.mb (min 4 x.L.length)) (512 * (x.at_ % p64 % n).toNat + 510) [85, 170]

/-- The disk behind the first k. -/
def diskD (n : Nat) (X : List LD) : Nat → List Int
  | 0 => List.replicate (512 * n) 0
  | k + 1 => layS (diskD n X k) n (X.getD k LD.z)

theorem layD_len {D : List Int} {t : Nat} {L : List M3} {mk : List Int} (h : t + 512 ≤ D.length) : ∀ k, k ≤ 4 → (layD D t L mk k).length = D.length
  | 0, _ => rfl
  | k + 1, hk => by
    have ih := layD_len (L := L) (mk := mk) h k (by omega)
    rw [layD, over_length (by rw [rowD_len, ih]; omega), ih]

theorem at_fits (x : Int) (n : Nat) (hn : 0 < n) : (x % p64 % n).toNat < n := by
  have h1 := Int.emod_nonneg (x % p64) (b := (n : Int)) (by omega)
  have h2 := Int.emod_lt_of_pos (x % p64) (b := (n : Int)) (by omega)
  omega

theorem layS_len {D : List Int} {n : Nat} {x : LD} (hn : 0 < n) (h : D.length = 512 * n) : (layS D n x).length = 512 * n := by
  have := at_fits x.at_ n hn
  unfold layS
  rw [over_length (by rw [layD_len (by omega) _ (by omega)]; simp; omega), layD_len (by omega) _ (by omega), h]

theorem diskD_len (n : Nat) (X : List LD) (hn : 0 < n) : ∀ k, (diskD n X k).length = 512 * n
  | 0 => by simp [diskD]
  | k + 1 => layS_len hn (diskD_len n X hn k)

theorem Byts.row (x : M3) (m : Int) (hm : 0 ≤ m ∧ m < 256) : Byts (rowD x m) := by
  unfold rowD
  refine Byts.append (Byts.append (Byts.append ?_ ?_) (Byts.bytesOf _ _)) (Byts.bytesOf _ _)
  · intro k
    match k with
    | 0 => simpa using hm
    | 1 => simp
    | 2 => simp
    | 3 => simp
    | k + 4 => simp
  · intro k
    match k with
    | 0 => simp; omega
    | 1 => simp
    | 2 => simp
    | 3 => simp
    | k + 4 => simp

theorem Byts.layD {D : List Int} {t : Nat} {L : List M3} {mk : List Int} (hD : Byts D) (hm : Byts mk) : ∀ k, Byts (layD D t L mk k)
  | 0 => hD
  | k + 1 => (Byts.layD hD hm k).over (Byts.row _ _ (hm k)) _

theorem Byts.diskD (n : Nat) (X : List LD) (hX : ∀ x ∈ X, Byts x.mb) : ∀ k, Byts (diskD n X k)
  | 0 => Byts.zeros _
  | k + 1 => by
    refine Byts.over (Byts.layD (Byts.diskD n X hX k) ?_ _) ?_ _
    · by_cases h : k < X.length
      · have : X.getD k LD.z = X[k] := by simp [h]
        rw [this]
        exact hX _ (List.getElem_mem _)
      · have : X.getD k LD.z = LD.z := by simp [h]
        rw [this]
        intro j
        simp [LD.z]
    · intro j
      match j with
      | 0 => simp
      | 1 => simp
      | j + 2 => simp
end Go.Proofs.YtjpdfchdgphdoaaGreatDoor.Oct

namespace Go.Proofs.YtjpdfchdgphdoaaGreatDoor.Oct
open Go.RowKit

theorem over_getM {m l : List Int} {o : Nat} (h : o + l.length ≤ m.length) (i : Nat) : (over m o l).getD i 0 = if o ≤ i ∧ i < o + l.length then l.getD (i - o) 0 else m.getD i 0 := by
  unfold over
  rw [List.getD_eq_getElem?_getD, List.getElem?_append]
  have ht : (m.take o).length = o := by simp; omega
  rw [ht]
  split
  · rename_i h1
    rw [if_neg (by omega), List.getElem?_take, if_pos h1, List.getD_eq_getElem?_getD]
  · rename_i h1
    rw [List.getElem?_append]
    split
    · rename_i h2
      rw [if_pos (by omega), List.getD_eq_getElem?_getD]
    · rename_i h2
      rw [if_neg (by omega), List.getElem?_drop, List.getD_eq_getElem?_getD]
      congr 2
      omega

theorem list_eq {l m : List Int} (hl : l.length = m.length) (h : ∀ i, i < l.length → l.getD i 0 = m.getD i 0) : l = m := by
  apply List.ext_getElem hl
  intro i h1 h2
  have := h i h1
  rw [List.getD_eq_getElem?_getD, List.getElem?_eq_getElem h1, List.getD_eq_getElem?_getD, List.getElem?_eq_getElem h2] at this
  simpa using this

theorem secD_len {d : List Int} {s : Nat} (h : 512 * s + 512 ≤ d.length) : (secD d s).length = 512 := by
  unfold secD
  simp
  omega

theorem secD_get {d : List Int} {s : Nat} (i : Nat) (hi : i < 512) : (secD d s).getD i 0 = d.getD (512 * s + i) 0 := getD_part d (512 * s) 512 i hi

/-- What is laid within a sector changes that one alone. -/
theorem secD_over {d l : List Int} {t q s : Nat} (hq : q + l.length ≤ 512) (ht : 512 * t + 512 ≤ d.length) (hs : 512 * s + 512 ≤ d.length) :
    secD (over d (512 * t + q) l) s = if s = t then over (secD d t) q l else secD d s := by
  have hlen : (over d (512 * t + q) l).length = d.length := over_length (by omega)
  have h1 : (secD (over d (512 * t + q) l) s).length = 512 := secD_len (by rw [hlen]; exact hs)
  split
  · rename_i he
    subst he
    apply list_eq (by rw [h1, over_length (by rw [secD_len ht]; omega), secD_len ht])
    intro i hi
    rw [h1] at hi
    rw [secD_get i hi, over_getM (by omega), over_getM (by rw [secD_len ht]; omega), secD_get i hi]
    by_cases hc : q ≤ i ∧ i < q + l.length
    · rw [if_pos (by omega), if_pos hc]
      congr 1
      omega
    · rw [if_neg (by omega), if_neg hc]
  · rename_i he
    apply list_eq (by rw [h1, secD_len hs])
    intro i hi
    rw [h1] at hi
    rw [secD_get i hi, over_getM (by omega), secD_get i hi, if_neg]
    intro hc
    rcases Nat.lt_trichotomy s t with h | h | h
    · omega
    · exact he h
    · omega

theorem secD_layD {d : List Int} {t s : Nat} {L : List M3} {mk : List Int} (ht : 512 * t + 512 ≤ d.length) (hs : 512 * s + 512 ≤ d.length) : ∀ k, k ≤ 4 →
    secD (layD d (512 * t) L mk k) s = if s = t then layD (secD d t) 0 L mk k else secD d s
  | 0, _ => by
    unfold layD
    split
    · rename_i h; rw [h]
    · rfl
  | k + 1, hk => by
    have ih := secD_layD (L := L) (mk := mk) ht hs k (by omega)
    have ih2 := secD_layD (L := L) (mk := mk) ht ht k (by omega)
    have hl := layD_len (D := d) (t := 512 * t) (L := L) (mk := mk) ht k (by omega)
    rw [layD, show 512 * t + 446 + 16 * k = 512 * t + (446 + 16 * k) by omega, secD_over (by rw [rowD_len]; omega) (by rw [hl]; exact ht) (by rw [hl]; exact hs), ih]
    split
    · rw [ih2, if_pos rfl, layD, Nat.zero_add]
    · rfl

/-- A sector with entries. -/
def secL (L : List M3) (mk : List Int) (S : List Int) : List Int := over (layD S 0 L mk (min 4 L.length)) 510 [85, 170]

theorem secD_layS {d : List Int} {n : Nat} {x : LD} {s : Nat} (hn : 0 < n) (hd : d.length = 512 * n) (hs : s < n) :
    secD (layS d n x) s = if s = (x.at_ % p64 % n).toNat then secL x.L x.mb (secD d s) else secD d s := by
  have ht := at_fits x.at_ n hn
  have hl := layD_len (D := d) (t := 512 * (x.at_ % p64 % n).toNat) (L := x.L) (mk := x.mb) (by omega) (min 4 x.L.length) (by omega)
  unfold layS
  rw [secD_over (by simp) (by omega) (by omega), secD_layD (by omega) (by omega) _ (by omega), secD_layD (by omega) (by omega) _ (by omega)]
  by_cases h : s = (x.at_ % p64 % n).toNat
  · rw [if_pos h, if_pos h, if_pos rfl]
    unfold secL
    rw [← h]
  · rw [if_neg h, if_neg h, if_neg h]

theorem secD_zero {n s : Nat} (hs : s < n) : secD (List.replicate (512 * n) 0) s = List.replicate 512 0 := by
  unfold secD
  rw [List.drop_replicate, List.take_replicate]
  congr 1
  omega

def secA : List Int := secL [(12, 8, 40), (5, 64, 32)] [] (List.replicate 512 0)
def secB : List Int := secL [(11, 1, 10)] [] (List.replicate 512 0)

theorem secA_c : entC secA = 0 := by decide +kernel
theorem secA_e : entsM secA = [(12, 8, 40), (5, 64, 32), (0, 0, 0), (0, 0, 0)] := by decide +kernel
theorem secB_c : entC secB = 0 := by decide +kernel
theorem secB_e : entsM secB = [(11, 1, 10), (0, 0, 0), (0, 0, 0), (0, 0, 0)] := by decide +kernel

/-- The example's rows. -/
def exX (a b : Option Addr) : List LD := [⟨0, a, [(12, 8, 40), (5, 64, 32)], 2, none, [], 0⟩, ⟨64, b, [(11, 1, 10)], 1, none, [], 0⟩]

def stEx : MS := ⟨[(4096, 24576, 12, 0), (33280, 38400, 11, 4)], [(0, 512), (32768, 33280)], 32768, 49152, false⟩

theorem exD_sec (a b : Option Addr) (s : Nat) (hs : s < 100) : secD (diskD 100 (exX a b) 2) s = if s = 64 then secB else if s = 0 then secA else List.replicate 512 0 := by
  have h0 : (diskD 100 (exX a b) 0).length = 512 * 100 := diskD_len 100 _ (by omega) 0
  have h1 : (diskD 100 (exX a b) 1).length = 512 * 100 := diskD_len 100 _ (by omega) 1
  have e2 : diskD 100 (exX a b) 2 = layS (diskD 100 (exX a b) 1) 100 ⟨64, b, [(11, 1, 10)], 1, none, [], 0⟩ := rfl
  have e1 : diskD 100 (exX a b) 1 = layS (diskD 100 (exX a b) 0) 100 ⟨0, a, [(12, 8, 40), (5, 64, 32)], 2, none, [], 0⟩ := rfl
  have e0 : diskD 100 (exX a b) 0 = List.replicate (512 * 100) 0 := rfl
  have t2 : ((64 : Int) % p64 % ((100 : Nat) : Int)).toNat = 64 := by decide
  have t1 : ((0 : Int) % p64 % ((100 : Nat) : Int)).toNat = 0 := by decide
  rw [e2, secD_layS (by omega) h1 hs, e1, secD_layS (by omega) h0 hs, e0, secD_zero hs]
  dsimp only
  rw [t2, t1]
  by_cases h64 : s = 64
  · rw [if_pos h64, if_pos h64, if_neg (by omega)]
    rfl
  · rw [if_neg h64, if_neg h64]
    rfl
end Go.Proofs.YtjpdfchdgphdoaaGreatDoor.Oct

namespace Go.Proofs.YtjpdfchdgphdoaaGreatDoor.Oct
open Go.RowKit

/-- What stands from byte 446 on. -/
def mapR : List Int := (([0, 0, 0, 0, 12, 0, 0, 0] ++ bytesOf 8 4) ++ bytesOf 40 4) ++ (List.replicate 48 0 ++ [85, 170])

def mapD : List Int := over (List.replicate 51200 0) 446 mapR

def stMap : MS := ⟨[(4096, 24576, 12, 0)], [(0, 512)], 0, 0, false⟩

theorem mapR_len : mapR.length = 66 := by decide +kernel

theorem mapD_len : mapD.length = 51200 := by
  unfold mapD
  rw [over_length (by rw [mapR_len, List.length_replicate]; omega), List.length_replicate]

theorem mapD_byts : Byts mapD := by
  refine Byts.over (Byts.zeros _) ?_ _
  unfold mapR
  refine Byts.append (Byts.append (Byts.append ?_ (Byts.bytesOf _ _)) (Byts.bytesOf _ _)) (Byts.append (Byts.zeros _) ?_)
  · intro k
    match k with
    | 0 | 1 | 2 | 3 | 4 | 5 | 6 | 7 => simp
    | k + 8 => simp
  · intro k
    match k with
    | 0 | 1 => simp
    | k + 2 => simp

theorem sec_over0 {n : Nat} (hn : 0 < n) {l : List Int} (hl : 446 + l.length ≤ 512) : secD (over (List.replicate (512 * n) 0) 446 l) 0 = over (List.replicate 512 0) 446 l := by
  have h := secD_over (d := List.replicate (512 * n) (0 : Int)) (l := l) (t := 0) (q := 446) (s := 0) hl (by rw [List.length_replicate]; omega) (by rw [List.length_replicate]; omega)
  rw [if_pos rfl, secD_zero hn] at h
  exact h

theorem mapD_sec : secD mapD 0 = over (List.replicate 512 0) 446 mapR := sec_over0 (n := 100) (by omega) (by rw [mapR_len]; omega)

theorem map_c : entC (over (List.replicate 512 0) 446 mapR) = 0 := by decide +kernel
theorem map_e : entsM (over (List.replicate 512 0) 446 mapR) = [(12, 8, 40), (0, 0, 0), (0, 0, 0), (0, 0, 0)] := by decide +kernel

theorem map_first : firstM mapD = .ok stMap := by
  have hc : secC mapD 0 = 0 := by
    unfold secC
    rw [if_pos (by rw [mapD_len]; omega)]
    change entC (secD mapD 0) = 0
    rw [mapD_sec, map_c]
  unfold firstM rdM
  rw [hc, if_pos rfl]
  simp only
  rw [mapD_sec, map_e, mapD_len]
  rfl

theorem map_pars : parsM mapD = .ok stMap := by
  unfold parsM
  rw [map_first]
  simp only
  have hch : chM mapD stMap = .ok stMap := by
    unfold chM
    rw [if_neg (by decide)]
  rw [hch]
  simp only
  rw [if_pos]
  constructor
  · simp [outerM, stMap, Off]
  · simp [allM, stMap, Off]
end Go.Proofs.YtjpdfchdgphdoaaGreatDoor.Oct
