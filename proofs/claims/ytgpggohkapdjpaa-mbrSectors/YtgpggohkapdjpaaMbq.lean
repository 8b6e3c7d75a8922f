/- The statements' own disks: sectors with entries laid on noughts. -/
import Derived.Test.YtgpggohkapdjpaaMbp
import Derived.Test.YtgpggohkapdjpaaLst
namespace Go.Proofs.Ytgpggohkapdjpaa.Oct
open Go.RowKit

/-- Entries that are laid on a disk: at a sector; their first bytes. -/
structure LD where
  at_ : Int
  a : Option Addr
  L : List M3
  c : Nat
  ma : Option Addr
  mb : List Int
  mc : Nat

def LD.z : LD := ⟨0, none, [], 0, none, [], 0⟩

/-- Such rows lie from the address on. -/
def LiesL (w : World) (p : Option Addr) (X : List LD) : Prop :=
  X = [] ∨ ∃ b off, p = some ⟨b, off, none⟩ ∧ b < w.heap.size ∧ ∀ k, k < X.length →
    (w.cell? ⟨b, off + k * 3, none⟩ = some (.int .i64 (X.getD k LD.z).at_) ∧ w.cell? ⟨b, off + k * 3 + 1, none⟩ = some (.slice (X.getD k LD.z).a (X.getD k LD.z).L.length (X.getD k LD.z).c) ∧ w.cell? ⟨b, off + k * 3 + 2, none⟩ = some (.slice (X.getD k LD.z).ma (X.getD k LD.z).mb.length (X.getD k LD.z).mc)) ∧
    LiesM w (X.getD k LD.z).a (X.getD k LD.z).L ∧ Lies w (X.getD k LD.z).ma (X.getD k LD.z).mb

theorem LiesL.below {w w' : World} {p : Option Addr} {X : List LD} (h : LiesL w p X) (hb : Below w.heap.size w w') : LiesL w' p X := by
  rcases h with rfl | ⟨b, off, rfl, hlt, hc⟩
  · exact Or.inl rfl
  · exact Or.inr ⟨b, off, rfl, Nat.lt_of_lt_of_le hlt hb.size, fun k hk => ⟨⟨(hb.cell (p := ⟨b, off + k * 3, none⟩) hlt).trans (hc k hk).1.1, (hb.cell (p := ⟨b, off + k * 3 + 1, none⟩) hlt).trans (hc k hk).1.2.1, (hb.cell (p := ⟨b, off + k * 3 + 2, none⟩) hlt).trans (hc k hk).1.2.2⟩, (hc k hk).2.1.below hb, (hc k hk).2.2.below hb⟩⟩

def p64 : Int := 18446744073709551616

/-- An entry's bytes. -/
def rowD (x : M3) (m : Int) : List Int := (([m, 0, 0, 0] ++ [x.1 % 256, 0, 0, 0]) ++ bytesOf (x.2.1 % p64) 4) ++ bytesOf (x.2.2 % p64) 4

theorem rowD_len (x : M3) (m : Int) : (rowD x m).length = 16 := by simp [rowD, bytesOf_length]

/-- The first k entries are laid from a place on. -/
def layD (D : List Int) (t : Nat) (L : List M3) (mk : List Int) : Nat → List Int
  | 0 => D
  | k + 1 => over (layD D t L mk k) (t + 446 + 16 * k) (rowD (L.getD k zm3) (mk.getD k 0))

/-- A sector is laid. -/
def layS (D : List Int) (n : Nat) (x : LD) : List Int :=
  over (layD D (512 * (x.at_ % p64 % n).toNat) x.L x.mb (min 4 x.L.length)) (512 * (x.at_ % p64 % n).toNat + 510) [85, 170]

/-- The disk behind the first k. -/
def diskD (n : Nat) (X : List LD) : Nat → List Int
  | 0 => List.replicate (512 * n) 0
  | k + 1 => layS (diskD n X k) n (X.getD k LD.z)

theorem layD_len {D : List Int} {t : Nat} {L : List M3} {mk : List Int} (h : t + 512 ≤ D.length) : ∀ k, k ≤ 4 → (layD D t L mk k).length = D.length
  | 0, _ => rfl
  | k + 1, hk => by
    have ih := layD_len (L := L) (mk := mk) h k (by omega)
    rw [layD, over_length (by rw [rowD_len, ih]; omega), ih]

theorem at_fits (x : Int) (n : Nat) (hn : 0 < n) : (x % p64 % n).toNat < n := by
  have h1 := Int.emod_nonneg (x % p64) (b := (n : Int)) (by omega)
  have h2 := Int.emod_lt_of_pos (x % p64) (b := (n : Int)) (by omega)
  omega

theorem layS_len {D : List Int} {n : Nat} {x : LD} (hn : 0 < n) (h : D.length = 512 * n) : (layS D n x).length = 512 * n := by
  have := at_fits x.at_ n hn
  unfold layS
  rw [over_length (by rw [layD_len (by omega) _ (by omega)]; simp; omega), layD_len (by omega) _ (by omega), h]

theorem diskD_len (n : Nat) (X : List LD) (hn : 0 < n) : ∀ k, (diskD n X k).length = 512 * n
  | 0 => by simp [diskD]
  | k + 1 => layS_len hn (diskD_len n X hn k)

theorem Byts.row (x : M3) (m : Int) (hm : 0 ≤ m ∧ m < 256) : Byts (rowD x m) := by
  unfold rowD
  refine Byts.append (Byts.append (Byts.append ?_ ?_) (Byts.bytesOf _ _)) (Byts.bytesOf _ _)
  · intro k
    match k with
    | 0 => simpa using hm
    | 1 => simp
    | 2 => simp
    | 3 => simp
    | k + 4 => simp
  · intro k
    match k with
    | 0 => simp; omega
    | 1 => simp
    | 2 => simp
    | 3 => simp
    | k + 4 => simp

theorem Byts.layD {D : List Int} {t : Nat} {L : List M3} {mk : List Int} (hD : Byts D) (hm : Byts mk) : ∀ k, Byts (layD D t L mk k)
  | 0 => hD
  | k + 1 => (Byts.layD hD hm k).over (Byts.row _ _ (hm k)) _

theorem Byts.diskD (n : Nat) (X : List LD) (hX : ∀ x ∈ X, Byts x.mb) : ∀ k, Byts (diskD n X k)
  | 0 => Byts.zeros _
  | k + 1 => by
    refine Byts.over (Byts.layD (Byts.diskD n X hX k) ?_ _) ?_ _
    · by_cases h : k < X.length
      · have : X.getD k LD.z = X[k] := by simp [h]
        rw [this]
        exact hX _ (List.getElem_mem _)
      · have : X.getD k LD.z = LD.z := by simp [h]
        rw [this]
        intro j
        simp [LD.z]
    · intro j
      match j with
      | 0 => simp
      | 1 => simp
      | j + 2 => simp
end Go.Proofs.Ytgpggohkapdjpaa.Oct
