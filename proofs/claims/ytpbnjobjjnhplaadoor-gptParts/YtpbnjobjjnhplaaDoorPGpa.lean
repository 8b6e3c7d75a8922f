/- A table of entries, as lists: what it says, whether it is one. No program in it. -/
import Derived.Test.YtpbnjobjjnhplaaDoorPNumMem
namespace Go.Proofs.YtpbnjobjjnhplaaDoor.Oct
open Go.RowKit

/-- An entry: who it is, its first and its last sector, the rest. -/
structure E4 where
  ids : List Int
  fi : Int
  la : Int
  rest : List Int
deriving DecidableEq

def E4.z : E4 := ⟨List.replicate 32 0, 0, 0, List.replicate 80 0⟩

/-- As long as an entry's parts are. -/
def E4.ok (x : E4) : Prop := x.ids.length = 32 ∧ x.rest.length = 80

/-- Its cells. -/
def E4.cells (x : E4) : List Value := x.ids.map (Value.int .u8) ++ ([.int .i64 x.fi, .int .i64 x.la] ++ x.rest.map (Value.int .u8))

theorem E4.cells_len {x : E4} (h : x.ok) : x.cells.length = 114 := by
  unfold E4.cells
  simp [h.1, h.2]

/-- A table. -/
structure Tb where
  sec : Int
  fst : Int
  lst : Int
  id : List Int
  L : List E4
  at_ : Int
  beh : Int

/-- Its cells; the slice of its entries is v. -/
def Tb.cells (t : Tb) (v : Value) : List Value := [.int .i64 t.sec, .int .i64 t.fst, .int .i64 t.lst] ++ (t.id.map (Value.int .u8) ++ [v, .int .i64 t.at_, .int .i64 t.beh])

/-- Is it no partition's? -/
def E4.none (x : E4) : Bool := decide (x.ids.take 16 = List.replicate 16 0)

/-- How many sectors so many entries take. -/
def rowsG (n : Nat) : Int := ((n : Int) * 128 + 511) / 512

/-- May the table have this entry? -/
def Tb.chkE (t : Tb) (x : E4) : Int :=
  if x.none = true then (if x = E4.z then 0 else 11) else if t.fst ≤ x.fi ∧ x.la ≤ t.lst ∧ x.fi ≤ x.la then 0 else 4

/-- The first entry that it may not have. -/
def Tb.chkL (t : Tb) : List E4 → Int
  | [] => 0
  | x :: l => if t.chkE x = 0 then t.chkL l else t.chkE x

/-- Do the entries, the partitions' sectors and the entries' copy stand one behind the other, between the headers? -/
def Tb.placed (t : Tb) : Prop :=
  (2 ≤ t.at_ ∧ t.at_ ≤ t.sec - 1 - rowsG t.L.length) ∧ (t.at_ + rowsG t.L.length ≤ t.fst ∧ t.fst ≤ t.sec - 1) ∧ t.fst - 1 ≤ t.lst ∧ t.lst < t.beh ∧ t.beh ≤ t.sec - 1 - rowsG t.L.length

instance (t : Tb) : Decidable t.placed := by unfold Tb.placed; infer_instance

/-- Its partitions: first and last sector, and which entry it is. -/
def partsG : List E4 → Nat → List (Int × Int × Nat)
  | [], _ => []
  | x :: l, k => if x.none = true then partsG l (k + 1) else (x.fi, x.la, k) :: partsG l (k + 1)

theorem partsG_snoc (x : E4) : ∀ (l : List E4) (k : Nat), partsG (l ++ [x]) k = partsG l k ++ (if x.none = true then [] else [(x.fi, x.la, k + l.length)])
  | [], k => by
    simp only [List.nil_append, partsG, List.length_nil, Nat.add_zero]
  | y :: l, k => by
    have h := partsG_snoc x l (k + 1)
    rw [show k + 1 + l.length = k + (l.length + 1) by omega] at h
    simp only [List.cons_append, partsG, List.length_cons]
    split
    · rw [h]
    · rw [h]
      rfl

theorem partsG_len : ∀ (l : List E4) (k : Nat), (partsG l k).length ≤ l.length
  | [], _ => by simp [partsG]
  | x :: l, k => by
    have := partsG_len l (k + 1)
    unfold partsG
    split <;> simp <;> omega

/-- All of them are within the table's bounds, where no entry is wrong. -/
theorem partsG_in (t : Tb) : ∀ (l : List E4) (k : Nat), t.chkL l = 0 → ∀ p ∈ partsG l k, t.fst ≤ p.1 ∧ p.2.1 ≤ t.lst ∧ p.1 ≤ p.2.1
  | [], _, _, p, hp => by simp [partsG] at hp
  | x :: l, k, h, p, hp => by
    unfold Tb.chkL at h
    by_cases hx : t.chkE x = 0
    · rw [if_pos hx] at h
      unfold partsG at hp
      split at hp
      · exact partsG_in t l (k + 1) h p hp
      · rename_i hn
        rcases List.mem_cons.1 hp with rfl | hp
        · unfold Tb.chkE at hx
          rw [if_neg hn] at hx
          split at hx
          · assumption
          · exact absurd hx (by decide)
        · exact partsG_in t l (k + 1) h p hp
    · rw [if_neg hx] at h
      exact absurd h hx

/-- A partition's bytes. -/
def spanG (p : Int × Int × Nat) : Int × Int := (p.1 * 512, (p.2.1 + 1) * 512)
end Go.Proofs.YtpbnjobjjnhplaaDoor.Oct
