/- Rows of bools; the bits of bytes as bools. -/
import Derived.Test.YtjmajjfknmjifaaDoorEyt
namespace Go.Proofs.YtjmajjfknmjifaaDoor.Oct
open Go.RowKit

/-- Bools in a row of the call's own. -/
def OwnO (w : World) (B g n : Nat) (l : List Bool) : Prop := l.length = n ∧ w.ownsRow B 4 1 (.slice (some ⟨g, 0, none⟩) n n) n (l.map Value.bool)

theorem OwnO.made (w : World) (n : Nat) (hn : n ≤ maxLen) : OwnO (w.alloc (.cells (madeCells #[.bool false] n) 4)) w.heap.size w.heap.size n (List.replicate n false) := by
  have h := World.ownsRow_lit (base := w.heap.size) (e := 4) (size := 1) w (madeCells #[.bool false] n) n (Nat.le_refl _) hn (by rw [size_madeCells]; omega)
  rw [toList_madeCells_one] at h
  exact ⟨by simp, by simpa using h⟩

theorem OwnO.cell {w : World} {B g n : Nat} {l : List Bool} (h : OwnO w B g n l) (k : Nat) (hk : k < n) : w.cell? ⟨g, k, none⟩ = some (.bool (l.getD k false)) := by
  have hl : k < l.length := by rw [h.1]; exact hk
  have := h.2.cells (g := g) rfl k (.bool (l.getD k false)) (by simp [hl])
  rw [Go.WideShapes.add_plain, Nat.zero_add] at this
  exact this

theorem OwnO.free {w : World} {B g n : Nat} {l : List Bool} (h : OwnO w B g n l) (j : Nat) : w.frozen? ⟨g, j, none⟩ = false := World.ownsRow.frozenAt h.2 j

theorem OwnO.set {w : World} {B g n : Nat} {l : List Bool} (h : OwnO w B g n l) (j : Nat) (x : Bool) : OwnO (w.setCell ⟨g, j, none⟩ (.bool x)) B g n (l.set j x) ∧ w.grownBy (w.setCell ⟨g, j, none⟩ (.bool x)) (some g) := by
  have := h.2.stored j (.bool x)
  refine ⟨⟨by rw [List.length_set]; exact h.1, ?_⟩, this.2⟩
  rw [List.map_set]
  exact this.1

theorem OwnO.keep {w w' : World} {B g n : Nat} {l : List Bool} (h : OwnO w B g n l) {X : Nat → Prop} (hg : Chg X w w') (hne : ¬ X g) : OwnO w' B g n l :=
  ⟨h.1, ownsRow_chg h.2 hg (fun k hk e => hne (by cases hk; exact e))⟩

/-- The bits of bytes; the first so many of them. -/
def bitsL (B : List Int) (j : Nat) : List Bool := (List.range (8 * B.length)).map fun k => decide (k < j) && hasB B (k : Int)

theorem bitsL_len (B : List Int) (j : Nat) : (bitsL B j).length = 8 * B.length := by simp [bitsL]
theorem bitsL_zero (B : List Int) : bitsL B 0 = List.replicate (8 * B.length) false := by
  apply List.ext_getElem?
  intro k
  unfold bitsL
  by_cases hk : k < 8 * B.length
  · rw [List.getElem?_map, List.getElem?_range hk]
    simp [hk]
  · simp [hk]
theorem bitsL_get (B : List Int) (j k : Nat) (hk : k < 8 * B.length) : (bitsL B j).getD k false = (decide (k < j) && hasB B (k : Int)) := by
  unfold bitsL
  rw [List.getD_eq_getElem?_getD, List.getElem?_map, List.getElem?_range hk]
  rfl
theorem bitsL_next (B : List Int) (j : Nat) : bitsL B (j + 1) = (bitsL B j).set j (hasB B (j : Int)) := by
  apply List.ext_getElem?
  intro k
  rw [List.getElem?_set]
  unfold bitsL
  by_cases hk : k < 8 * B.length
  · by_cases e : j = k
    · subst e
      rw [if_pos rfl, if_pos (by simpa using hk), List.getElem?_map, List.getElem?_range hk]
      simp
    · rw [if_neg e, List.getElem?_map, List.getElem?_map, List.getElem?_range hk]
      simp only [Option.map_some]
      by_cases h1 : k < j
      · simp [h1, show k < j + 1 by omega]
      · simp [h1, show ¬ k < j + 1 by omega]
  · have h0 : (List.range (8 * B.length))[k]? = none := by simp; omega
    rw [List.getElem?_map, List.getElem?_map, h0]
    by_cases e : j = k
    · subst e
      rw [if_pos rfl, if_neg (by simpa using hk)]
      rfl
    · rw [if_neg e]
      rfl
theorem bitsL_set {B : List Int} (h : Byts B) (i : Nat) (on : Bool) (hi : i < 8 * B.length) : bitsL (setB B (i : Int) on) (8 * B.length) = (bitsL B (8 * B.length)).set i on := by
  apply List.ext_getElem?
  intro k
  rw [List.getElem?_set]
  unfold bitsL
  rw [setB_len]
  by_cases hk : k < 8 * B.length
  · rw [List.getElem?_map, List.getElem?_map, List.getElem?_range hk]
    simp only [Option.map_some]
    rw [hasB_set h (i : Int) on (k : Int) (by omega)]
    by_cases e : i = k
    · subst e
      rw [if_pos rfl, if_pos (by simp)]
      simp [hk]
    · rw [if_neg e, if_neg (by omega)]
  · have h0 : (List.range (8 * B.length))[k]? = none := by simp; omega
    rw [List.getElem?_map, List.getElem?_map, h0]
    by_cases e : i = k
    · subst e
      exact absurd hi hk
    · rw [if_neg e]
      rfl

/-- What a row of all the bits gives the document's Bits. -/
theorem OwnO.bits {w : World} {K g n : Nat} {B : List Int} (h : OwnO w K g n (bitsL B (8 * B.length))) (i : Nat) (hi : i < 8 * B.length) : w.cell? ⟨g, 0 + i, none⟩ = some (.bool (hasB B (i : Int))) := by
  rw [Nat.zero_add, h.cell i (by rw [← h.1, bitsL_len]; exact hi), bitsL_get _ _ _ hi]
  simp [hi]
end Go.Proofs.YtjmajjfknmjifaaDoor.Oct
