/- The parts of the one form are gone through: the iterator. -/
import Derived.Test.YtpbnjobjjnhplaaDoorPNor
import Derived.RangeFuncNested
import Derived.RangeFuncBound
import Derived.RangeFuncCalls
import Derived.RangeFuncLeaves
import Derived.RangeFuncBox
import Derived.Shelf.Abstract
import Derived.Shelf.AbstractIn
import Derived.OwnWalkIn
import Derived.TacticsInMore
import Derived.LoopNIn
import Derived.LoopIn
namespace Go.Proofs.YtpbnjobjjnhplaaDoor.Oct
open Go.RowKit

theorem InE.of_at {L : List (Int × Int)} {k : Nat} {x : Int} (hk : k < L.length) (h1 : (L.getD k (0, 0)).1 ≤ x) (h2 : x < (L.getD k (0, 0)).2) : InE L x := by
  refine ⟨L.getD k (0, 0), ?_, h1, h2⟩
  have e : L.getD k (0, 0) = L[k] := by simp [hk]
  rw [e]
  exact List.getElem_mem hk

set_option maxHeartbeats 2000000 in
set_option maxRecDepth 100000 in
theorem refhas_any (w : World) (a : Option Addr) (c : Nat) (L : List (Int × Int)) (x : Int) (h : LiesE w a L) (hl : L.length ≤ 1000000) :
    Calls Tryd.prog 66 #[.slice a L.length c, .int .i64 x] w fun e w' => ∃ b, e = .returned (.bool b) ∧ (b = true ↔ InE L x) ∧ w' = w := by
  have HL := hide h
  clear h
  go_enter Tryd.func66, Tryd.ntmps66
  go_wp2_with fail
  go_loopw [5] (fun i wr => ∃ k : Nat, k ≤ L.length ∧ i = .int .i64 k ∧ (∀ r, r < k → ¬ ((L.getD r (0, 0)).1 ≤ x ∧ x < (L.getD r (0, 0)).2)) ∧ wr = w) (fun i _ => L.length - (intOf i).toNat)
  case atStart => exact ⟨0, by omega, by simp, fun r hr => by omega, rfl⟩
  case round =>
    obtain ⟨k, hk, rfl, hall, rfl⟩ := hrel
    have HAll := hide hall
    clear hall
    by_cases hlt : k < L.length
    · rcases HL.out with hnil | ⟨b, off, ha, hb, hc⟩
      · rw [hnil] at hlt; simp at hlt
      subst ha
      obtain ⟨c0, c1⟩ := hc k hlt
      have hk0 : (0 : Int) ≤ (k : Int) := by omega
      have hk1 : (k : Int) < (L.length : Int) := by omega
      have HI := hide (fun h1 h2 => InE.of_at (L := L) (x := x) hlt h1 h2)
      obtain ⟨o, ho⟩ : ∃ o, o = L.getD k (0, 0) := ⟨_, rfl⟩
      rw [← ho] at c0 c1 HI
      have HOk := hide ho
      clear hc ho
      obtain ⟨o1, o2⟩ := o
      dsimp only at c0 c1 HI
      have HNo : Hid (¬ (o1 ≤ x ∧ x < o2) → ∀ r, r < k + 1 → ¬ ((L.getD r (0, 0)).1 ≤ x ∧ x < (L.getD r (0, 0)).2)) := hide (fun hno r hr => by
        rcases Nat.lt_or_ge r k with hr2 | hr2
        · exact HAll.out r hr2
        · obtain rfl : r = k := by omega
          rw [← HOk.out]
          exact hno)
      by_cases h1 : o1 ≤ x
      · by_cases h2 : x < o2
        · go_wp2_with fail
          go_ret
          exact ⟨true, rfl, ⟨fun _ => HI.out h1 h2, fun _ => rfl⟩, rfl⟩
        · go_wp2_with fail
          go_roundw
          case rel => exact ⟨k + 1, by omega, by go_num, HNo.out (by omega), trivial⟩
          case measure => simp [intOf]; omega
      · go_wp2_with fail
        go_roundw
        case rel => exact ⟨k + 1, by omega, by go_num, HNo.out (by omega), trivial⟩
        case measure => simp [intOf]; omega
    · obtain rfl : k = L.length := by omega
      go_wp2_with fail
      go_ret
      refine ⟨false, rfl, ⟨fun h => (by cases h), fun ⟨p, hp, h1, h2⟩ => ?_⟩, rfl⟩
      obtain ⟨i, hi, rfl⟩ := List.getElem_of_mem hp
      exact absurd (show (L.getD i (0, 0)).1 ≤ x ∧ x < (L.getD i (0, 0)).2 by simp [hi]; exact ⟨h1, h2⟩) (HAll.out i hi)

end Go.Proofs.YtpbnjobjjnhplaaDoor.Oct

namespace Go.Proofs.YtpbnjobjjnhplaaDoor.Oct
open Go.RowKit Go.Shelf

attribute [local go_sem] Oper.semAt_some

/-- The first so many, numbered. -/
def upto (N : List (Int × Int)) (k : Nat) : List (Nat × (Int × Int)) := (List.range k).map (fun j => (j, N.getD j (0, 0)))

theorem upto_succ (N : List (Int × Int)) (k : Nat) : upto N (k + 1) = upto N k ++ [(k, N.getD k (0, 0))] := by simp [upto, List.range_succ]
theorem upto_length (N : List (Int × Int)) (k : Nat) : (upto N k).length = k := by simp [upto]

/-- A block is kept. -/
def KeepB (g : Nat) (A B : World) : Prop := A.heap.size ≤ B.heap.size ∧ B.heap[g]? = A.heap[g]?

theorem KeepB.refl (g : Nat) (A : World) : KeepB g A A := ⟨Nat.le_refl _, rfl⟩
theorem KeepB.trans {g : Nat} {A B C : World} (h : KeepB g A B) (k : KeepB g B C) : KeepB g A C := ⟨Nat.le_trans h.1 k.1, k.2.trans h.2⟩
theorem KeepB.of_below {g n : Nat} {A B : World} (h : Below n A B) (hg : g < n) : KeepB g A B := ⟨h.size, h.block g hg⟩
theorem KeepB.cell {g o : Nat} {A B : World} (h : KeepB g A B) : B.cell? ⟨g, o, none⟩ = A.cell? ⟨g, o, none⟩ := World.cell?_of_block (a := ⟨g, o, none⟩) h.2
theorem KeepB.alloc {g : Nat} {A B : World} (h : KeepB g A B) (hg : g < A.heap.size) (o : Obj) : KeepB g A (B.alloc o) := by
  have h1 : Below B.heap.size B (B.alloc o) := (Below.refl _ _).alloc (Nat.le_refl _) _
  exact h.trans ⟨h1.size, h1.block g (Nat.lt_of_lt_of_le hg h.1)⟩

/-- Parts that lie in a block. -/
def LiesG (W : World) (a : Option Addr) (g : Nat) (N : List (Int × Int)) : Prop :=
  N = [] ∨ ∃ off, a = some ⟨g, off, none⟩ ∧ g < W.heap.size ∧ ∀ k, k < N.length → W.cell? ⟨g, off + k * 2, none⟩ = some (.int .i64 (N.getD k (0, 0)).1) ∧ W.cell? ⟨g, off + k * 2 + 1, none⟩ = some (.int .i64 (N.getD k (0, 0)).2)

theorem LiesG.keep {g : Nat} {A B : World} (h : KeepB g A B) {a : Option Addr} {N : List (Int × Int)} (hl : LiesG A a g N) : LiesG B a g N := by
  rcases hl with rfl | ⟨off, rfl, hlt, hc⟩
  · exact Or.inl rfl
  · exact Or.inr ⟨off, rfl, Nat.lt_of_lt_of_le hlt h.1, fun k hk => ⟨h.cell.trans (hc k hk).1, h.cell.trans (hc k hk).2⟩⟩

def encP (x : Nat × (Int × Int)) : Array Value := #[.int .i64 (x.1 : Int), .agg #[.int .i64 x.2.1, .int .i64 x.2.2]]

/-- What All hands back: an iterator over the one form, which lies in a block of its own. -/
structure Gone (w w' : World) (L : List (Int × Int)) (Bs g : Nat) (a : Option Addr) (c : Nat) (N : List (Int × Int)) : Prop where
  box : w'.cell? ⟨Bs, 0, none⟩ = some (.slice a N.length c)
  lies : LiesG w' a g N
  norm : Normed L N
  bs : w.heap.size ≤ Bs ∧ Bs < w'.heap.size
  gs : w.heap.size ≤ g ∧ g < w'.heap.size
  below : Below w.heap.size w w'

end Go.Proofs.YtpbnjobjjnhplaaDoor.Oct
