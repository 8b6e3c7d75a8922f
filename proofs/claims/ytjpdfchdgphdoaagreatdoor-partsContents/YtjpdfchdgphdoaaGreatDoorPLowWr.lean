/- What the calls that write numbers into bytes do, at all places: contracts of the program's functions write and Put16, Put32, Put64. -/
import Derived.Test.YtjpdfchdgphdoaaGreatDoorPRd
namespace Go.Proofs.YtjpdfchdgphdoaaGreatDoor.Oct
open Go.RowKit

theorem info5 : (Tryz.prog.info? 5).map (fun i => (i.zero, i.size, i.bytes)) = some (some (.int .u8 0), 1, 1) := by kernel_rfl
theorem size5 : (Tryz.prog.info? 5).map (·.size) = some 1 := by kernel_rfl

/-- Two lists of bytes as the same text? -/
theorem Same_any (a a' : Option Addr) (cap cap' : Nat) (l l' : List Int) (w : World) (hl : Lies w a l) (hl' : Lies w a' l') (hb : Byts l) (hb' : Byts l') :
    Calls Tryz.prog 8 #[.slice a l.length cap, .slice a' l'.length cap'] w fun e w' => e = .returned (.bool (decide (l = l'))) ∧ w' = w := by
  have h1 := run_text (P := Tryz.prog) (dst := 9) Tryz.underlying22 Tryz.underlying5 Tryz.underlying9 w a l cap hl
  have h2 := run_text (P := Tryz.prog) (dst := 9) Tryz.underlying22 Tryz.underlying5 Tryz.underlying9 w a' l' cap' hl'
  go_enter Tryz.func8, Tryz.ntmps8
  go_wp2
  go_ret
  refine ⟨?_, rfl⟩
  rw [← beq_text hb hb']
  rfl

/-- make of so many bytes. -/
theorem run_make_bytes (w : World) (n : Nat) (hn : n ≤ 140737488355328) :
    (Instr.makeSlice 22 (.int .i64 (n : Int)) (.int .i64 (n : Int))).run Tryz.prog w = .ok (.slice (some ⟨w.heap.size, 0, none⟩) n n) (w.alloc (.cells (madeCells #[.int .u8 0] n) 5)) := by
  obtain ⟨i0, hi, hz0, hz1, hz2⟩ := info_parts info5
  have h := run_make (P := Tryz.prog) w 22 5 i0 (.int .u8 0) Tryz.underlying22 hi hz0 .i64 .i64 (n : Int) (n : Int) (by omega) (Int.le_refl _) (by rw [hz2]; omega) (by omega)
  simpa [hz1, Value.cells] using h

end Go.Proofs.YtjpdfchdgphdoaaGreatDoor.Oct

namespace Go.Proofs.YtjpdfchdgphdoaaGreatDoor.Oct
open Go.RowKit

/-- Bytes with the first k bytes of a number written from place p on. -/
def putN (l : List Int) (p : Nat) (v : Int) : Nat → List Int
  | 0 => l
  | k + 1 => (putN l p v k).set (p + k) (v / 2 ^ (8 * k) % 256)

theorem putN_length (l : List Int) (p : Nat) (v : Int) : ∀ k, (putN l p v k).length = l.length
  | 0 => rfl
  | k + 1 => by simp [putN, putN_length l p v k]

theorem Byts.set {l : List Int} (h : Byts l) (j : Nat) (x : Int) (hx : 0 ≤ x ∧ x < 256) : Byts (l.set j x) := by
  intro k
  rw [List.getD_eq_getElem?_getD, List.getElem?_set]
  split
  · split
    · simpa using hx
    · simp
  · have := h k; rwa [List.getD_eq_getElem?_getD] at this

theorem Byts.putN {l : List Int} (h : Byts l) (p : Nat) (v : Int) : ∀ k, Byts (putN l p v k)
  | 0 => h
  | k + 1 => (Byts.putN h p v k).set _ _ (by omega)

theorem getD_set (l : List Int) (j k : Nat) (x : Int) (hj : j < l.length) : (l.set j x).getD k 0 = if j = k then x else l.getD k 0 := by
  rw [List.getD_eq_getElem?_getD, List.getElem?_set]
  split
  · simp
  · rw [List.getD_eq_getElem?_getD]

theorem getD_putN (l : List Int) (p : Nat) (v : Int) (i : Nat) : ∀ n, p + n ≤ l.length → (putN l p v n).getD i 0 = if p ≤ i ∧ i < p + n then v / 2 ^ (8 * (i - p)) % 256 else l.getD i 0
  | 0, _ => by rw [if_neg (by omega)]; rfl
  | n + 1, h => by
    rw [putN, getD_set _ _ _ _ (by rw [putN_length]; omega), getD_putN l p v i n (by omega)]
    by_cases h1 : p + n = i
    · subst h1
      rw [if_pos rfl, if_pos (by omega), Nat.add_sub_cancel_left]
    · rw [if_neg h1]
      by_cases h2 : p ≤ i ∧ i < p + n
      · rw [if_pos h2, if_pos (by omega)]
      · rw [if_neg h2, if_neg (by omega)]

/-- The number of bytes that are those of x, is x (as far as they go). -/
theorem num_of (m : List Int) (q : Nat) (x : Int) : ∀ k, (∀ i, i < k → m.getD (q + i) 0 = x / 2 ^ (8 * i) % 256) → num m q k = x % 256 ^ k
  | 0, _ => by simp [num, Int.emod_one]
  | k + 1, h => by
    rw [num, num_of m q x k (fun i hi => h i (by omega)), h k (by omega)]
    have e1 : (2 : Int) ^ (8 * k) = 256 ^ k := by rw [Int.pow_mul]; rfl
    rw [e1, Int.pow_succ]
    have hp : (0 : Int) < 256 ^ k := Int.pow_pos (by omega)
    generalize (256 : Int) ^ k = y at *
    have h1 : x % (y * 256) = x % y + y * (x / y % 256) := by
      have a1 := Int.emod_add_mul_ediv x (y * 256)
      have a2 := Int.emod_add_mul_ediv x y
      have a3 := Int.emod_add_mul_ediv (x / y) 256
      have a4 : x / (y * 256) = x / y / 256 := (Int.ediv_ediv_of_nonneg (by omega)).symm
      rw [a4] at a1
      have a5 : y * 256 * (x / y / 256) = y * (256 * (x / y / 256)) := by rw [Int.mul_assoc]
      rw [a5] at a1
      have a6 : y * (x / y) = y * (x / y % 256) + y * (256 * (x / y / 256)) := by rw [← Int.mul_add, a3]
      omega
    rw [h1, Int.mul_comm y]

theorem Own.cell {w : World} {B g n cap : Nat} {l : List Int} (h : Own w B (.slice (some ⟨g, 0, none⟩) n cap) l) (hn : n = l.length) (j : Nat) (hj : j < n) :
    w.cell? ⟨g, j, none⟩ = some (.int .u8 (l.getD j 0)) := by
  subst hn
  have := h.lies j hj
  rwa [Nat.zero_add] at this

theorem Own.free {w : World} {B g n cap : Nat} {l : List Int} (h : Own w B (.slice (some ⟨g, 0, none⟩) n cap) l) (hn : n = l.length) (j : Nat) : w.frozen? ⟨g, j, none⟩ = false := by
  subst hn
  exact World.ownsRow.frozenAt h j

theorem Own.set {w : World} {B g n cap : Nat} {l : List Int} (h : Own w B (.slice (some ⟨g, 0, none⟩) n cap) l) (hn : n = l.length) (j : Nat) (x : Int) :
    Own (w.setCell ⟨g, j, none⟩ (.int .u8 x)) B (.slice (some ⟨g, 0, none⟩) n cap) (l.set j x) ∧ w.grownBy (w.setCell ⟨g, j, none⟩ (.int .u8 x)) (some g) := by
  subst hn
  have := h.stored j x
  rwa [List.length_set] at this

theorem grown_trans {a b c : World} {row : Option Nat} (h : a.grownBy b row) (k : b.grownBy c row) : a.grownBy c row :=
  ⟨k.os.trans h.os, k.tape.trans h.tape, k.output.trans h.output, Nat.le_trans h.size k.size, fun i hi hr => (k.block i (Nat.lt_of_lt_of_le hi h.size) hr).trans (h.block i hi hr)⟩

end Go.Proofs.YtjpdfchdgphdoaaGreatDoor.Oct
