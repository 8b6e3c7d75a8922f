/- Is the lowest cluster given out? -/
import Derived.Test.YtibkhgmmjhlpmaaGreatPRfiRfjRfk
import Derived.Test.YtibkhgmmjhlpmaaGreatPRfnRfw
import Derived.Test.YtibkhgmmjhlpmaaGreatPRdLowWrLst
namespace Go.Proofs.YtibkhgmmjhlpmaaGreat.Oct
open Go.RowKit Go.Deep

def Bx8 (u : World) (P H : Nat) : Prop := u.heap[P]? = some (.cells #[.int .i64 9, .int .i64 32768, .int .i64 (H : Int), .int .i64 29, .bool false] 25 (0, 0))
theorem Bx8.lt {u : World} {P H : Nat} (h : Bx8 u P H) : P < u.heap.size := (Array.getElem?_eq_some_iff.1 h).1
theorem Bx8.below {u u' : World} {P H : Nat} (h : Bx8 u P H) (hb : Below u.heap.size u u') : Bx8 u' P H := (hb.block P h.lt).trans h
theorem Bx8.drew {u : World} {P H : Nat} (h : Bx8 u P H) : Bx8 u.drew P H := h
theorem Bx8.cell {u : World} {P H : Nat} (h : Bx8 u P H) : u.cell? ⟨P, 0, none⟩ = some (.int .i64 9) ∧ u.cell? ⟨P, 1, none⟩ = some (.int .i64 32768) ∧ u.cell? ⟨P, 2, none⟩ = some (.int .i64 (H : Int)) ∧ u.cell? ⟨P, 3, none⟩ = some (.int .i64 29) ∧ u.cell? ⟨P, 4, none⟩ = some (.bool false) := by
  unfold Bx8 at h
  simp [World.cell?, h]
theorem Bx8.grown {u u' : World} {P H g : Nat} (h : Bx8 u P H) (hg : u.grownBy u' (some g)) (hne : g ≠ P) : Bx8 u' P H := (hg.block P h.lt (by simpa using fun e => hne e.symm)).trans h

theorem journal9 (H : Nat) (w : World) : Calls Tryz.prog 26 #[.agg #[.int .i64 9, .int .i64 32768, .int .i64 (H : Int), .int .i64 29, .bool false]] w fun e w' => e = .returned (.agg #[.int .i64 512, .int .i64 15360]) ∧ Below w.heap.size w w' := by
  refine (JournalAt_any 9 32768 H 29 false w).mono ?_
  rintro e9 w2 ⟨rfl, hb⟩
  have e1 : Hd.at_ ⟨9, 32768, (H : Int), 29, false⟩ 1 * clN 9 = 512 := by simp [Hd.at_, clN]
  have e2 : Hd.at_ ⟨9, 32768, (H : Int), 29, false⟩ 2 * clN 9 = 15360 := by simp [Hd.at_, Hd.jour, clN, cutN]
  rw [e1, e2]
  exact ⟨rfl, hb⟩

/-- The bytes with the first k counts. -/
def Cts (l : List Int) (k : Nat) : Prop := ∀ x, l.getD x 0 = if 15360 ≤ x ∧ x < 15360 + 2 * k ∧ x % 2 = 0 then 1 else 0

theorem Cts.more {l : List Int} {k : Nat} (h : Cts l k) (hl : 15360 + 2 * k < l.length) : Cts (l.set (15360 + 2 * k) 1) (k + 1) := by
  intro x
  rw [getD_set _ _ _ _ hl]
  by_cases hx : x = 15360 + 2 * k
  · subst hx
    rw [if_pos (by first | rfl | trivial | omega), if_pos (by omega)]
  · rw [if_neg (by omega), h x]
    by_cases hc : 15360 ≤ x ∧ x < 15360 + 2 * k ∧ x % 2 = 0
    · rw [if_pos hc, if_pos (by omega)]
    · rw [if_neg hc, if_neg (by omega)]
end Go.Proofs.YtibkhgmmjhlpmaaGreat.Oct

namespace Go.Proofs.YtibkhgmmjhlpmaaGreat.Oct
open Go.RowKit Go.Deep

theorem loR_first (c : Nat → Int) (n0 : Nat) (h0 : c n0 = 0) (h33 : 33 ≤ n0) (hm : ∀ m, 33 ≤ m → m < n0 → c m ≠ 0) : ∀ k : Nat, loR c k = if k ≤ n0 then -1 else (n0 : Int)
  | 0 => by rw [if_pos (by omega)]; rfl
  | k + 1 => by
    rw [loR, loR_first c n0 h0 h33 hm k]
    by_cases h1 : k < n0
    · rw [if_pos (show k ≤ n0 by omega), if_pos (show k + 1 ≤ n0 by omega), if_neg]
      rintro ⟨a, b, _⟩
      exact hm k b h1 a
    · by_cases h2 : k = n0
      · subst h2
        rw [if_pos (Nat.le_refl _), if_neg (show ¬ k + 1 ≤ k by omega), if_pos ⟨h0, h33, rfl⟩]
      · rw [if_neg (show ¬ k ≤ n0 by omega), if_neg (show ¬ k + 1 ≤ n0 by omega), if_neg]
        rintro ⟨_, _, a⟩
        omega

theorem see_set {S : List Int} {B M B' M' : Int → List Int} {n : Nat} {v : Int} (h : SetR B M B' M' n v) (x : Nat) : seeT S B' M' x = if 15360 + 2 * n ≤ x ∧ x < 15360 + 2 * n + 2 then v / 2 ^ (8 * (x - (15360 + 2 * n))) % 256 else seeT S B M x := by
  unfold seeT
  rw [h]

theorem cnt_set {S : List Int} {B M B' M' : Int → List Int} {n : Nat} {v : Int} (h : SetR B M B' M' n v) (hv : 0 ≤ v ∧ v ≤ 65535) (m : Nat) : cntR S B' M' m = if m = n then v else cntR S B M m := by
  unfold cntR
  rw [see_set h, see_set h]
  by_cases hm : m = n
  · subst hm
    rw [if_pos (by omega), if_pos (by omega), if_pos rfl, show 15360 + 2 * m - (15360 + 2 * m) = 0 by omega, show 15360 + 2 * m + 1 - (15360 + 2 * m) = 1 by omega]
    simp
    omega
  · rw [if_neg (by omega), if_neg (by omega), if_neg hm]

theorem see_by {S : List Int} {B M B' M' : Int → List Int} {n : Nat} {v : Int} (h : SetR B M B' M' n v) (hb : ∀ x, 0 ≤ seeT S B M x ∧ seeT S B M x < 256) (x : Nat) : 0 ≤ seeT S B' M' x ∧ seeT S B' M' x < 256 := by
  rw [see_set h]
  split
  · omega
  · exact hb x

theorem see_zero (S : List Int) (x : Nat) : seeT S (fun _ => Z5) (fun _ => Z5) x = S.getD x 0 := by
  have h5 : ∀ i, Z5.getD i 0 = 0 := fun i => by
    unfold Z5
    rw [List.getD_eq_getElem?_getD, List.getElem?_replicate]
    split <;> rfl
  unfold seeT valT
  rw [h5, if_pos rfl]

theorem cts_cnt {S : List Int} (h : Cts S 33) (n : Nat) : cntR S (fun _ => Z5) (fun _ => Z5) n = if n < 33 then 1 else 0 := by
  unfold cntR
  rw [see_zero, see_zero, h, h, if_neg (show ¬ (15360 ≤ 15360 + 2 * n + 1 ∧ 15360 + 2 * n + 1 < 15360 + 2 * 33 ∧ (15360 + 2 * n + 1) % 2 = 0) by omega)]
  by_cases hn : n < 33
  · rw [if_pos (by omega), if_pos hn]; rfl
  · rw [if_neg (by omega), if_neg hn]; rfl

theorem cts_by {S : List Int} (h : Cts S 33) (x : Nat) : 0 ≤ seeT S (fun _ => Z5) (fun _ => Z5) x ∧ seeT S (fun _ => Z5) (fun _ => Z5) x < 256 := by
  rw [see_zero, h]
  split <;> omega

theorem check40 : Hd.check ⟨9, 32768, 40, 29, false⟩ = 0 := by decide
end Go.Proofs.YtibkhgmmjhlpmaaGreat.Oct
