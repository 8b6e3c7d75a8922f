/- All records out of bytes. -/
import Derived.Test.YtiokjlckngkhnaaGreatPAppChg
import Derived.Test.YtiokjlckngkhnaaGreatChecked
import Derived.Laws.ResultCell
import Derived.Laws.Rows
import Derived.Test.YtiokjlckngkhnaaGreatPJpmJraJrb
import Derived.Test.YtiokjlckngkhnaaGreatPRdLowWr
import Derived.Test.YtiokjlckngkhnaaGreatPLstTxbTak
import Derived.Maps.AppendAt
import Derived.Laws.OwnMore
namespace Go.Proofs.YtiokjlckngkhnaaGreat.Oct
open Go.RowKit

/-- A block's cells. -/
def Blk (u : World) (R : Nat) (cs : Array Value) (t : TypeId) : Prop := u.heap[R]? = some (.cells cs t (0, 0))
theorem Blk.lt {u : World} {R : Nat} {cs : Array Value} {t : TypeId} (h : Blk u R cs t) : R < u.heap.size := (Array.getElem?_eq_some_iff.1 h).1
theorem Blk.below {u u' : World} {R : Nat} {cs : Array Value} {t : TypeId} (h : Blk u R cs t) (hb : Below u.heap.size u u') : Blk u' R cs t := (hb.block R h.lt).trans h
theorem Blk.chg {X : Nat → Prop} {u u' : World} {R : Nat} {cs : Array Value} {t : TypeId} (h : Blk u R cs t) (hb : Chg X u u') (hx : ¬ X R) : Blk u' R cs t := (hb.block R h.lt hx).trans h
theorem Blk.drew {u : World} {R : Nat} {cs : Array Value} {t : TypeId} (h : Blk u R cs t) : Blk u.drew R cs t := h
theorem Blk.cell {u : World} {R : Nat} {cs : Array Value} {t : TypeId} (h : Blk u R cs t) (i : Nat) (v : Value) (hv : cs[i]? = some v) : u.cell? ⟨R, i, none⟩ = some v := by
  unfold Blk at h
  simp [World.cell?, h, hv]
theorem Blk.frozen {u : World} {R : Nat} {cs : Array Value} {t : TypeId} (h : Blk u R cs t) (i : Nat) : u.frozen? ⟨R, i, none⟩ = false := by
  unfold Blk at h
  simp [World.frozen?, h]
theorem Blk.set {u : World} {R : Nat} {cs : Array Value} {t : TypeId} (h : Blk u R cs t) (i : Nat) (v : Value) : Blk (u.setCell ⟨R, i, none⟩ v) R (cs.setIfInBounds i v) t := by
  unfold Blk at *
  simp [World.setCell, Array.getElem?_modify, h]
theorem Blk.other {u : World} {R R' : Nat} {cs : Array Value} {t : TypeId} (h : Blk u R cs t) (hne : R ≠ R') (i : Nat) (v : Value) : Blk (u.setCell ⟨R', i, none⟩ v) R cs t := by
  unfold Blk at *
  rw [← h]
  exact Below.heap_setCell _ _ _ _ hne
theorem Blk.new (w : World) (cs : Array Value) (t : TypeId) : Blk (w.alloc (.cells cs t)) w.heap.size cs t := heap_alloc_new w _

/-- A result of a struct in a block, and a value. -/
theorem ret_agg {fn : Func} {p u : Tmp} {ty : TypeId} (hr : fn.results = #[.cell p ty, .tmp u]) (tmps : Array Value) (w : World) (R : Nat) (cs : Array Value) (z : Value)
    (hp : tmps.getD p undef = .pointer (some ⟨R, 0, none⟩)) (hz : tmps.getD u undef = z) (hl : (loadVar ty ⟨R, 0, none⟩).run Tryz.prog w = .ok (.agg cs) w) :
    (results fn tmps).run Tryz.prog w = .ok (.tuple #[.agg cs, z]) w := by
  rw [results_cell_tmp hr, hp, hz]
  simp only [asAddr, Sem.run_pure, Result.andThen_ok]
  rw [hl]
  rfl
end Go.Proofs.YtiokjlckngkhnaaGreat.Oct

namespace Go.Proofs.YtiokjlckngkhnaaGreat.Oct
open Go.RowKit Go.Deep

/-- The record at a place, if there is one. -/
def decO (l : List Int) (p : Nat) : Option RD :=
  if p + 12 ≤ l.length ∧ num l p 8 ≤ 4194304 ∧ num l (p + 8) 4 ≤ (l.length : Int) - (p + 12) then some (num l p 8, (l.drop (p + 12)).take (num l (p + 8) 4).toNat) else none
end Go.Proofs.YtiokjlckngkhnaaGreat.Oct

namespace Go.Proofs.YtiokjlckngkhnaaGreat.Oct
open Go.RowKit Go.Deep

def JR.cells (r : JR) : List Value := [.int .i64 r.at_, .slice r.a r.b.length r.cap]

/-- A record's bytes lie in a block of their own. -/
def FarJ (w : World) (B : Nat) (v : Value) (r : JR) : Prop := Sl w r.a r.cap r.b ∧ (r.b ≠ [] → ∃ g, r.a = some ⟨g, 0, none⟩ ∧ B ≤ g ∧ g < w.heap.size ∧ v.ownBlock ≠ some g)

/-- A row of records of the call's own. -/
structure OwnK (w : World) (B : Nat) (v : Value) (R : List JR) : Prop where
  row : w.ownsRow B 100 2 v R.length (R.flatMap JR.cells)
  far : ∀ r ∈ R, FarJ w B v r

theorem OwnK.below {w w' : World} {B : Nat} {v : Value} {R : List JR} (h : OwnK w B v R) (hb : Below w.heap.size w w') : OwnK w' B v R :=
  ⟨World.ownsRow.kept (row := none) h.row ⟨hb.os, hb.tape, hb.output, hb.size, fun k hk _ => hb.block k hk⟩ (by cases v.ownBlock <;> simp),
   fun r hr => ⟨(h.far r hr).1.below hb, fun hn => by
    obtain ⟨g, h1, h2, h3, h4⟩ := (h.far r hr).2 hn
    exact ⟨g, h1, h2, Nat.lt_of_lt_of_le h3 hb.size, h4⟩⟩⟩

theorem flatK (R : List JR) (k j : Nat) (hk : k < R.length) (hj : j < 2) : (R.flatMap JR.cells)[k * 2 + j]? = (R.getD k JR.z).cells[j]? := by
  induction R generalizing k with
  | nil => simp at hk
  | cons r R ih =>
    cases k with
    | zero =>
      simp only [List.flatMap_cons, Nat.zero_mul, Nat.zero_add]
      rw [List.getElem?_append_left (by simp [JR.cells]; omega)]
      simp
    | succ k =>
      simp only [List.flatMap_cons]
      rw [List.getElem?_append_right (by simp [JR.cells]; omega)]
      have := ih k (by simpa using hk)
      simp only [List.getD_cons_succ]
      rw [← this]
      congr 1
      simp [JR.cells]
      omega

theorem OwnK.form {w : World} {B : Nat} {v : Value} {R : List JR} (h : OwnK w B v R) : ∃ a c, v = .slice a R.length c ∧ LiesJ w a R ∧ R.length ≤ c ∧ c ≤ maxLen ∧ (∀ x, a = some x → B ≤ x.block ∧ x.block < w.heap.size) := by
  have hr := h.row
  rcases hr.2 with ⟨rfl, hn⟩ | ⟨g, cap, cur, rfl, hB, hg, hnc, hcm, _⟩
  · have hR : R = [] := List.length_eq_zero_iff.1 hn
    subst hR
    exact ⟨none, 0, rfl, Or.inl rfl, by simp, by unfold maxLen; omega, fun x hx => by cases hx⟩
  · have hlt := (Array.getElem?_eq_some_iff.1 hg).1
    refine ⟨some ⟨g, 0, none⟩, cap, rfl, ?_, hnc, hcm, fun x hx => by cases hx; exact ⟨hB, hlt⟩⟩
    by_cases h0 : R = []
    · exact Or.inl h0
    refine Or.inr ⟨g, 0, rfl, hlt, fun k hk => ?_⟩
    have e : ∀ j, j < 2 → w.cell? ⟨g, 0 + k * 2 + j, none⟩ = (R.getD k JR.z).cells[j]? := by
      intro j hj
      rw [Nat.zero_add, World.ownsRow.cellAt hr _ (by omega)]
      exact flatK R k j hk hj
    refine ⟨e 0 (by omega), e 1 (by omega), (h.far _ ?_).1⟩
    have : R.getD k JR.z = R[k] := by simp [hk]
    rw [this]
    exact List.getElem_mem _

theorem info_rec : (Tryz.prog.info? 100).map (fun i => (i.zero, i.size, i.bytes)) = some (some (.agg #[.int .i64 0, .slice none 0 0]), 2, 32) := by kernel_rfl

/-- So many records, from the first on; and where they end. -/
def decM (l : List Int) : Nat → Option (List RD × Nat)
  | 0 => some ([], 0)
  | k + 1 => match decM l k with
    | none => none
    | some (D, p) => match decO l p with
      | none => none
      | some r => some (D ++ [r], p + (12 + r.2.length))

/-- All of bytes, as so many records. -/
def decD (l : List Int) (n : Int) : Option (List RD) :=
  if n > (l.length : Int) / 12 then none else match decM l n.toNat with
    | none => none
    | some (D, p) => if p = l.length then some D else none

theorem decO_end {l : List Int} {p : Nat} {r : RD} (h : decO l p = some r) : p + (12 + r.2.length) ≤ l.length := by
  unfold decO at h
  split at h
  · rename_i hc
    simp at h
    subst h
    simp
    omega
  · cases h

theorem decM_end {l : List Int} : ∀ {k : Nat} {D : List RD} {p : Nat}, decM l k = some (D, p) → p ≤ l.length ∧ D.length = k
  | 0, D, p, h => by
    simp [decM] at h
    obtain ⟨rfl, rfl⟩ := h
    simp
  | k + 1, D, p, h => by
    rw [decM] at h
    split at h
    · cases h
    · rename_i D' p' hm
      split at h
      · cases h
      · rename_i r hr
        simp at h
        have := decO_end hr
        have := decM_end hm
        obtain ⟨rfl, rfl⟩ := h
        simp
        omega

theorem decM_none {l : List Int} {k : Nat} (h : decM l k = none) : ∀ m, k ≤ m → decM l m = none
  | 0, hm => by
    obtain rfl : k = 0 := by omega
    exact h
  | m + 1, hm => by
    by_cases he : k = m + 1
    · subst he; exact h
    · rw [decM, decM_none h m (by omega)]

theorem new2J (w : World) (t : TypeId) (x y : Value) : ∀ (j : Nat) (u : Value), [x, y][j]? = some u → (w.alloc (.cells #[x, y] t)).cell? ((⟨w.heap.size, 0, none⟩ : Addr).add j) = some u := by
  obtain ⟨h0, h1⟩ := box2 w t x y
  intro j u hj
  rw [Go.WideShapes.add_plain, Nat.zero_add]
  match j, hj with
  | 0, hj => simp at hj; subst hj; exact h0
  | 1, hj => simp at hj; subst hj; exact h1
end Go.Proofs.YtiokjlckngkhnaaGreat.Oct
