/- Rows of numbers of a call's own; bits of numbers as such rows: plain mathematics, and laws for the walk. -/
import Derived.Test.YtmfnpifjinbaeabCrc
import Derived.Test.YtmfnpifjinbaeabMem
namespace Go.Proofs.Ytmfnpifjinbaeab.Oct
open Go.RowKit

/-- A row of ints of the call's own, in a block from B on. -/
def OwnI (w : World) (B : Nat) (v : Value) (l : List Int) : Prop := w.ownsRow B 3 1 v l.length (l.map (Value.int .i64))

theorem OwnI.nil (w : World) (B : Nat) : OwnI w B (.slice none 0 0) [] := World.ownsRow_nil _ _ _ _

theorem OwnI.below {w w' : World} {B : Nat} {v : Value} {l : List Int} (h : OwnI w B v l) (hb : Below w.heap.size w w') : OwnI w' B v l :=
  World.ownsRow.kept (row := none) h ⟨hb.os, hb.tape, hb.output, hb.size, fun k hk _ => hb.block k hk⟩ (by cases v.ownBlock <;> simp)

theorem OwnI.alloc {w : World} {B : Nat} {v : Value} {l : List Int} (h : OwnI w B v l) (o : Obj) : OwnI (w.alloc o) B v l :=
  h.below ((Below.refl _ _).alloc (Nat.le_refl _) _)

theorem OwnI.base {w : World} {B : Nat} {v : Value} {l : List Int} (h : OwnI w B v l) : ∀ k, v.ownBlock = some k → B ≤ k := fun k hk => (World.ownsRow.lt h k hk).1

theorem OwnI.behind {w0 w w' : World} {B : Nat} {v : Value} {l : List Int} (h : OwnI w B v l) (hb : Below B w0 w) (hg : w.grownBy w' v.ownBlock) (hB : B ≤ w.heap.size) : Below B w0 w' := hb.grown hg hB h.base

theorem OwnI.mono {w : World} {B B' : Nat} {v : Value} {l : List Int} (h : OwnI w B v l) (hb : B' ≤ B) : OwnI w B' v l := by
  refine ⟨h.1, ?_⟩
  rcases h.2 with h1 | ⟨g, cap, cur, h1, hg, hr⟩
  · exact Or.inl h1
  · exact Or.inr ⟨g, cap, cur, h1, Nat.le_trans hb hg, hr⟩

theorem OwnI.kept {w w' : World} {B : Nat} {v : Value} {l : List Int} {row : Option Nat} (h : OwnI w B v l) (hg : w.grownBy w' row) (hne : v.ownBlock = none ∨ v.ownBlock ≠ row) : OwnI w' B v l := World.ownsRow.kept h hg hne

theorem OwnI.form {w : World} {B : Nat} {v : Value} {l : List Int} (h : OwnI w B v l) (hl : l ≠ []) : ∃ g cap, v = .slice (some ⟨g, 0, none⟩) l.length cap ∧ B ≤ g ∧ g < w.heap.size ∧ l.length ≤ cap := by
  rcases h.2 with ⟨rfl, hn⟩ | ⟨g, cap, cur, rfl, hg, hh, hn, hcap, _, _⟩
  · exact absurd (List.length_eq_zero_iff.1 hn) hl
  · exact ⟨g, cap, rfl, hg, (Array.getElem?_eq_some_iff.1 hh).1, hn⟩

theorem OwnI.cell {w : World} {B g n cap : Nat} {l : List Int} (h : OwnI w B (.slice (some ⟨g, 0, none⟩) n cap) l) (hn : n = l.length) (j : Nat) (hj : j < n) :
    w.cell? ⟨g, j, none⟩ = some (.int .i64 (l.getD j 0)) := by
  subst hn
  rw [World.ownsRow.cellAt h j (by omega)]
  simp [hj]

theorem OwnI.free {w : World} {B g n cap : Nat} {l : List Int} (h : OwnI w B (.slice (some ⟨g, 0, none⟩) n cap) l) (hn : n = l.length) (j : Nat) : w.frozen? ⟨g, j, none⟩ = false := by
  subst hn
  exact World.ownsRow.frozenAt h j

theorem OwnI.set {w : World} {B g n cap : Nat} {l : List Int} (h : OwnI w B (.slice (some ⟨g, 0, none⟩) n cap) l) (hn : n = l.length) (j : Nat) (x : Int) :
    OwnI (w.setCell ⟨g, j, none⟩ (.int .i64 x)) B (.slice (some ⟨g, 0, none⟩) n cap) (l.set j x) ∧ w.grownBy (w.setCell ⟨g, j, none⟩ (.int .i64 x)) (some g) := by
  subst hn
  have := World.ownsRow.stored h j (.int .i64 x)
  rw [show (l.map (Value.int .i64)).set j (.int .i64 x) = (l.set j x).map (Value.int .i64) from by rw [List.map_set]] at this
  refine ⟨?_, this.2⟩
  unfold OwnI
  rw [List.length_set]
  exact this.1

/-- One more number behind an own row. -/
theorem wpList_append_int {P : Program} {w : World} {ops : Array Oper} {rest : List Oper} {o : Oper} {a : Act} {Q : Exit → Act → World → Prop} (hgd : o.guard = none) (s x : Operand) (t : TypeId)
    (ho : o.op = .call { callee := .builtin .append, args := #[s, x], argTypes := #[t, t] }) (ht : P.underlying t = some (.slice 3)) (h3 : (P.info? 3).map (fun i => (i.zero, i.size, i.bytes)) = some (some (.int .i64 0), 1, 8))
    (B : Nat) (v : Value) (l : List Int) (hs : a.eval s = v) (H c : Nat) (y : Int) (w0 : World) (hw : w = w0.alloc (.cells #[.int .i64 y] 3)) (hH : w0.heap.size = H) (hown : OwnI w0 B v l) (hx : a.eval x = .slice (some ⟨H, 0, none⟩) 1 c)
    (hlen : l.length ≤ 1000000) (hB : B ≤ w0.heap.size)
    (h : ∀ v' w', OwnI w' B v' (l ++ [y]) → Below w0.heap.size w0 (w0.alloc (.cells #[.int .i64 y] 3)) → (w0.alloc (.cells #[.int .i64 y] 3)).grownBy w' v.ownBlock → wpList P ops Q rest (a.put o.dst v') w') : wpList P ops Q (o :: rest) a w := by
  subst hH hw
  obtain ⟨i, hi, hz0, hz1, hz2⟩ := info_parts h3
  refine wpList_append_own (w0.alloc (.cells #[.int .i64 y] 3)) hgd s x t ho B 3 i (.int .i64 0) 1 8 ht hi hz0 hz1 hz2 rfl (by decide) v l.length (l.map (Value.int .i64)) hs (hown.alloc _) ⟨w0.heap.size, 0, none⟩ 1 c [.int .i64 y] hx rfl ?_ ?_ (by unfold maxLen; omega) (by omega) (by simp; omega) ?_
  · intro j u hj
    match j, hj with
    | 0, hj => simp at hj; subst hj; simp [Addr.add]
  · intro u hu
    simp at hu
    subst hu
    rfl
  · intro v' w' h1 h2 _
    refine h v' w' ?_ ((Below.refl _ _).alloc (Nat.le_refl _) _) h2
    unfold OwnI
    simpa using h1

/-- A bit as a number. -/
def bt (b : Bool) : Int := if b then 1 else 0

/-- A row's numbers are the bits of a number. -/
def Bits (m : List Int) (N : Nat) : Prop := ∀ j, j < m.length → m.getD j 0 = bt (N.testBit j)

theorem Bits.append {m : List Int} {N : Nat} (h : Bits m N) (y : Int) (hy : y = bt (N.testBit m.length)) : Bits (m ++ [y]) N := by
  intro j hj
  rw [List.length_append] at hj
  rcases Nat.lt_or_ge j m.length with h1 | h1
  · rw [List.getD_eq_getElem?_getD, List.getElem?_append_left h1, ← List.getD_eq_getElem?_getD]
    exact h j h1
  · have e : j = m.length := by simp at hj; omega
    subst e
    simp [hy]

theorem Bits.flip {m : List Int} {N : Nat} (h : Bits m N) (j : Nat) (hj : j < m.length) : Bits (m.set j (1 - m.getD j 0)) (N ^^^ 2 ^ j) := by
  intro i hi
  rw [List.length_set] at hi
  rw [List.getD_eq_getElem?_getD, List.getElem?_set, Nat.testBit_xor, Nat.testBit_two_pow]
  by_cases e : j = i
  · subst e
    rw [if_pos rfl, if_pos hj, h j hj]
    cases N.testBit j <;> simp [bt]
  · rw [if_neg e, ← List.getD_eq_getElem?_getD, h i hi]
    simp [e]

theorem bit_mod (x t : Nat) : ((x / 2 ^ t % 2 : Nat) : Int) = bt (x.testBit t) := by
  rw [Nat.testBit_eq_decide_div_mod_eq]
  have : x / 2 ^ t % 2 = 0 ∨ x / 2 ^ t % 2 = 1 := by omega
  rcases this with h | h <;> simp [h, bt]

theorem le_lt : ∀ (l : List Int), Byts l → le l < 2 ^ (8 * l.length)
  | [], _ => by simp [le]
  | x :: r, h => by
    have ih := le_lt r h.cons.2
    have hx := h.cons.1
    have e : 2 ^ (8 * (x :: r).length) = 256 * 2 ^ (8 * r.length) := by
      rw [List.length_cons, Nat.mul_add, Nat.pow_add, Nat.mul_comm]
    rw [e]
    show x.toNat + 256 * le r < _
    have : 256 * (le r + 1) ≤ 256 * 2 ^ (8 * r.length) := Nat.mul_le_mul_left _ ih
    omega

theorem le_testBit : ∀ (l : List Int) (k t : Nat), Byts l → k < l.length → t < 8 → (le l).testBit (8 * k + t) = ((l.getD k 0).toNat).testBit t
  | [], _, _, _, h, _ => by simp at h
  | x :: r, 0, t, hb, _, ht => by
    rw [le_cons hb.cons.1, Nat.testBit_xor, Nat.testBit_mul_two_pow]
    have : ¬ 8 ≤ t := by omega
    simp [this]
  | x :: r, k + 1, t, hb, h, ht => by
    have hx := hb.cons.1
    rw [le_cons hx, Nat.testBit_xor, Nat.testBit_mul_two_pow]
    have h1 : x.toNat.testBit (8 * (k + 1) + t) = false := Nat.testBit_lt_two_pow (Nat.lt_of_lt_of_le (m := 2 ^ 8) (by omega) (Nat.pow_le_pow_right (by omega) (by omega)))
    have h2 : 8 ≤ 8 * (k + 1) + t := by omega
    have h3 : 8 * (k + 1) + t - 8 = 8 * k + t := by omega
    rw [h1, h3, le_testBit r k t hb.cons.2 (by simpa using h) ht]
    simp [h2]
end Go.Proofs.Ytmfnpifjinbaeab.Oct
