/- Entries in memory; rows of them that a call made itself. -/
import Derived.Test.YtibkhgmmjhlpmaaGreatPRdLowWrLst
import Derived.Test.YtibkhgmmjhlpmaaGreatPMpdMpgMpc
import Derived.Laws.OwnMore
namespace Go.Proofs.YtibkhgmmjhlpmaaGreat.Oct
open Go.RowKit

abbrev E3 := Int × Int × Bool
def z3 : E3 := (0, 0, false)
def enc3 (x : E3) : List Value := [.int .i64 x.1, .int .i64 x.2.1, .bool x.2.2]

/-- Entries lie from the address on. -/
def LiesN (w : World) (a : Option Addr) (L : List E3) : Prop :=
  L = [] ∨ ∃ b off, a = some ⟨b, off, none⟩ ∧ b < w.heap.size ∧ ∀ k, k < L.length → w.cell? ⟨b, off + k * 3, none⟩ = some (.int .i64 (L.getD k z3).1) ∧ w.cell? ⟨b, off + k * 3 + 1, none⟩ = some (.int .i64 (L.getD k z3).2.1) ∧ w.cell? ⟨b, off + k * 3 + 2, none⟩ = some (.bool (L.getD k z3).2.2)

theorem LiesN.below {w w' : World} {a : Option Addr} {L : List E3} (h : LiesN w a L) (hb : RowKit.Below w.heap.size w w') : LiesN w' a L := by
  rcases h with rfl | ⟨b, off, rfl, hlt, hc⟩
  · exact Or.inl rfl
  · exact Or.inr ⟨b, off, rfl, Nat.lt_of_lt_of_le hlt hb.size, fun k hk => ⟨(hb.cell (p := ⟨b, off + k * 3, none⟩) hlt).trans (hc k hk).1, (hb.cell (p := ⟨b, off + k * 3 + 1, none⟩) hlt).trans (hc k hk).2.1, (hb.cell (p := ⟨b, off + k * 3 + 2, none⟩) hlt).trans (hc k hk).2.2⟩⟩

/-- A row of entries of the call's own. -/
def OwnN (w : World) (B : Nat) (v : Value) (L : List E3) : Prop := w.ownsRow B 43 3 v L.length (L.flatMap enc3)

theorem flat3_get : ∀ (L : List E3) (k j : Nat), k < L.length → j < 3 → (L.flatMap enc3)[k * 3 + j]? = (enc3 (L.getD k z3))[j]?
  | [], k, j, hk, _ => by simp at hk
  | x :: L, 0, j, _, hj => by
    simp only [List.flatMap_cons, Nat.zero_mul, Nat.zero_add]
    rw [List.getElem?_append_left (by simp [enc3]; omega)]
    simp
  | x :: L, k + 1, j, hk, hj => by
    simp only [List.flatMap_cons]
    rw [List.getElem?_append_right (by simp [enc3]; omega)]
    have := flat3_get L k j (by simpa using hk) hj
    simp only [List.getD_cons_succ]
    rw [← this]
    congr 1
    simp [enc3]
    omega

theorem flat3_set : ∀ (L : List E3) (k : Nat) (x : E3), k < L.length → (L.set k x).flatMap enc3 = (((L.flatMap enc3).set (k * 3) (.int .i64 x.1)).set (k * 3 + 1) (.int .i64 x.2.1)).set (k * 3 + 2) (.bool x.2.2)
  | [], k, x, hk => by simp at hk
  | y :: L, 0, x, _ => by simp [enc3]
  | y :: L, k + 1, x, hk => by
    have ih := flat3_set L k x (by simpa using hk)
    simp only [List.set_cons_succ, List.flatMap_cons, ih]
    rw [show (k + 1) * 3 = k * 3 + 3 by omega, show k * 3 + 3 + 1 = k * 3 + 1 + 3 by omega, show k * 3 + 3 + 2 = k * 3 + 2 + 3 by omega]
    simp [enc3]

theorem OwnN.cells {w : World} {B g n cap : Nat} {L : List E3} (h : OwnN w B (.slice (some ⟨g, 0, none⟩) n cap) L) (k : Nat) (hk : k < L.length) : w.cell? ⟨g, k * 3, none⟩ = some (.int .i64 (L.getD k z3).1) ∧ w.cell? ⟨g, k * 3 + 1, none⟩ = some (.int .i64 (L.getD k z3).2.1) ∧ w.cell? ⟨g, k * 3 + 2, none⟩ = some (.bool (L.getD k z3).2.2) := by
  have hc := World.ownsRow.cells (g := g) h rfl
  have e : ∀ j, j < 3 → w.cell? ⟨g, k * 3 + j, none⟩ = (enc3 (L.getD k z3))[j]? := by
    intro j hj
    have hf := flat3_get L k j hk hj
    have h3 : j < (enc3 (L.getD k z3)).length := by simp [enc3]; omega
    rw [List.getElem?_eq_getElem h3] at hf ⊢
    have := hc _ _ hf
    rw [Go.WideShapes.add_plain, Nat.zero_add] at this
    exact this
  exact ⟨e 0 (by omega), e 1 (by omega), e 2 (by omega)⟩

theorem OwnN.frozen {w : World} {B g n cap : Nat} {L : List E3} (h : OwnN w B (.slice (some ⟨g, 0, none⟩) n cap) L) (hn : n = L.length) (j : Nat) : w.frozen? ⟨g, j, none⟩ = false := by
  subst hn
  exact World.ownsRow.frozenAt h j

theorem OwnN.set {w : World} {B g n cap : Nat} {L : List E3} (h : OwnN w B (.slice (some ⟨g, 0, none⟩) n cap) L) (hn : n = L.length) (k : Nat) (x : E3) (hk : k < n) :
    OwnN (((w.setCell ⟨g, k * 3, none⟩ (.int .i64 x.1)).setCell ⟨g, k * 3 + 1, none⟩ (.int .i64 x.2.1)).setCell ⟨g, k * 3 + 2, none⟩ (.bool x.2.2)) B (.slice (some ⟨g, 0, none⟩) n cap) (L.set k x) ∧
    w.grownBy (((w.setCell ⟨g, k * 3, none⟩ (.int .i64 x.1)).setCell ⟨g, k * 3 + 1, none⟩ (.int .i64 x.2.1)).setCell ⟨g, k * 3 + 2, none⟩ (.bool x.2.2)) (some g) := by
  subst hn
  have h1 := World.ownsRow.stored h (k * 3) (.int .i64 x.1)
  have h2 := World.ownsRow.stored h1.1 (k * 3 + 1) (.int .i64 x.2.1)
  have h3 := World.ownsRow.stored h2.1 (k * 3 + 2) (.bool x.2.2)
  refine ⟨?_, ?_⟩
  · unfold OwnN
    rw [List.length_set, flat3_set L k x hk]
    exact h3.1
  · have t : ∀ {a b c : World}, a.grownBy b (some g) → b.grownBy c (some g) → a.grownBy c (some g) := fun h k => ⟨k.os.trans h.os, k.tape.trans h.tape, k.output.trans h.output, Nat.le_trans h.size k.size, fun i hi hr => (k.block i (Nat.lt_of_lt_of_le hi h.size) hr).trans (h.block i hi hr)⟩
    exact t (t h1.2 h2.2) h3.2

theorem OwnN.form {w : World} {B : Nat} {v : Value} {L : List E3} (h : OwnN w B v L) : ∃ a c, v = .slice a L.length c ∧ LiesN w a L ∧ L.length ≤ c ∧ c ≤ maxLen ∧ (∀ x, a = some x → B ≤ x.block ∧ x.block < w.heap.size ∧ x.off = 0 ∧ x.spot = none) := by
  have h0 := h
  rcases h.2 with ⟨rfl, hn⟩ | ⟨g, cap, cur, rfl, hb, hh, h1, h2, h3, h4⟩
  · have : L = [] := List.length_eq_zero_iff.1 hn
    subst this
    exact ⟨none, 0, rfl, Or.inl rfl, by simp, by simp, fun x hx => by cases hx⟩
  · have hlt := (Array.getElem?_eq_some_iff.1 hh).1
    refine ⟨_, cap, rfl, Or.inr ⟨g, 0, rfl, hlt, fun k hk => ?_⟩, h1, h2, fun x hx => by cases hx; exact ⟨hb, hlt, rfl, rfl⟩⟩
    rw [Nat.zero_add]
    exact OwnN.cells h0 k hk

theorem OwnN.nil (w : World) (B : Nat) : OwnN w B (.slice none 0 0) [] := World.ownsRow_nil _ _ _ _

theorem OwnN.below {w w' : World} {B : Nat} {v : Value} {L : List E3} (h : OwnN w B v L) (hb : RowKit.Below w.heap.size w w') : OwnN w' B v L :=
  World.ownsRow.kept (row := none) h ⟨hb.os, hb.tape, hb.output, hb.size, fun k hk _ => hb.block k hk⟩ (by cases v.ownBlock <;> simp)

theorem info3 : (Tryz.prog.info? 43).map (fun i => (i.zero, i.size, i.bytes)) = some (some (.agg #[.int .i64 0, .int .i64 0, .bool false]), 3, 24) := by kernel_rfl

theorem made3 (n : Nat) : (madeCells #[.int .i64 0, .int .i64 0, .bool false] (n * 3)).toList = (List.replicate n z3).flatMap enc3 := by
  have hl : ∀ m, ((List.replicate m z3).flatMap enc3).length = m * 3 := fun m => by simp [enc3, List.length_flatMap]
  apply List.ext_getElem?
  intro j
  by_cases hj : j < n * 3
  · have hk : j / 3 < n := by omega
    have hf := flat3_get (List.replicate n z3) (j / 3) (j % 3) (by simpa using hk) (by omega)
    rw [show j / 3 * 3 + j % 3 = j by omega] at hf
    rw [hf]
    have e : (List.replicate n z3).getD (j / 3) z3 = z3 := by simp [hk]
    rw [e]
    have h3 : j % 3 = 0 ∨ j % 3 = 1 ∨ j % 3 = 2 := by omega
    rcases h3 with h3 | h3 | h3 <;> simp [madeCells, hj, h3, enc3, z3]
  · rw [List.getElem?_eq_none (by simp [size_madeCells]; omega), List.getElem?_eq_none (by rw [hl]; omega)]

/-- make of so many entries. -/
theorem run_make_ents (w : World) (n : Nat) (hn : n ≤ 1000000) :
    (Instr.makeSlice 54 (.int .i64 (n : Int)) (.int .i64 (n : Int))).run Tryz.prog w = .ok (.slice (some ⟨w.heap.size, 0, none⟩) n n) (w.alloc (.cells (madeCells #[.int .i64 0, .int .i64 0, .bool false] (n * 3)) 43)) := by
  obtain ⟨i0, hi, hz0, hz1, hz2⟩ := info_parts info3
  have h := run_make (P := Tryz.prog) w 54 43 i0 (.agg #[.int .i64 0, .int .i64 0, .bool false]) Tryz.underlying54 hi hz0 .i64 .i64 (n : Int) (n : Int) (by omega) (Int.le_refl _) (by rw [hz2]; omega) (by omega)
  simpa [hz1, Value.cells] using h

theorem OwnN.made (w : World) (n : Nat) (hn : n ≤ maxLen) : OwnN (w.alloc (.cells (madeCells #[.int .i64 0, .int .i64 0, .bool false] (n * 3)) 43)) w.heap.size (.slice (some ⟨w.heap.size, 0, none⟩) n n) (List.replicate n z3) := by
  have := World.ownsRow_lit (base := w.heap.size) (e := 43) (size := 3) w (madeCells #[.int .i64 0, .int .i64 0, .bool false] (n * 3)) n (Nat.le_refl _) hn (size_madeCells _ _)
  unfold OwnN
  rw [made3] at this
  simpa using this
end Go.Proofs.YtibkhgmmjhlpmaaGreat.Oct
