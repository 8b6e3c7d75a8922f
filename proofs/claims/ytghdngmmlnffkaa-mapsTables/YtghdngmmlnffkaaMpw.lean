/- Entries of the document in memory. -/
import Derived.Test.YtghdngmmlnffkaaMpv
namespace Go.Proofs.Ytghdngmmlnffkaa.Oct
open Go.RowKit

/-- A row of entries of the call's own. -/
def OwnR (w : World) (B : Nat) (v : Value) (L : List E3) : Prop := w.ownsRow B 41 3 v L.length (L.flatMap enc3)

theorem OwnR.cells {w : World} {B g n cap : Nat} {L : List E3} (h : OwnR w B (.slice (some ⟨g, 0, none⟩) n cap) L) (k : Nat) (hk : k < L.length) : w.cell? ⟨g, k * 3, none⟩ = some (.int .i64 (L.getD k z3).1) ∧ w.cell? ⟨g, k * 3 + 1, none⟩ = some (.int .i64 (L.getD k z3).2.1) ∧ w.cell? ⟨g, k * 3 + 2, none⟩ = some (.bool (L.getD k z3).2.2) := by
  have hc := World.ownsRow.cells (g := g) h rfl
  have e : ∀ j, j < 3 → w.cell? ⟨g, k * 3 + j, none⟩ = (enc3 (L.getD k z3))[j]? := by
    intro j hj
    have hf := flat3_get L k j hk hj
    have h3 : j < (enc3 (L.getD k z3)).length := by simp [enc3]; omega
    rw [List.getElem?_eq_getElem h3] at hf ⊢
    have := hc _ _ hf
    rw [Go.WideShapes.add_plain, Nat.zero_add] at this
    exact this
  exact ⟨e 0 (by omega), e 1 (by omega), e 2 (by omega)⟩

theorem OwnR.frozen {w : World} {B g n cap : Nat} {L : List E3} (h : OwnR w B (.slice (some ⟨g, 0, none⟩) n cap) L) (hn : n = L.length) (j : Nat) : w.frozen? ⟨g, j, none⟩ = false := by
  subst hn
  exact World.ownsRow.frozenAt h j

theorem OwnR.set {w : World} {B g n cap : Nat} {L : List E3} (h : OwnR w B (.slice (some ⟨g, 0, none⟩) n cap) L) (hn : n = L.length) (k : Nat) (x : E3) (hk : k < n) :
    OwnR (((w.setCell ⟨g, k * 3, none⟩ (.int .i64 x.1)).setCell ⟨g, k * 3 + 1, none⟩ (.int .i64 x.2.1)).setCell ⟨g, k * 3 + 2, none⟩ (.bool x.2.2)) B (.slice (some ⟨g, 0, none⟩) n cap) (L.set k x) ∧
    w.grownBy (((w.setCell ⟨g, k * 3, none⟩ (.int .i64 x.1)).setCell ⟨g, k * 3 + 1, none⟩ (.int .i64 x.2.1)).setCell ⟨g, k * 3 + 2, none⟩ (.bool x.2.2)) (some g) := by
  subst hn
  have h1 := World.ownsRow.stored h (k * 3) (.int .i64 x.1)
  have h2 := World.ownsRow.stored h1.1 (k * 3 + 1) (.int .i64 x.2.1)
  have h3 := World.ownsRow.stored h2.1 (k * 3 + 2) (.bool x.2.2)
  refine ⟨?_, ?_⟩
  · unfold OwnR
    rw [List.length_set, flat3_set L k x hk]
    exact h3.1
  · have t : ∀ {a b c : World}, a.grownBy b (some g) → b.grownBy c (some g) → a.grownBy c (some g) := fun h k => ⟨k.os.trans h.os, k.tape.trans h.tape, k.output.trans h.output, Nat.le_trans h.size k.size, fun i hi hr => (k.block i (Nat.lt_of_lt_of_le hi h.size) hr).trans (h.block i hi hr)⟩
    exact t (t h1.2 h2.2) h3.2

theorem OwnR.form {w : World} {B : Nat} {v : Value} {L : List E3} (h : OwnR w B v L) : ∃ a c, v = .slice a L.length c ∧ LiesN w a L ∧ L.length ≤ c ∧ c ≤ maxLen ∧ (∀ x, a = some x → B ≤ x.block ∧ x.block < w.heap.size ∧ x.off = 0 ∧ x.spot = none) := by
  have h0 := h
  rcases h.2 with ⟨rfl, hn⟩ | ⟨g, cap, cur, rfl, hb, hh, h1, h2, h3, h4⟩
  · have : L = [] := List.length_eq_zero_iff.1 hn
    subst this
    exact ⟨none, 0, rfl, Or.inl rfl, by simp, by simp, fun x hx => by cases hx⟩
  · have hlt := (Array.getElem?_eq_some_iff.1 hh).1
    refine ⟨_, cap, rfl, Or.inr ⟨g, 0, rfl, hlt, fun k hk => ?_⟩, h1, h2, fun x hx => by cases hx; exact ⟨hb, hlt, rfl, rfl⟩⟩
    rw [Nat.zero_add]
    exact OwnR.cells h0 k hk

theorem OwnR.nil (w : World) (B : Nat) : OwnR w B (.slice none 0 0) [] := World.ownsRow_nil _ _ _ _

theorem OwnR.below {w w' : World} {B : Nat} {v : Value} {L : List E3} (h : OwnR w B v L) (hb : RowKit.Below w.heap.size w w') : OwnR w' B v L :=
  World.ownsRow.kept (row := none) h ⟨hb.os, hb.tape, hb.output, hb.size, fun k hk _ => hb.block k hk⟩ (by cases v.ownBlock <;> simp)

theorem info3r : (Try.prog.info? 41).map (fun i => (i.zero, i.size, i.bytes)) = some (some (.agg #[.int .i64 0, .int .i64 0, .bool false]), 3, 24) := by kernel_rfl

/-- make of so many entries. -/
theorem run_make_refs (w : World) (n : Nat) (hn : n ≤ 1000000) :
    (Instr.makeSlice 36 (.int .i64 (n : Int)) (.int .i64 (n : Int))).run Try.prog w = .ok (.slice (some ⟨w.heap.size, 0, none⟩) n n) (w.alloc (.cells (madeCells #[.int .i64 0, .int .i64 0, .bool false] (n * 3)) 41)) := by
  obtain ⟨i0, hi, hz0, hz1, hz2⟩ := info_parts info3r
  have h := run_make (P := Try.prog) w 36 41 i0 (.agg #[.int .i64 0, .int .i64 0, .bool false]) Try.underlying36 hi hz0 .i64 .i64 (n : Int) (n : Int) (by omega) (Int.le_refl _) (by rw [hz2]; omega) (by omega)
  simpa [hz1, Value.cells] using h

theorem OwnR.made (w : World) (n : Nat) (hn : n ≤ maxLen) : OwnR (w.alloc (.cells (madeCells #[.int .i64 0, .int .i64 0, .bool false] (n * 3)) 41)) w.heap.size (.slice (some ⟨w.heap.size, 0, none⟩) n n) (List.replicate n z3) := by
  have := World.ownsRow_lit (base := w.heap.size) (e := 41) (size := 3) w (madeCells #[.int .i64 0, .int .i64 0, .bool false] (n * 3)) n (Nat.le_refl _) hn (size_madeCells _ _)
  unfold OwnR
  rw [made3] at this
  simpa using this
end Go.Proofs.Ytghdngmmlnffkaa.Oct
