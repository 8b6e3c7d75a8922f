/- Entries and partitions in memory: rows of structs of numbers. -/
import Derived.Test.YtjpdfchdgphdoaaGreatDoorPExmMba
import Derived.Test.YtjpdfchdgphdoaaGreatDoorPAppChg
import Derived.Test.YtjpdfchdgphdoaaGreatDoorChecked
import Derived.Laws.OwnMore
namespace Go.Proofs.YtjpdfchdgphdoaaGreatDoor.Oct
open Go.RowKit

def encM (x : M3) : List Value := [.int .i64 x.1, .int .i64 x.2.1, .int .i64 x.2.2]

def LiesM (w : World) (a : Option Addr) (L : List M3) : Prop :=
  L = [] ∨ ∃ b off, a = some ⟨b, off, none⟩ ∧ b < w.heap.size ∧ ∀ k, k < L.length → w.cell? ⟨b, off + k * 3, none⟩ = some (.int .i64 (L.getD k zm3).1) ∧ w.cell? ⟨b, off + k * 3 + 1, none⟩ = some (.int .i64 (L.getD k zm3).2.1) ∧ w.cell? ⟨b, off + k * 3 + 2, none⟩ = some (.int .i64 (L.getD k zm3).2.2)

theorem LiesM.below {w w' : World} {a : Option Addr} {L : List M3} (h : LiesM w a L) (hb : RowKit.Below w.heap.size w w') : LiesM w' a L := by
  rcases h with rfl | ⟨b, off, rfl, hlt, hc⟩
  · exact Or.inl rfl
  · exact Or.inr ⟨b, off, rfl, Nat.lt_of_lt_of_le hlt hb.size, fun k hk => ⟨(hb.cell (p := ⟨b, off + k * 3, none⟩) hlt).trans (hc k hk).1, (hb.cell (p := ⟨b, off + k * 3 + 1, none⟩) hlt).trans (hc k hk).2.1, (hb.cell (p := ⟨b, off + k * 3 + 2, none⟩) hlt).trans (hc k hk).2.2⟩⟩

theorem LiesM.chg {X : Nat → Prop} {w w' : World} {a : Option Addr} {L : List M3} (h : LiesM w a L) (hg : Chg X w w') (hne : ∀ x, a = some x → ¬ X x.block) : LiesM w' a L := by
  rcases h with rfl | ⟨b, off, rfl, hlt, hc⟩
  · exact Or.inl rfl
  · exact Or.inr ⟨b, off, rfl, Nat.lt_of_lt_of_le hlt hg.size, fun k hk => ⟨hg.cell (hc k hk).1 (hne _ rfl), hg.cell (hc k hk).2.1 (hne _ rfl), hg.cell (hc k hk).2.2 (hne _ rfl)⟩⟩

/-- A row of the call's own (of structs of type T). -/
def OwnM (T : Nat) (w : World) (B : Nat) (v : Value) (L : List M3) : Prop := w.ownsRow B T 3 v L.length (L.flatMap encM)

theorem flatM_get : ∀ (L : List M3) (k j : Nat), k < L.length → j < 3 → (L.flatMap encM)[k * 3 + j]? = (encM (L.getD k zm3))[j]?
  | [], k, j, hk, _ => by simp at hk
  | x :: L, 0, j, _, hj => by
    simp only [List.flatMap_cons, Nat.zero_mul, Nat.zero_add]
    rw [List.getElem?_append_left (by simp [encM]; omega)]
    simp
  | x :: L, k + 1, j, hk, hj => by
    simp only [List.flatMap_cons]
    rw [List.getElem?_append_right (by simp [encM]; omega)]
    have := flatM_get L k j (by simpa using hk) hj
    simp only [List.getD_cons_succ]
    rw [← this]
    congr 1
    simp [encM]
    omega

theorem flatM_len (L : List M3) : (L.flatMap encM).length = L.length * 3 := by
  induction L with
  | nil => rfl
  | cons x L ih => simp only [List.flatMap_cons, List.length_append, ih]; simp [encM]; omega

theorem OwnM.cells {T : Nat} {w : World} {B g n cap : Nat} {L : List M3} (h : OwnM T w B (.slice (some ⟨g, 0, none⟩) n cap) L) (k : Nat) (hk : k < L.length) : w.cell? ⟨g, k * 3, none⟩ = some (.int .i64 (L.getD k zm3).1) ∧ w.cell? ⟨g, k * 3 + 1, none⟩ = some (.int .i64 (L.getD k zm3).2.1) ∧ w.cell? ⟨g, k * 3 + 2, none⟩ = some (.int .i64 (L.getD k zm3).2.2) := by
  have hc := World.ownsRow.cells (g := g) h rfl
  have e : ∀ j, j < 3 → w.cell? ⟨g, k * 3 + j, none⟩ = (encM (L.getD k zm3))[j]? := by
    intro j hj
    have hf := flatM_get L k j hk hj
    have h3 : j < (encM (L.getD k zm3)).length := by simp [encM]; omega
    rw [List.getElem?_eq_getElem h3] at hf ⊢
    have := hc _ _ hf
    rw [Go.WideShapes.add_plain, Nat.zero_add] at this
    exact this
  exact ⟨e 0 (by omega), e 1 (by omega), e 2 (by omega)⟩

theorem OwnM.frozen {T : Nat} {w : World} {B g n cap : Nat} {L : List M3} (h : OwnM T w B (.slice (some ⟨g, 0, none⟩) n cap) L) (hn : n = L.length) (j : Nat) : w.frozen? ⟨g, j, none⟩ = false := by
  subst hn
  exact World.ownsRow.frozenAt h j

theorem OwnM.form {T : Nat} {w : World} {B : Nat} {v : Value} {L : List M3} (h : OwnM T w B v L) : ∃ a c, v = .slice a L.length c ∧ LiesM w a L ∧ L.length ≤ c ∧ c ≤ maxLen ∧ (∀ x, a = some x → B ≤ x.block ∧ x.block < w.heap.size ∧ x.off = 0 ∧ x.spot = none) := by
  have h0 := h
  rcases h.2 with ⟨rfl, hn⟩ | ⟨g, cap, cur, rfl, hb, hh, h1, h2, h3, h4⟩
  · have : L = [] := List.length_eq_zero_iff.1 hn
    subst this
    exact ⟨none, 0, rfl, Or.inl rfl, by simp, by simp, fun x hx => by cases hx⟩
  · have hlt := (Array.getElem?_eq_some_iff.1 hh).1
    refine ⟨_, cap, rfl, Or.inr ⟨g, 0, rfl, hlt, fun k hk => ?_⟩, h1, h2, fun x hx => by cases hx; exact ⟨hb, hlt, rfl, rfl⟩⟩
    rw [Nat.zero_add]
    exact OwnM.cells h0 k hk

theorem OwnM.nil (T : Nat) (w : World) (B : Nat) : OwnM T w B (.slice none 0 0) [] := World.ownsRow_nil _ _ _ _

theorem OwnM.below {T : Nat} {w w' : World} {B : Nat} {v : Value} {L : List M3} (h : OwnM T w B v L) (hb : RowKit.Below w.heap.size w w') : OwnM T w' B v L :=
  World.ownsRow.kept (row := none) h ⟨hb.os, hb.tape, hb.output, hb.size, fun k hk _ => hb.block k hk⟩ (by cases v.ownBlock <;> simp)

theorem OwnM.chg {T : Nat} {X : Nat → Prop} {w w' : World} {B : Nat} {v : Value} {L : List M3} (h : OwnM T w B v L) (hg : Chg X w w') (hne : ∀ g, v.ownBlock = some g → ¬ X g) : OwnM T w' B v L := ownsRow_chg h hg hne

theorem flatM_set : ∀ (L : List M3) (k : Nat) (x : M3), k < L.length → (L.set k x).flatMap encM = (((L.flatMap encM).set (k * 3) (.int .i64 x.1)).set (k * 3 + 1) (.int .i64 x.2.1)).set (k * 3 + 2) (.int .i64 x.2.2)
  | [], k, x, hk => by simp at hk
  | y :: L, 0, x, _ => by simp [encM]
  | y :: L, k + 1, x, hk => by
    have ih := flatM_set L k x (by simpa using hk)
    simp only [List.set_cons_succ, List.flatMap_cons, ih]
    rw [show (k + 1) * 3 = k * 3 + 3 by omega, show k * 3 + 3 + 1 = k * 3 + 1 + 3 by omega, show k * 3 + 3 + 2 = k * 3 + 2 + 3 by omega]
    simp [encM]

theorem OwnM.set {T : Nat} {w : World} {B g n cap : Nat} {L : List M3} (h : OwnM T w B (.slice (some ⟨g, 0, none⟩) n cap) L) (hn : n = L.length) (k : Nat) (x : M3) (hk : k < n) :
    OwnM T (((w.setCell ⟨g, k * 3, none⟩ (.int .i64 x.1)).setCell ⟨g, k * 3 + 1, none⟩ (.int .i64 x.2.1)).setCell ⟨g, k * 3 + 2, none⟩ (.int .i64 x.2.2)) B (.slice (some ⟨g, 0, none⟩) n cap) (L.set k x) ∧
    w.grownBy (((w.setCell ⟨g, k * 3, none⟩ (.int .i64 x.1)).setCell ⟨g, k * 3 + 1, none⟩ (.int .i64 x.2.1)).setCell ⟨g, k * 3 + 2, none⟩ (.int .i64 x.2.2)) (some g) := by
  subst hn
  have h0 : OwnM T w B (.slice (some ⟨g, 0, none⟩) L.length cap) L ∧ w.grownBy w (some g) := ⟨h, World.grownBy.refl _ _⟩
  have h1 := World.ownsRow.stored h0.1 (k * 3) (.int .i64 x.1)
  have h2 := World.ownsRow.stored h1.1 (k * 3 + 1) (.int .i64 x.2.1)
  have h3 := World.ownsRow.stored h2.1 (k * 3 + 2) (.int .i64 x.2.2)
  refine ⟨?_, ?_⟩
  · unfold OwnM
    rw [List.length_set, flatM_set L k x hk]
    exact h3.1
  · have t : ∀ {a b c : World}, a.grownBy b (some g) → b.grownBy c (some g) → a.grownBy c (some g) := fun h k => ⟨k.os.trans h.os, k.tape.trans h.tape, k.output.trans h.output, Nat.le_trans h.size k.size, fun i hi hr => (k.block i (Nat.lt_of_lt_of_le hi h.size) hr).trans (h.block i hi hr)⟩
    exact t (t (h1.2) h2.2) h3.2

def encPm (x : M4) : List Value := [.int .i64 x.1, .int .i64 x.2.1, .int .i64 x.2.2.1, .int .i64 x.2.2.2]

def LiesP (w : World) (a : Option Addr) (L : List M4) : Prop :=
  L = [] ∨ ∃ b off, a = some ⟨b, off, none⟩ ∧ b < w.heap.size ∧ ∀ k, k < L.length → w.cell? ⟨b, off + k * 4, none⟩ = some (.int .i64 (L.getD k zm4).1) ∧ w.cell? ⟨b, off + k * 4 + 1, none⟩ = some (.int .i64 (L.getD k zm4).2.1) ∧ w.cell? ⟨b, off + k * 4 + 2, none⟩ = some (.int .i64 (L.getD k zm4).2.2.1) ∧ w.cell? ⟨b, off + k * 4 + 3, none⟩ = some (.int .i64 (L.getD k zm4).2.2.2)

theorem LiesP.below {w w' : World} {a : Option Addr} {L : List M4} (h : LiesP w a L) (hb : RowKit.Below w.heap.size w w') : LiesP w' a L := by
  rcases h with rfl | ⟨b, off, rfl, hlt, hc⟩
  · exact Or.inl rfl
  · exact Or.inr ⟨b, off, rfl, Nat.lt_of_lt_of_le hlt hb.size, fun k hk => ⟨(hb.cell (p := ⟨b, off + k * 4, none⟩) hlt).trans (hc k hk).1, (hb.cell (p := ⟨b, off + k * 4 + 1, none⟩) hlt).trans (hc k hk).2.1, (hb.cell (p := ⟨b, off + k * 4 + 2, none⟩) hlt).trans (hc k hk).2.2.1, (hb.cell (p := ⟨b, off + k * 4 + 3, none⟩) hlt).trans (hc k hk).2.2.2⟩⟩

theorem LiesP.chg {X : Nat → Prop} {w w' : World} {a : Option Addr} {L : List M4} (h : LiesP w a L) (hg : Chg X w w') (hne : ∀ x, a = some x → ¬ X x.block) : LiesP w' a L := by
  rcases h with rfl | ⟨b, off, rfl, hlt, hc⟩
  · exact Or.inl rfl
  · exact Or.inr ⟨b, off, rfl, Nat.lt_of_lt_of_le hlt hg.size, fun k hk => ⟨hg.cell (hc k hk).1 (hne _ rfl), hg.cell (hc k hk).2.1 (hne _ rfl), hg.cell (hc k hk).2.2.1 (hne _ rfl), hg.cell (hc k hk).2.2.2 (hne _ rfl)⟩⟩

/-- A row of the call's own (of structs of type T). -/
def OwnP (T : Nat) (w : World) (B : Nat) (v : Value) (L : List M4) : Prop := w.ownsRow B T 4 v L.length (L.flatMap encPm)

theorem flatP_get : ∀ (L : List M4) (k j : Nat), k < L.length → j < 4 → (L.flatMap encPm)[k * 4 + j]? = (encPm (L.getD k zm4))[j]?
  | [], k, j, hk, _ => by simp at hk
  | x :: L, 0, j, _, hj => by
    simp only [List.flatMap_cons, Nat.zero_mul, Nat.zero_add]
    rw [List.getElem?_append_left (by simp [encPm]; omega)]
    simp
  | x :: L, k + 1, j, hk, hj => by
    simp only [List.flatMap_cons]
    rw [List.getElem?_append_right (by simp [encPm]; omega)]
    have := flatP_get L k j (by simpa using hk) hj
    simp only [List.getD_cons_succ]
    rw [← this]
    congr 1
    simp [encPm]
    omega

theorem flatP_len (L : List M4) : (L.flatMap encPm).length = L.length * 4 := by
  induction L with
  | nil => rfl
  | cons x L ih => simp only [List.flatMap_cons, List.length_append, ih]; simp [encPm]; omega

theorem OwnP.cells {T : Nat} {w : World} {B g n cap : Nat} {L : List M4} (h : OwnP T w B (.slice (some ⟨g, 0, none⟩) n cap) L) (k : Nat) (hk : k < L.length) : w.cell? ⟨g, k * 4, none⟩ = some (.int .i64 (L.getD k zm4).1) ∧ w.cell? ⟨g, k * 4 + 1, none⟩ = some (.int .i64 (L.getD k zm4).2.1) ∧ w.cell? ⟨g, k * 4 + 2, none⟩ = some (.int .i64 (L.getD k zm4).2.2.1) ∧ w.cell? ⟨g, k * 4 + 3, none⟩ = some (.int .i64 (L.getD k zm4).2.2.2) := by
  have hc := World.ownsRow.cells (g := g) h rfl
  have e : ∀ j, j < 4 → w.cell? ⟨g, k * 4 + j, none⟩ = (encPm (L.getD k zm4))[j]? := by
    intro j hj
    have hf := flatP_get L k j hk hj
    have h3 : j < (encPm (L.getD k zm4)).length := by simp [encPm]; omega
    rw [List.getElem?_eq_getElem h3] at hf ⊢
    have := hc _ _ hf
    rw [Go.WideShapes.add_plain, Nat.zero_add] at this
    exact this
  exact ⟨e 0 (by omega), e 1 (by omega), e 2 (by omega), e 3 (by omega)⟩

theorem OwnP.frozen {T : Nat} {w : World} {B g n cap : Nat} {L : List M4} (h : OwnP T w B (.slice (some ⟨g, 0, none⟩) n cap) L) (hn : n = L.length) (j : Nat) : w.frozen? ⟨g, j, none⟩ = false := by
  subst hn
  exact World.ownsRow.frozenAt h j

theorem OwnP.form {T : Nat} {w : World} {B : Nat} {v : Value} {L : List M4} (h : OwnP T w B v L) : ∃ a c, v = .slice a L.length c ∧ LiesP w a L ∧ L.length ≤ c ∧ c ≤ maxLen ∧ (∀ x, a = some x → B ≤ x.block ∧ x.block < w.heap.size ∧ x.off = 0 ∧ x.spot = none) := by
  have h0 := h
  rcases h.2 with ⟨rfl, hn⟩ | ⟨g, cap, cur, rfl, hb, hh, h1, h2, h3, h4⟩
  · have : L = [] := List.length_eq_zero_iff.1 hn
    subst this
    exact ⟨none, 0, rfl, Or.inl rfl, by simp, by simp, fun x hx => by cases hx⟩
  · have hlt := (Array.getElem?_eq_some_iff.1 hh).1
    refine ⟨_, cap, rfl, Or.inr ⟨g, 0, rfl, hlt, fun k hk => ?_⟩, h1, h2, fun x hx => by cases hx; exact ⟨hb, hlt, rfl, rfl⟩⟩
    rw [Nat.zero_add]
    exact OwnP.cells h0 k hk

theorem OwnP.nil (T : Nat) (w : World) (B : Nat) : OwnP T w B (.slice none 0 0) [] := World.ownsRow_nil _ _ _ _

theorem OwnP.below {T : Nat} {w w' : World} {B : Nat} {v : Value} {L : List M4} (h : OwnP T w B v L) (hb : RowKit.Below w.heap.size w w') : OwnP T w' B v L :=
  World.ownsRow.kept (row := none) h ⟨hb.os, hb.tape, hb.output, hb.size, fun k hk _ => hb.block k hk⟩ (by cases v.ownBlock <;> simp)

theorem OwnP.chg {T : Nat} {X : Nat → Prop} {w w' : World} {B : Nat} {v : Value} {L : List M4} (h : OwnP T w B v L) (hg : Chg X w w') (hne : ∀ g, v.ownBlock = some g → ¬ X g) : OwnP T w' B v L := ownsRow_chg h hg hne

theorem flatP_set : ∀ (L : List M4) (k : Nat) (x : M4), k < L.length → (L.set k x).flatMap encPm = ((((L.flatMap encPm).set (k * 4) (.int .i64 x.1)).set (k * 4 + 1) (.int .i64 x.2.1)).set (k * 4 + 2) (.int .i64 x.2.2.1)).set (k * 4 + 3) (.int .i64 x.2.2.2)
  | [], k, x, hk => by simp at hk
  | y :: L, 0, x, _ => by simp [encPm]
  | y :: L, k + 1, x, hk => by
    have ih := flatP_set L k x (by simpa using hk)
    simp only [List.set_cons_succ, List.flatMap_cons, ih]
    rw [show (k + 1) * 4 = k * 4 + 4 by omega, show k * 4 + 4 + 1 = k * 4 + 1 + 4 by omega, show k * 4 + 4 + 2 = k * 4 + 2 + 4 by omega, show k * 4 + 4 + 3 = k * 4 + 3 + 4 by omega]
    simp [encPm]

theorem OwnP.set {T : Nat} {w : World} {B g n cap : Nat} {L : List M4} (h : OwnP T w B (.slice (some ⟨g, 0, none⟩) n cap) L) (hn : n = L.length) (k : Nat) (x : M4) (hk : k < n) :
    OwnP T ((((w.setCell ⟨g, k * 4, none⟩ (.int .i64 x.1)).setCell ⟨g, k * 4 + 1, none⟩ (.int .i64 x.2.1)).setCell ⟨g, k * 4 + 2, none⟩ (.int .i64 x.2.2.1)).setCell ⟨g, k * 4 + 3, none⟩ (.int .i64 x.2.2.2)) B (.slice (some ⟨g, 0, none⟩) n cap) (L.set k x) ∧
    w.grownBy ((((w.setCell ⟨g, k * 4, none⟩ (.int .i64 x.1)).setCell ⟨g, k * 4 + 1, none⟩ (.int .i64 x.2.1)).setCell ⟨g, k * 4 + 2, none⟩ (.int .i64 x.2.2.1)).setCell ⟨g, k * 4 + 3, none⟩ (.int .i64 x.2.2.2)) (some g) := by
  subst hn
  have h0 : OwnP T w B (.slice (some ⟨g, 0, none⟩) L.length cap) L ∧ w.grownBy w (some g) := ⟨h, World.grownBy.refl _ _⟩
  have h1 := World.ownsRow.stored h0.1 (k * 4) (.int .i64 x.1)
  have h2 := World.ownsRow.stored h1.1 (k * 4 + 1) (.int .i64 x.2.1)
  have h3 := World.ownsRow.stored h2.1 (k * 4 + 2) (.int .i64 x.2.2.1)
  have h4 := World.ownsRow.stored h3.1 (k * 4 + 3) (.int .i64 x.2.2.2)
  refine ⟨?_, ?_⟩
  · unfold OwnP
    rw [List.length_set, flatP_set L k x hk]
    exact h4.1
  · have t : ∀ {a b c : World}, a.grownBy b (some g) → b.grownBy c (some g) → a.grownBy c (some g) := fun h k => ⟨k.os.trans h.os, k.tape.trans h.tape, k.output.trans h.output, Nat.le_trans h.size k.size, fun i hi hr => (k.block i (Nat.lt_of_lt_of_le hi h.size) hr).trans (h.block i hi hr)⟩
    exact t (t (t (h1.2) h2.2) h3.2) h4.2

theorem infoM : (Tryz.prog.info? 128).map (fun i => (i.zero, i.size, i.bytes)) = some (some (.agg #[.int .i64 0, .int .i64 0, .int .i64 0]), 3, 24) := by kernel_rfl
theorem infoP : (Tryz.prog.info? 74).map (fun i => (i.zero, i.size, i.bytes)) = some (some (.agg #[.int .i64 0, .int .i64 0, .int .i64 0, .int .i64 0]), 4, 32) := by kernel_rfl
theorem infoX : (Tryz.prog.info? 24).map (fun i => (i.zero, i.size, i.bytes)) = some (some (.agg #[.int .i64 0, .int .i64 0]), 2, 16) := by kernel_rfl

theorem madeM (n : Nat) : (madeCells #[.int .i64 0, .int .i64 0, .int .i64 0] (n * 3)).toList = (List.replicate n zm3).flatMap encM := by
  apply List.ext_getElem?
  intro j
  by_cases hj : j < n * 3
  · have hk : j / 3 < n := by omega
    have hf := flatM_get (List.replicate n zm3) (j / 3) (j % 3) (by simpa using hk) (by omega)
    rw [show j / 3 * 3 + j % 3 = j by omega] at hf
    rw [hf]
    have e : (List.replicate n zm3).getD (j / 3) zm3 = zm3 := by simp [hk]
    rw [e]
    have h3 : j % 3 = 0 ∨ j % 3 = 1 ∨ j % 3 = 2 := by omega
    rcases h3 with h3 | h3 | h3 <;> simp [madeCells, hj, h3, encM, zm3]
  · rw [List.getElem?_eq_none (by simp [size_madeCells]; omega), List.getElem?_eq_none (by rw [flatM_len]; simp; omega)]

theorem run_make_m3 (w : World) (n : Nat) (hn : n ≤ 1000000) :
    (Instr.makeSlice 124 (.int .i64 (n : Int)) (.int .i64 (n : Int))).run Tryz.prog w = .ok (.slice (some ⟨w.heap.size, 0, none⟩) n n) (w.alloc (.cells (madeCells #[.int .i64 0, .int .i64 0, .int .i64 0] (n * 3)) 128)) := by
  obtain ⟨i0, hi, hz0, hz1, hz2⟩ := info_parts infoM
  have h := run_make (P := Tryz.prog) w 124 128 i0 (.agg #[.int .i64 0, .int .i64 0, .int .i64 0]) Tryz.underlying124 hi hz0 .i64 .i64 (n : Int) (n : Int) (by omega) (Int.le_refl _) (by rw [hz2]; omega) (by omega)
  simpa [hz1, Value.cells] using h

theorem OwnM.made (w : World) (n : Nat) (hn : n ≤ maxLen) : OwnM 128 (w.alloc (.cells (madeCells #[.int .i64 0, .int .i64 0, .int .i64 0] (n * 3)) 128)) w.heap.size (.slice (some ⟨w.heap.size, 0, none⟩) n n) (List.replicate n zm3) := by
  have := World.ownsRow_lit (base := w.heap.size) (e := 128) (size := 3) w (madeCells #[.int .i64 0, .int .i64 0, .int .i64 0] (n * 3)) n (Nat.le_refl _) hn (size_madeCells _ _)
  unfold OwnM
  rw [madeM] at this
  simpa using this

theorem getD_setM (R : List M3) (k j : Nat) (x : M3) (hk : k < R.length) : (R.set k x).getD j zm3 = if k = j then x else R.getD j zm3 := by
  rw [List.getD_eq_getElem?_getD, List.getElem?_set]
  split
  · simp
  · rw [List.getD_eq_getElem?_getD]
end Go.Proofs.YtjpdfchdgphdoaaGreatDoor.Oct
