/- Rows of api.Part; rows of entries; a table's partitions. -/
import Derived.Test.YtpbnjobjjnhplaaDoorPGpeGpf
import Derived.Test.YtpbnjobjjnhplaaDoorPTakEzc
import Derived.Laws.OwnMore
import Derived.Maps.AppendAt
namespace Go.Proofs.YtpbnjobjjnhplaaDoor.Oct
open Go.RowKit

abbrev M4 := Int × Int × Int × Int
def zm4 : M4 := (0, 0, 0, 0)

def encPm (x : M4) : List Value := [.int .i64 x.1, .int .i64 x.2.1, .int .i64 x.2.2.1, .int .i64 x.2.2.2]

def LiesP (w : World) (a : Option Addr) (L : List M4) : Prop :=
  L = [] ∨ ∃ b off, a = some ⟨b, off, none⟩ ∧ b < w.heap.size ∧ ∀ k, k < L.length → w.cell? ⟨b, off + k * 4, none⟩ = some (.int .i64 (L.getD k zm4).1) ∧ w.cell? ⟨b, off + k * 4 + 1, none⟩ = some (.int .i64 (L.getD k zm4).2.1) ∧ w.cell? ⟨b, off + k * 4 + 2, none⟩ = some (.int .i64 (L.getD k zm4).2.2.1) ∧ w.cell? ⟨b, off + k * 4 + 3, none⟩ = some (.int .i64 (L.getD k zm4).2.2.2)

theorem LiesP.below {w w' : World} {a : Option Addr} {L : List M4} (h : LiesP w a L) (hb : RowKit.Below w.heap.size w w') : LiesP w' a L := by
  rcases h with rfl | ⟨b, off, rfl, hlt, hc⟩
  · exact Or.inl rfl
  · exact Or.inr ⟨b, off, rfl, Nat.lt_of_lt_of_le hlt hb.size, fun k hk => ⟨(hb.cell (p := ⟨b, off + k * 4, none⟩) hlt).trans (hc k hk).1, (hb.cell (p := ⟨b, off + k * 4 + 1, none⟩) hlt).trans (hc k hk).2.1, (hb.cell (p := ⟨b, off + k * 4 + 2, none⟩) hlt).trans (hc k hk).2.2.1, (hb.cell (p := ⟨b, off + k * 4 + 3, none⟩) hlt).trans (hc k hk).2.2.2⟩⟩

theorem LiesP.chg {X : Nat → Prop} {w w' : World} {a : Option Addr} {L : List M4} (h : LiesP w a L) (hg : Chg X w w') (hne : ∀ x, a = some x → ¬ X x.block) : LiesP w' a L := by
  rcases h with rfl | ⟨b, off, rfl, hlt, hc⟩
  · exact Or.inl rfl
  · exact Or.inr ⟨b, off, rfl, Nat.lt_of_lt_of_le hlt hg.size, fun k hk => ⟨hg.cell (hc k hk).1 (hne _ rfl), hg.cell (hc k hk).2.1 (hne _ rfl), hg.cell (hc k hk).2.2.1 (hne _ rfl), hg.cell (hc k hk).2.2.2 (hne _ rfl)⟩⟩

/-- A row of the call's own (of structs of type T). -/
def OwnP (T : Nat) (w : World) (B : Nat) (v : Value) (L : List M4) : Prop := w.ownsRow B T 4 v L.length (L.flatMap encPm)

theorem flatP_get : ∀ (L : List M4) (k j : Nat), k < L.length → j < 4 → (L.flatMap encPm)[k * 4 + j]? = (encPm (L.getD k zm4))[j]?
  | [], k, j, hk, _ => by simp at hk
  | x :: L, 0, j, _, hj => by
    simp only [List.flatMap_cons, Nat.zero_mul, Nat.zero_add]
    rw [List.getElem?_append_left (by simp [encPm]; omega)]
    simp
  | x :: L, k + 1, j, hk, hj => by
    simp only [List.flatMap_cons]
    rw [List.getElem?_append_right (by simp [encPm]; omega)]
    have := flatP_get L k j (by simpa using hk) hj
    simp only [List.getD_cons_succ]
    rw [← this]
    congr 1
    simp [encPm]
    omega

theorem flatP_len (L : List M4) : (L.flatMap encPm).length = L.length * 4 := by
  induction L with
  | nil => rfl
  | cons x L ih => simp only [List.flatMap_cons, List.length_append, ih]; simp [encPm]; omega

theorem OwnP.cells {T : Nat} {w : World} {B g n cap : Nat} {L : List M4} (h : OwnP T w B (.slice (some ⟨g, 0, none⟩) n cap) L) (k : Nat) (hk : k < L.length) : w.cell? ⟨g, k * 4, none⟩ = some (.int .i64 (L.getD k zm4).1) ∧ w.cell? ⟨g, k * 4 + 1, none⟩ = some (.int .i64 (L.getD k zm4).2.1) ∧ w.cell? ⟨g, k * 4 + 2, none⟩ = some (.int .i64 (L.getD k zm4).2.2.1) ∧ w.cell? ⟨g, k * 4 + 3, none⟩ = some (.int .i64 (L.getD k zm4).2.2.2) := by
  have hc := World.ownsRow.cells (g := g) h rfl
  have e : ∀ j, j < 4 → w.cell? ⟨g, k * 4 + j, none⟩ = (encPm (L.getD k zm4))[j]? := by
    intro j hj
    have hf := flatP_get L k j hk hj
    have h3 : j < (encPm (L.getD k zm4)).length := by simp [encPm]; omega
    rw [List.getElem?_eq_getElem h3] at hf ⊢
    have := hc _ _ hf
    rw [Go.WideShapes.add_plain, Nat.zero_add] at this
    exact this
  exact ⟨e 0 (by omega), e 1 (by omega), e 2 (by omega), e 3 (by omega)⟩

theorem OwnP.frozen {T : Nat} {w : World} {B g n cap : Nat} {L : List M4} (h : OwnP T w B (.slice (some ⟨g, 0, none⟩) n cap) L) (hn : n = L.length) (j : Nat) : w.frozen? ⟨g, j, none⟩ = false := by
  subst hn
  exact World.ownsRow.frozenAt h j

theorem OwnP.form {T : Nat} {w : World} {B : Nat} {v : Value} {L : List M4} (h : OwnP T w B v L) : ∃ a c, v = .slice a L.length c ∧ LiesP w a L ∧ L.length ≤ c ∧ c ≤ maxLen ∧ (∀ x, a = some x → B ≤ x.block ∧ x.block < w.heap.size ∧ x.off = 0 ∧ x.spot = none) := by
  have h0 := h
  rcases h.2 with ⟨rfl, hn⟩ | ⟨g, cap, cur, rfl, hb, hh, h1, h2, h3, h4⟩
  · have : L = [] := List.length_eq_zero_iff.1 hn
    subst this
    exact ⟨none, 0, rfl, Or.inl rfl, by simp, by simp, fun x hx => by cases hx⟩
  · have hlt := (Array.getElem?_eq_some_iff.1 hh).1
    refine ⟨_, cap, rfl, Or.inr ⟨g, 0, rfl, hlt, fun k hk => ?_⟩, h1, h2, fun x hx => by cases hx; exact ⟨hb, hlt, rfl, rfl⟩⟩
    rw [Nat.zero_add]
    exact OwnP.cells h0 k hk

theorem OwnP.nil (T : Nat) (w : World) (B : Nat) : OwnP T w B (.slice none 0 0) [] := World.ownsRow_nil _ _ _ _

theorem OwnP.below {T : Nat} {w w' : World} {B : Nat} {v : Value} {L : List M4} (h : OwnP T w B v L) (hb : RowKit.Below w.heap.size w w') : OwnP T w' B v L :=
  World.ownsRow.kept (row := none) h ⟨hb.os, hb.tape, hb.output, hb.size, fun k hk _ => hb.block k hk⟩ (by cases v.ownBlock <;> simp)

theorem OwnP.chg {T : Nat} {X : Nat → Prop} {w w' : World} {B : Nat} {v : Value} {L : List M4} (h : OwnP T w B v L) (hg : Chg X w w') (hne : ∀ g, v.ownBlock = some g → ¬ X g) : OwnP T w' B v L := ownsRow_chg h hg hne

theorem flatP_set : ∀ (L : List M4) (k : Nat) (x : M4), k < L.length → (L.set k x).flatMap encPm = ((((L.flatMap encPm).set (k * 4) (.int .i64 x.1)).set (k * 4 + 1) (.int .i64 x.2.1)).set (k * 4 + 2) (.int .i64 x.2.2.1)).set (k * 4 + 3) (.int .i64 x.2.2.2)
  | [], k, x, hk => by simp at hk
  | y :: L, 0, x, _ => by simp [encPm]
  | y :: L, k + 1, x, hk => by
    have ih := flatP_set L k x (by simpa using hk)
    simp only [List.set_cons_succ, List.flatMap_cons, ih]
    rw [show (k + 1) * 4 = k * 4 + 4 by omega, show k * 4 + 4 + 1 = k * 4 + 1 + 4 by omega, show k * 4 + 4 + 2 = k * 4 + 2 + 4 by omega, show k * 4 + 4 + 3 = k * 4 + 3 + 4 by omega]
    simp [encPm]

theorem infoP : (Tryd.prog.info? 61).map (fun i => (i.zero, i.size, i.bytes)) = some (some (.agg #[.int .i64 0, .int .i64 0, .int .i64 0, .int .i64 0]), 4, 32) := by kernel_rfl

theorem wpList_append_P {w : World} {ops : Array Oper} {rest : List Oper} {o : Oper} {a : Act} {Q : Exit → Act → World → Prop} (hgd : o.guard = none) (s x : Operand) (t : TypeId)
    (ho : o.op = .call { callee := .builtin .append, args := #[s, x], argTypes := #[t, t] }) (ht : Tryd.prog.underlying t = some (.slice 61)) (B : Nat) (v : Value) (O : List M4) (hs : a.eval s = v) (hown : OwnP 61 w B v O)
    (b n : Nat) (z : M4) (hx : a.eval x = .slice (some ⟨b, 0, none⟩) 1 n) (hc : ∀ j u, (encPm z)[j]? = some u → w.cell? ⟨b, j, none⟩ = some u) (hlen : O.length + 1 ≤ 10000000) (hB : B ≤ w.heap.size)
    (h : ∀ v' w', OwnP 61 w' B v' (O ++ [z]) → w.grownBy w' v.ownBlock → wpList Tryd.prog ops Q rest (a.put o.dst v') w') : wpList Tryd.prog ops Q (o :: rest) a w := by
  obtain ⟨i, hi, hz0, hz1, hz2⟩ := info_parts infoP
  refine wpList_append_own_at _ hgd s x t ho B 61 i (.agg #[.int .i64 0, .int .i64 0, .int .i64 0, .int .i64 0]) 4 32 ht hi hz0 hz1 hz2 rfl (by decide) v O.length (O.flatMap encPm) hs hown ⟨b, 0, none⟩ 1 n (encPm z) hx rfl ?_ ?_ (by unfold maxLen; omega) (by omega) hB ?_
  · intro j u hj
    rw [Go.WideShapes.add_plain, Nat.zero_add]
    exact hc j u hj
  · intro u hu
    simp [encPm] at hu
    rcases hu with rfl | rfl | rfl | rfl <;> rfl
  · intro v' w' ho' hg _ _
    refine h v' w' ?_ hg
    unfold OwnP
    rw [List.flatMap_append, List.length_append]
    simpa using ho'

/-- Rows of entries. -/
def LiesEn (w : World) (a : Option Addr) (L : List E4) : Prop :=
  L = [] ∨ ∃ b off, a = some ⟨b, off, none⟩ ∧ b < w.heap.size ∧ ∀ k x, L[k]? = some x → ∀ j v, x.cells[j]? = some v → w.cell? ⟨b, off + k * 114 + j, none⟩ = some v

theorem LiesEn.below {w w' : World} {a : Option Addr} {L : List E4} (h : LiesEn w a L) (hb : Below w.heap.size w w') : LiesEn w' a L := by
  rcases h with h | ⟨b, off, h1, h2, h3⟩
  · exact Or.inl h
  · exact Or.inr ⟨b, off, h1, Nat.lt_of_lt_of_le h2 hb.size, fun k x hk j v hv => (hb.cell (p := ⟨b, off + k * 114 + j, none⟩) h2).trans (h3 k x hk j v hv)⟩

/-- A partition as it is told. -/
def partP (p : Int × Int × Nat) : M4 := (p.1 * 512, (p.2.1 + 1) * 512, 0, (p.2.2 : Int))
end Go.Proofs.YtpbnjobjjnhplaaDoor.Oct
