/- Lists of parts in memory; a row of them that was sorted. -/
import Derived.Test.YtbldkebolmellaaDoorExm
import Derived.Test.YtbldkebolmellaaDoorChg
import Derived.Shelf.SlSortCmp.InsertionK
import Derived.Laws.OwnMore
namespace Go.Proofs.YtbldkebolmellaaDoor.Oct
open Go.RowKit Go.Sort

def encE (x : Int × Int) : List Value := [.int .i64 x.1, .int .i64 x.2]

/-- Parts lie from the address on. -/
def LiesE (w : World) (a : Option Addr) (L : List (Int × Int)) : Prop :=
  L = [] ∨ ∃ b off, a = some ⟨b, off, none⟩ ∧ b < w.heap.size ∧ ∀ k, k < L.length → w.cell? ⟨b, off + k * 2, none⟩ = some (.int .i64 (L.getD k (0, 0)).1) ∧ w.cell? ⟨b, off + k * 2 + 1, none⟩ = some (.int .i64 (L.getD k (0, 0)).2)

theorem LiesE.below {w w' : World} {a : Option Addr} {L : List (Int × Int)} (h : LiesE w a L) (hb : RowKit.Below w.heap.size w w') : LiesE w' a L := by
  rcases h with rfl | ⟨b, off, rfl, hlt, hc⟩
  · exact Or.inl rfl
  · exact Or.inr ⟨b, off, rfl, Nat.lt_of_lt_of_le hlt hb.size, fun k hk => ⟨(hb.cell (p := ⟨b, off + k * 2, none⟩) hlt).trans (hc k hk).1, (hb.cell (p := ⟨b, off + k * 2 + 1, none⟩) hlt).trans (hc k hk).2⟩⟩

/-- A row of parts of the call's own. -/
def OwnE (w : World) (B : Nat) (v : Value) (L : List (Int × Int)) : Prop := w.ownsRow B 30 2 v L.length (L.flatMap encE)

theorem flatE_get : ∀ (L : List (Int × Int)) (k j : Nat), k < L.length → j < 2 → (L.flatMap encE)[k * 2 + j]? = (encE (L.getD k (0, 0)))[j]?
  | [], k, j, hk, _ => by simp at hk
  | x :: L, 0, j, _, hj => by
    simp only [List.flatMap_cons, Nat.zero_mul, Nat.zero_add]
    rw [List.getElem?_append_left (by simp [encE]; omega)]
    simp
  | x :: L, k + 1, j, hk, hj => by
    simp only [List.flatMap_cons]
    rw [List.getElem?_append_right (by simp [encE]; omega)]
    have := flatE_get L k j (by simpa using hk) hj
    simp only [List.getD_cons_succ]
    rw [← this]
    congr 1
    simp [encE]
    omega

theorem flatE_len (L : List (Int × Int)) : (L.flatMap encE).length = L.length * 2 := by
  induction L with
  | nil => rfl
  | cons x L ih => simp only [List.flatMap_cons, List.length_append, ih]; simp [encE]; omega

theorem OwnE.cells {w : World} {B g n cap : Nat} {L : List (Int × Int)} (h : OwnE w B (.slice (some ⟨g, 0, none⟩) n cap) L) (k : Nat) (hk : k < L.length) : w.cell? ⟨g, k * 2, none⟩ = some (.int .i64 (L.getD k (0, 0)).1) ∧ w.cell? ⟨g, k * 2 + 1, none⟩ = some (.int .i64 (L.getD k (0, 0)).2) := by
  have hc := World.ownsRow.cells (g := g) h rfl
  have e : ∀ j, j < 2 → w.cell? ⟨g, k * 2 + j, none⟩ = (encE (L.getD k (0, 0)))[j]? := by
    intro j hj
    have hf := flatE_get L k j hk hj
    have h3 : j < (encE (L.getD k (0, 0))).length := by simp [encE]; omega
    rw [List.getElem?_eq_getElem h3] at hf ⊢
    have := hc _ _ hf
    rw [Go.WideShapes.add_plain, Nat.zero_add] at this
    exact this
  exact ⟨e 0 (by omega), e 1 (by omega)⟩

theorem OwnE.form {w : World} {B : Nat} {v : Value} {L : List (Int × Int)} (h : OwnE w B v L) : ∃ a c, v = .slice a L.length c ∧ LiesE w a L ∧ L.length ≤ c ∧ c ≤ maxLen ∧ (∀ x, a = some x → B ≤ x.block ∧ x.block < w.heap.size ∧ x.off = 0 ∧ x.spot = none) := by
  have h0 := h
  rcases h.2 with ⟨rfl, hn⟩ | ⟨g, cap, cur, rfl, hb, hh, h1, h2, h3, h4⟩
  · have : L = [] := List.length_eq_zero_iff.1 hn
    subst this
    exact ⟨none, 0, rfl, Or.inl rfl, by simp, by simp, fun x hx => by cases hx⟩
  · have hlt := (Array.getElem?_eq_some_iff.1 hh).1
    refine ⟨_, cap, rfl, Or.inr ⟨g, 0, rfl, hlt, fun k hk => ?_⟩, h1, h2, fun x hx => by cases hx; exact ⟨hb, hlt, rfl, rfl⟩⟩
    rw [Nat.zero_add]
    exact OwnE.cells h0 k hk

theorem OwnE.nil (w : World) (B : Nat) : OwnE w B (.slice none 0 0) [] := World.ownsRow_nil _ _ _ _

theorem OwnE.below {w w' : World} {B : Nat} {v : Value} {L : List (Int × Int)} (h : OwnE w B v L) (hb : RowKit.Below w.heap.size w w') : OwnE w' B v L :=
  World.ownsRow.kept (row := none) h ⟨hb.os, hb.tape, hb.output, hb.size, fun k hk _ => hb.block k hk⟩ (by cases v.ownBlock <;> simp)

theorem holds_of {w : World} {B g n cap : Nat} {L : List (Int × Int)} (h : OwnE w B (.slice (some ⟨g, 0, none⟩) n cap) L) (hn : n = L.length) : HoldsK encE 2 w g 0 L.toArray := by
  subst hn
  intro t ht
  simp at ht
  have hk : t / 2 < L.length := by omega
  have hc := World.ownsRow.cells (g := g) h rfl
  have hf := flatE_get L (t / 2) (t % 2) hk (by omega)
  rw [show t / 2 * 2 + t % 2 = t by omega] at hf
  have h3 : t % 2 < (encE (L.getD (t / 2) (0, 0))).length := by simp [encE]; omega
  rw [List.getElem?_eq_getElem h3] at hf
  have h4 := hc _ _ hf
  rw [Go.WideShapes.add_plain] at h4
  refine ⟨?_, World.ownsRow.frozenAt h _⟩
  rw [h4]
  congr 1
  rw [get_flatK _ _ _ _ (by simpa using ht)]
  have e1 : L.toArray[t / 2]! = L.getD (t / 2) (0, 0) := by
    rw [getElem!_pos L.toArray (t / 2) (by simpa using hk)]
    simp [hk]
  rw [e1, getElem!_pos (encE (L.getD (t / 2) (0, 0))) (t % 2) h3]
  rfl

/-- The row behind the sort. -/
theorem own_sorted {w : World} {B g n cap : Nat} {L : List (Int × Int)} (h : OwnE w B (.slice (some ⟨g, 0, none⟩) n cap) L) (hn : n = L.length) (d' : Array (Int × Int)) (hs : d'.size = L.length) (m : Nat) (os : Array Obj) :
    OwnE (sortWorldK encE 2 w g 0 m d' os) B (.slice (some ⟨g, 0, none⟩) n cap) d'.toList ∧ w.grownBy (sortWorldK encE 2 w g 0 m d' os) (some g) := by
  subst hn
  rcases h.2 with ⟨e, _⟩ | ⟨g', cap', cur, e, hb, hh, h1, h2, h3, h4⟩
  · simp at e
  simp at e
  obtain ⟨rfl, rfl⟩ := e
  have hlt := (Array.getElem?_eq_some_iff.1 hh).1
  have hg : (sortWorldK encE 2 w g 0 m d' os).heap[g]? = some (.cells (putCells id 0 (flatK encE 2 d') cur) 30 (0, 0)) := by
    unfold sortWorldK grow putRowK putRow mapBlock Go.Sort.ahead
    simp only
    rw [Array.getElem?_append_left (by simpa using hlt), Array.getElem?_modify, if_pos rfl, hh]
    rfl
  have hfl := flatE_len d'.toList
  have hdl : d'.toList.length = L.length := by simpa using hs
  refine ⟨⟨by rw [hfl], Or.inr ⟨g, cap, _, by rw [hdl], hb, hg, by rw [hdl]; exact h1, h2, ?_, ?_⟩⟩, ⟨rfl, rfl, rfl, ?_, fun k hk hne => ?_⟩⟩
  · simp [putCells, h3]
  · apply List.ext_getElem?
    intro t
    rw [List.getElem?_take]
    split
    · rename_i ht
      have hk : t / 2 < d'.toList.length := by omega
      have hf := flatE_get d'.toList (t / 2) (t % 2) hk (by omega)
      rw [show t / 2 * 2 + t % 2 = t by omega] at hf
      rw [hf]
      have h3' : t % 2 < (encE (d'.toList.getD (t / 2) (0, 0))).length := by simp [encE]; omega
      have hts : t < cur.size := by rw [h3]; omega
      have htf : t < d'.size * 2 := by rw [hs]; omega
      have e1 : d'[t / 2]! = d'.toList.getD (t / 2) (0, 0) := by
        rw [getElem!_pos d' (t / 2) (by simpa using hk)]
        have : t / 2 < d'.size := by simpa using hk
        simp [this]
      simp only [putCells, Array.getElem?_toList, Array.getElem?_mapIdx]
      rw [Array.getElem?_eq_getElem hts]
      simp only [Option.map_some, id, Nat.zero_le, true_and, Nat.zero_add, size_flatK, Nat.sub_zero]
      rw [if_pos htf, get_flatK _ _ _ _ htf, e1, getElem!_pos (encE (d'.toList.getD (t / 2) (0, 0))) (t % 2) h3', List.getElem?_eq_getElem h3']
    · rename_i ht
      rw [List.getElem?_eq_none (by rw [hfl]; omega)]
  · unfold sortWorldK grow putRowK putRow mapBlock Go.Sort.ahead
    simp
  · unfold sortWorldK grow putRowK putRow mapBlock Go.Sort.ahead
    simp only
    rw [Array.getElem?_append_left (by simpa using hk), Array.getElem?_modify, if_neg (by intro e; exact hne (by rw [e]))]

end Go.Proofs.YtbldkebolmellaaDoor.Oct
