/- Lists of parts in memory; a row of them that was sorted. -/
import Derived.Test.YtpbnjobjjnhplaaDoorPNumMem
import Derived.Test.YtpbnjobjjnhplaaDoorPAppChg
import Derived.Shelf.SlSortCmp.InsertionK
import Derived.Laws.OwnMore
namespace Go.Proofs.YtpbnjobjjnhplaaDoor.Oct

/-- A byte is in one of the parts. -/
def InE (L : List (Int × Int)) (x : Int) : Prop := ∃ p ∈ L, p.1 ≤ x ∧ x < p.2

/-- The one form: parts rise, none is empty, none touches another. -/
def Form (L : List (Int × Int)) : Prop := (∀ p ∈ L, p.1 < p.2) ∧ L.Pairwise (fun p q => p.2 < q.1)

theorem InE.nil (x : Int) : ¬ InE [] x := fun ⟨p, hp, _⟩ => by simp at hp

theorem inE_cons (p : Int × Int) (L : List (Int × Int)) (x : Int) : InE (p :: L) x ↔ (p.1 ≤ x ∧ x < p.2) ∨ InE L x := by
  simp [InE]

theorem inE_append (L M : List (Int × Int)) (x : Int) : InE (L ++ M) x ↔ InE L x ∨ InE M x := by
  simp only [InE, List.mem_append]
  constructor
  · rintro ⟨p, h | h, hx⟩
    · exact Or.inl ⟨p, h, hx⟩
    · exact Or.inr ⟨p, h, hx⟩
  · rintro (⟨p, h, hx⟩ | ⟨p, h, hx⟩)
    · exact ⟨p, Or.inl h, hx⟩
    · exact ⟨p, Or.inr h, hx⟩

theorem inE_one (p : Int × Int) (x : Int) : InE [p] x ↔ p.1 ≤ x ∧ x < p.2 := by simp [InE]

theorem Form.tail {p : Int × Int} {L : List (Int × Int)} (h : Form (p :: L)) : Form L := ⟨fun q hq => h.1 q (by simp [hq]), (List.pairwise_cons.1 h.2).2⟩

theorem Form.rest {p : Int × Int} {L : List (Int × Int)} (h : Form (p :: L)) {x : Int} (hx : InE L x) : p.2 < x := by
  obtain ⟨q, hq, h1, h2⟩ := hx
  have := (List.pairwise_cons.1 h.2).1 q hq
  omega

theorem Form.head {p : Int × Int} {L : List (Int × Int)} (h : Form (p :: L)) {x : Int} (hx : InE (p :: L) x) : p.1 ≤ x := by
  rcases (inE_cons _ _ _).1 hx with h1 | h1
  · exact h1.1
  · have h2 := h.rest h1
    have h3 := h.1 p (by simp)
    omega

/-- The one form is one. -/
theorem Form.unique : ∀ (L M : List (Int × Int)), Form L → Form M → (∀ x, InE L x ↔ InE M x) → L = M
  | [], [], _, _, _ => rfl
  | [], q :: M, _, hM, h => by
    have h1 := hM.1 q (by simp)
    exact absurd ((h q.1).2 ((inE_cons _ _ _).2 (Or.inl ⟨Int.le_refl _, h1⟩))) (InE.nil _)
  | p :: L, [], hL, _, h => by
    have h1 := hL.1 p (by simp)
    exact absurd ((h p.1).1 ((inE_cons _ _ _).2 (Or.inl ⟨Int.le_refl _, h1⟩))) (InE.nil _)
  | p :: L, q :: M, hL, hM, h => by
    have hp := hL.1 p (by simp)
    have hq := hM.1 q (by simp)
    have e1 : p.1 = q.1 := by
      have h1 := hM.head ((h p.1).1 ((inE_cons _ _ _).2 (Or.inl ⟨Int.le_refl _, hp⟩)))
      have h2 := hL.head ((h q.1).2 ((inE_cons _ _ _).2 (Or.inl ⟨Int.le_refl _, hq⟩)))
      omega
    have no : ∀ (a : Int × Int) (A : List (Int × Int)), Form (a :: A) → ¬ InE (a :: A) a.2 := by
      intro a A ha hx
      rcases (inE_cons _ _ _).1 hx with h1 | h1
      · omega
      · have := ha.rest h1; omega
    have e2 : p.2 = q.2 := by
      rcases Int.lt_trichotomy p.2 q.2 with h1 | h1 | h1
      · exact absurd ((h p.2).2 ((inE_cons _ _ _).2 (Or.inl ⟨by omega, h1⟩))) (no p L hL)
      · exact h1
      · exact absurd ((h q.2).1 ((inE_cons _ _ _).2 (Or.inl ⟨by omega, h1⟩))) (no q M hM)
    have e : p = q := Prod.ext e1 e2
    subst e
    rw [Form.unique L M hL.tail hM.tail (fun x => ?_)]
    constructor
    · intro hx
      have h1 := hL.rest hx
      rcases (inE_cons _ _ _).1 ((h x).1 ((inE_cons _ _ _).2 (Or.inr hx))) with h2 | h2
      · omega
      · exact h2
    · intro hx
      have h1 := hM.rest hx
      rcases (inE_cons _ _ _).1 ((h x).2 ((inE_cons _ _ _).2 (Or.inr hx))) with h2 | h2
      · omega
      · exact h2

/-- One part more, of parts that rise. -/
def nstep (one : List (Int × Int)) (x : Int × Int) : List (Int × Int) :=
  if one = [] ∨ (one.getD (one.length - 1) (0, 0)).2 < x.1 then one ++ [x]
  else one.set (one.length - 1) ((one.getD (one.length - 1) (0, 0)).1, max (one.getD (one.length - 1) (0, 0)).2 x.2)

/-- What is made of parts that rise: the one form; its numbers are theirs. -/
structure Made (D one : List (Int × Int)) : Prop where
  form : Form one
  set : ∀ x, InE one x ↔ InE D x
  len : one.length ≤ D.length
  fst : ∀ p ∈ one, ∃ q ∈ D, p.1 = q.1
  snd : ∀ p ∈ one, ∃ q ∈ D, p.2 = q.2

theorem Made.nil : Made [] [] := ⟨⟨fun p hp => by simp at hp, List.Pairwise.nil⟩, fun x => Iff.rfl, Nat.le_refl _, fun p hp => by simp at hp, fun p hp => by simp at hp⟩

theorem split_last (one : List (Int × Int)) (h : one ≠ []) : ∃ A l, one = A ++ [l] ∧ one.getD (one.length - 1) (0, 0) = l ∧ one.length - 1 = A.length := by
  obtain ⟨A, l, rfl⟩ : ∃ A l, one = A ++ [l] := ⟨one.dropLast, one.getLast h, (List.dropLast_concat_getLast h).symm⟩
  exact ⟨A, l, rfl, by simp, by simp⟩

theorem Made.step {D one : List (Int × Int)} (h : Made D one) (x : Int × Int) (hx : x.1 < x.2) (hr : ∀ q ∈ D, q.1 ≤ x.1) : Made (D ++ [x]) (nstep one x) := by
  unfold nstep
  by_cases h0 : one = []
  · rw [if_pos (Or.inl h0)]
    subst h0
    simp only [List.nil_append]
    refine ⟨⟨fun p hp => by simp at hp; subst hp; exact hx, by simp⟩, fun y => ?_, by simp, fun p hp => ⟨x, by simp, by simp at hp; rw [hp]⟩, fun p hp => ⟨x, by simp, by simp at hp; rw [hp]⟩⟩
    rw [inE_append]
    exact ⟨fun hy => Or.inr hy, fun hy => hy.elim (fun hy => absurd ((h.set y).2 hy) (InE.nil _)) id⟩
  obtain ⟨A, l, rfl, e1, e2⟩ := split_last one h0
  rw [e1, e2]
  have hl := h.form.1 l (by simp)
  have hpw := List.pairwise_append.1 h.form.2
  obtain ⟨q, hq, hq1⟩ := h.fst l (by simp)
  have hlx : l.1 ≤ x.1 := by rw [hq1]; exact hr q hq
  by_cases h1 : l.2 < x.1
  · rw [if_pos (Or.inr h1)]
    refine ⟨⟨fun p hp => ?_, ?_⟩, fun y => ?_, by have := h.len; simp at this ⊢; omega, fun p hp => ?_, fun p hp => ?_⟩
    · rcases List.mem_append.1 hp with hp | hp
      · exact h.form.1 p hp
      · simp at hp; subst hp; exact hx
    · refine List.pairwise_append.2 ⟨h.form.2, by simp, fun a ha b hb => ?_⟩
      simp at hb
      subst hb
      rcases List.mem_append.1 ha with ha | ha
      · have h2 := hpw.2.2 a ha l (by simp)
        have h3 := hl
        omega
      · simp at ha; subst ha; exact h1
    · rw [inE_append (A ++ [l]) [x], inE_append D [x], h.set]
    · rcases List.mem_append.1 hp with hp | hp
      · obtain ⟨q, hq, e⟩ := h.fst p hp
        exact ⟨q, by simp [hq], e⟩
      · exact ⟨x, by simp, by simp at hp; rw [hp]⟩
    · rcases List.mem_append.1 hp with hp | hp
      · obtain ⟨q, hq, e⟩ := h.snd p hp
        exact ⟨q, by simp [hq], e⟩
      · exact ⟨x, by simp, by simp at hp; rw [hp]⟩
  · rw [if_neg (by simp [h1])]
    have es : (A ++ [l]).set A.length (l.1, max l.2 x.2) = A ++ [(l.1, max l.2 x.2)] := by simp
    rw [es]
    refine ⟨⟨fun p hp => ?_, ?_⟩, fun y => ?_, by have := h.len; simp at this ⊢; omega, fun p hp => ?_, fun p hp => ?_⟩
    · rcases List.mem_append.1 hp with hp | hp
      · exact h.form.1 p (by simp [hp])
      · simp at hp; subst hp; simp; omega
    · refine List.pairwise_append.2 ⟨hpw.1, by simp, fun a ha b hb => ?_⟩
      simp at hb
      subst hb
      exact hpw.2.2 a ha l (by simp)
    · have hs := h.set y
      rw [inE_append, inE_one] at hs
      rw [inE_append, inE_one, inE_append, inE_one, ← hs]
      simp only
      constructor
      · rintro (h2 | h2)
        · exact Or.inl (Or.inl h2)
        · by_cases h3 : y < l.2
          · exact Or.inl (Or.inr ⟨h2.1, h3⟩)
          · exact Or.inr ⟨by omega, by omega⟩
      · rintro ((h2 | h2) | h2)
        · exact Or.inl h2
        · exact Or.inr ⟨h2.1, by omega⟩
        · exact Or.inr ⟨by omega, by omega⟩
    · rcases List.mem_append.1 hp with hp | hp
      · obtain ⟨q, hq, e⟩ := h.fst p (by simp [hp])
        exact ⟨q, by simp [hq], e⟩
      · simp at hp
        exact ⟨q, by simp [hq], by rw [hp]; exact hq1⟩
    · rcases List.mem_append.1 hp with hp | hp
      · obtain ⟨q, hq, e⟩ := h.snd p (by simp [hp])
        exact ⟨q, by simp [hq], e⟩
      · simp at hp
        obtain ⟨q2, hq2, e2⟩ := h.snd l (by simp)
        by_cases h3 : l.2 ≤ x.2
        · exact ⟨x, by simp, by rw [hp]; simp; omega⟩
        · exact ⟨q2, by simp [hq2], by rw [hp]; simp; omega⟩

end Go.Proofs.YtpbnjobjjnhplaaDoor.Oct

namespace Go.Proofs.YtpbnjobjjnhplaaDoor.Oct
open Go.RowKit Go.Sort

def encE (x : Int × Int) : List Value := [.int .i64 x.1, .int .i64 x.2]

/-- Parts lie from the address on. -/
def LiesE (w : World) (a : Option Addr) (L : List (Int × Int)) : Prop :=
  L = [] ∨ ∃ b off, a = some ⟨b, off, none⟩ ∧ b < w.heap.size ∧ ∀ k, k < L.length → w.cell? ⟨b, off + k * 2, none⟩ = some (.int .i64 (L.getD k (0, 0)).1) ∧ w.cell? ⟨b, off + k * 2 + 1, none⟩ = some (.int .i64 (L.getD k (0, 0)).2)

theorem LiesE.below {w w' : World} {a : Option Addr} {L : List (Int × Int)} (h : LiesE w a L) (hb : RowKit.Below w.heap.size w w') : LiesE w' a L := by
  rcases h with rfl | ⟨b, off, rfl, hlt, hc⟩
  · exact Or.inl rfl
  · exact Or.inr ⟨b, off, rfl, Nat.lt_of_lt_of_le hlt hb.size, fun k hk => ⟨(hb.cell (p := ⟨b, off + k * 2, none⟩) hlt).trans (hc k hk).1, (hb.cell (p := ⟨b, off + k * 2 + 1, none⟩) hlt).trans (hc k hk).2⟩⟩

/-- A row of parts of the call's own. -/
def OwnE (w : World) (B : Nat) (v : Value) (L : List (Int × Int)) : Prop := w.ownsRow B 59 2 v L.length (L.flatMap encE)

theorem flatE_get : ∀ (L : List (Int × Int)) (k j : Nat), k < L.length → j < 2 → (L.flatMap encE)[k * 2 + j]? = (encE (L.getD k (0, 0)))[j]?
  | [], k, j, hk, _ => by simp at hk
  | x :: L, 0, j, _, hj => by
    simp only [List.flatMap_cons, Nat.zero_mul, Nat.zero_add]
    rw [List.getElem?_append_left (by simp [encE]; omega)]
    simp
  | x :: L, k + 1, j, hk, hj => by
    simp only [List.flatMap_cons]
    rw [List.getElem?_append_right (by simp [encE]; omega)]
    have := flatE_get L k j (by simpa using hk) hj
    simp only [List.getD_cons_succ]
    rw [← this]
    congr 1
    simp [encE]
    omega

theorem flatE_len (L : List (Int × Int)) : (L.flatMap encE).length = L.length * 2 := by
  induction L with
  | nil => rfl
  | cons x L ih => simp only [List.flatMap_cons, List.length_append, ih]; simp [encE]; omega

theorem OwnE.cells {w : World} {B g n cap : Nat} {L : List (Int × Int)} (h : OwnE w B (.slice (some ⟨g, 0, none⟩) n cap) L) (k : Nat) (hk : k < L.length) : w.cell? ⟨g, k * 2, none⟩ = some (.int .i64 (L.getD k (0, 0)).1) ∧ w.cell? ⟨g, k * 2 + 1, none⟩ = some (.int .i64 (L.getD k (0, 0)).2) := by
  have hc := World.ownsRow.cells (g := g) h rfl
  have e : ∀ j, j < 2 → w.cell? ⟨g, k * 2 + j, none⟩ = (encE (L.getD k (0, 0)))[j]? := by
    intro j hj
    have hf := flatE_get L k j hk hj
    have h3 : j < (encE (L.getD k (0, 0))).length := by simp [encE]; omega
    rw [List.getElem?_eq_getElem h3] at hf ⊢
    have := hc _ _ hf
    rw [Go.WideShapes.add_plain, Nat.zero_add] at this
    exact this
  exact ⟨e 0 (by omega), e 1 (by omega)⟩

theorem OwnE.form {w : World} {B : Nat} {v : Value} {L : List (Int × Int)} (h : OwnE w B v L) : ∃ a c, v = .slice a L.length c ∧ LiesE w a L ∧ L.length ≤ c ∧ c ≤ maxLen ∧ (∀ x, a = some x → B ≤ x.block ∧ x.block < w.heap.size ∧ x.off = 0 ∧ x.spot = none) := by
  have h0 := h
  rcases h.2 with ⟨rfl, hn⟩ | ⟨g, cap, cur, rfl, hb, hh, h1, h2, h3, h4⟩
  · have : L = [] := List.length_eq_zero_iff.1 hn
    subst this
    exact ⟨none, 0, rfl, Or.inl rfl, by simp, by simp, fun x hx => by cases hx⟩
  · have hlt := (Array.getElem?_eq_some_iff.1 hh).1
    refine ⟨_, cap, rfl, Or.inr ⟨g, 0, rfl, hlt, fun k hk => ?_⟩, h1, h2, fun x hx => by cases hx; exact ⟨hb, hlt, rfl, rfl⟩⟩
    rw [Nat.zero_add]
    exact OwnE.cells h0 k hk

theorem OwnE.nil (w : World) (B : Nat) : OwnE w B (.slice none 0 0) [] := World.ownsRow_nil _ _ _ _

theorem OwnE.below {w w' : World} {B : Nat} {v : Value} {L : List (Int × Int)} (h : OwnE w B v L) (hb : RowKit.Below w.heap.size w w') : OwnE w' B v L :=
  World.ownsRow.kept (row := none) h ⟨hb.os, hb.tape, hb.output, hb.size, fun k hk _ => hb.block k hk⟩ (by cases v.ownBlock <;> simp)

theorem holds_of {w : World} {B g n cap : Nat} {L : List (Int × Int)} (h : OwnE w B (.slice (some ⟨g, 0, none⟩) n cap) L) (hn : n = L.length) : HoldsK encE 2 w g 0 L.toArray := by
  subst hn
  intro t ht
  simp at ht
  have hk : t / 2 < L.length := by omega
  have hc := World.ownsRow.cells (g := g) h rfl
  have hf := flatE_get L (t / 2) (t % 2) hk (by omega)
  rw [show t / 2 * 2 + t % 2 = t by omega] at hf
  have h3 : t % 2 < (encE (L.getD (t / 2) (0, 0))).length := by simp [encE]; omega
  rw [List.getElem?_eq_getElem h3] at hf
  have h4 := hc _ _ hf
  rw [Go.WideShapes.add_plain] at h4
  refine ⟨?_, World.ownsRow.frozenAt h _⟩
  rw [h4]
  congr 1
  rw [get_flatK _ _ _ _ (by simpa using ht)]
  have e1 : L.toArray[t / 2]! = L.getD (t / 2) (0, 0) := by
    rw [getElem!_pos L.toArray (t / 2) (by simpa using hk)]
    simp [hk]
  rw [e1, getElem!_pos (encE (L.getD (t / 2) (0, 0))) (t % 2) h3]
  rfl

/-- The row behind the sort. -/
theorem own_sorted {w : World} {B g n cap : Nat} {L : List (Int × Int)} (h : OwnE w B (.slice (some ⟨g, 0, none⟩) n cap) L) (hn : n = L.length) (d' : Array (Int × Int)) (hs : d'.size = L.length) (m : Nat) (os : Array Obj) :
    OwnE (sortWorldK encE 2 w g 0 m d' os) B (.slice (some ⟨g, 0, none⟩) n cap) d'.toList ∧ w.grownBy (sortWorldK encE 2 w g 0 m d' os) (some g) := by
  subst hn
  rcases h.2 with ⟨e, _⟩ | ⟨g', cap', cur, e, hb, hh, h1, h2, h3, h4⟩
  · simp at e
  simp at e
  obtain ⟨rfl, rfl⟩ := e
  have hlt := (Array.getElem?_eq_some_iff.1 hh).1
  have hg : (sortWorldK encE 2 w g 0 m d' os).heap[g]? = some (.cells (putCells id 0 (flatK encE 2 d') cur) 59 (0, 0)) := by
    unfold sortWorldK grow putRowK putRow mapBlock Go.Sort.ahead
    simp only
    rw [Array.getElem?_append_left (by simpa using hlt), Array.getElem?_modify, if_pos rfl, hh]
    rfl
  have hfl := flatE_len d'.toList
  have hdl : d'.toList.length = L.length := by simpa using hs
  refine ⟨⟨by rw [hfl], Or.inr ⟨g, cap, _, by rw [hdl], hb, hg, by rw [hdl]; exact h1, h2, ?_, ?_⟩⟩, ⟨rfl, rfl, rfl, ?_, fun k hk hne => ?_⟩⟩
  · simp [putCells, h3]
  · apply List.ext_getElem?
    intro t
    rw [List.getElem?_take]
    split
    · rename_i ht
      have hk : t / 2 < d'.toList.length := by omega
      have hf := flatE_get d'.toList (t / 2) (t % 2) hk (by omega)
      rw [show t / 2 * 2 + t % 2 = t by omega] at hf
      rw [hf]
      have h3' : t % 2 < (encE (d'.toList.getD (t / 2) (0, 0))).length := by simp [encE]; omega
      have hts : t < cur.size := by rw [h3]; omega
      have htf : t < d'.size * 2 := by rw [hs]; omega
      have e1 : d'[t / 2]! = d'.toList.getD (t / 2) (0, 0) := by
        rw [getElem!_pos d' (t / 2) (by simpa using hk)]
        have : t / 2 < d'.size := by simpa using hk
        simp [this]
      simp only [putCells, Array.getElem?_toList, Array.getElem?_mapIdx]
      rw [Array.getElem?_eq_getElem hts]
      simp only [Option.map_some, id, Nat.zero_le, true_and, Nat.zero_add, size_flatK, Nat.sub_zero]
      rw [if_pos htf, get_flatK _ _ _ _ htf, e1, getElem!_pos (encE (d'.toList.getD (t / 2) (0, 0))) (t % 2) h3', List.getElem?_eq_getElem h3']
    · rename_i ht
      rw [List.getElem?_eq_none (by rw [hfl]; omega)]
  · unfold sortWorldK grow putRowK putRow mapBlock Go.Sort.ahead
    simp
  · unfold sortWorldK grow putRowK putRow mapBlock Go.Sort.ahead
    simp only
    rw [Array.getElem?_append_left (by simpa using hk), Array.getElem?_modify, if_neg (by intro e; exact hne (by rw [e]))]

end Go.Proofs.YtpbnjobjjnhplaaDoor.Oct
