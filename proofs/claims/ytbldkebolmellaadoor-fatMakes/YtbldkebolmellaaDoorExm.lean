/- Sets of bytes as lists of parts; the one form, and that it is one. No program in it. -/
import Derived.Test.YtbldkebolmellaaDoorNum
namespace Go.Proofs.YtbldkebolmellaaDoor.Oct

/-- A byte is in one of the parts. -/
def InE (L : List (Int × Int)) (x : Int) : Prop := ∃ p ∈ L, p.1 ≤ x ∧ x < p.2

/-- The one form: parts rise, none is empty, none touches another. -/
def Form (L : List (Int × Int)) : Prop := (∀ p ∈ L, p.1 < p.2) ∧ L.Pairwise (fun p q => p.2 < q.1)

theorem InE.nil (x : Int) : ¬ InE [] x := fun ⟨p, hp, _⟩ => by simp at hp

theorem inE_cons (p : Int × Int) (L : List (Int × Int)) (x : Int) : InE (p :: L) x ↔ (p.1 ≤ x ∧ x < p.2) ∨ InE L x := by
  simp [InE]

theorem inE_append (L M : List (Int × Int)) (x : Int) : InE (L ++ M) x ↔ InE L x ∨ InE M x := by
  simp only [InE, List.mem_append]
  constructor
  · rintro ⟨p, h | h, hx⟩
    · exact Or.inl ⟨p, h, hx⟩
    · exact Or.inr ⟨p, h, hx⟩
  · rintro (⟨p, h, hx⟩ | ⟨p, h, hx⟩)
    · exact ⟨p, Or.inl h, hx⟩
    · exact ⟨p, Or.inr h, hx⟩

theorem inE_one (p : Int × Int) (x : Int) : InE [p] x ↔ p.1 ≤ x ∧ x < p.2 := by simp [InE]

theorem Form.tail {p : Int × Int} {L : List (Int × Int)} (h : Form (p :: L)) : Form L := ⟨fun q hq => h.1 q (by simp [hq]), (List.pairwise_cons.1 h.2).2⟩

theorem Form.rest {p : Int × Int} {L : List (Int × Int)} (h : Form (p :: L)) {x : Int} (hx : InE L x) : p.2 < x := by
  obtain ⟨q, hq, h1, h2⟩ := hx
  have := (List.pairwise_cons.1 h.2).1 q hq
  omega

theorem Form.head {p : Int × Int} {L : List (Int × Int)} (h : Form (p :: L)) {x : Int} (hx : InE (p :: L) x) : p.1 ≤ x := by
  rcases (inE_cons _ _ _).1 hx with h1 | h1
  · exact h1.1
  · have h2 := h.rest h1
    have h3 := h.1 p (by simp)
    omega

/-- The one form is one. -/
theorem Form.unique : ∀ (L M : List (Int × Int)), Form L → Form M → (∀ x, InE L x ↔ InE M x) → L = M
  | [], [], _, _, _ => rfl
  | [], q :: M, _, hM, h => by
    have h1 := hM.1 q (by simp)
    exact absurd ((h q.1).2 ((inE_cons _ _ _).2 (Or.inl ⟨Int.le_refl _, h1⟩))) (InE.nil _)
  | p :: L, [], hL, _, h => by
    have h1 := hL.1 p (by simp)
    exact absurd ((h p.1).1 ((inE_cons _ _ _).2 (Or.inl ⟨Int.le_refl _, h1⟩))) (InE.nil _)
  | p :: L, q :: M, hL, hM, h => by
    have hp := hL.1 p (by simp)
    have hq := hM.1 q (by simp)
    have e1 : p.1 = q.1 := by
      have h1 := hM.head ((h p.1).1 ((inE_cons _ _ _).2 (Or.inl ⟨Int.le_refl _, hp⟩)))
      have h2 := hL.head ((h q.1).2 ((inE_cons _ _ _).2 (Or.inl ⟨Int.le_refl _, hq⟩)))
      omega
    have no : ∀ (a : Int × Int) (A : List (Int × Int)), Form (a :: A) → ¬ InE (a :: A) a.2 := by
      intro a A ha hx
      rcases (inE_cons _ _ _).1 hx with h1 | h1
      · omega
      · have := ha.rest h1; omega
    have e2 : p.2 = q.2 := by
      rcases Int.lt_trichotomy p.2 q.2 with h1 | h1 | h1
      · exact absurd ((h p.2).2 ((inE_cons _ _ _).2 (Or.inl ⟨by omega, h1⟩))) (no p L hL)
      · exact h1
      · exact absurd ((h q.2).1 ((inE_cons _ _ _).2 (Or.inl ⟨by omega, h1⟩))) (no q M hM)
    have e : p = q := Prod.ext e1 e2
    subst e
    rw [Form.unique L M hL.tail hM.tail (fun x => ?_)]
    constructor
    · intro hx
      have h1 := hL.rest hx
      rcases (inE_cons _ _ _).1 ((h x).1 ((inE_cons _ _ _).2 (Or.inr hx))) with h2 | h2
      · omega
      · exact h2
    · intro hx
      have h1 := hM.rest hx
      rcases (inE_cons _ _ _).1 ((h x).2 ((inE_cons _ _ _).2 (Or.inr hx))) with h2 | h2
      · omega
      · exact h2

/-- One part more, of parts that rise. -/
def nstep (one : List (Int × Int)) (x : Int × Int) : List (Int × Int) :=
  if one = [] ∨ (one.getD (one.length - 1) (0, 0)).2 < x.1 then one ++ [x]
  else one.set (one.length - 1) ((one.getD (one.length - 1) (0, 0)).1, max (one.getD (one.length - 1) (0, 0)).2 x.2)

/-- What is made of parts that rise: the one form; its numbers are theirs. -/
structure Made (D one : List (Int × Int)) : Prop where
  form : Form one
  set : ∀ x, InE one x ↔ InE D x
  len : one.length ≤ D.length
  fst : ∀ p ∈ one, ∃ q ∈ D, p.1 = q.1
  snd : ∀ p ∈ one, ∃ q ∈ D, p.2 = q.2

theorem Made.nil : Made [] [] := ⟨⟨fun p hp => by simp at hp, List.Pairwise.nil⟩, fun x => Iff.rfl, Nat.le_refl _, fun p hp => by simp at hp, fun p hp => by simp at hp⟩

theorem split_last (one : List (Int × Int)) (h : one ≠ []) : ∃ A l, one = A ++ [l] ∧ one.getD (one.length - 1) (0, 0) = l ∧ one.length - 1 = A.length := by
  obtain ⟨A, l, rfl⟩ : ∃ A l, one = A ++ [l] := ⟨one.dropLast, one.getLast h, (List.dropLast_concat_getLast h).symm⟩
  exact ⟨A, l, rfl, by simp, by simp⟩

theorem Made.step {D one : List (Int × Int)} (h : Made D one) (x : Int × Int) (hx : x.1 < x.2) (hr : ∀ q ∈ D, q.1 ≤ x.1) : Made (D ++ [x]) (nstep one x) := by
  unfold nstep
  by_cases h0 : one = []
  · rw [if_pos (Or.inl h0)]
    subst h0
    simp only [List.nil_append]
    refine ⟨⟨fun p hp => by simp at hp; subst hp; exact hx, by simp⟩, fun y => ?_, by simp, fun p hp => ⟨x, by simp, by simp at hp; rw [hp]⟩, fun p hp => ⟨x, by simp, by simp at hp; rw [hp]⟩⟩
    rw [inE_append]
    exact ⟨fun hy => Or.inr hy, fun hy => hy.elim (fun hy => absurd ((h.set y).2 hy) (InE.nil _)) id⟩
  obtain ⟨A, l, rfl, e1, e2⟩ := split_last one h0
  rw [e1, e2]
  have hl := h.form.1 l (by simp)
  have hpw := List.pairwise_append.1 h.form.2
  obtain ⟨q, hq, hq1⟩ := h.fst l (by simp)
  have hlx : l.1 ≤ x.1 := by rw [hq1]; exact hr q hq
  by_cases h1 : l.2 < x.1
  · rw [if_pos (Or.inr h1)]
    refine ⟨⟨fun p hp => ?_, ?_⟩, fun y => ?_, by have := h.len; simp at this ⊢; omega, fun p hp => ?_, fun p hp => ?_⟩
    · rcases List.mem_append.1 hp with hp | hp
      · exact h.form.1 p hp
      · simp at hp; subst hp; exact hx
    · refine List.pairwise_append.2 ⟨h.form.2, by simp, fun a ha b hb => ?_⟩
      simp at hb
      subst hb
      rcases List.mem_append.1 ha with ha | ha
      · have h2 := hpw.2.2 a ha l (by simp)
        have h3 := hl
        omega
      · simp at ha; subst ha; exact h1
    · rw [inE_append (A ++ [l]) [x], inE_append D [x], h.set]
    · rcases List.mem_append.1 hp with hp | hp
      · obtain ⟨q, hq, e⟩ := h.fst p hp
        exact ⟨q, by simp [hq], e⟩
      · exact ⟨x, by simp, by simp at hp; rw [hp]⟩
    · rcases List.mem_append.1 hp with hp | hp
      · obtain ⟨q, hq, e⟩ := h.snd p hp
        exact ⟨q, by simp [hq], e⟩
      · exact ⟨x, by simp, by simp at hp; rw [hp]⟩
  · rw [if_neg (by simp [h1])]
    have es : (A ++ [l]).set A.length (l.1, max l.2 x.2) = A ++ [(l.1, max l.2 x.2)] := by simp
    rw [es]
    refine ⟨⟨fun p hp => ?_, ?_⟩, fun y => ?_, by have := h.len; simp at this ⊢; omega, fun p hp => ?_, fun p hp => ?_⟩
    · rcases List.mem_append.1 hp with hp | hp
      · exact h.form.1 p (by simp [hp])
      · simp at hp; subst hp; simp; omega
    · refine List.pairwise_append.2 ⟨hpw.1, by simp, fun a ha b hb => ?_⟩
      simp at hb
      subst hb
      exact hpw.2.2 a ha l (by simp)
    · have hs := h.set y
      rw [inE_append, inE_one] at hs
      rw [inE_append, inE_one, inE_append, inE_one, ← hs]
      simp only
      constructor
      · rintro (h2 | h2)
        · exact Or.inl (Or.inl h2)
        · by_cases h3 : y < l.2
          · exact Or.inl (Or.inr ⟨h2.1, h3⟩)
          · exact Or.inr ⟨by omega, by omega⟩
      · rintro ((h2 | h2) | h2)
        · exact Or.inl h2
        · exact Or.inr ⟨h2.1, by omega⟩
        · exact Or.inr ⟨by omega, by omega⟩
    · rcases List.mem_append.1 hp with hp | hp
      · obtain ⟨q, hq, e⟩ := h.fst p (by simp [hp])
        exact ⟨q, by simp [hq], e⟩
      · simp at hp
        exact ⟨q, by simp [hq], by rw [hp]; exact hq1⟩
    · rcases List.mem_append.1 hp with hp | hp
      · obtain ⟨q, hq, e⟩ := h.snd p (by simp [hp])
        exact ⟨q, by simp [hq], e⟩
      · simp at hp
        obtain ⟨q2, hq2, e2⟩ := h.snd l (by simp)
        by_cases h3 : l.2 ≤ x.2
        · exact ⟨x, by simp, by rw [hp]; simp; omega⟩
        · exact ⟨q2, by simp [hq2], by rw [hp]; simp; omega⟩

end Go.Proofs.YtbldkebolmellaaDoor.Oct
