/- Partition tables as lists: a sector's entries, what a disk's entries say. No program. -/
import Derived.Test.YtjpdfchdgphdoaaGreatDoorPNumMem
namespace Go.Proofs.YtjpdfchdgphdoaaGreatDoor.Oct

/-- A byte is in one of the parts. -/
def InE (L : List (Int × Int)) (x : Int) : Prop := ∃ p ∈ L, p.1 ≤ x ∧ x < p.2

/-- The one form: parts rise, none is empty, none touches another. -/
def Form (L : List (Int × Int)) : Prop := (∀ p ∈ L, p.1 < p.2) ∧ L.Pairwise (fun p q => p.2 < q.1)

theorem InE.nil (x : Int) : ¬ InE [] x := fun ⟨p, hp, _⟩ => by simp at hp

theorem inE_cons (p : Int × Int) (L : List (Int × Int)) (x : Int) : InE (p :: L) x ↔ (p.1 ≤ x ∧ x < p.2) ∨ InE L x := by
  simp [InE]

theorem inE_append (L M : List (Int × Int)) (x : Int) : InE (L ++ M) x ↔ InE L x ∨ InE M x := by
  simp only [InE, List.mem_append]
  constructor
  · rintro ⟨p, h | h, hx⟩
    · exact Or.inl ⟨p, h, hx⟩
    · exact Or.inr ⟨p, h, hx⟩
  · rintro (⟨p, h, hx⟩ | ⟨p, h, hx⟩)
    · exact ⟨p, Or.inl h, hx⟩
    · exact ⟨p, Or.inr h, hx⟩

theorem inE_one (p : Int × Int) (x : Int) : InE [p] x ↔ p.1 ≤ x ∧ x < p.2 := by simp [InE]

theorem Form.tail {p : Int × Int} {L : List (Int × Int)} (h : Form (p :: L)) : Form L := ⟨fun q hq => h.1 q (by simp [hq]), (List.pairwise_cons.1 h.2).2⟩

theorem Form.rest {p : Int × Int} {L : List (Int × Int)} (h : Form (p :: L)) {x : Int} (hx : InE L x) : p.2 < x := by
  obtain ⟨q, hq, h1, h2⟩ := hx
  have := (List.pairwise_cons.1 h.2).1 q hq
  omega

theorem Form.head {p : Int × Int} {L : List (Int × Int)} (h : Form (p :: L)) {x : Int} (hx : InE (p :: L) x) : p.1 ≤ x := by
  rcases (inE_cons _ _ _).1 hx with h1 | h1
  · exact h1.1
  · have h2 := h.rest h1
    have h3 := h.1 p (by simp)
    omega

/-- The one form is one. -/
theorem Form.unique : ∀ (L M : List (Int × Int)), Form L → Form M → (∀ x, InE L x ↔ InE M x) → L = M
  | [], [], _, _, _ => rfl
  | [], q :: M, _, hM, h => by
    have h1 := hM.1 q (by simp)
    exact absurd ((h q.1).2 ((inE_cons _ _ _).2 (Or.inl ⟨Int.le_refl _, h1⟩))) (InE.nil _)
  | p :: L, [], hL, _, h => by
    have h1 := hL.1 p (by simp)
    exact absurd ((h p.1).1 ((inE_cons _ _ _).2 (Or.inl ⟨Int.le_refl _, h1⟩))) (InE.nil _)
  | p :: L, q :: M, hL, hM, h => by
    have hp := hL.1 p (by simp)
    have hq := hM.1 q (by simp)
    have e1 : p.1 = q.1 := by
      have h1 := hM.head ((h p.1).1 ((inE_cons _ _ _).2 (Or.inl ⟨Int.le_refl _, hp⟩)))
      have h2 := hL.head ((h q.1).2 ((inE_cons _ _ _).2 (Or.inl ⟨Int.le_refl _, hq⟩)))
      omega
    have no : ∀ (a : Int × Int) (A : List (Int × Int)), Form (a :: A) → ¬ InE (a :: A) a.2 := by
      intro a A ha hx
      rcases (inE_cons _ _ _).1 hx with h1 | h1
      · omega
      · have := ha.rest h1; omega
    have e2 : p.2 = q.2 := by
      rcases Int.lt_trichotomy p.2 q.2 with h1 | h1 | h1
      · exact absurd ((h p.2).2 ((inE_cons _ _ _).2 (Or.inl ⟨by omega, h1⟩))) (no p L hL)
      · exact h1
      · exact absurd ((h q.2).1 ((inE_cons _ _ _).2 (Or.inl ⟨by omega, h1⟩))) (no q M hM)
    have e : p = q := Prod.ext e1 e2
    subst e
    rw [Form.unique L M hL.tail hM.tail (fun x => ?_)]
    constructor
    · intro hx
      have h1 := hL.rest hx
      rcases (inE_cons _ _ _).1 ((h x).1 ((inE_cons _ _ _).2 (Or.inr hx))) with h2 | h2
      · omega
      · exact h2
    · intro hx
      have h1 := hM.rest hx
      rcases (inE_cons _ _ _).1 ((h x).2 ((inE_cons _ _ _).2 (Or.inr hx))) with h2 | h2
      · omega
      · exact h2

/-- One part more, of parts that rise. -/
def nstep (one : List (Int × Int)) (x : Int × Int) : List (Int × Int) :=
  if one = [] ∨ (one.getD (one.length - 1) (0, 0)).2 < x.1 then one ++ [x]
  else one.set (one.length - 1) ((one.getD (one.length - 1) (0, 0)).1, max (one.getD (one.length - 1) (0, 0)).2 x.2)

/-- What is made of parts that rise: the one form; its numbers are theirs. -/
structure Made (D one : List (Int × Int)) : Prop where
  form : Form one
  set : ∀ x, InE one x ↔ InE D x
  len : one.length ≤ D.length
  fst : ∀ p ∈ one, ∃ q ∈ D, p.1 = q.1
  snd : ∀ p ∈ one, ∃ q ∈ D, p.2 = q.2

theorem Made.nil : Made [] [] := ⟨⟨fun p hp => by simp at hp, List.Pairwise.nil⟩, fun x => Iff.rfl, Nat.le_refl _, fun p hp => by simp at hp, fun p hp => by simp at hp⟩

theorem split_last (one : List (Int × Int)) (h : one ≠ []) : ∃ A l, one = A ++ [l] ∧ one.getD (one.length - 1) (0, 0) = l ∧ one.length - 1 = A.length := by
  obtain ⟨A, l, rfl⟩ : ∃ A l, one = A ++ [l] := ⟨one.dropLast, one.getLast h, (List.dropLast_concat_getLast h).symm⟩
  exact ⟨A, l, rfl, by simp, by simp⟩

theorem Made.step {D one : List (Int × Int)} (h : Made D one) (x : Int × Int) (hx : x.1 < x.2) (hr : ∀ q ∈ D, q.1 ≤ x.1) : Made (D ++ [x]) (nstep one x) := by
  unfold nstep
  by_cases h0 : one = []
  · rw [if_pos (Or.inl h0)]
    subst h0
    simp only [List.nil_append]
    refine ⟨⟨fun p hp => by simp at hp; subst hp; exact hx, by simp⟩, fun y => ?_, by simp, fun p hp => ⟨x, by simp, by simp at hp; rw [hp]⟩, fun p hp => ⟨x, by simp, by simp at hp; rw [hp]⟩⟩
    rw [inE_append]
    exact ⟨fun hy => Or.inr hy, fun hy => hy.elim (fun hy => absurd ((h.set y).2 hy) (InE.nil _)) id⟩
  obtain ⟨A, l, rfl, e1, e2⟩ := split_last one h0
  rw [e1, e2]
  have hl := h.form.1 l (by simp)
  have hpw := List.pairwise_append.1 h.form.2
  obtain ⟨q, hq, hq1⟩ := h.fst l (by simp)
  have hlx : l.1 ≤ x.1 := by rw [hq1]; exact hr q hq
  by_cases h1 : l.2 < x.1
  · rw [if_pos (Or.inr h1)]
    refine ⟨⟨fun p hp => ?_, ?_⟩, fun y => ?_, by have := h.len; simp at this ⊢; omega, fun p hp => ?_, fun p hp => ?_⟩
    · rcases List.mem_append.1 hp with hp | hp
      · exact h.form.1 p hp
      · simp at hp; subst hp; exact hx
    · refine List.pairwise_append.2 ⟨h.form.2, by simp, fun a ha b hb => ?_⟩
      simp at hb
      subst hb
      rcases List.mem_append.1 ha with ha | ha
      · have h2 := hpw.2.2 a ha l (by simp)
        have h3 := hl
        omega
      · simp at ha; subst ha; exact h1
    · rw [inE_append (A ++ [l]) [x], inE_append D [x], h.set]
    · rcases List.mem_append.1 hp with hp | hp
      · obtain ⟨q, hq, e⟩ := h.fst p hp
        exact ⟨q, by simp [hq], e⟩
      · exact ⟨x, by simp, by simp at hp; rw [hp]⟩
    · rcases List.mem_append.1 hp with hp | hp
      · obtain ⟨q, hq, e⟩ := h.snd p hp
        exact ⟨q, by simp [hq], e⟩
      · exact ⟨x, by simp, by simp at hp; rw [hp]⟩
  · rw [if_neg (by simp [h1])]
    have es : (A ++ [l]).set A.length (l.1, max l.2 x.2) = A ++ [(l.1, max l.2 x.2)] := by simp
    rw [es]
    refine ⟨⟨fun p hp => ?_, ?_⟩, fun y => ?_, by have := h.len; simp at this ⊢; omega, fun p hp => ?_, fun p hp => ?_⟩
    · rcases List.mem_append.1 hp with hp | hp
      · exact h.form.1 p (by simp [hp])
      · simp at hp; subst hp; simp; omega
    · refine List.pairwise_append.2 ⟨hpw.1, by simp, fun a ha b hb => ?_⟩
      simp at hb
      subst hb
      exact hpw.2.2 a ha l (by simp)
    · have hs := h.set y
      rw [inE_append, inE_one] at hs
      rw [inE_append, inE_one, inE_append, inE_one, ← hs]
      simp only
      constructor
      · rintro (h2 | h2)
        · exact Or.inl (Or.inl h2)
        · by_cases h3 : y < l.2
          · exact Or.inl (Or.inr ⟨h2.1, h3⟩)
          · exact Or.inr ⟨by omega, by omega⟩
      · rintro ((h2 | h2) | h2)
        · exact Or.inl h2
        · exact Or.inr ⟨h2.1, by omega⟩
        · exact Or.inr ⟨by omega, by omega⟩
    · rcases List.mem_append.1 hp with hp | hp
      · obtain ⟨q, hq, e⟩ := h.fst p (by simp [hp])
        exact ⟨q, by simp [hq], e⟩
      · simp at hp
        exact ⟨q, by simp [hq], by rw [hp]; exact hq1⟩
    · rcases List.mem_append.1 hp with hp | hp
      · obtain ⟨q, hq, e⟩ := h.snd p (by simp [hp])
        exact ⟨q, by simp [hq], e⟩
      · simp at hp
        obtain ⟨q2, hq2, e2⟩ := h.snd l (by simp)
        by_cases h3 : l.2 ≤ x.2
        · exact ⟨x, by simp, by rw [hp]; simp; omega⟩
        · exact ⟨q2, by simp [hq2], by rw [hp]; simp; omega⟩

end Go.Proofs.YtjpdfchdgphdoaaGreatDoor.Oct

namespace Go.Proofs.YtjpdfchdgphdoaaGreatDoor.Oct
open Go.RowKit

/-- An entry: its type, its first sector, how many. -/
abbrev M3 := Int × Int × Int
def zm3 : M3 := (0, 0, 0)

/-- A partition: its bytes, its type, its slot. -/
abbrev M4 := Int × Int × Int × Int
def zm4 : M4 := (0, 0, 0, 0)

/-- The entry at a place. -/
def entM (l : List Int) (p : Nat) : M3 := (l.getD (p + 4) 0, num l (p + 8) 4, num l (p + 12) 4)

/-- May it be one? -/
def okM (l : List Int) (p : Nat) : Bool := (decide (l.getD p 0 = 0) || decide (l.getD p 0 = 128)) && (decide (l.getD (p + 4) 0 = 0) == decide (num l (p + 12) 4 = 0))

/-- A sector's entries. -/
def entsM (l : List Int) : List M3 := [entM l 446, entM l 462, entM l 478, entM l 494]

/-- May all four be? -/
def okAll (l : List Int) : Bool := okM l 446 && (okM l 462 && (okM l 478 && okM l 494))

theorem okAll_iff (l : List Int) : okAll l = true ↔ ∀ j, j < 4 → okM l (446 + 16 * j) = true := by
  unfold okAll
  simp only [Bool.and_eq_true]
  constructor
  · rintro ⟨h0, h1, h2, h3⟩ j hj
    match j, hj with
    | 0, _ => exact h0
    | 1, _ => exact h1
    | 2, _ => exact h2
    | 3, _ => exact h3
    | _ + 4, hj => omega
  · intro h
    exact ⟨h 0 (by omega), h 1 (by omega), h 2 (by omega), h 3 (by omega)⟩

/-- Why a sector has none (0: it has). -/
def entC (l : List Int) : Int := if l.length = 512 then (if num l 510 2 = 43605 then (if okAll l = true then 0 else 11) else 10) else 4

theorem num_part (l : List Int) (a n p : Nat) (h : a + n ≤ l.length) : ∀ k, p + k ≤ n → num ((l.drop a).take n) p k = num l (a + p) k
  | 0, _ => rfl
  | k + 1, hk => by
    have h1 : p + k < n := by omega
    have e : ((l.drop a).take n).getD (p + k) 0 = l.getD (a + p + k) 0 := by
      rw [List.getD_eq_getElem?_getD, List.getElem?_take, if_pos h1, List.getElem?_drop, List.getD_eq_getElem?_getD]
      congr 2
      omega
    rw [num, num, num_part l a n p h k (by omega), e]

theorem getD_part (l : List Int) (a n p : Nat) (hp : p < n) : ((l.drop a).take n).getD p 0 = l.getD (a + p) 0 := by
  rw [List.getD_eq_getElem?_getD, List.getElem?_take, if_pos hp, List.getElem?_drop, List.getD_eq_getElem?_getD]

theorem entM_part (l : List Int) (a n p : Nat) (h : a + n ≤ l.length) (hp : p + 16 ≤ n) : entM ((l.drop a).take n) p = entM l (a + p) := by
  unfold entM
  rw [getD_part _ _ _ _ (by omega), num_part _ _ _ _ h 4 (by omega), num_part _ _ _ _ h 4 (by omega)]
  simp only [Nat.add_assoc]

theorem okM_part (l : List Int) (a n p : Nat) (h : a + n ≤ l.length) (hp : p + 16 ≤ n) : okM ((l.drop a).take n) p = okM l (a + p) := by
  unfold okM
  rw [getD_part _ _ _ _ (by omega), getD_part _ _ _ _ (by omega), num_part _ _ _ _ h 4 (by omega)]
  simp only [Nat.add_assoc]

theorem num4 (l : List Int) (hb : Byts l) (p : Nat) : 0 ≤ num l p 4 ∧ num l p 4 < 4294967296 := by
  have := num_lt l p hb 4
  have e : (256 : Int) ^ 4 = 4294967296 := by decide
  omega

theorem num2 (l : List Int) (hb : Byts l) (p : Nat) : 0 ≤ num l p 2 ∧ num l p 2 < 65536 := by
  have := num_lt l p hb 2
  have e : (256 : Int) ^ 2 = 65536 := by decide
  omega

/-- What an entry may be. -/
def Fit3 (x : M3) : Prop := (0 ≤ x.1 ∧ x.1 < 256) ∧ (0 ≤ x.2.1 ∧ x.2.1 < 4294967296) ∧ (0 ≤ x.2.2 ∧ x.2.2 < 4294967296)

theorem entM_fit (l : List Int) (hb : Byts l) (p : Nat) : Fit3 (entM l p) := ⟨hb _, num4 l hb _, num4 l hb _⟩

theorem ents_get (l : List Int) : ∀ j, j < 4 → (entsM l).getD j zm3 = entM l (446 + 16 * j)
  | 0, _ => rfl
  | 1, _ => rfl
  | 2, _ => rfl
  | 3, _ => rfl
  | j + 4, h => by omega

theorem ents_eq (l : List Int) (R : List M3) (hR : R.length = 4) (h : ∀ j, j < 4 → R.getD j zm3 = entM l (446 + 16 * j)) : R = entsM l := by
  apply List.ext_getElem (by rw [hR]; rfl)
  intro j h1 h2
  have e := h j (by omega)
  have e2 := ents_get l j (by omega)
  rw [List.getD_eq_getElem?_getD, List.getElem?_eq_getElem h1] at e
  rw [List.getD_eq_getElem?_getD, List.getElem?_eq_getElem h2] at e2
  simp only [Option.getD_some] at e e2
  rw [e, e2]

/-- What is known of a disk so far: partitions, sectors with entries, the part for those within, a guard. -/
structure MS where
  P : List M4
  H : List (Int × Int)
  i1 : Int
  i2 : Int
  g : Bool

def MS.z : MS := ⟨[], [], 0, 0, false⟩

/-- A sector's bytes. -/
def secD (d : List Int) (s : Nat) : List Int := (d.drop (512 * s)).take 512

/-- Why a sector of a disk has no entries. -/
def secC (d : List Int) (s : Int) : Int := if 0 ≤ s ∧ s * 512 + 512 ≤ d.length then entC (secD d s.toNat) else 4

/-- Its entries are read. -/
def rdM (d : List Int) (st : MS) (s : Int) : Except Int MS := if secC d s = 0 then .ok { st with H := st.H ++ [(s * 512, (s + 1) * 512)] } else .error (secC d s)

/-- An entry is a partition. -/
def addM (st : MS) (slot : Int) (x : M3) (o p q : Int) : Except Int MS :=
  if p ≤ (o + x.2.1) * 512 ∧ (o + x.2.1 + x.2.2) * 512 ≤ q then
    (if st.P.length = 32 then .error 3 else .ok { st with P := st.P ++ [((o + x.2.1) * 512, (o + x.2.1 + x.2.2) * 512, x.1, slot)] })
  else .error 4

/-- Is there a part for those within? -/
def MS.inn (st : MS) : Bool := !(decide (st.i1 = 0) && decide (st.i2 = 0))

/-- An entry is the one for those within. -/
def leadM (n : Nat) (st : MS) (x : M3) : Except Int MS :=
  if st.inn = true then .error 17 else
  if 512 ≤ x.2.1 * 512 ∧ (x.2.1 + x.2.2) * 512 ≤ n then .ok { st with i1 := x.2.1 * 512, i2 := (x.2.1 + x.2.2) * 512 } else .error 4

def leads (x : M3) : Bool := decide (x.1 = 5) || decide (x.1 = 15)

/-- An entry of the first sector. -/
def takeM (n : Nat) (st : MS) (slot : Int) (x : M3) : Except Int MS :=
  if x.1 = 0 then .ok st else if x.1 = 238 then .ok { st with g := true } else if leads x = true then leadM n st x else addM st slot x 0 512 n

/-- Entries of the first sector, one behind the other. -/
def takesM (n : Nat) : MS → Int → List M3 → Except Int MS
  | st, _, [] => .ok st
  | st, k, x :: L => match takeM n st k x with
    | .ok st' => takesM n st' (k + 1) L
    | .error c => .error c

def firstM (d : List Int) : Except Int MS :=
  match rdM d MS.z 0 with
  | .error c => .error c
  | .ok st => takesM d.length st 0 (entsM (secD d 0))

/-- One of the chain's sectors: what is known behind it, and the entry for the next one. -/
def linkM (d : List Int) (st : MS) (slot s : Int) : Except Int (MS × M3) :=
  if ¬ (st.i1 ≤ s * 512 ∧ (s + 1) * 512 ≤ st.i2) then .error 4 else
  match rdM d st s with
  | .error c => .error c
  | .ok st1 =>
    let l := secD d s.toNat
    if (entM l 478).1 ≠ 0 ∨ (entM l 494).1 ≠ 0 ∨ leads (entM l 446) = true then .error 11 else
    match (if (entM l 446).1 ≠ 0 then addM st1 slot (entM l 446) s st.i1 st.i2 else .ok st1) with
    | .error c => .error c
    | .ok st2 => if (entM l 462).1 ≠ 0 ∧ leads (entM l 462) = false then .error 11 else .ok (st2, entM l 462)

/-- The chain, from a slot on (k more may come), the sectors before being known. -/
def chainM (d : List Int) (b : Int) : Nat → MS → Int → Int → List Int → Except Int MS
  | 0, _, _, _, _ => .error 3
  | k + 1, st, slot, s, seen =>
    if s ∈ seen then .error 13 else
    match linkM d st slot s with
    | .error c => .error c
    | .ok (st1, x) => if x.1 = 0 then .ok st1 else chainM d b k st1 (slot + 1) (b + x.2.1) (s :: seen)

def chM (d : List Int) (st : MS) : Except Int MS := if st.inn = true then chainM d (st.i1 / 512) 33 st 4 (st.i1 / 512) [] else .ok st

/-- The parts that are held against each other. -/
def outerM (st : MS) : List (Int × Int) := (st.i1, st.i2) :: (st.P.filter (fun p => decide (p.2.2.2 < 4))).map (fun p => (p.1, p.2.1))
def allM (st : MS) : List (Int × Int) := st.H ++ st.P.map (fun p => (p.1, p.2.1))
end Go.Proofs.YtjpdfchdgphdoaaGreatDoor.Oct
