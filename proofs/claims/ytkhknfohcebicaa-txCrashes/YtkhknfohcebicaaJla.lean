/- A file as lists, and what operations make of it. -/
import Derived.Test.YtkhknfohcebicaaFlu
namespace Go.Proofs.Ytkhknfohcebicaa.Oct
open Go.RowKit Go.Deep

/-- Bytes behind a write, wherever its bytes lie. -/
def laidD (d : Nat × List Int × Bool) (l : List Int) : List Int :=
  if d.2.2 = true ∧ d.1 < l.length then l.take d.1 else over (l ++ List.replicate (d.1 + d.2.1.length - l.length) 0) d.1 d.2.1

def laidsD (l : List Int) (D : List (Nat × List Int × Bool)) : List Int := D.foldl (fun m d => laidD d m) l

theorem laid_dat (r : Wr) (l : List Int) : laid r l = laidD r.dat l := rfl

theorem laidAll_dat (R : List Wr) : ∀ l, laidAll l R = laidsD l (R.map Wr.dat) := by
  induction R with
  | nil => intro l; rfl
  | cons r R ih => intro l; exact ih (laid r l)

theorem laidsD_append (l : List Int) (D E : List (Nat × List Int × Bool)) : laidsD l (D ++ E) = laidsD (laidsD l D) E := by simp [laidsD]

def SmallD (D : List (Nat × List Int × Bool)) : Prop := ∀ d ∈ D, d.1 + d.2.1.length ≤ 4194304

theorem small_dat {R : List Wr} (h : SmallD (R.map Wr.dat)) : Small R := fun r hr => h r.dat (List.mem_map_of_mem hr)

theorem laidD_le (d : Nat × List Int × Bool) (l : List Int) (hl : l.length ≤ 4194304) (hd : d.1 + d.2.1.length ≤ 4194304) : (laidD d l).length ≤ 4194304 := by
  unfold laidD
  split
  · simp; omega
  · rw [over_length (over_pad _ _ _)]
    simp
    omega

theorem laidsD_le (D : List (Nat × List Int × Bool)) : ∀ l, l.length ≤ 4194304 → SmallD D → (laidsD l D).length ≤ 4194304 := by
  induction D with
  | nil => intro l hl _; exact hl
  | cons d D ih =>
    intro l hl hD
    exact ih (laidD d l) (laidD_le d l hl (hD d (by simp))) (fun x hx => hD x (by simp [hx]))

theorem cuts_small (n : Nat) : ∀ (at_ : Nat) (p : List Int), p.length ≤ n → at_ + p.length ≤ 4194304 → SmallD (cuts at_ p) := by
  induction n with
  | zero =>
    intro at_ p hn _ d hd
    have : p = [] := List.length_eq_zero_iff.1 (by omega)
    rw [this, cuts_nil] at hd
    simp at hd
  | succ n ih =>
    intro at_ p hn hle
    by_cases hp : p = []
    · intro d hd
      rw [hp, cuts_nil] at hd
      simp at hd
    · have hpos := List.length_pos_iff.2 hp
      have hm : at_ % 512 < 512 := Nat.mod_lt _ (by omega)
      rw [cuts_step at_ p _ hp rfl]
      intro d hd
      rcases List.mem_cons.1 hd with rfl | hd
      · simp
        omega
      · exact ih _ _ (by simp; omega) (by simp; omega) d hd

theorem cuts_le (n : Nat) : ∀ (at_ : Nat) (p : List Int), p.length ≤ n → (cuts at_ p).length ≤ p.length := by
  induction n with
  | zero =>
    intro at_ p hn
    have : p = [] := List.length_eq_zero_iff.1 (by omega)
    rw [this, cuts_nil]
    simp
  | succ n ih =>
    intro at_ p hn
    by_cases hp : p = []
    · rw [hp, cuts_nil]
      simp
    · have hpos := List.length_pos_iff.2 hp
      have hm : at_ % 512 < 512 := Nat.mod_lt _ (by omega)
      rw [cuts_step at_ p _ hp rfl]
      have h1 := ih (at_ + min (512 - at_ % 512) p.length) (p.drop (min (512 - at_ % 512) p.length)) (by simp; omega)
      simp only [List.length_cons, List.length_drop] at h1 ⊢
      omega

/-- A file as lists: what is seen, what is safe, what waits. -/
structure A3 where
  S : List Int
  T : List Int
  D : List (Nat × List Int × Bool)

/-- An operation: bytes are written at a place; all is flushed; bytes are read. -/
inductive AO where
  | wr (p : Nat) (b : List Int)
  | fl
  | rd

def AO.on : AO → A3 → A3
  | .wr p b, A => ⟨laidsD A.S (cuts p b), A.T, A.D ++ cuts p b⟩
  | .fl, A => ⟨A.S, laidsD A.T A.D, []⟩
  | .rd, A => A

def AO.cost : AO → Nat
  | .wr _ b => b.length + 1
  | _ => 1

def doAll (os : List AO) (A : A3) : A3 := os.foldl (fun A o => o.on A) A
def costs (os : List AO) : Nat := (os.map AO.cost).sum

theorem doAll_append (os ps : List AO) (A : A3) : doAll (os ++ ps) A = doAll ps (doAll os A) := by simp [doAll]
theorem costs_append (os ps : List AO) : costs (os ++ ps) = costs os + costs ps := by simp [costs]

/-- What so many operations answer, one behind the other. -/
def cod (l k : Nat) : Int := if l ≤ k then 0 else 5
theorem cod_ok {l k : Nat} (h : l ≤ k) : cod l k = 0 := if_pos h
theorem cod_no {l k : Nat} (h : ¬ l ≤ k) : cod l k = 5 := if_neg h

/-- How many operations more are done. -/
def Bud (f : Fs) (k : Nat) : Prop := f.refuse = 0 ∧ ((f.stop = 0 ∧ 1000000 < f.ops + k) ∨ (0 < f.stop ∧ (k : Int) = max (f.stop - 1 - f.ops) 0))

theorem Bud.said {f : Fs} {k : Nat} (h : Bud f k) (h0 : 0 ≤ f.ops) (h1 : f.ops ≤ 1000000) : f.said = if 1 ≤ k then 0 else 5 := by
  obtain ⟨h2, h3 | h3⟩ := h
  · rw [if_pos (by omega)]
    unfold Fs.said
    rw [if_neg (by omega)]
  · unfold Fs.said
    by_cases hk : 1 ≤ k
    · rw [if_pos hk, if_neg (by omega)]
    · rw [if_neg hk, if_pos (by omega)]

theorem Bud.next {f f' : Fs} {k : Nat} (h : Bud f k) (h0 : 0 ≤ f.ops) (h1 : f.ops ≤ 1000000) (ho : f'.ops = f.ops + 1) (hr : f'.refuse = f.refuse) (hs : f'.stop = f.stop) : Bud f' (k - 1) := by
  obtain ⟨h2, h3 | h3⟩ := h
  · exact ⟨by omega, Or.inl ⟨by omega, by omega⟩⟩
  · exact ⟨by omega, Or.inr ⟨by omega, by omega⟩⟩

/-- A file in memory: it is these lists, so many operations are done more; n bounds what was done. -/
structure Fl (w : World) (X : Nat → Prop) (F : Nat) (f : Fs) (A : A3) (k n : Nat) : Prop where
  has : ∃ R, Fil w X F f A.S A.T R ∧ R.map Wr.dat = A.D
  x : ∀ q, X q → q < w.heap.size
  ops : 0 ≤ f.ops ∧ f.ops ≤ n
  wrote : 0 ≤ f.wrote ∧ f.wrote ≤ n
  s : A.S.length ≤ 4194304
  t : A.T.length ≤ 4194304
  d : A.D.length ≤ n
  small : SmallD A.D
  bud : Bud f k

theorem Fl.xF {w : World} {X : Nat → Prop} {F : Nat} {f : Fs} {A : A3} {k n : Nat} (h : Fl w X F f A k n) : X F := by
  obtain ⟨R, hf, _⟩ := h.has
  exact hf.xF

theorem Fl.mono {w : World} {X : Nat → Prop} {F : Nat} {f : Fs} {A : A3} {k n n' : Nat} (h : Fl w X F f A k n) (hn : n ≤ n') : Fl w X F f A k n' :=
  ⟨h.has, h.x, ⟨h.ops.1, by have := h.ops.2; omega⟩, ⟨h.wrote.1, by have := h.wrote.2; omega⟩, h.s, h.t, by have := h.d; omega, h.small, h.bud⟩

theorem Fl.chg {w w' : World} {X Y : Nat → Prop} {F : Nat} {f : Fs} {A : A3} {k n : Nat} (h : Fl w X F f A k n) (hc : Chg Y w w') (hy : ∀ q, q < w.heap.size → X q → ¬ Y q) : Fl w' X F f A k n := by
  obtain ⟨R, hf, hD⟩ := h.has
  exact ⟨⟨R, hf.chg hc hy, hD⟩, fun q hq => Nat.lt_of_lt_of_le (h.x q hq) hc.size, h.ops, h.wrote, h.s, h.t, h.d, h.small, h.bud⟩

theorem Fl.below {w w' : World} {X : Nat → Prop} {F : Nat} {f : Fs} {A : A3} {k n : Nat} (h : Fl w X F f A k n) (hb : Below w.heap.size w w') : Fl w' X F f A k n :=
  h.chg (Chg.of_below (X := fun _ => False) hb) (fun _ _ _ h => h)

/-- What operations, one behind the other, leave, till the first that is refused. -/
def Ran (w w' : World) (X : Nat → Prop) (F : Nat) (A : A3) (k n : Nat) (os : List AO) : Prop :=
  ∃ X' f', Fl w' X' F f' (doAll (os.take k) A) (k - os.length) (n + costs os) ∧ (∀ q, X' q → X q ∨ w.heap.size ≤ q) ∧ Chg X w w'

theorem Ran.nil {w : World} {X : Nat → Prop} {F : Nat} {f : Fs} {A : A3} {k n : Nat} (h : Fl w X F f A k n) : Ran w w X F A k n [] :=
  ⟨X, f, by simpa [doAll, costs] using h, fun _ h => Or.inl h, Chg.refl _ _⟩

/-- More operations behind those that were done. -/
theorem Ran.more {w w1 w2 : World} {X X1 : Nat → Prop} {F : Nat} {f1 : Fs} {A : A3} {k n : Nat} {os ps : List AO}
    (_ : Fl w1 X1 F f1 (doAll (os.take k) A) (k - os.length) (n + costs os)) (hx : ∀ q, X1 q → X q ∨ w.heap.size ≤ q) (hc : Chg X w w1)
    (h : Ran w1 w2 X1 F (doAll (os.take k) A) (k - os.length) (n + costs os) ps) : Ran w w2 X F A k n (os ++ ps) := by
  obtain ⟨X2, f2, h2, hx2, hc2⟩ := h
  refine ⟨X2, f2, ?_, fun q hq => ?_, hc.andThen hc2 (fun i hi hy => ?_)⟩
  · rw [List.take_append, doAll_append, List.length_append, costs_append, Nat.sub_add_eq]
    rw [Nat.add_assoc] at h2
    exact h2
  · rcases hx2 q hq with h | h
    · exact hx q h
    · exact Or.inr (Nat.le_trans hc.size h)
  · rcases hx i hy with h | h
    · exact h
    · omega

/-- None behind those of which one was refused. -/
theorem Ran.stop {w w1 : World} {X : Nat → Prop} {F : Nat} {A : A3} {k n : Nat} {os : List AO} (h : Ran w w1 X F A k n os) (hk : ¬ os.length ≤ k) (ps : List AO) : Ran w w1 X F A k n (os ++ ps) := by
  obtain ⟨X2, f2, h2, hx2, hc2⟩ := h
  refine ⟨X2, f2, ?_, hx2, hc2⟩
  rw [List.take_append_of_le_length (by omega), List.length_append, costs_append, show k - (os.length + ps.length) = k - os.length by omega]
  exact h2.mono (by omega)

/-- What else changes nothing of the file. -/
theorem Ran.below {w w1 w2 : World} {X : Nat → Prop} {F : Nat} {A : A3} {k n : Nat} {os : List AO} (h : Ran w w1 X F A k n os) (hb : Below w1.heap.size w1 w2) : Ran w w2 X F A k n os := by
  obtain ⟨X2, f2, h2, hx2, hc2⟩ := h
  exact ⟨X2, f2, h2.below hb, hx2, hc2.trans (Chg.of_below hb)⟩

theorem Ran.first {w w1 w2 : World} {X : Nat → Prop} {F : Nat} {A : A3} {k n : Nat} {os : List AO} (hb : Below w.heap.size w w1) (h : Ran w1 w2 X F A k n os) : Ran w w2 X F A k n os := by
  obtain ⟨X2, f2, h2, hx2, hc2⟩ := h
  exact ⟨X2, f2, h2, fun q hq => (hx2 q hq).imp id (fun h => Nat.le_trans hb.size h), (Chg.of_below hb).trans hc2⟩
end Go.Proofs.Ytkhknfohcebicaa.Oct
