/- What each operation makes of a file, as lists. -/
import Derived.Test.YtnhbncbiflnapaaFlu
import Derived.Test.YtnhbncbiflnapaaHlv
import Derived.Test.YtnhbncbiflnapaaNls
import Derived.Test.YtnhbncbiflnapaaLight
namespace Go.Proofs.Ytnhbncbiflnapaa.Oct
open Go.RowKit Go.Deep

/-- Bytes behind a write, wherever its bytes lie. -/
def laidD (d : Nat × List Int × Bool) (l : List Int) : List Int :=
  if d.2.2 = true ∧ d.1 < l.length then l.take d.1 else over (l ++ List.replicate (d.1 + d.2.1.length - l.length) 0) d.1 d.2.1

def laidsD (l : List Int) (D : List (Nat × List Int × Bool)) : List Int := D.foldl (fun m d => laidD d m) l

theorem laid_dat (r : Wr) (l : List Int) : laid r l = laidD r.dat l := rfl

theorem laidAll_dat (R : List Wr) : ∀ l, laidAll l R = laidsD l (R.map Wr.dat) := by
  induction R with
  | nil => intro l; rfl
  | cons r R ih => intro l; exact ih (laid r l)

theorem laidsD_append (l : List Int) (D E : List (Nat × List Int × Bool)) : laidsD l (D ++ E) = laidsD (laidsD l D) E := by simp [laidsD]

/-- A file as lists: what is seen, what is safe, what waits, how many were done. -/
structure Ab where
  S : List Int
  T : List Int
  D : List (Nat × List Int × Bool)
  wr : Int

/-- An operation that may be done. -/
def Ab.op (A : Ab) (o : GOp) : Ab :=
  if o.kind = 2 then (if 0 ≤ o.at_ ∧ o.at_ + (o.b.length : Int) ≤ 4194304 then ⟨laidsD A.S (cuts o.at_.toNat o.b), A.T, A.D ++ cuts o.at_.toNat o.b, A.wr + 1⟩ else A)
  else if o.kind = 3 then (if 0 ≤ o.n ∧ o.n ≤ 4194304 then ⟨laidD (o.n.toNat, [], true) A.S, A.T, A.D ++ [(o.n.toNat, [], true)], A.wr + 1⟩ else A)
  else if o.kind = 4 then ⟨A.S, laidsD A.T A.D, [], A.wr⟩
  else A

def Has (w : World) (X : Nat → Prop) (F : Nat) (f : Fs) (A : Ab) : Prop := ∃ R, Fil w X F f A.S A.T R ∧ R.map Wr.dat = A.D ∧ f.wrote = A.wr

def SmallD (D : List (Nat × List Int × Bool)) : Prop := ∀ d ∈ D, d.1 + d.2.1.length ≤ 4194304

/-- A file that is right: what is seen is what is safe, with what waits. -/
structure Good (A : Ab) (n : Nat) : Prop where
  seen : A.S = laidsD A.T A.D
  s : A.S.length ≤ 4194304
  t : A.T.length ≤ 4194304
  small : SmallD A.D
  d : A.D.length ≤ 4 * n
  w0 : 0 ≤ A.wr
  wn : A.wr ≤ n

theorem small_dat {R : List Wr} (h : SmallD (R.map Wr.dat)) : Small R := fun r hr => h r.dat (List.mem_map_of_mem hr)

theorem laidD_le (d : Nat × List Int × Bool) (l : List Int) (hl : l.length ≤ 4194304) (hd : d.1 + d.2.1.length ≤ 4194304) : (laidD d l).length ≤ 4194304 := by
  unfold laidD
  split
  · simp; omega
  · rw [over_length (over_pad _ _ _)]
    simp
    omega

theorem laidsD_le (D : List (Nat × List Int × Bool)) : ∀ l, l.length ≤ 4194304 → SmallD D → (laidsD l D).length ≤ 4194304 := by
  induction D with
  | nil => intro l hl _; exact hl
  | cons d D ih =>
    intro l hl hD
    exact ih (laidD d l) (laidD_le d l hl (hD d (by simp))) (fun x hx => hD x (by simp [hx]))

theorem cuts_small (n : Nat) : ∀ (at_ : Nat) (p : List Int), p.length ≤ n → at_ + p.length ≤ 4194304 → SmallD (cuts at_ p) := by
  induction n with
  | zero =>
    intro at_ p hn _ d hd
    have : p = [] := List.length_eq_zero_iff.1 (by omega)
    rw [this, cuts_nil] at hd
    simp at hd
  | succ n ih =>
    intro at_ p hn hle
    by_cases hp : p = []
    · intro d hd
      rw [hp, cuts_nil] at hd
      simp at hd
    · have hpos := List.length_pos_iff.2 hp
      have hm : at_ % 512 < 512 := Nat.mod_lt _ (by omega)
      rw [cuts_step at_ p _ hp rfl]
      intro d hd
      rcases List.mem_cons.1 hd with rfl | hd
      · simp
        omega
      · exact ih _ _ (by simp; omega) (by simp; omega) d hd

theorem cuts_len (n : Nat) : ∀ (at_ : Nat) (p : List Int), p.length ≤ n → (cuts at_ p).length ≤ (at_ % 512 + p.length + 511) / 512 := by
  induction n with
  | zero =>
    intro at_ p hn
    have : p = [] := List.length_eq_zero_iff.1 (by omega)
    rw [this, cuts_nil]
    simp
  | succ n ih =>
    intro at_ p hn
    by_cases hp : p = []
    · rw [hp, cuts_nil]
      simp
    · have hpos := List.length_pos_iff.2 hp
      have hm : at_ % 512 < 512 := Nat.mod_lt _ (by omega)
      by_cases hle : p.length ≤ 512 - at_ % 512
      · rw [cuts_step at_ p p.length hp (by omega)]
        rw [List.drop_length, cuts_nil]
        simp
        omega
      · rw [cuts_step at_ p (512 - at_ % 512) hp (by omega)]
        have h1 := ih (at_ + (512 - at_ % 512)) (p.drop (512 - at_ % 512)) (by simp; omega)
        simp only [List.length_cons, List.length_drop] at h1 ⊢
        have h2 : (at_ + (512 - at_ % 512)) % 512 = 0 := by omega
        rw [h2] at h1
        omega

/-- An operation on a light row keeps a file right. -/
theorem Good.op {A : Ab} {n : Nat} (h : Good A n) (o : GOp) (hb : o.b.length ≤ 1500) : Good (A.op o) (n + 1) := by
  unfold Ab.op
  split
  · split
    · rename_i hk hr
      have h1 : o.at_.toNat + o.b.length ≤ 4194304 := by omega
      have hc := cuts_small _ o.at_.toNat o.b (Nat.le_refl _) h1
      have hl := cuts_len _ o.at_.toNat o.b (Nat.le_refl _)
      have hm : o.at_.toNat % 512 < 512 := Nat.mod_lt _ (by omega)
      refine ⟨?_, laidsD_le _ _ h.s hc, h.t, fun d hd => ?_, ?_, by have := h.w0; simp; omega, by have := h.wn; simp; omega⟩
      · show laidsD A.S _ = laidsD A.T (A.D ++ _)
        rw [laidsD_append, ← h.seen]
      · rcases List.mem_append.1 hd with hd | hd
        · exact h.small d hd
        · exact hc d hd
      · have := h.d
        simp
        omega
    · exact ⟨h.seen, h.s, h.t, h.small, by have := h.d; omega, h.w0, by have := h.wn; omega⟩
  · split
    · split
      · rename_i hk hr
        refine ⟨?_, laidD_le _ _ h.s (by simp; omega), h.t, fun d hd => ?_, ?_, by have := h.w0; simp; omega, by have := h.wn; simp; omega⟩
        · show laidD _ A.S = laidsD A.T (A.D ++ _)
          rw [laidsD_append, ← h.seen]
          rfl
        · rcases List.mem_append.1 hd with hd | hd
          · exact h.small d hd
          · simp at hd
            subst hd
            simp
            omega
        · have := h.d
          simp
          omega
      · exact ⟨h.seen, h.s, h.t, h.small, by have := h.d; omega, h.w0, by have := h.wn; omega⟩
    · split
      · exact ⟨h.seen, h.s, laidsD_le _ _ h.t h.small, fun d hd => by simp at hd, by simp, h.w0, by have := h.wn; simp; omega⟩
      · exact ⟨h.seen, h.s, h.t, h.small, by have := h.d; omega, h.w0, by have := h.wn; omega⟩

/-- What an operation leaves: the file as lists, with one more that was asked for. -/
def Did (w w' : World) (X : Nat → Prop) (F : Nat) (f : Fs) (A : Ab) : Prop :=
  ∃ X' f', Has w' X' F f' A ∧ (f'.ops = f.ops + 1 ∧ f'.refuse = f.refuse ∧ f'.stop = f.stop) ∧ (∀ q, X' q → (X q ∨ w.heap.size ≤ q) ∧ q < w'.heap.size) ∧ Chg X w w'

theorem did_same {w w' : World} {X : Nat → Prop} {F : Nat} {f : Fs} {S T : List Int} {R : List Wr} {D : List (Nat × List Int × Bool)} {n : Int} (h : Fil w' X F f.asked S T R) (hD : R.map Wr.dat = D) (hn : f.wrote = n) (hX : ∀ q, X q → q < w.heap.size) (hc : Chg (fun k => k = F) w w') (hx : X F) : Did w w' X F f ⟨S, T, D, n⟩ :=
  ⟨X, f.asked, ⟨R, h, hD, hn⟩, ⟨rfl, rfl, rfl⟩, fun q hq => ⟨Or.inl hq, Nat.lt_of_lt_of_le (hX q hq) hc.size⟩, hc.mono (fun i _ e => by subst e; exact hx)⟩

end Go.Proofs.Ytnhbncbiflnapaa.Oct
