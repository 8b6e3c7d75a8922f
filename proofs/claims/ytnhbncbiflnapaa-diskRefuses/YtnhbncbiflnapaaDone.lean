/- An operation on both: the file and the reference's. -/
import Derived.Test.YtnhbncbiflnapaaRwrt
import Derived.Test.YtnhbncbiflnapaaOpz
namespace Go.Proofs.Ytnhbncbiflnapaa.Oct
open Go.RowKit Go.Deep

/-- A file and the reference's, apart. -/
structure Pair (w : World) (X Y Z : Nat → Prop) (F : Nat) (f : Fs) (A : Ab) (M : Nat) (m : Rf) (s : List Int) (R : List RW) (n : Nat) : Prop where
  has : Has w X F f A
  ref : Ref w Y Z M m s R n
  fit : Fit w X f A
  by_ : ∀ q, Y q → q < w.heap.size
  bz : ∀ q, Z q → q < w.heap.size
  xy : ∀ q, X q → ¬ Y q ∧ ¬ Z q

theorem Pair.alloc {w : World} {X Y Z : Nat → Prop} {F : Nat} {f : Fs} {A : Ab} {M : Nat} {m : Rf} {s : List Int} {R : List RW} {n : Nat} (h : Pair w X Y Z F f A M m s R n) (o : Obj) : Pair (w.alloc o) X Y Z F f A M m s R n := by
  obtain ⟨R0, q1, q2⟩ := h.has
  refine ⟨⟨R0, q1.new_block o, q2⟩, h.ref.chg (X := fun _ => False) ((Chg.refl _ _).alloc o) (fun _ h => h.elim), ⟨fun q hq => by have := h.fit.x q hq; simp; omega, h.fit.ops, h.fit.wr, h.fit.s, h.fit.t, h.fit.d, h.fit.small⟩, fun q hq => by have := h.by_ q hq; simp; omega, fun q hq => by have := h.bz q hq; simp; omega, h.xy⟩

/-- What an operation on both leaves. -/
def PDid (w w' : World) (X Y Z : Nat → Prop) (F : Nat) (f : Fs) (A : Ab) (M n : Nat) : Prop :=
  ∃ X' Y' Z' f' m s R, Has w' X' F f' A ∧ Ref w' Y' Z' M m s R n ∧ (∀ q, X' q → q < w'.heap.size) ∧ (∀ q, Y' q → q < w'.heap.size) ∧ (∀ q, Z' q → q < w'.heap.size) ∧ (∀ q, X' q → ¬ Y' q ∧ ¬ Z' q) ∧
    (f'.ops = f.ops + 1 ∧ f'.refuse = f.refuse ∧ f'.stop = f.stop) ∧ (∀ q, X' q → X q ∨ w.heap.size ≤ q) ∧ (∀ q, Y' q → Y q ∨ w.heap.size ≤ q) ∧ (∀ q, Z q → Z' q) ∧ Chg (fun q => X q ∨ Y q) w w'

theorem Pair.ref1 {w w1 : World} {X Y Z : Nat → Prop} {F : Nat} {f : Fs} {A A' : Ab} {M : Nat} {m : Rf} {s : List Int} {R : List RW} {n : Nat} (h : Pair w X Y Z F f A M m s R n) (hd : Did w w1 X F f A') : Ref w1 Y Z M m s R n := by
  obtain ⟨X', f', _, _, _, q5⟩ := hd
  exact h.ref.chg q5 h.xy

theorem Pair.after {w w1 w2 : World} {X Y Z : Nat → Prop} {F : Nat} {f : Fs} {A A' : Ab} {M : Nat} {m : Rf} {s : List Int} {R : List RW} {n k : Nat} (h : Pair w X Y Z F f A M m s R n) (hd : Did w w1 X F f A') (hr : RDid w1 w2 Y Z M k) : PDid w w2 X Y Z F f A' M k := by
  obtain ⟨X', f', ⟨R', q1, q2⟩, q3, q4, q5⟩ := hd
  obtain ⟨m', s', R'', p1, p2⟩ := hr
  have s1 := q5.size
  have s2 := p2.size
  refine ⟨X', _, _, f', m', s', R'', ⟨R', q1.chg p2 (fun q _ hx hy => ?_), q2⟩, p1, fun q hq => Nat.lt_of_lt_of_le (q4 q hq).2 s2, ?_, ?_, ?_, q3, fun q hq => (q4 q hq).1, ?_, fun q hq => Or.inl hq, ?_⟩
  · have hb := h.by_ q hy
    rcases (q4 q hx).1 with h1 | h1
    · exact (h.xy q h1).1 hy
    · omega
  · intro q hq
    rcases hq with hq | hq
    · have := h.by_ q hq; omega
    · exact hq.2
  · intro q hq
    rcases hq with hq | hq
    · have := h.bz q hq; omega
    · exact hq.2
  · intro q hx
    have hx2 := (q4 q hx).2
    refine ⟨fun hy => ?_, fun hz => ?_⟩
    · rcases hy with hy | hy
      · have hb := h.by_ q hy
        rcases (q4 q hx).1 with h1 | h1
        · exact (h.xy q h1).1 hy
        · omega
      · omega
    · rcases hz with hz | hz
      · have hb := h.bz q hz
        rcases (q4 q hx).1 with h1 | h1
        · exact (h.xy q h1).2 hz
        · omega
      · omega
  · intro q hq
    rcases hq with hq | hq
    · exact Or.inl hq
    · exact Or.inr (by omega)
  · exact (q5.mono (fun _ _ h => Or.inl h) : Chg (fun q => X q ∨ Y q) w w1).trans (p2.mono (fun _ _ h => Or.inr h))

def ToldB (e : Ending) : Prop := ∃ b, e = .returned (.bool b)

theorem same_told (a a' : Option Addr) (cap cap' : Nat) (l l' : List Int) (w : World) (hl : Lies w a l) (hl' : Lies w a' l') :
    Calls Try.prog 17 #[.slice a l.length cap, .slice a' l'.length cap'] w fun e w' => ToldB e ∧ w' = w := by
  have h1 := run_text (P := Try.prog) (dst := 9) Try.underlying22 Try.underlying5 Try.underlying9 w a l cap hl
  have h2 := run_text (P := Try.prog) (dst := 9) Try.underlying22 Try.underlying5 Try.underlying9 w a' l' cap' hl'
  go_enter Try.func17, Try.ntmps17
  go_wp2
  go_ret
  exact ⟨⟨_, rfl⟩, rfl⟩

theorem same_self (a a' : Option Addr) (cap cap' : Nat) (l : List Int) (w : World) (hl : Lies w a l) (hl' : Lies w a' l) :
    Calls Try.prog 17 #[.slice a l.length cap, .slice a' l.length cap'] w fun e w' => e = .returned (.bool true) ∧ w' = w := by
  have h1 := run_text (P := Try.prog) (dst := 9) Try.underlying22 Try.underlying5 Try.underlying9 w a l cap hl
  have h2 := run_text (P := Try.prog) (dst := 9) Try.underlying22 Try.underlying5 Try.underlying9 w a' l cap' hl'
  go_enter Try.func17, Try.ntmps17
  go_wp2
  go_ret
  refine ⟨?_, rfl⟩
  simp

end Go.Proofs.Ytnhbncbiflnapaa.Oct
