/- Norm: the one form of parts. -/
import Derived.Test.YtpbnjobjjnhplaaDoorPRis
namespace Go.Proofs.YtpbnjobjjnhplaaDoor.Oct
open Go.RowKit Go.Sort

/-- The one form of parts; its numbers are theirs. -/
structure Normed (L N : List (Int × Int)) : Prop where
  form : Form N
  set : ∀ x, InE N x ↔ InE L x
  len : N.length ≤ L.length
  fst : ∀ p ∈ N, ∃ q ∈ L, p.1 = q.1
  snd : ∀ p ∈ N, ∃ q ∈ L, p.2 = q.2

theorem Rise.set {L D : List (Int × Int)} (h : Rise L D) (x : Int) : InE D x ↔ InE L x := by
  constructor
  · rintro ⟨p, hp, hx⟩
    exact ⟨p, ((h.mem p).1 hp).1, hx⟩
  · rintro ⟨p, hp, hx⟩
    exact ⟨p, (h.mem p).2 ⟨hp, by omega⟩, hx⟩

theorem Made.normed {L D N : List (Int × Int)} (hr : Rise L D) (h : Made D N) : Normed L N :=
  ⟨h.form, fun x => (h.set x).trans (hr.set x), Nat.le_trans h.len hr.len, fun p hp => by obtain ⟨q, hq, e⟩ := h.fst p hp; exact ⟨q, ((hr.mem q).1 hq).1, e⟩, fun p hp => by obtain ⟨q, hq, e⟩ := h.snd p hp; exact ⟨q, ((hr.mem q).1 hq).1, e⟩⟩

theorem take_step (D : List (Int × Int)) (k : Nat) (hk : k < D.length) : D.take (k + 1) = D.take k ++ [D.getD k (0, 0)] := by
  have e : D.getD k (0, 0) = D[k] := by simp [hk]
  rw [List.take_succ_eq_append_getElem hk, e]

theorem rise_step {L D : List (Int × Int)} (hr : Rise L D) {k : Nat} (hk : k < D.length) {O : List (Int × Int)} (h : Made (D.take k) O) : Made (D.take (k + 1)) (nstep O (D.getD k (0, 0))) := by
  have e : D.getD k (0, 0) = D[k] := by simp [hk]
  rw [take_step D k hk]
  refine h.step _ (by rw [e]; exact hr.fill _ (List.getElem_mem _)) (fun q hq => ?_)
  rw [e]
  obtain ⟨i, hi, rfl⟩ := List.getElem_of_mem hq
  simp at hi
  rw [List.getElem_take]
  exact List.pairwise_iff_getElem.1 hr.sort i k (by omega) hk (by omega)

theorem setE (O : List (Int × Int)) (n : Nat) (x1 x2 : Int) (hn : n < O.length) (h1 : x1 = (O.getD n (0, 0)).1) : (O.flatMap encE).set (n * 2 + 1) (.int .i64 x2) = (O.set n (x1, x2)).flatMap encE := by
  induction O generalizing n with
  | nil => simp at hn
  | cons p O ih =>
    cases n with
    | zero =>
      simp at h1
      subst h1
      simp [encE]
    | succ n =>
      simp only [List.flatMap_cons, List.set_cons_succ]
      rw [show (n + 1) * 2 + 1 = (encE p).length + (n * 2 + 1) by simp [encE]; omega, List.set_append_right _ _ (by omega), Nat.add_sub_cancel_left]
      rw [ih n (by simpa using hn) (by simpa using h1)]

theorem OwnE.mono {w : World} {B B' : Nat} {v : Value} {L : List (Int × Int)} (h : OwnE w B v L) (hb : B' ≤ B) : OwnE w B' v L := by
  refine ⟨h.1, ?_⟩
  rcases h.2 with h1 | ⟨g, cap, cur, h1, hg, hr⟩
  · exact Or.inl h1
  · exact Or.inr ⟨g, cap, cur, h1, Nat.le_trans hb hg, hr⟩

theorem below_ahead {B : Nat} {a w : World} (h : RowKit.Below B a w) (n : Nat) : RowKit.Below B a (w.drewN n) := ⟨h.os, h.tape, h.output, h.size, h.block⟩

end Go.Proofs.YtpbnjobjjnhplaaDoor.Oct
