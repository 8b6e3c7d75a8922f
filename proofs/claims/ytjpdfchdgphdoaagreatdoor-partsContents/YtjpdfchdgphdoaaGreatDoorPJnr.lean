/- joined, by the reference: parts that rise, those that touch together. -/
import Derived.Test.YtjpdfchdgphdoaaGreatDoorPNor
namespace Go.Proofs.YtjpdfchdgphdoaaGreatDoor.Oct
open Go.RowKit Go.Sort

/-- Parts that rise, each with a byte; none reaches into the next. -/
structure Steps2 (D : List (Int × Int)) : Prop where
  fill : ∀ p ∈ D, p.1 < p.2
  sort : D.Pairwise (fun p q => p.2 ≤ q.1)

theorem getD_mem (D : List (Int × Int)) (k : Nat) (hk : k < D.length) : D.getD k (0, 0) ∈ D := by
  have e : D.getD k (0, 0) = D[k] := by simp [hk]
  rw [e]
  exact List.getElem_mem hk

theorem Steps2.ahead {D : List (Int × Int)} (h : Steps2 D) {k : Nat} (hk : k < D.length) : ∀ q ∈ D.take k, q.2 ≤ (D.getD k (0, 0)).1 := by
  intro q hq
  have e : D.getD k (0, 0) = D[k] := by simp [hk]
  rw [e]
  obtain ⟨i, hi, rfl⟩ := List.getElem_of_mem hq
  simp at hi
  rw [List.getElem_take]
  exact List.pairwise_iff_getElem.1 h.sort i k (by omega) hk (by omega)

theorem Steps2.step {D : List (Int × Int)} (h : Steps2 D) {k : Nat} (hk : k < D.length) {O : List (Int × Int)} (hm : Made (D.take k) O) : Made (D.take (k + 1)) (nstep O (D.getD k (0, 0))) := by
  rw [take_step D k hk]
  refine hm.step _ (h.fill _ (getD_mem D k hk)) (fun q hq => ?_)
  have h1 := h.ahead hk q hq
  have h2 := h.fill q (List.mem_of_mem_take hq)
  omega

/-- Its step is that of the one form. -/
theorem Steps2.nstep {D : List (Int × Int)} (h : Steps2 D) {k : Nat} (hk : k < D.length) {O : List (Int × Int)} (hm : Made (D.take k) O) {n : Nat} (hn : O.length = n + 1) :
    nstep O (D.getD k (0, 0)) = if (O.getD n (0, 0)).2 = (D.getD k (0, 0)).1 then O.set n ((O.getD n (0, 0)).1, (D.getD k (0, 0)).2) else O ++ [D.getD k (0, 0)] := by
  obtain ⟨q, hq, e⟩ := hm.snd _ (getD_mem O n (by omega))
  have h1 := h.ahead hk q hq
  have h3 := h.fill _ (getD_mem D k hk)
  unfold Oct.nstep
  rw [show O.length - 1 = n by omega]
  by_cases h2 : (O.getD n (0, 0)).2 = (D.getD k (0, 0)).1
  · rw [if_neg (by rintro (h4 | h4); · rw [h4] at hn; simp at hn
                   · omega), if_pos h2, show max (O.getD n (0, 0)).2 (D.getD k (0, 0)).2 = (D.getD k (0, 0)).2 by omega]
  · rw [if_pos (Or.inr (by omega)), if_neg h2]

end Go.Proofs.YtjpdfchdgphdoaaGreatDoor.Oct
