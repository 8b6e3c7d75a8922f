/- A region that draws its order, by what holds at each moment of it: for regions with so many orders that they can't be gone through one by one. -/
import Derived.Test.YtpmljlmcfofppaaTak
namespace Go.Proofs.Ytpmljlmcfofppaa.Oct
open Go.RowKit

theorem count_set : ∀ (l : List Bool) (i : Nat), l[i]? = some false → (l.set i true).count false + 1 = l.count false
  | [], i, h => by simp at h
  | b :: l, 0, h => by
    simp at h
    subst h
    simp
  | b :: l, i + 1, h => by
    have ih := count_set l i (by simpa using h)
    simp only [List.set_cons_succ, List.count_cons]
    omega

theorem ready_false {md : Region.Mode} {ops : Array Oper} {L : Array Bool} {i : Nat} (h : i ∈ Region.ready md ops L) : L.toList[i]? = some false := by
  have h1 := (mem_ready.1 h).1
  rcases Nat.lt_or_ge i L.size with hi | hi
  · simp [hi] at h1
    simp [hi, h1]
  · simp [Array.getElem?_eq_none hi] at h1

/-- What holds at each moment, and is kept by each operation that may come up, holds at the end. -/
theorem any_inv {P : Program} {md : Region.Mode} {ops : Array Oper} {Q : Exit → Act → World → Prop} (S : World → Prop) (Inv : Array Bool → Act → World → Prop)
    (hd : ∀ L a w, Inv L a w → Region.ready md ops L = [] → Q .normal a w)
    (hs : ∀ L a w i, Inv L a w → i ∈ Region.ready md ops L → wpOp P ops Q i (fun a' w' => S w' ∧ Inv (L.setIfInBounds i true) a' w') a w) :
    ∀ (fuel : Nat) (L : Array Bool) (a : Act) (w : World), Inv L a w → L.toList.count false ≤ fuel → wpAnyH P md ops Q S fuel L a w
  | 0, L, a, w, h, hc => by
    have hr : Region.ready md ops L = [] := by
      refine List.eq_nil_iff_forall_not_mem.2 fun i hi => ?_
      have := count_set _ _ (ready_false hi)
      omega
    exact ⟨hr, hd L a w h hr⟩
  | fuel + 1, L, a, w, h, hc => by
    refine ⟨fun hr => hd L a w h hr, fun i hi => wpOp_mono (fun a' w' h' => ⟨h'.1, any_inv S Inv hd hs fuel _ a' w' h'.2 ?_⟩) (hs L a w i h hi)⟩
    have := count_set _ _ (ready_false hi)
    simp only [Array.toList_setIfInBounds]
    omega

/-- Likewise up to a moment from which on another proof goes. -/
theorem any_until {P : Program} {md : Region.Mode} {ops : Array Oper} {Q : Exit → Act → World → Prop} (S : World → Prop) (Inv : Array Bool → Act → World → Prop) (Lend : Array Bool)
    (hd : ∀ a w, Inv Lend a w → wpAnyH P md ops Q S (Lend.toList.count false) Lend a w)
    (hs : ∀ L a w i, Inv L a w → L ≠ Lend → i ∈ Region.ready md ops L → wpOp P ops Q i (fun a' w' => S w' ∧ Inv (L.setIfInBounds i true) a' w') a w)
    (hne : ∀ L a w, Inv L a w → L ≠ Lend → Region.ready md ops L ≠ []) :
    ∀ (fuel : Nat) (L : Array Bool) (a : Act) (w : World), Inv L a w → L.toList.count false = fuel → wpAnyH P md ops Q S fuel L a w
  | 0, L, a, w, h, hc => by
    by_cases hL : L = Lend
    · subst hL
      rw [← hc]
      exact hd a w h
    · obtain ⟨i, hi⟩ := List.exists_mem_of_ne_nil _ (hne L a w h hL)
      have := count_set _ _ (ready_false hi)
      omega
  | fuel + 1, L, a, w, h, hc => by
    by_cases hL : L = Lend
    · subst hL
      rw [← hc]
      exact hd a w h
    · refine ⟨fun hr => absurd hr (hne L a w h hL), fun i hi => wpOp_mono (fun a' w' h' => ⟨h'.1, any_until S Inv Lend hd hs hne fuel _ a' w' h'.2 ?_⟩) (hs L a w i h hL hi)⟩
      have := count_set _ _ (ready_false hi)
      simp only [Array.toList_setIfInBounds]
      omega

theorem wpOp_of {P : Program} {ops : Array Oper} {Q : Exit → Act → World → Prop} {i : Nat} {o : Oper} {K : Act → World → Prop} {a : Act} {w : World} (hi : ops[i]? = some o)
    (h : ∀ K', (∀ a' w', K a' w' → K' a' w') → (if Region.wanted o (yielded ops a.tmps) = true then Oper.wp P o a w K' Q else K' (a.put o.dst undef) w)) : wpOp P ops Q i K a w := by
  have h := h K (fun _ _ h => h)
  unfold wpOp
  simp only [hi]
  split
  · rename_i hw
    rw [if_pos hw] at h
    exact Or.inl h
  · rename_i hw
    rw [if_neg hw] at h
    exact h

/-- Has number k come up? -/
def Bit (L : Array Bool) (k : Nat) : Prop := L.getD k false = true

theorem bit_set (L : Array Bool) (i k : Nat) (hk : i ≠ k) : Bit (L.setIfInBounds i true) k ↔ Bit L k := by
  unfold Bit
  simp [hk]
end Go.Proofs.Ytpmljlmcfofppaa.Oct
