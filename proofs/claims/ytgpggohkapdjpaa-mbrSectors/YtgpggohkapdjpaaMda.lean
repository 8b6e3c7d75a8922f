/- Which sector's entry tells of a partition: what a disk says, on lists. No program. -/
import Derived.Test.YtgpggohkapdjpaaMbp
namespace Go.Proofs.Ytgpggohkapdjpaa.Oct
open Go.RowKit

def HasS (d : List Int) (h : Int × Int) (s : Nat) : Prop := h = (512 * (s : Int), 512 * (s : Int) + 512) ∧ 512 * s + 512 ≤ d.length ∧ entC (secD d s) = 0

def IsE (p : M4) (x : M3) : Prop := p.2.2.1 = x.1 ∧ p.2.1 - p.1 = 512 * x.2.2

/-- A partition is that of its slot's entry. -/
def OfS (d : List Int) (H : List (Int × Int)) (p : M4) : Prop :=
  (∃ j : Nat, j < 4 ∧ p.2.2.2 = j ∧ IsE p (entM (secD d 0) (446 + 16 * j))) ∨
  (∃ i s : Nat, 1 ≤ i ∧ i < H.length ∧ p.2.2.2 = i + 3 ∧ HasS d (H.getD i (0, 0)) s ∧ IsE p (entM (secD d s) 446))

structure Tells (d : List Int) (st : MS) : Prop where
  zero : HasS d (st.H.getD 0 (0, 0)) 0
  one : 1 ≤ st.H.length
  held : ∀ i, i < st.H.length → ∃ s, HasS d (st.H.getD i (0, 0)) s
  parts : ∀ p ∈ st.P, OfS d st.H p

theorem getD_app {α : Type} (l m : List α) (z : α) {i : Nat} (h : i < l.length) : (l ++ m).getD i z = l.getD i z := by
  rw [List.getD_eq_getElem?_getD, List.getD_eq_getElem?_getD, List.getElem?_append_left h]

theorem getD_end {α : Type} (l : List α) (x z : α) : (l ++ [x]).getD l.length z = x := by
  rw [List.getD_eq_getElem?_getD, List.getElem?_append_right (Nat.le_refl _), Nat.sub_self]
  rfl

theorem OfS.grow {d : List Int} {H : List (Int × Int)} {p : M4} (h : OfS d H p) (x : Int × Int) : OfS d (H ++ [x]) p := by
  rcases h with h | ⟨i, s, h1, h2, h3, h4, h5⟩
  · exact Or.inl h
  · refine Or.inr ⟨i, s, h1, by simp; omega, h3, ?_, h5⟩
    rw [getD_app _ _ _ h2]
    exact h4

theorem rdM_has {d : List Int} {st st' : MS} {s : Int} (h : rdM d st s = .ok st') : 0 ≤ s ∧ HasS d (s * 512, (s + 1) * 512) s.toNat ∧ st' = { st with H := st.H ++ [(s * 512, (s + 1) * 512)] } := by
  unfold rdM at h
  split at h
  · rename_i hc
    cases h
    unfold secC at hc
    split at hc
    · rename_i hs
      refine ⟨hs.1, ⟨?_, by omega, hc⟩, rfl⟩
      have : ((s.toNat : Nat) : Int) = s := Int.toNat_of_nonneg hs.1
      rw [this]
      ext <;> simp <;> omega
    · cases hc
  · cases h

theorem Tells.read {d : List Int} {st st' : MS} {s : Int} (ht : Tells d st) (h : rdM d st s = .ok st') : Tells d st' ∧ st'.P = st.P ∧ st'.H.length = st.H.length + 1 ∧ HasS d (st'.H.getD st.H.length (0, 0)) s.toNat := by
  obtain ⟨h0, h1, rfl⟩ := rdM_has h
  have hl : HasS d ((st.H ++ [(s * 512, (s + 1) * 512)]).getD st.H.length (0, 0)) s.toNat := by
    rw [getD_end]
    exact h1
  refine ⟨⟨?_, by simp, ?_, fun p hp => (ht.parts p hp).grow _⟩, rfl, by simp, hl⟩
  · show HasS d ((st.H ++ _).getD 0 (0, 0)) 0
    rw [getD_app _ _ _ ht.one]
    exact ht.zero
  · intro i hi
    simp only [List.length_append, List.length_singleton] at hi
    by_cases h2 : i < st.H.length
    · show ∃ s', HasS d ((st.H ++ _).getD i (0, 0)) s'
      rw [getD_app _ _ _ h2]
      exact ht.held i h2
    · obtain rfl : i = st.H.length := by omega
      exact ⟨_, hl⟩

theorem Tells.add {d : List Int} {st st' : MS} {slot : Int} {x : M3} {o p q : Int} (ht : Tells d st) (h : addM st slot x o p q = .ok st')
    (hx : ∀ y : M4, y.2.2.2 = slot → IsE y x → OfS d st.H y) : Tells d st' ∧ st'.H = st.H ∧ st'.i1 = st.i1 := by
  unfold addM at h
  repeat' split at h
  all_goals first
    | (cases h; done)
    | (cases h
       refine ⟨⟨ht.zero, ht.one, ht.held, ?_⟩, rfl, rfl⟩
       intro y hy
       simp only [List.mem_append, List.mem_singleton] at hy
       rcases hy with hy | rfl
       · exact ht.parts y hy
       · exact hx _ rfl ⟨rfl, by simp only; omega⟩)

theorem Tells.take {d : List Int} {n : Nat} {st st' : MS} {j : Nat} (hj : j < 4) (ht : Tells d st) (h : takeM n st j (entM (secD d 0) (446 + 16 * j)) = .ok st') : Tells d st' ∧ st'.H = st.H := by
  unfold takeM at h
  split at h
  · cases h; exact ⟨ht, rfl⟩
  split at h
  · cases h; exact ⟨⟨ht.zero, ht.one, ht.held, ht.parts⟩, rfl⟩
  split at h
  · unfold leadM at h
    repeat' split at h
    all_goals first
      | (cases h; done)
      | (cases h; exact ⟨⟨ht.zero, ht.one, ht.held, ht.parts⟩, rfl⟩)
  · obtain ⟨h1, h2, _⟩ := ht.add h (fun y hy he => Or.inl ⟨j, hj, hy, he⟩)
    exact ⟨h1, h2⟩

theorem Tells.takes {d : List Int} {n : Nat} : ∀ (L : List M3) (j : Nat) (st st' : MS), Tells d st → (∀ k, k < L.length → j + k < 4 ∧ L.getD k zm3 = entM (secD d 0) (446 + 16 * (j + k))) → takesM n st j L = .ok st' → Tells d st' ∧ st'.H = st.H
  | [], j, st, st', ht, _, h => by cases h; exact ⟨ht, rfl⟩
  | x :: L, j, st, st', ht, hL, h => by
    unfold takesM at h
    obtain ⟨h0, hx⟩ := hL 0 (by simp)
    have hx : x = entM (secD d 0) (446 + 16 * j) := hx
    cases hk : takeM n st j x with
    | error c => rw [hk] at h; cases h
    | ok st1 =>
      rw [hk] at h
      rw [hx] at hk
      obtain ⟨h1, h2⟩ := ht.take (by omega) hk
      obtain ⟨h3, h4⟩ := Tells.takes L (j + 1) st1 st' h1 (fun k hk => by
        have := hL (k + 1) (by simp; omega)
        rw [show j + 1 + k = j + (k + 1) from by omega]
        exact this) (by simpa using h)
      exact ⟨h3, h4.trans h2⟩

theorem Tells.first {d : List Int} {st : MS} (h : firstM d = .ok st) : Tells d st ∧ st.H.length = 1 := by
  unfold firstM at h
  cases hr : rdM d MS.z 0 with
  | error c => rw [hr] at h; cases h
  | ok st1 =>
    rw [hr] at h
    obtain ⟨_, h1, rfl⟩ := rdM_has hr
    have ht : Tells d { MS.z with H := MS.z.H ++ [((0 : Int) * 512, ((0 : Int) + 1) * 512)] } := by
      refine ⟨h1, by simp, ?_, by simp [MS.z]⟩
      intro i hi
      have : i = 0 := by simpa [MS.z] using hi
      subst this
      exact ⟨_, h1⟩
    obtain ⟨h2, h3⟩ := Tells.takes (entsM (secD d 0)) 0 _ st ht (fun k hk => ⟨by simpa [entsM] using hk, by rw [Nat.zero_add]; exact ents_get _ k (by simpa [entsM] using hk)⟩) h
    exact ⟨h2, by rw [h3]; rfl⟩

theorem Tells.link {d : List Int} {st st' : MS} {slot s : Int} {x : M3} (ht : Tells d st) (hs : slot = st.H.length + 3) (h : linkM d st slot s = .ok (st', x)) : Tells d st' ∧ st'.H.length = st.H.length + 1 := by
  unfold linkM at h
  split at h
  · cases h
  cases hr : rdM d st s with
  | error c => rw [hr] at h; cases h
  | ok st1 =>
    rw [hr] at h
    obtain ⟨h1, h2, h3, h4⟩ := ht.read hr
    simp only at h
    split at h
    · cases h
    by_cases he : (entM (secD d s.toNat) 446).1 ≠ 0
    · rw [if_pos he] at h
      cases ha : addM st1 slot (entM (secD d s.toNat) 446) s st.i1 st.i2 with
      | error c => rw [ha] at h; cases h
      | ok st2 =>
        rw [ha] at h
        simp only at h
        split at h
        · cases h
        · cases h
          obtain ⟨g1, g2, _⟩ := h1.add ha (fun y hy hi => Or.inr ⟨st.H.length, s.toNat, ht.one, by omega, by rw [hy, hs], h4, hi⟩)
          exact ⟨g1, by rw [g2, h3]⟩
    · rw [if_neg he] at h
      simp only at h
      split at h
      · cases h
      · cases h
        exact ⟨h1, h3⟩

theorem Tells.chain {d : List Int} {b : Int} : ∀ (k : Nat) (st st' : MS) (slot s : Int) (S : List Int), Tells d st → slot = st.H.length + 3 → chainM d b k st slot s S = .ok st' → Tells d st'
  | 0, st, st', slot, s, S, _, _, h => by cases h
  | k + 1, st, st', slot, s, S, ht, hs, h => by
    unfold chainM at h
    split at h
    · cases h
    · cases hk : linkM d st slot s with
      | error c => rw [hk] at h; cases h
      | ok q =>
        obtain ⟨st1, x⟩ := q
        rw [hk] at h
        simp only at h
        obtain ⟨h1, h2⟩ := ht.link hs hk
        split at h
        · cases h
          exact h1
        · exact Tells.chain k st1 st' _ _ _ h1 (by rw [hs, h2]; simp; omega) h

theorem Tells.pars {d : List Int} {st : MS} (h : parsM d = .ok st) : Tells d st := by
  unfold parsM at h
  cases hf : firstM d with
  | error c => rw [hf] at h; cases h
  | ok st1 =>
    rw [hf] at h
    simp only at h
    obtain ⟨h1, h2⟩ := Tells.first hf
    cases hc : chM d st1 with
    | error c => rw [hc] at h; cases h
    | ok st2 =>
      rw [hc] at h
      simp only at h
      split at h
      · cases h
        unfold chM at hc
        split at hc
        · exact Tells.chain _ _ _ _ _ _ h1 (by rw [h2]; rfl) hc
        · cases hc; exact h1
      · cases h
end Go.Proofs.Ytgpggohkapdjpaa.Oct
