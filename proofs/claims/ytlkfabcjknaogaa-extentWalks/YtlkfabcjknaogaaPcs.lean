/- Between each two places where something begins or ends all bytes are alike. -/
import Derived.Test.YtlkfabcjknaogaaMrk
import Derived.Test.YtlkfabcjknaogaaJnr
namespace Go.Proofs.Ytlkfabcjknaogaa.Oct

open Classical in
/-- The pieces between places, of those that begin well. -/
noncomputable def pieces (M : List Int) (p : Int → Prop) (k : Nat) : List (Int × Int) :=
  ((List.range k).filter (fun i => decide (p (M.getD i 0)))).map (fun i => (M.getD i 0, M.getD (i + 1) 0))

open Classical in
theorem pieces_yes {M : List Int} {p : Int → Prop} {k : Nat} (h : p (M.getD k 0)) : pieces M p (k + 1) = pieces M p k ++ [(M.getD k 0, M.getD (k + 1) 0)] := by
  unfold pieces
  rw [List.range_succ, List.filter_append, List.map_append]
  have : decide (p (M.getD k 0)) = true := by simpa using h
  rw [List.filter_cons_of_pos (by simpa using this)]
  simp

open Classical in
theorem pieces_no {M : List Int} {p : Int → Prop} {k : Nat} (h : ¬ p (M.getD k 0)) : pieces M p (k + 1) = pieces M p k := by
  unfold pieces
  rw [List.range_succ, List.filter_append, List.map_append, List.filter_cons_of_neg (by simpa using h)]
  simp

theorem pieces_len (M : List Int) (p : Int → Prop) (k : Nat) : (pieces M p k).length ≤ k := by
  unfold pieces
  rw [List.length_map]
  exact Nat.le_trans (List.length_filter_le _ _) (by simp)

theorem pieces_mem {M : List Int} {p : Int → Prop} {k : Nat} {q : Int × Int} (h : q ∈ pieces M p k) : ∃ i, i < k ∧ p (M.getD i 0) ∧ q = (M.getD i 0, M.getD (i + 1) 0) := by
  unfold pieces at h
  obtain ⟨i, hi, rfl⟩ := List.mem_map.1 h
  obtain ⟨h1, h2⟩ := List.mem_filter.1 hi
  exact ⟨i, by simpa using h1, by simpa using h2, rfl⟩

theorem pieces_of {M : List Int} {p : Int → Prop} {k i : Nat} (hi : i < k) (h : p (M.getD i 0)) : (M.getD i 0, M.getD (i + 1) 0) ∈ pieces M p k := by
  unfold pieces
  exact List.mem_map.2 ⟨i, List.mem_filter.2 ⟨by simpa using hi, by simpa using h⟩, rfl⟩

theorem rise_at {M : List Int} (hr : M.Pairwise (· < ·)) {i j : Nat} (hij : i < j) (hj : j < M.length) : M.getD i 0 < M.getD j 0 := by
  have h := List.pairwise_iff_getElem.1 hr i j (by omega) hj hij
  have h1 : i < M.length := by omega
  simpa [h1, hj] using h

theorem rise_le {M : List Int} (hr : M.Pairwise (· < ·)) {i j : Nat} (hij : i ≤ j) (hj : j < M.length) : M.getD i 0 ≤ M.getD j 0 := by
  rcases Nat.lt_or_eq_of_le hij with h | rfl
  · exact Int.le_of_lt (rise_at hr h hj)
  · exact Int.le_refl _

theorem rise_back {M : List Int} (hr : M.Pairwise (· < ·)) {i j : Nat} (hi : i < M.length) (h : M.getD i 0 < M.getD j 0) : i < j := by
  rcases Nat.lt_or_ge i j with h1 | h1
  · exact h1
  · have := rise_le hr h1 hi
    omega

theorem pieces_steps {M : List Int} (hr : M.Pairwise (· < ·)) (p : Int → Prop) : ∀ k, (k = 0 ∨ k < M.length) → Steps2 (pieces M p k)
  | 0, _ => ⟨fun q hq => by obtain ⟨i, hi, _⟩ := pieces_mem hq; omega, by simp [pieces]⟩
  | k + 1, hk => by
    have hk : k + 1 < M.length := by omega
    have ih := pieces_steps hr p k (Or.inr (by omega))
    by_cases h : p (M.getD k 0)
    · rw [pieces_yes h]
      refine ⟨fun q hq => ?_, List.pairwise_append.2 ⟨ih.sort, by simp, fun q hq q' hq' => ?_⟩⟩
      · rcases List.mem_append.1 hq with hq | hq
        · exact ih.fill q hq
        · simp only [List.mem_singleton] at hq
          subst hq
          exact rise_at hr (by omega) hk
      · simp only [List.mem_singleton] at hq'
        subst hq'
        obtain ⟨i, hi, _, rfl⟩ := pieces_mem hq
        exact rise_le hr (by omega) (by omega)
    · rw [pieces_no h]
      exact ih

theorem between {M : List Int} {x : Int} : ∀ (d a : Nat), M.getD a 0 ≤ x → x < M.getD (a + d) 0 → ∃ i, a ≤ i ∧ i < a + d ∧ M.getD i 0 ≤ x ∧ x < M.getD (i + 1) 0
  | 0, a, h1, h2 => by simp only [Nat.add_zero] at h2; omega
  | d + 1, a, h1, h2 => by
    by_cases h : x < M.getD (a + 1) 0
    · exact ⟨a, by omega, by omega, h1, h⟩
    · obtain ⟨i, h3, h4, h5⟩ := between (M := M) (x := x) d (a + 1) (by omega) (by rw [show a + 1 + d = a + (d + 1) by omega]; exact h2)
      exact ⟨i, by omega, by omega, h5⟩

/-- What doesn't change between two places that are next to each other, and is nowhere ahead of the first or behind the last. -/
structure Even (M : List Int) (p : Int → Prop) : Prop where
  rise : M.Pairwise (· < ·)
  same : ∀ i x, i + 1 < M.length → M.getD i 0 ≤ x → x < M.getD (i + 1) 0 → (p x ↔ p (M.getD i 0))
  lies : ∀ x, p x → ∃ a b, a ∈ M ∧ b ∈ M ∧ a ≤ x ∧ x < b

theorem mem_at {M : List Int} {x : Int} (h : x ∈ M) : ∃ i, i < M.length ∧ M.getD i 0 = x := by
  obtain ⟨i, hi, rfl⟩ := List.getElem_of_mem h
  exact ⟨i, hi, by simp [hi]⟩

theorem Even.set {M : List Int} {p : Int → Prop} (h : Even M p) (x : Int) : InE (pieces M p (M.length - 1)) x ↔ p x := by
  constructor
  · rintro ⟨q, hq, h1, h2⟩
    obtain ⟨i, hi, hp, rfl⟩ := pieces_mem hq
    exact (h.same i x (by omega) h1 h2).2 hp
  · intro hp
    obtain ⟨a, b, ha, hb, h1, h2⟩ := h.lies x hp
    obtain ⟨i, hi, rfl⟩ := mem_at ha
    obtain ⟨j, hj, rfl⟩ := mem_at hb
    have hij : i < j := rise_back h.rise hi (by omega)
    obtain ⟨r, h3, h4, h5, h6⟩ := between (j - i) i h1 (by rw [show i + (j - i) = j by omega]; exact h2)
    exact ⟨_, pieces_of (by omega) ((h.same r x (by omega) h5 h6).1 hp), h5, h6⟩

/-- A set whose ends are among the places. -/
theorem inE_same {M : List Int} (hr : M.Pairwise (· < ·)) {L : List (Int × Int)} (hL : ∀ q ∈ L, q.1 ∈ M ∧ q.2 ∈ M) {i : Nat} {x : Int} (hi : i + 1 < M.length) (h1 : M.getD i 0 ≤ x) (h2 : x < M.getD (i + 1) 0) : InE L x ↔ InE L (M.getD i 0) := by
  constructor
  · rintro ⟨q, hq, h3, h4⟩
    obtain ⟨a, ha, e⟩ := mem_at (hL q hq).1
    refine ⟨q, hq, ?_, by omega⟩
    rw [← e]
    refine rise_le hr ?_ (by omega)
    rcases Nat.lt_or_ge i a with h5 | h5
    · have := rise_le hr (show i + 1 ≤ a by omega) ha
      omega
    · exact h5
  · rintro ⟨q, hq, h3, h4⟩
    obtain ⟨b, hb, e⟩ := mem_at (hL q hq).2
    refine ⟨q, hq, by omega, ?_⟩
    have h5 : i < b := rise_back hr (by omega) (by omega)
    have := rise_le hr (show i + 1 ≤ b by omega) hb
    omega

theorem even_one {M : List Int} (hr : M.Pairwise (· < ·)) {L : List (Int × Int)} (hL : ∀ q ∈ L, q.1 ∈ M ∧ q.2 ∈ M) : Even M (InE L) :=
  ⟨hr, fun _ _ hi h1 h2 => inE_same hr hL hi h1 h2, fun _ ⟨q, hq, h1, h2⟩ => ⟨q.1, q.2, (hL q hq).1, (hL q hq).2, h1, h2⟩⟩

end Go.Proofs.Ytlkfabcjknaogaa.Oct
