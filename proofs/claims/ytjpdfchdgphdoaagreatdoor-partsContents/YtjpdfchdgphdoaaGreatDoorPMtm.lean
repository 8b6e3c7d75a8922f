/- What two sets have in common, and what one has alone, part by part: the steps, and what they make. No program in it. -/
import Derived.Test.YtjpdfchdgphdoaaGreatDoorPExmMba
namespace Go.Proofs.YtjpdfchdgphdoaaGreatDoor.Oct

abbrev PE := Int × Int

/-- How many parts end at a place or ahead of it. -/
def skE (R : List PE) (at_ : Int) : Nat := (R.takeWhile (fun y => decide (y.2 ≤ at_))).length
/-- The parts that begin ahead of a part's end. -/
def hitE (R : List PE) (x : PE) : List PE := R.takeWhile (fun y => decide (y.1 < x.2))
def cutE (x y : PE) : PE := (max x.1 y.1, min x.2 y.2)
/-- What is left of a part between others. -/
def gapE (x : PE) : Int → List PE → List PE
  | f, [] => [(f, x.2)]
  | f, y :: ys => (f, y.1) :: gapE x y.2 ys

theorem tw_take {α : Type} (p : α → Bool) (d : α) : ∀ (l : List α) (i : Nat), i ≤ l.length → (∀ j, j < i → p (l.getD j d) = true) → (i < l.length → p (l.getD i d) = false) → l.takeWhile p = l.take i
  | [], i, hi, _, _ => by simp at hi; simp [hi]
  | x :: l, 0, _, _, h => by
    have := h (by simp)
    simp at this
    simp [this]
  | x :: l, i + 1, hi, hp, h => by
    have h0 := hp 0 (by omega)
    simp at h0
    rw [List.takeWhile_cons, if_pos h0, List.take_succ_cons, tw_take p d l i (by simpa using hi) (fun j hj => by simpa using hp (j + 1) (by omega)) (fun hh => by simpa using h (by simpa using hh))]

theorem tw_get {α : Type} (p : α → Bool) (d : α) : ∀ (l : List α) (j : Nat), j < (l.takeWhile p).length → p (l.getD j d) = true
  | [], j, h => by simp at h
  | x :: l, j, h => by
    rw [List.takeWhile_cons] at h
    by_cases hx : p x = true
    · rw [if_pos hx] at h
      cases j with
      | zero => simpa using hx
      | succ j => simpa using tw_get p d l j (by simpa using h)
    · rw [if_neg hx] at h
      simp at h

theorem tw_stop {α : Type} (p : α → Bool) (d : α) : ∀ (l : List α), (l.takeWhile p).length < l.length → p (l.getD (l.takeWhile p).length d) = false
  | [], h => by simp at h
  | x :: l, h => by
    rw [List.takeWhile_cons] at h ⊢
    by_cases hx : p x = true
    · rw [if_pos hx] at h ⊢
      simpa using tw_stop p d l (by simpa using h)
    · rw [if_neg hx]
      simpa using hx

theorem tw_le {α : Type} (p : α → Bool) (l : List α) : (l.takeWhile p).length ≤ l.length := (List.takeWhile_sublist p).length_le

theorem mem_tw {α : Type} (p : α → Bool) : ∀ (l : List α) (y : α), y ∈ l.takeWhile p → y ∈ l ∧ p y = true
  | [], y, h => by simp at h
  | x :: l, y, h => by
    rw [List.takeWhile_cons] at h
    by_cases hx : p x = true
    · rw [if_pos hx] at h
      rcases List.mem_cons.1 h with rfl | h
      · exact ⟨by simp, hx⟩
      · have := mem_tw p l y h
        exact ⟨by simp [this.1], this.2⟩
    · rw [if_neg hx] at h
      simp at h

/-- Of parts that rise those that begin ahead of a place come first. -/
theorem hit_mem {R : List PE} (hf : Form R) (x : PE) : ∀ y, y ∈ hitE R x ↔ y ∈ R ∧ y.1 < x.2 := by
  induction R with
  | nil => intro y; simp [hitE]
  | cons r R ih =>
    intro y
    unfold hitE
    rw [List.takeWhile_cons]
    by_cases hr : r.1 < x.2
    · rw [if_pos (by simpa using hr), List.mem_cons, List.mem_cons]
      have := ih hf.tail y
      unfold hitE at this
      rw [this]
      constructor
      · rintro (rfl | h)
        · exact ⟨Or.inl rfl, hr⟩
        · exact ⟨Or.inr h.1, h.2⟩
      · rintro ⟨rfl | h, h2⟩
        · exact Or.inl rfl
        · exact Or.inr ⟨h, h2⟩
    · rw [if_neg (by simpa using hr)]
      constructor
      · intro h; simp at h
      · rintro ⟨h, h2⟩
        rcases List.mem_cons.1 h with rfl | h
        · exact absurd h2 hr
        · have h3 := (List.pairwise_cons.1 hf.2).1 y h
          have h4 := hf.1 r (by simp)
          omega

theorem Form.drop {R : List PE} (h : Form R) (k : Nat) : Form (R.drop k) := ⟨fun p hp => h.1 p (List.mem_of_mem_drop hp), h.2.sublist (List.drop_sublist k R)⟩
theorem Form.hit {R : List PE} (h : Form R) (x : PE) : Form (hitE R x) := ⟨fun p hp => h.1 p (mem_tw _ _ _ hp).1, h.2.sublist (List.takeWhile_sublist _)⟩

theorem inE_cut (x : PE) (H : List PE) (z : Int) : InE (H.map (cutE x)) z ↔ (x.1 ≤ z ∧ z < x.2) ∧ InE H z := by
  unfold InE
  constructor
  · rintro ⟨p, hp, h1, h2⟩
    obtain ⟨y, hy, rfl⟩ := List.mem_map.1 hp
    unfold cutE at h1 h2
    simp at h1 h2
    exact ⟨⟨by omega, by omega⟩, y, hy, by omega, by omega⟩
  · rintro ⟨⟨h1, h2⟩, y, hy, h3, h4⟩
    exact ⟨cutE x y, List.mem_map.2 ⟨y, hy, rfl⟩, by unfold cutE; simp; omega, by unfold cutE; simp; omega⟩

theorem inE_gap (x : PE) (z : Int) : ∀ (H : List PE) (f : Int), Form H → (∀ y ∈ H, y.1 < x.2 ∧ f ≤ y.2) → (InE (gapE x f H) z ↔ (f ≤ z ∧ z < x.2) ∧ ¬ InE H z)
  | [], f, _, _ => by simp [gapE, inE_one, InE.nil]
  | y :: H, f, hf, hy => by
    have h1 := hy y (by simp)
    have h2 := hf.1 y (by simp)
    have ih := inE_gap x z H y.2 hf.tail (fun q hq => ⟨(hy q (by simp [hq])).1, by
      have h3 := (List.pairwise_cons.1 hf.2).1 q hq
      have h4 := hf.1 q (by simp [hq])
      omega⟩)
    unfold gapE
    rw [inE_cons, ih, inE_cons]
    dsimp only
    constructor
    · rintro (h | ⟨h, hn⟩)
      · refine ⟨⟨h.1, by omega⟩, ?_⟩
        rintro (h5 | h5)
        · omega
        · have := hf.rest h5; omega
      · refine ⟨⟨by omega, h.2⟩, ?_⟩
        rintro (h5 | h5)
        · omega
        · exact hn h5
    · rintro ⟨h, hn⟩
      by_cases hz : z < y.1
      · exact Or.inl ⟨h.1, hz⟩
      · refine Or.inr ⟨⟨?_, h.2⟩, fun h5 => hn (Or.inr h5)⟩
        by_cases h6 : z < y.2
        · exact absurd (Or.inl ⟨by omega, h6⟩) hn
        · omega

/-- One part's step: how far the other set is gone; what is added. -/
def stp (F : PE → List PE → List PE) (T : List PE) (s : Nat × List PE) (x : PE) : Nat × List PE :=
  let k := s.1 + skE (T.drop s.1) x.1
  (k, s.2 ++ F x (hitE (T.drop k) x))
def stS (F : PE → List PE → List PE) (T : List PE) (pre : List (Nat × PE)) : Nat × List PE := pre.foldl (fun s x => stp F T s x.2) (0, [])

theorem stS_snoc (F : PE → List PE → List PE) (T : List PE) (pre : List (Nat × PE)) (x : Nat × PE) : stS F T (pre ++ [x]) = stp F T (stS F T pre) x.2 := by simp [stS]

theorem sk_le (T : List PE) (k : Nat) (a : Int) (hk : k ≤ T.length) : k + skE (T.drop k) a ≤ T.length := by
  have := tw_le (fun y : PE => decide (y.2 ≤ a)) (T.drop k)
  unfold skE
  simp at this ⊢
  omega

theorem stS_le (F : PE → List PE → List PE) (T : List PE) : ∀ (n : Nat) (pre : List (Nat × PE)), pre.length = n → (stS F T pre).1 ≤ T.length
  | 0, pre, h => by rw [List.length_eq_zero_iff.1 h]; simp [stS]
  | n + 1, pre, h => by
    obtain ⟨p, x, rfl⟩ : ∃ p x, pre = p ++ [x] := ⟨pre.dropLast, pre.getLast (by intro e; rw [e] at h; simp at h), (List.dropLast_concat_getLast _).symm⟩
    rw [stS_snoc]
    exact sk_le T _ _ (stS_le F T n p (by simpa using h))

theorem stS_len (F : PE → List PE → List PE) (c : Nat) (T : List PE) (hF : ∀ x H, (F x H).length ≤ H.length + c) : ∀ (n : Nat) (pre : List (Nat × PE)), pre.length = n → (stS F T pre).2.length ≤ n * (T.length + c)
  | 0, pre, h => by rw [List.length_eq_zero_iff.1 h]; simp [stS]
  | n + 1, pre, h => by
    obtain ⟨p, x, rfl⟩ : ∃ p x, pre = p ++ [x] := ⟨pre.dropLast, pre.getLast (by intro e; rw [e] at h; simp at h), (List.dropLast_concat_getLast _).symm⟩
    rw [stS_snoc]
    have ih := stS_len F c T hF n p (by simpa using h)
    unfold stp
    simp only [List.length_append]
    have h1 := hF x.2 (hitE (T.drop ((stS F T p).1 + skE (T.drop (stS F T p).1) x.2.1)) x.2)
    have h2 := tw_le (fun y : PE => decide (y.1 < x.2.2)) (T.drop ((stS F T p).1 + skE (T.drop (stS F T p).1) x.2.1))
    have h3 : (T.drop ((stS F T p).1 + skE (T.drop (stS F T p).1) x.2.1)).length ≤ T.length := by simp
    unfold hitE at h1 ⊢
    rw [Nat.add_mul, Nat.one_mul]
    omega

/-- What the steps over a set in the one form make. -/
theorem stS_set (F : PE → List PE → List PE) (ok : (Prop → Prop)) (T N : List PE) (hT : Form T) (hN : Form N)
    (hF : ∀ x H z, Form H → (∀ y ∈ H, y.1 < x.2 ∧ x.1 < y.2) → x.1 < x.2 → (InE (F x H) z ↔ (x.1 ≤ z ∧ z < x.2) ∧ ok (InE H z))) (z : Int) :
    ∀ n, n ≤ N.length → (∀ j, j < (stS F T ((List.range n).map (fun j => (j, N.getD j (0, 0))))).1 → ∀ m, n ≤ m → m < N.length → (T.getD j (0, 0)).2 ≤ (N.getD m (0, 0)).1) ∧
      (InE (stS F T ((List.range n).map (fun j => (j, N.getD j (0, 0))))).2 z ↔ ∃ m, m < n ∧ ((N.getD m (0, 0)).1 ≤ z ∧ z < (N.getD m (0, 0)).2) ∧ ok (InE T z))
  | 0, _ => by
    refine ⟨fun j hj => by simp [stS] at hj, ?_⟩
    simp [stS, InE.nil]
  | n + 1, hn => by
    obtain ⟨ih1, ih2⟩ := stS_set F ok T N hT hN hF z n (by omega)
    rw [List.range_succ, List.map_append, List.map_singleton, stS_snoc]
    generalize hst : stS F T ((List.range n).map (fun j => (j, N.getD j (0, 0)))) = st at *
    obtain ⟨k, out⟩ := st
    have hkl : k ≤ T.length := by have := stS_le F T n ((List.range n).map (fun j => (j, N.getD j (0, 0)))) (by simp); rw [hst] at this; exact this
    have hxe : N.getD n (0, 0) = N[n] := by simp [show n < N.length by omega]
    have hmono : ∀ m, n < m → m < N.length → (N.getD n (0, 0)).2 < (N.getD m (0, 0)).1 := fun m h1 h2 => by
      have := List.pairwise_iff_getElem.1 hN.2 n m (by omega) h2 h1
      simpa [show n < N.length by omega, h2] using this
    have hx12 : (N.getD n (0, 0)).1 < (N.getD n (0, 0)).2 := by rw [hxe]; exact hN.1 _ (List.getElem_mem _)
    generalize hx : N.getD n (0, 0) = x at *
    unfold stp
    dsimp only at ih1 ih2 ⊢
    have hsk : ∀ j, j < k + skE (T.drop k) x.1 → (T.getD j (0, 0)).2 ≤ x.1 := fun j hj => by
      rcases Nat.lt_or_ge j k with h1 | h1
      · have := ih1 j h1 n (Nat.le_refl _) (by omega)
        rw [hx] at this
        exact this
      · have := tw_get (fun y : PE => decide (y.2 ≤ x.1)) (0, 0) (T.drop k) (j - k) (by unfold skE at hj; omega)
        simp [List.getD_eq_getElem?_getD, show k + (j - k) = j by omega] at this
        simpa [List.getD_eq_getElem?_getD] using this
    generalize hk' : k + skE (T.drop k) x.1 = k' at *
    refine ⟨fun j hj m h1 h2 => ?_, ?_⟩
    · have h3 := hsk j hj
      have h4 := hmono m (by omega) h2
      omega
    · have hhead : ∀ y ∈ T.drop k', x.1 < y.2 := fun y hy => by
        obtain ⟨i, hi, rfl⟩ := List.getElem_of_mem hy
        have hst2 := tw_stop (fun y : PE => decide (y.2 ≤ x.1)) (0, 0) (T.drop k)
        have hlen : skE (T.drop k) x.1 < (T.drop k).length := by simp at hi ⊢; omega
        have h5 := hst2 hlen
        have e5 : (T.drop k).getD (skE (T.drop k) x.1) (0, 0) = T.getD k' (0, 0) := by simp [List.getD_eq_getElem?_getD, hk']
        unfold skE at e5
        rw [e5] at h5
        simp only [decide_eq_false_iff_not] at h5
        have hkT : k' < T.length := by simp at hi; omega
        have e6 : T.getD k' (0, 0) = T[k'] := by simp [hkT]
        rw [e6] at h5
        simp only [List.getElem_drop]
        rcases Nat.eq_zero_or_pos i with h0 | h0
        · subst h0; simpa using h5
        · have h7 := List.pairwise_iff_getElem.1 hT.2 k' (k' + i) hkT (by simp at hi; omega) (by omega)
          have h8 := hT.1 (T[k' + i]'(by simp at hi; omega)) (List.getElem_mem _)
          omega
      have hH := (hT.drop k').hit x
      have hmem := hit_mem (hT.drop k') x
      have hin : InE (hitE (T.drop k') x) z ∨ ¬ (x.1 ≤ z ∧ z < x.2) ∨ ¬ InE T z := by
        by_cases h1 : x.1 ≤ z ∧ z < x.2
        · by_cases h2 : InE T z
          · left
            obtain ⟨y, hy, h3, h4⟩ := h2
            obtain ⟨i, hi, rfl⟩ := List.getElem_of_mem hy
            refine ⟨T[i], (hmem _).2 ⟨?_, by omega⟩, h3, h4⟩
            rcases Nat.lt_or_ge i k' with h5 | h5
            · have h6 := hsk i h5
              have e6 : T.getD i (0, 0) = T[i] := by simp [hi]
              rw [e6] at h6
              omega
            · rw [List.mem_iff_getElem]
              exact ⟨i - k', by simp; omega, by simp [show k' + (i - k') = i by omega]⟩
          · exact Or.inr (Or.inr h2)
        · exact Or.inr (Or.inl h1)
      have hsub : InE (hitE (T.drop k') x) z → InE T z := fun ⟨y, hy, h3⟩ => ⟨y, List.mem_of_mem_drop ((hmem y).1 hy).1, h3⟩
      rw [inE_append, ih2, hF x _ z hH (fun y hy => ⟨((hmem y).1 hy).2, hhead y ((hmem y).1 hy).1⟩) hx12]
      constructor
      · rintro (⟨m, h1, h2⟩ | ⟨h1, h2⟩)
        · exact ⟨m, by omega, h2⟩
        · refine ⟨n, by omega, by rw [hx]; exact h1, ?_⟩
          have e : InE (hitE (T.drop k') x) z ↔ InE T z := ⟨hsub, fun h => hin.elim id (fun h3 => h3.elim (fun h4 => absurd h1 h4) (fun h4 => absurd h h4))⟩
          rwa [propext e] at h2
      · rintro ⟨m, h1, h2, h3⟩
        rcases Nat.lt_or_ge m n with h4 | h4
        · exact Or.inl ⟨m, h4, h2, h3⟩
        · obtain rfl : m = n := by omega
          rw [hx] at h2
          refine Or.inr ⟨h2, ?_⟩
          have e : InE (hitE (T.drop k') x) z ↔ InE T z := ⟨hsub, fun h => hin.elim id (fun h5 => h5.elim (fun h6 => absurd h2 h6) (fun h6 => absurd h h6))⟩
          rwa [propext e]

/-- What both have. -/
def meetL (T : List PE) (pre : List (Nat × PE)) : List PE := (stS (fun x H => H.map (cutE x)) T pre).2
/-- What the first has alone. -/
def aloneL (T : List PE) (pre : List (Nat × PE)) : List PE := (stS (fun x H => gapE x x.1 H) T pre).2

theorem gapE_len (x : PE) : ∀ (H : List PE) (f : Int), (gapE x f H).length = H.length + 1
  | [], f => rfl
  | y :: H, f => by simp [gapE, gapE_len x H y.2]

theorem all_ex (N : List PE) (z : Int) : (∃ m, m < N.length ∧ ((N.getD m (0, 0)).1 ≤ z ∧ z < (N.getD m (0, 0)).2)) ↔ InE N z := by
  constructor
  · rintro ⟨m, hm, h⟩
    refine ⟨N[m], List.getElem_mem _, ?_⟩
    simpa [hm] using h
  · rintro ⟨p, hp, h⟩
    obtain ⟨m, hm, rfl⟩ := List.getElem_of_mem hp
    exact ⟨m, hm, by simpa [hm] using h⟩

theorem meetL_set {T N : List PE} (hT : Form T) (hN : Form N) (z : Int) : InE (meetL T ((List.range N.length).map (fun j => (j, N.getD j (0, 0))))) z ↔ InE N z ∧ InE T z := by
  have h := (stS_set (fun x H => H.map (cutE x)) id T N hT hN (fun x H z _ _ _ => inE_cut x H z) z N.length (Nat.le_refl _)).2
  unfold meetL
  rw [h, ← all_ex N z]
  constructor
  · rintro ⟨m, h1, h2, h3⟩; exact ⟨⟨m, h1, h2⟩, h3⟩
  · rintro ⟨⟨m, h1, h2⟩, h3⟩; exact ⟨m, h1, h2, h3⟩

theorem aloneL_set {T N : List PE} (hT : Form T) (hN : Form N) (z : Int) : InE (aloneL T ((List.range N.length).map (fun j => (j, N.getD j (0, 0))))) z ↔ InE N z ∧ ¬ InE T z := by
  have h := (stS_set (fun x H => gapE x x.1 H) Not T N hT hN (fun x H z hH hy _ => inE_gap x z H x.1 hH (fun y hyy => ⟨(hy y hyy).1, by have := (hy y hyy).2; omega⟩)) z N.length (Nat.le_refl _)).2
  unfold aloneL
  rw [h, ← all_ex N z]
  constructor
  · rintro ⟨m, h1, h2, h3⟩; exact ⟨⟨m, h1, h2⟩, h3⟩
  · rintro ⟨⟨m, h1, h2⟩, h3⟩; exact ⟨m, h1, h2, h3⟩

theorem meetL_len (T : List PE) (pre : List (Nat × PE)) : (meetL T pre).length ≤ pre.length * T.length := by
  have := stS_len (fun x H => H.map (cutE x)) 0 T (fun x H => by simp) pre.length pre rfl
  simpa [meetL] using this

theorem aloneL_len (T : List PE) (pre : List (Nat × PE)) : (aloneL T pre).length ≤ pre.length * (T.length + 1) :=
  stS_len (fun x H => gapE x x.1 H) 1 T (fun x H => by simp [gapE_len]) pre.length pre rfl
end Go.Proofs.YtjpdfchdgphdoaaGreatDoor.Oct
