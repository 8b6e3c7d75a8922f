/- What a commit makes of the bytes, what was written ahead included: no program. -/
import Derived.Test.YtgmifbknmjdemaaGreatPTyv
import Derived.Test.YtgmifbknmjdemaaGreatPTym
import Derived.Test.YtgmifbknmjdemaaGreatPJxp
namespace Go.Proofs.YtgmifbknmjdemaaGreat.Oct
open Go.RowKit Go.Deep Go.Sort

/-- What is written ahead, as operations. -/
def ahdO (D : List RD) : List AO := if D = [] then [] else recO D ++ [.fl]

theorem ahd_state (S : List Int) (D : List RD) : doAll (ahdO D) ⟨S, S, []⟩ = ⟨putS S D, putS S D, []⟩ := by
  unfold ahdO
  split
  · next h => subst h; rfl
  · obtain ⟨E, h1, h2⟩ := doRecs D ⟨S, S, []⟩
    rw [doAll_append, h1]
    simp [doAll, AO.on, h2]

/-- The bytes behind a commit's own operations. -/
def txS (S : List Int) (p : Nat) (nu : Int) (D : List RD) : List Int := if D = [] then S else appS (comS S p nu D) p D

theorem tx_state (S : List Int) (p : Nat) (nu : Int) (D : List RD) : doAll (txO p nu D) ⟨S, S, []⟩ = ⟨txS S p nu D, txS S p nu D, []⟩ := by
  unfold txO txS
  split
  · rfl
  · rw [doAll_append, com_state, app_state]

/-- Records that all say the same of each byte. -/
theorem putS_by (g : Nat → Int) : ∀ (D : List RD), (∀ r ∈ D, ∀ j, j < r.2.length → r.2.getD j 0 = g (r.1.toNat + j)) → ∀ (S : List Int) (i : Nat), cov D i → (putS S D).getD i 0 = g i
  | [], _, S, i, ⟨r, hr, _⟩ => by cases hr
  | r :: D, h, S, i, hc => by
    rw [putS]
    by_cases h2 : cov D i
    · exact putS_by g D (fun x hx => h x (List.mem_cons_of_mem _ hx)) _ i h2
    · rw [putS_out D _ i h2]
      obtain ⟨x, hx, h1⟩ := hc
      rcases List.mem_cons.1 hx with rfl | hx
      · rw [wr_get, if_pos h1, h x (List.mem_cons_self ..) _ (by omega)]
        congr 1
        omega
      · exact absurd ⟨x, hx, h1⟩ h2

def covE (O : List (Int × Int)) (i : Int) : Prop := ∃ r ∈ O, r.1 ≤ i ∧ i < r.2

theorem lastO (O : List (Int × Int)) (h : O ≠ []) : ∃ O' x, O = O' ++ [x] := by
  rcases List.eq_nil_or_concat O with h0 | ⟨O', x, h1⟩
  · exact absurd h0 h
  · exact ⟨O', x, by simpa using h1⟩

theorem runS_nil (s : Int) : runS [] s = [(s * 512, s * 512 + 512)] := by simp [runS]

theorem runS_yes (O : List (Int × Int)) (a s : Int) : runS (O ++ [(a, s * 512)]) s = O ++ [(a, s * 512 + 512)] := by
  unfold runS
  rw [if_pos ⟨by simp, by simp⟩]
  simp

theorem runS_no (O : List (Int × Int)) (a b s : Int) (h : b ≠ s * 512) : runS (O ++ [(a, b)]) s = O ++ [(a, b)] ++ [(s * 512, s * 512 + 512)] := by
  unfold runS
  rw [if_neg (fun e => h (by simpa using e.2))]

/-- The three ways a sector goes behind the runs. -/
theorem runS_ways (O : List (Int × Int)) (s : Int) : (O = [] ∧ runS O s = [(s * 512, s * 512 + 512)]) ∨ (∃ O' a, O = O' ++ [(a, s * 512)] ∧ runS O s = O' ++ [(a, s * 512 + 512)]) ∨ (∃ O' a b, O = O' ++ [(a, b)] ∧ b ≠ s * 512 ∧ runS O s = O' ++ [(a, b)] ++ [(s * 512, s * 512 + 512)]) := by
  by_cases h : O = []
  · subst h
    exact Or.inl ⟨rfl, runS_nil s⟩
  · obtain ⟨O', ⟨a, b⟩, rfl⟩ := lastO O h
    by_cases hb : b = s * 512
    · subst hb
      exact Or.inr (Or.inl ⟨O', a, rfl, runS_yes O' a s⟩)
    · exact Or.inr (Or.inr ⟨O', a, b, rfl, hb, runS_no O' a b s hb⟩)

theorem runS_cov (O : List (Int × Int)) (s i : Int) (hO : ∀ r ∈ O, r.1 ≤ r.2) : covE (runS O s) i ↔ covE O i ∨ (s * 512 ≤ i ∧ i < s * 512 + 512) := by
  rcases runS_ways O s with ⟨rfl, e⟩ | ⟨O', a, rfl, e⟩ | ⟨O', a, b, rfl, hb, e⟩
  · rw [e]
    unfold covE
    simp
  · have := hO (a, s * 512) (by simp)
    rw [e]
    unfold covE
    simp only [List.mem_append, List.mem_singleton, or_and_right, exists_or, exists_eq_left]
    simp only at this
    constructor
    · rintro (h | h)
      · exact Or.inl (Or.inl h)
      · by_cases h9 : i < s * 512
        · exact Or.inl (Or.inr ⟨h.1, h9⟩)
        · exact Or.inr ⟨by omega, h.2⟩
    · rintro ((h | h) | h)
      · exact Or.inl h
      · exact Or.inr ⟨h.1, by omega⟩
      · exact Or.inr ⟨by omega, h.2⟩
  · rw [e]
    unfold covE
    simp only [List.mem_append, List.mem_singleton, or_and_right, exists_or, exists_eq_left]

theorem runS_ok (O : List (Int × Int)) (s : Int) (hO : ∀ r ∈ O, r.1 ≤ r.2) : ∀ r ∈ runS O s, r.1 ≤ r.2 := by
  rcases runS_ways O s with ⟨rfl, e⟩ | ⟨O', a, rfl, e⟩ | ⟨O', a, b, rfl, hb, e⟩
  · rw [e]
    intro r hr
    simp only [List.mem_singleton] at hr
    subst hr
    simp only
    omega
  · rw [e]
    intro r hr
    rcases List.mem_append.1 hr with h | h
    · exact hO r (List.mem_append_left _ h)
    · simp only [List.mem_singleton] at h
      subst h
      have := hO (a, s * 512) (by simp)
      simp only at this ⊢
      omega
  · rw [e]
    intro r hr
    rcases List.mem_append.1 hr with h | h
    · exact hO r h
    · simp only [List.mem_singleton] at h
      subst h
      simp only
      omega

theorem runs_cov : ∀ (K : List Int) (O : List (Int × Int)), (∀ r ∈ O, r.1 ≤ r.2) → ∀ i, covE (K.foldl runS O) i ↔ covE O i ∨ ∃ s ∈ K, s * 512 ≤ i ∧ i < s * 512 + 512
  | [], O, _, i => by simp
  | s :: K, O, hO, i => by
    rw [List.foldl_cons, runs_cov K (runS O s) (runS_ok O s hO) i, runS_cov O s i hO]
    simp only [List.mem_cons, or_and_right, exists_or, exists_eq_left]
    constructor
    · rintro ((h | h) | h)
      · exact Or.inl h
      · exact Or.inr (Or.inl h)
      · exact Or.inr (Or.inr h)
    · rintro (h | h | h)
      · exact Or.inl (Or.inl h)
      · exact Or.inl (Or.inr h)
      · exact Or.inr h

theorem runsM_cov (M : Int → List Int) (i : Nat) : covE (runsM M) i ↔ i < 4194304 ∧ 2 ∈ M ((i / 512 : Nat) : Int) := by
  unfold runsM runsL
  rw [runs_cov _ _ (fun r hr => by cases hr)]
  constructor
  · rintro (⟨r, hr, _⟩ | ⟨s, hs, h1, h2⟩)
    · cases hr
    · obtain ⟨h3, h4⟩ := (secsM_mem M s).1 hs
      have e : s = ((i / 512 : Nat) : Int) := by omega
      rw [← e]
      exact ⟨by omega, h4⟩
  · rintro ⟨h1, h2⟩
    exact Or.inr ⟨_, (secsM_mem M _).2 ⟨by omega, h2⟩, by omega, by omega⟩

theorem recs_cov (S : List Int) (B M : Int → List Int) (i : Nat) : cov (recsM S B M) i ↔ i < 4194304 ∧ 2 ∈ M ((i / 512 : Nat) : Int) := by
  rw [← runsM_cov]
  unfold cov recsM covE
  have hbd := runsM_bd M
  constructor
  · rintro ⟨r, hr, h1, h2⟩
    obtain ⟨x, hx, rfl⟩ := List.mem_map.1 hr
    have hb := hbd x hx
    rw [recD_len] at h2
    have e : (recD S B M x).1 = x.1 := rfl
    rw [e] at h1 h2
    exact ⟨x, hx, by omega, by omega⟩
  · rintro ⟨x, hx, h1, h2⟩
    have hb := hbd x hx
    refine ⟨recD S B M x, List.mem_map_of_mem hx, ?_, ?_⟩
    · have e : (recD S B M x).1 = x.1 := rfl
      rw [e]
      omega
    · rw [recD_len]
      have e : (recD S B M x).1 = x.1 := rfl
      rw [e]
      omega

theorem recs_by (S : List Int) (B M : Int → List Int) : ∀ r ∈ recsM S B M, ∀ j, j < r.2.length → r.2.getD j 0 = seeT S B M (r.1.toNat + j) := by
  intro r hr j hj
  obtain ⟨x, hx, rfl⟩ := List.mem_map.1 hr
  rw [recD_len] at hj
  show ((List.range (x.2 - x.1).toNat).map (fun i => seeT S B M (x.1.toNat + i))).getD j 0 = _
  rw [List.getD_eq_getElem?_getD, List.getElem?_map, List.getElem?_range hj]
  rfl

/-- What was written ahead is what the changes show, where no byte of a sector was put. -/
def AhdOk (S : List Int) (D : List RD) (B M : Int → List Int) : Prop := ∀ i : Nat, ¬ 2 ∈ M ((i / 512 : Nat) : Int) → (putS S D).getD i 0 = seeT S B M i

theorem putS_snoc (D : List RD) (r : RD) : ∀ S, putS S (D ++ [r]) = laidsD (putS S D) (cuts r.1.toNat r.2) := by
  induction D with
  | nil => intro S; rfl
  | cons x D ih =>
    intro S
    rw [List.cons_append, putS, ih, putS]

/-- Behind a commit all bytes are what the changes showed. -/
theorem txS_get (S : List Int) (D : List RD) (B M : Int → List Int) (p q : Nat) (nu : Int) (hah : AhdOk S D B M) (hroom : p + 512 + lenD (recsM S B M) ≤ q) (i : Nat) (hi : q ≤ i) (hi2 : i < 4194304) : (txS (putS S D) p nu (recsM S B M)).getD i 0 = seeT S B M i := by
  unfold txS
  by_cases hc : cov (recsM S B M) i
  · rw [if_neg (fun e => by rw [e] at hc; obtain ⟨r, hr, _⟩ := hc; cases hr), appS_get, if_neg (by omega)]
    exact putS_by _ _ (recs_by S B M) _ i hc
  · have h2 : ¬ 2 ∈ M ((i / 512 : Nat) : Int) := fun e => hc ((recs_cov S B M i).2 ⟨hi2, e⟩)
    split
    · exact hah i h2
    · rw [appS_get, if_neg (by omega), putS_out _ _ i hc, comS_get, if_neg (by omega), if_neg (by omega)]
      exact hah i h2

/-- No mark above 2. -/
def Mk2 (M : Int → List Int) : Prop := ∀ q, mkT M q ≤ 2

theorem Mk2.laid {B M B' M' : Int → List Int} {t m : Nat} {pl : List Int} {by_ : Int} (h : Mk2 M) (hb : by_ ≤ 2) (hl : Laid B M B' M' t m pl by_) : Mk2 M' := fun q => by
  rw [hl.2.1 q]
  have := h q
  split <;> omega

theorem mem_mk {M : Int → List Int} (hl : ∀ s, (M s).length = 512) (n : Nat) : 2 ∈ M (n : Int) ↔ ∃ q, q / 512 = n ∧ mkT M q = 2 := by
  rw [mem2 (hl _)]
  constructor
  · rintro ⟨j, hj, h⟩
    exact ⟨512 * n + j, by omega, h⟩
  · rintro ⟨q, hq, h⟩
    exact ⟨q % 512, by omega, by rw [show 512 * n + q % 512 = q by omega]; exact h⟩

theorem laid_two {B M B' M' : Int → List Int} {t m : Nat} {pl : List Int} (hl : ∀ s, (M s).length = 512) (hl' : ∀ s, (M' s).length = 512) (h2 : Mk2 M) (h : Laid B M B' M' t m pl 2) (n : Nat) : 2 ∈ M' (n : Int) ↔ 2 ∈ M (n : Int) ∨ ∃ q, t ≤ q ∧ q < t + m ∧ q / 512 = n := by
  rw [mem_mk hl', mem_mk hl]
  constructor
  · rintro ⟨q, hq, e⟩
    rw [h.2.1 q] at e
    by_cases hc : t ≤ q ∧ q < t + m
    · exact Or.inr ⟨q, hc.1, hc.2, hq⟩
    · rw [if_neg hc] at e
      exact Or.inl ⟨q, hq, e⟩
  · rintro (⟨q, hq, e⟩ | ⟨q, h3, h4, hq⟩)
    · refine ⟨q, hq, ?_⟩
      rw [h.2.1 q, e]
      split <;> simp
    · refine ⟨q, hq, ?_⟩
      rw [h.2.1 q, if_pos ⟨h3, h4⟩]
      have := h2 q
      omega

theorem laid_one {B M B' M' : Int → List Int} {t m : Nat} {pl : List Int} (hl : ∀ s, (M s).length = 512) (hl' : ∀ s, (M' s).length = 512) (h : Laid B M B' M' t m pl 1) (n : Nat) : 2 ∈ M' (n : Int) ↔ 2 ∈ M (n : Int) := by
  rw [mem_mk hl', mem_mk hl]
  have e : ∀ q, mkT M' q = 2 ↔ mkT M q = 2 := fun q => by
    rw [h.2.1 q]
    split <;> omega
  simp only [e]

theorem see_laid {S : List Int} {B M B' M' : Int → List Int} {t m : Nat} {pl : List Int} {by_ : Int} (h : Laid B M B' M' t m pl by_) (i : Nat) : seeT S B' M' i = if t ≤ i ∧ i < t + m then pl.getD (i - t) 0 else seeT S B M i := h.1 i _

theorem AhdOk.put {S : List Int} {D : List RD} {B M B' M' : Int → List Int} {t m : Nat} {pl : List Int} (hl : ∀ s, (M s).length = 512) (hl' : ∀ s, (M' s).length = 512) (h2 : Mk2 M) (h : AhdOk S D B M) (hla : Laid B M B' M' t m pl 2) : AhdOk S D B' M' := fun i hi => by
  have hn : ¬ (2 ∈ M ((i / 512 : Nat) : Int) ∨ ∃ q, t ≤ q ∧ q < t + m ∧ q / 512 = i / 512) := fun e => hi ((laid_two hl hl' h2 hla _).2 e)
  rw [see_laid hla, if_neg (fun e => hn (Or.inr ⟨i, e.1, e.2, rfl⟩))]
  exact h i (fun e => hn (Or.inl e))

theorem AhdOk.fresh {S : List Int} {D : List RD} {B M B' M' : Int → List Int} {t : Nat} {pl : List Int} (hl : ∀ s, (M s).length = 512) (hl' : ∀ s, (M' s).length = 512) (h : AhdOk S D B M) (hla : Laid B M B' M' t pl.length pl 1) : AhdOk S (D ++ [((t : Int), pl)]) B' M' := fun i hi => by
  rw [putS_snoc, wr_get, see_laid hla]
  simp only [Int.toNat_natCast]
  by_cases hc : t ≤ i ∧ i < t + pl.length
  · rw [if_pos hc, if_pos hc]
  · rw [if_neg hc, if_neg hc]
    exact h i (fun e => hi ((laid_one hl hl' hla _).2 e))

theorem AhdOk.skip {S : List Int} {D : List RD} {B M B' M' : Int → List Int} {t : Nat} {by_ : Int} (hl : ∀ s, (M s).length = 512) (hl' : ∀ s, (M' s).length = 512) (h : AhdOk S D B M) (hla : Laid B M B' M' t 0 [] by_) : AhdOk S D B' M' := fun i hi => by
  rw [see_laid hla, if_neg (by omega)]
  refine h i (fun e => hi ?_)
  rw [mem_mk hl'] 
  rw [mem_mk hl] at e
  obtain ⟨q, hq, e⟩ := e
  exact ⟨q, hq, by rw [hla.2.1 q, if_neg (by omega)]; exact e⟩

/-- How many bytes sectors take in the journal. -/
def needN (P : Int → Bool) : Nat → Int
  | 0 => 0
  | n + 1 => needN P n + (if P n then 512 else 0) + (if P n && !P ((n : Int) - 1) then 12 else 0)

def secsN (M : Int → List Int) (n : Nat) : List Int := ((List.range n).map (fun n : Nat => (n : Int))).filter (fun s => decide (2 ∈ M s))

theorem secsN_mem (M : Int → List Int) (n : Nat) (s : Int) : s ∈ secsN M n ↔ (0 ≤ s ∧ s < n) ∧ 2 ∈ M s := by
  unfold secsN
  simp only [List.mem_filter, List.mem_map, List.mem_range, decide_eq_true_eq]
  constructor
  · rintro ⟨⟨k, hk, rfl⟩, h⟩
    exact ⟨by omega, h⟩
  · rintro ⟨h1, h2⟩
    exact ⟨⟨s.toNat, by omega, by omega⟩, h2⟩

theorem secsN_succ (M : Int → List Int) (n : Nat) : secsN M (n + 1) = secsN M n ++ (if 2 ∈ M (n : Int) then [(n : Int)] else []) := by
  unfold secsN
  rw [List.range_succ, List.map_append, List.filter_append]
  congr 1
  simp only [List.map_cons, List.map_nil, List.filter_cons, List.filter_nil, decide_eq_true_eq]

theorem sizeR_yes (O : List (Int × Int)) (s : Int) (h : ∃ O' a, O = O' ++ [(a, s * 512)]) : sizeR (runS O s) = sizeR O + 512 := by
  obtain ⟨O', a, rfl⟩ := h
  rw [runS_yes, sizeR_snoc, sizeR_snoc]
  simp only
  omega

theorem sizeR_no (O : List (Int × Int)) (s : Int) (h : ¬ ∃ O' a, O = O' ++ [(a, s * 512)]) : sizeR (runS O s) = sizeR O + 512 + 12 := by
  rcases runS_ways O s with ⟨rfl, e⟩ | ⟨O', a, rfl, e⟩ | ⟨O', a, b, rfl, hb, e⟩
  · rw [e]
    simp only [sizeR, List.map_cons, List.map_nil, List.sum_cons, List.sum_nil]
    omega
  · exact absurd ⟨O', a, rfl⟩ h
  · rw [e, sizeR_snoc]
    simp only
    omega

/-- Where the last run ends. -/
theorem runsL_last (K : List Int) (k : Int) : ∃ O' a, runsL (K ++ [k]) = O' ++ [(a, k * 512 + 512)] := by
  rw [runsL_snoc]
  rcases runS_ways (runsL K) k with ⟨_, e⟩ | ⟨O', a, _, e⟩ | ⟨O', a, b, _, hb, e⟩
  · exact ⟨[], _, e⟩
  · exact ⟨O', a, e⟩
  · exact ⟨_, _, e⟩

theorem runs_size (M : Int → List Int) (hM : ∀ s : Int, s < 0 → ¬ 2 ∈ M s) : ∀ n : Nat, sizeR (runsL (secsN M n)) = needN (fun s => decide (2 ∈ M s)) n ∧ ((∃ O' a, runsL (secsN M n) = O' ++ [(a, (n : Int) * 512)]) ↔ 2 ∈ M ((n : Int) - 1)) ∧ (∀ O' a b, runsL (secsN M n) = O' ++ [(a, b)] → b ≤ (n : Int) * 512)
  | 0 => by
    refine ⟨rfl, ⟨?_, ?_⟩, ?_⟩
    · rintro ⟨O', a, h⟩
      have := congrArg List.length h
      simp [secsN, runsL] at this
    · intro h
      exact absurd h (hM _ (by omega))
    · intro O' a b h
      have := congrArg List.length h
      simp [secsN, runsL] at this
  | n + 1 => by
    obtain ⟨h1, h2, h3⟩ := runs_size M hM n
    rw [secsN_succ]
    by_cases hn : 2 ∈ M (n : Int)
    · rw [if_pos hn]
      obtain ⟨O', a, hl⟩ := runsL_last (secsN M n) n
      refine ⟨?_, ⟨fun _ => ?_, fun _ => ?_⟩, ?_⟩
      · rw [runsL_snoc]
        conv => rhs; unfold needN
        by_cases hm : 2 ∈ M ((n : Int) - 1)
        · rw [sizeR_yes _ _ (h2.2 hm), h1, if_pos (by simpa using hn), if_neg (by simp [hm])]
          omega
        · rw [sizeR_no _ _ (fun e => hm (h2.1 e)), h1, if_pos (by simpa using hn), if_pos (by simp [hn, hm])]
      · rw [show ((n + 1 : Nat) : Int) - 1 = n by omega]
        exact hn
      · exact ⟨O', a, by rw [hl, show ((n + 1 : Nat) : Int) * 512 = (n : Int) * 512 + 512 by omega]⟩
      · intro O2 a2 b2 h
        rw [hl] at h
        have h4 := List.append_inj_right' h rfl
        simp only [List.cons.injEq, Prod.mk.injEq, and_true] at h4
        omega
    · rw [if_neg hn, List.append_nil]
      refine ⟨?_, ⟨fun ⟨O', a, h⟩ => ?_, fun h => ?_⟩, fun O' a b h => ?_⟩
      · rw [h1]
        conv => rhs; unfold needN
        simp [hn]
      · have := h3 O' a _ h
        omega
      · rw [show ((n + 1 : Nat) : Int) - 1 = n by omega] at h
        exact absurd h hn
      · have := h3 O' a b h
        omega

theorem secsN_rise (M : Int → List Int) (n : Nat) : (secsN M n).Pairwise (· < ·) := by
  induction n with
  | zero => simp [secsN]
  | succ n ih =>
    rw [secsN_succ, List.pairwise_append]
    refine ⟨ih, ?_, ?_⟩
    · split <;> simp
    · intro a ha b hb
      have h1 := ((secsN_mem M n a).1 ha).1
      split at hb
      · simp only [List.mem_singleton] at hb
        omega
      · cases hb

theorem size_need (M : Int → List Int) (n : Nat) (hn : n ≤ 8192) (hM : ∀ s : Int, ¬ (0 ≤ s ∧ s < n) → ¬ 2 ∈ M s) (P : Int → Bool) (hP : ∀ s : Int, P s = true ↔ 2 ∈ M s) : sizeR (runsM M) = needN P n := by
  have e : secsM M = secsN M n := rise_eq _ _ (secsM_rise M) (secsN_rise M n) (fun x => by
    rw [secsM_mem, secsN_mem]
    constructor
    · rintro ⟨_, h⟩
      exact ⟨Classical.byContradiction (fun h9 => hM x h9 h), h⟩
    · rintro ⟨h1, h⟩
      exact ⟨by omega, h⟩)
  unfold runsM
  have e2 : P = (fun s => decide (2 ∈ M s)) := by
    funext s
    rw [Bool.eq_iff_iff, decide_eq_true_iff]
    exact hP s
  rw [e, (runs_size M (fun s hs => hM s (by omega)) n).1, e2]
end Go.Proofs.YtgmifbknmjdemaaGreat.Oct
