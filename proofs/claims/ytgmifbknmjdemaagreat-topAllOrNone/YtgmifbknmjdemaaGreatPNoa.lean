/- What commits, one behind the other, make of a file, and what a crash leaves of the last of them: no program. -/
import Derived.Test.YtgmifbknmjdemaaGreatPTza
import Derived.Test.YtgmifbknmjdemaaGreatPJxq
namespace Go.Proofs.YtgmifbknmjdemaaGreat.Oct
open Go.RowKit Go.Deep Go.Sort

/-- A file between two commits, and the bytes that it is held against. -/
structure Rst (S m : List Int) : Prop where
  len : S.length = 18800
  by_ : Byts S
  sgn : S.getD 512 0 = 0
  low : ∀ i, i < 512 → S.getD i 0 = 0
  hi : ∀ i, 12800 ≤ i → S.getD i 0 = m.getD i 0

/-- Changes that are all behind the journal, and the bytes that they are held against. -/
structure Ahm (S : List Int) (B M : Int → List Int) (m : List Int) : Prop where
  ml : ∀ s, (M s).length = 512
  m2 : Mk2 M
  lim : ∀ s : Int, 2 ∈ M s → 25 ≤ s ∧ s < 36
  ah : AhdOk S [] B M
  see : ∀ i, 12800 ≤ i → m.getD i 0 = seeT S B M i
  by_ : ∀ i, 0 ≤ seeT S B M i ∧ seeT S B M i < 256

theorem Rst.none {S m : List Int} (h : Rst S m) : Ahm S nobM nobM m :=
  ⟨fun _ => Z5_len, fun q => by rw [nob_mk]; omega, fun s hs => absurd hs (nob_no s), fun i _ => by unfold seeT; rw [nob_val]; rfl, fun i hi => by unfold seeT; rw [nob_val]; exact (h.hi i hi).symm, fun i => by unfold seeT; rw [nob_val]; exact h.by_ i⟩

theorem Ahm.put {S m m' : List Int} {B M B' M' : Int → List Int} {t : Nat} {pl : List Int} (h : Ahm S B M m) (hl' : ∀ s, (M' s).length = 512) (hla : Laid B M B' M' t pl.length pl 2) (ht : 12800 ≤ t) (ht2 : t + pl.length ≤ 18432) (hpl : Byts pl)
    (hm : ∀ i, 12800 ≤ i → m'.getD i 0 = if t ≤ i ∧ i < t + pl.length then pl.getD (i - t) 0 else m.getD i 0) : Ahm S B' M' m' := by
  refine ⟨hl', h.m2.laid (by omega) hla, fun s hs => ?_, h.ah.put h.ml hl' h.m2 hla, fun i hi => ?_, fun i => ?_⟩
  · by_cases h8 : 0 ≤ s ∧ s < 8192
    · obtain ⟨n, rfl⟩ := Int.eq_ofNat_of_zero_le h8.1
      rcases (laid_two h.ml hl' h.m2 hla n).1 hs with h9 | ⟨q, h1, h2, h3⟩
      · exact h.lim _ h9
      · omega
    · rw [hla.2.2 s h8] at hs
      exact h.lim s hs
  · rw [hm i hi, see_laid hla]
    split
    · rfl
    · exact h.see i hi
  · rw [see_laid hla]
    split
    · exact hpl _
    · exact h.by_ i

theorem Ahm.far {S m : List Int} {B M : Int → List Int} (h : Ahm S B M m) : (∀ s : Int, ¬ (0 ≤ s ∧ s < 8192) → ¬ 2 ∈ M s) ∧ (∀ r ∈ runsM M, 12800 ≤ r.1 ∧ r.1 ≤ r.2 ∧ r.2 ≤ 18432) ∧ ∀ r ∈ runsM M, ¬ (r.1 < (12800 : Nat) ∧ ((512 : Nat) : Int) < r.2) := by
  have hr : ∀ r ∈ runsM M, 12800 ≤ r.1 ∧ r.1 ≤ r.2 ∧ r.2 ≤ 18432 := fun r hr => by
    have hb := runsM_bd M r hr
    have h3 := ((runsM_cov M r.1.toNat).1 ⟨r, hr, by omega, by omega⟩).2
    have h4 := ((runsM_cov M (r.2 - 1).toNat).1 ⟨r, hr, by omega, by omega⟩).2
    have := h.lim _ h3
    have := h.lim _ h4
    omega
  exact ⟨fun s hs e => hs (by have := h.lim s e; omega), hr, fun r hr9 => by have := hr r hr9; omega⟩

theorem Ahm.recs {S m : List Int} {B M : Int → List Int} (h : Ahm S B M m) : ∀ r ∈ recsM S B M, 12800 ≤ r.1 ∧ r.1 + r.2.length ≤ 18432 ∧ Byts r.2 := fun r hr => by
  obtain ⟨x, hx, rfl⟩ := List.mem_map.1 hr
  have := h.far.2.1 x hx
  refine ⟨this.1, ?_, fun i => ?_⟩
  · rw [recD_len]
    have e : (recD S B M x).1 = x.1 := rfl
    rw [e]
    omega
  · show 0 ≤ ((List.range (x.2 - x.1).toNat).map (fun i => seeT S B M (x.1.toNat + i))).getD i 0 ∧ ((List.range (x.2 - x.1).toNat).map (fun i => seeT S B M (x.1.toNat + i))).getD i 0 < 256
    rw [List.getD_eq_getElem?_getD]
    by_cases hi : i < (x.2 - x.1).toNat
    · simp only [List.getElem?_map, List.getElem?_range hi, Option.map_some, Option.getD_some]
      exact h.by_ _
    · rw [List.getElem?_eq_none (by simp; omega)]
      simp

theorem endD_leN : ∀ (D : List RD) (n : Nat), (∀ r ∈ D, r.1.toNat + r.2.length ≤ n) → endD D ≤ n
  | [], n, _ => by simp [endD]
  | r :: D, n, h => by
    have ih := endD_leN D n (fun x hx => h x (List.mem_cons_of_mem _ hx))
    have h1 := h r (List.mem_cons_self ..)
    unfold endD
    split <;> omega

theorem Ahm.giv {S m0 m : List Int} {B M : Int → List Int} (h0 : Rst S m0) (h : Ahm S B M m) (hroom : 1024 + lenD (recsM S B M) ≤ 12800) : Giv S 512 12800 (recsM S B M) :=
  ⟨rfl, by omega, by rw [h0.len]; omega, by rw [h0.len]; omega, by omega, fun r hr => by have := h.recs r hr; omega, h0.by_, fun r hr => (h.recs r hr).2.2, h0.sgn⟩

theorem Ahm.cvd {S m : List Int} {B M : Int → List Int} (h : Ahm S B M m) {i : Nat} (hi : i < 12800) : ¬ cov (recsM S B M) i := fun ⟨r, hr, h1, h2⟩ => by
  have := h.recs r hr
  omega

/-- The bytes behind a replay that did the records. -/
theorem Ahm.done {S m0 m : List Int} {B M : Int → List Int} (h0 : Rst S m0) (h : Ahm S B M m) : (putS S (recsM S B M)).length = 18800 ∧ (∀ i, i < 512 → (putS S (recsM S B M)).getD i 0 = 0) ∧ ∀ i, 12800 ≤ i → i < 18800 → (putS S (recsM S B M)).getD i 0 = m.getD i 0 := by
  have he : endD (recsM S B M) ≤ 18432 := endD_leN _ _ (fun r hr => by have := h.recs r hr; omega)
  refine ⟨by rw [putS_len, h0.len]; omega, fun i hi => ?_, fun i hi hi2 => ?_⟩
  · rw [putS_out _ _ i (h.cvd (by omega)), h0.low i hi]
  · rw [h.see i hi]
    by_cases hc : cov (recsM S B M) i
    · exact putS_by _ _ (recs_by S B M) _ i hc
    · rw [putS_out _ _ i hc]
      exact h.ah i (fun e => hc ((recs_cov S B M i).2 ⟨by omega, e⟩))

/-- Behind a commit that was done. -/
theorem Ahm.next {S m0 m : List Int} {B M : Int → List Int} (h0 : Rst S m0) (h : Ahm S B M m) (hm : m.length = 18800) (nu : Int) (hroom : 1024 + lenD (recsM S B M) ≤ 12800) : Rst (txS S 512 nu (recsM S B M)) m := by
  have g := h.giv h0 hroom
  have he : endD (recsM S B M) ≤ 18432 := endD_leN _ _ (fun r hr => by have := h.recs r hr; omega)
  have hcl := comS_len S 512 12800 nu (recsM S B M) (by rw [h0.len]; omega) (by omega) (by omega)
  have hl : (txS S 512 nu (recsM S B M)).length = 18800 := by
    unfold txS
    split
    · exact h0.len
    · unfold appS
      rw [wr_len, Z512_len, if_neg (fun e => by have := Z512_len; rw [e] at this; simp at this), putS_len, hcl, h0.len]
      omega
  refine ⟨hl, ?_, ?_, fun i hi => ?_, fun i hi => ?_⟩
  · unfold txS
    split
    · exact h0.by_
    · intro i
      rw [appS_get]
      split
      · omega
      · exact putS_byts _ _ (comS_byts 512 nu h0.by_ g.byD) g.byD i
  · unfold txS
    split
    · exact h0.sgn
    · rw [appS_get, if_pos (by omega)]
  · unfold txS
    split
    · exact h0.low i hi
    · rw [appS_get, if_neg (by omega), putS_out _ _ i (h.cvd (by omega)), comS_get, if_neg (by omega), if_neg (by omega), h0.low i hi]
  · by_cases h2 : i < 18800
    · have := txS_get S [] B M 512 12800 nu h.ah (by omega) i hi (by omega)
      rw [h.see i hi]
      exact this
    · rw [List.getD_eq_getElem?_getD, List.getD_eq_getElem?_getD, List.getElem?_eq_none (by omega), List.getElem?_eq_none (by omega)]

/-- What a file may come to, whatever a crash keeps: the bytes m, or the bytes m'. -/
def Way (A : A3) (m m' : List Int) : Prop := ∃ b nu D, Giv b 512 12800 D ∧ (∀ kp, St b 512 12800 nu D (crashD A kp)) ∧ b.length = 18800 ∧ (putS b D).length = 18800 ∧
  (∀ i, i < 512 → b.getD i 0 = 0 ∧ (putS b D).getD i 0 = 0) ∧ ∀ i, 12800 ≤ i → i < 18800 → b.getD i 0 = m.getD i 0 ∧ (putS b D).getD i 0 = m'.getD i 0

theorem Rst.way {S m : List Int} (h : Rst S m) (m' : List Int) (hm' : ∀ i, 12800 ≤ i → i < 18800 → m'.getD i 0 = m.getD i 0) : Way ⟨S, S, []⟩ m m' :=
  ⟨S, 0, [], ⟨rfl, by omega, by rw [h.len]; omega, by rw [h.len]; omega, by simp [lenD], fun r hr => (by cases hr), h.by_, fun r hr => (by cases hr), h.sgn⟩, fun _ => Or.inl ⟨rfl, fun _ _ => rfl, h.sgn, h.by_⟩, h.len, h.len, fun i hi => ⟨h.low i hi, h.low i hi⟩, fun i hi h2 => ⟨h.hi i hi, by rw [hm' i hi h2]; exact h.hi i hi⟩⟩

/-- A Commit that was cut off, where it read. -/
theorem Ahm.read {S m0 m : List Int} {B M : Int → List Int} (h0 : Rst S m0) (h : Ahm S B M m) (hroom : 1024 + lenD (recsM S B M) ≤ 12800) : Way ⟨S, S, []⟩ m0 m :=
  ⟨S, 0, recsM S B M, h.giv h0 hroom, fun _ => Or.inl ⟨rfl, fun _ _ => rfl, h0.sgn, h0.by_⟩, h0.len, (h.done h0).1, fun i hi => ⟨h0.low i hi, (h.done h0).2.1 i hi⟩, fun i hi h2 => ⟨h0.hi i hi, (h.done h0).2.2 i hi h2⟩⟩

/-- A Commit that was cut off, where it wrote. -/
theorem Ahm.cut {S m0 m : List Int} {B M : Int → List Int} (h0 : Rst S m0) (h : Ahm S B M m) (nu : Int) (hroom : 1024 + lenD (recsM S B M) ≤ 12800) (hne : recsM S B M ≠ []) (j : Nat) : Way (doAll ((txO 512 nu (recsM S B M)).take j) ⟨S, S, []⟩) m0 m := by
  have g := h.giv h0 hroom
  refine ⟨S, nu, recsM S B M, g, fun kp => ?_, h0.len, (h.done h0).1, fun i hi => ⟨h0.low i hi, (h.done h0).2.1 i hi⟩, fun i hi h2 => ⟨h0.hi i hi, (h.done h0).2.2 i hi h2⟩⟩
  have e : txO 512 nu (recsM S B M) = comO 512 nu (recsM S B M) ++ appO 512 (recsM S B M) := if_neg hne
  have h4l : (comO 512 nu (recsM S B M)).length = 4 := rfl
  rw [e]
  by_cases h4 : 4 ≤ j
  · rw [List.take_append, List.take_of_length_le (by omega), doAll_append, com_state]
    exact crash_both g _ kp
  · rw [List.take_append_of_le_length (by omega)]
    exact crash_com g j h4 kp

/-- The bytes that a replay at last leaves. -/
def EndW (m m' S' : List Int) : Prop := S'.length = 18800 ∧ (∀ i, i < 512 → S'.getD i 0 = 0) ∧ ((∀ i, 12800 ≤ i → i < 18800 → S'.getD i 0 = m.getD i 0) ∨ ∀ i, 12800 ≤ i → i < 18800 → S'.getD i 0 = m'.getD i 0)

theorem fin_end {b S' m m' : List Int} {D : List RD} (hf : Fin b 512 12800 D S') (h1 : b.length = 18800) (h2 : (putS b D).length = 18800) (h3 : ∀ i, i < 512 → b.getD i 0 = 0 ∧ (putS b D).getD i 0 = 0) (h4 : ∀ i, 12800 ≤ i → i < 18800 → b.getD i 0 = m.getD i 0 ∧ (putS b D).getD i 0 = m'.getD i 0) : EndW m m' S' := by
  rcases hf with ⟨f1, f2⟩ | ⟨f1, f2⟩
  · exact ⟨by omega, fun i hi => by rw [f2 i (by omega)]; exact (h3 i hi).1, Or.inl (fun i hi h9 => by rw [f2 i (by omega)]; exact (h4 i hi h9).1)⟩
  · exact ⟨by omega, fun i hi => by rw [f2 i (by omega)]; exact (h3 i hi).2, Or.inr (fun i hi h9 => by rw [f2 i (by omega)]; exact (h4 i hi h9).2)⟩
end Go.Proofs.YtgmifbknmjdemaaGreat.Oct
