/- The states of a file whose journal is cut off anywhere: no program. -/
import Derived.Test.YtgmifbknmjdemaaGreatPJxp
import Derived.Test.YtgmifbknmjdemaaGreatPJpd
namespace Go.Proofs.YtgmifbknmjdemaaGreat.Oct
open Go.RowKit

theorem pnd_any {S : List Int} {p q : Nat} {nu : Int} {D : List RD} (hq : q ≤ S.length) (hp : p + 1024 ≤ q) (hroom : p + 512 + lenD D ≤ q) (hmay : MayD p q D) (hq2 : q ≤ 4194304)
    (hs : ∀ i, i < 512 → S.getD (p + i) 0 = (signOf nu D).getD i 0) (hb : ∀ i, i < lenD D → S.getD (p + 512 + i) 0 = (encD D).getD i 0) :
    isSgn (jFst S p) ∧ num (jFst S p) 16 4 = lenD D ∧ num (jFst S p) 12 4 = D.length ∧ 12 * D.length ≤ lenD D ∧ pnd S p q = if D = [] then none else some D := by
  have hl : (signOf nu D).length = 512 := secL_len _ _ _ _
  have hf : jFst S p = signOf nu D := by
    unfold jFst
    rw [← hl]
    exact part_is (by rw [hl]; omega) (by rw [hl]; exact hs)
  have hDl : 12 * D.length ≤ lenD D := by
    clear hs hb hf hroom hmay hl
    induction D with
    | nil => simp [lenD]
    | cons r D ih =>
      have e : lenD (r :: D) = (12 + r.2.length) + lenD D := by simp [lenD]
      rw [e]
      simp
      omega
  have hnu : 0 ≤ IntKind.u64.wrap (nu + 1) ∧ IntKind.u64.wrap (nu + 1) < 18446744073709551616 := by rw [IntKind.wrap_u64]; omega
  have hm4 : (0 : Int) ≤ (moreC 0 (encD D) : Nat) ∧ ((moreC 0 (encD D) : Nat) : Int) < 4294967296 := ⟨by omega, by have := moreC_lt 0 (encD D); omega⟩
  have hn := secL_nums (IntKind.u64.wrap (nu + 1)) D.length (encD D).length (moreC 0 (encD D)) hnu ⟨by omega, by omega⟩ ⟨by omega, by rw [encD_length]; omega⟩ hm4
  have hsg : isSgn (jFst S p) := by
    rw [hf]
    exact isSgn_secL _ _ _ _ hnu ⟨by omega, by omega⟩ ⟨by omega, by rw [encD_length]; omega⟩ hm4
  have n16 : num (jFst S p) 16 4 = lenD D := by rw [hf, ← encD_length]; exact hn.2.2.1
  have n12 : num (jFst S p) 12 4 = D.length := by rw [hf]; exact hn.2.1
  have n20 : num (jFst S p) 20 4 = (moreC 0 (encD D) : Nat) := by rw [hf]; exact hn.2.2.2
  refine ⟨hsg, n16, n12, hDl, ?_⟩
  by_cases hD : D = []
  · have hbod : jBod S p = encD D := by
      unfold jBod
      rw [n16, Int.toNat_natCast, ← encD_length]
      exact part_is (by rw [encD_length]; omega) (by rw [encD_length]; exact hb)
    unfold pnd
    rw [if_pos hsg, n12, n20, hbod, if_pos hD]
    unfold cntD
    rw [if_pos rfl, decD_enc D (fun r hr => by
      have h1 := hmay r hr
      have h2 := lenD_mem hr
      omega)]
    simp only
    rw [if_neg (by rw [hD]; simp [okD])]
  · rw [if_neg hD]
    exact (pnd_com hq hp hroom hD hmay hq2 hs hb).2.2.2.2

/-- What is given: a file, its journal's part, records that may be written, room for them. -/
structure Giv (b : List Int) (p q : Nat) (D : List RD) : Prop where
  al : p % 512 = 0
  two : p + 1024 ≤ q
  len : q ≤ b.length
  max : b.length ≤ 30000
  room : p + 512 + lenD D ≤ q
  may : MayD p q D
  by_ : Byts b
  byD : ∀ r ∈ D, Byts r.2
  zero : b.getD p 0 = 0

theorem Giv.far {b : List Int} {p q : Nat} {D : List RD} (h : Giv b p q D) {i : Nat} (h1 : p ≤ i) (h2 : i < q) : ¬ cov D i := fun ⟨r, hr, h3, h4⟩ => by
  have := h.may r hr
  omega

theorem endD_may {p q : Nat} {D : List RD} (h : MayD p q D) : endD D ≤ 4194304 := by
  induction D with
  | nil => simp [endD]
  | cons r D ih =>
    rw [endD]
    have h1 := h r (List.mem_cons_self ..)
    have h2 := ih (fun x hx => h x (List.mem_cons_of_mem _ hx))
    split <;> omega

theorem putS_byts (D : List RD) : ∀ (S : List Int), Byts S → (∀ r ∈ D, Byts r.2) → Byts (putS S D) := by
  induction D with
  | nil => intro S h _; exact h
  | cons r D ih =>
    intro S h hD
    rw [putS]
    refine ih _ (fun i => ?_) (fun x hx => hD x (List.mem_cons_of_mem _ hx))
    rw [wr_get]
    split
    · exact hD r (List.mem_cons_self ..) _
    · exact h i

/-- All but the journal's part as it was, and no sign. -/
structure Old (b : List Int) (p q : Nat) (S : List Int) : Prop where
  len : S.length = b.length
  out : ∀ i, ¬ (p ≤ i ∧ i < q) → S.getD i 0 = b.getD i 0
  nosig : S.getD p 0 = 0
  by_ : Byts S

def St (b : List Int) (p q : Nat) (nu : Int) (D : List RD) (S : List Int) : Prop := Old b p q S ∨ Like D (comS b p nu D) S ∨ S = appS (comS b p nu D) p D

theorem crash_com {b : List Int} {p q : Nat} {nu : Int} {D : List RD} (g : Giv b p q D) (k : Nat) (hk : ¬ 4 ≤ k) (kp : List Bool) : St b p q nu D (crashD (doAll ((comO p nu D).take k) ⟨b, b, []⟩) kp) := by
  obtain ⟨E, hE⟩ : ∃ E : List RD, E = [(((p + 512 : Nat) : Int), encD D)] := ⟨_, rfl⟩
  have hEb : ∀ r ∈ E, Byts r.2 := fun r hr => by
    rw [hE] at hr
    simp at hr
    subst hr
    exact encD_byts g.byD
  have hEe : endD E ≤ b.length := by
    rw [hE]
    simp only [endD]
    have := g.room
    have := g.len
    split
    · simp
    · simp [encD_length]; omega
  have hW : recW E = cuts (p + 512) (encD D) := by
    rw [hE]
    simp [recW]
    rw [show ((p : Int) + 512).toNat = p + 512 by omega]
  have hP : putS b E = laidsD b (cuts (p + 512) (encD D)) := by
    rw [hE]
    simp [putS]
    rw [show ((p : Int) + 512).toNat = p + 512 by omega]
  have hold : ∀ S, Like E b S → Old b p q S := fun S h => by
    have hnc : ∀ i, ¬ (p + 512 ≤ i ∧ i < p + 512 + lenD D) → ¬ cov E i := fun i hi ⟨r, hr, h1, h2⟩ => by
      rw [hE] at hr
      simp at hr
      subst hr
      simp [encD_length] at h1 h2
      omega
    have h1 := h.lo
    have h2 := h.hi
    have h3 := g.room
    refine ⟨by omega, fun i hi => h.out i (hnc i (by omega)), ?_, h.by_⟩
    rw [h.out p (hnc p (by omega)), g.zero]
  have hput : Like E b (putS b E) := by
    refine ⟨putS_out E b, by rw [putS_len]; omega, by rw [putS_len]; omega, fun i => ?_⟩
    rw [hP, wr_get]
    split
    · exact encD_byts g.byD _
    · exact g.by_ _
  match k with
  | 0 => exact Or.inl (hold b (Like.refl E g.by_))
  | 1 =>
    refine Or.inl (hold _ ?_)
    simp only [comO, List.cons_append, List.nil_append, List.take_succ_cons, List.take_zero, doAll, List.foldl_cons, List.foldl_nil, AO.on, crashD]
    rw [← hW]
    exact left_like (recW_wri (fun r h => h) hEb) b g.by_ kp _ (Nat.le_refl _)
  | 2 =>
    refine Or.inl (hold _ ?_)
    simp only [comO, List.cons_append, List.nil_append, List.take_succ_cons, List.take_zero, doAll, List.foldl_cons, List.foldl_nil, AO.on, crashD, List.length_nil, leftD]
    rw [← hP]
    exact hput
  | 3 =>
    simp only [comO, List.cons_append, List.nil_append, List.take_succ_cons, List.take_zero, doAll, List.foldl_cons, List.foldl_nil, AO.on, crashD, cuts_one g.al (signOf_len nu D), List.length_singleton, leftD]
    rw [← hP]
    split
    · right
      left
      have e : laidD ([(p, signOf nu D, false)].getD 0 (0, [], false)) (putS b E) = comS b p nu D := by
        unfold comS
        rw [cuts_one g.al (signOf_len nu D), hP]
        rfl
      rw [e]
      exact Like.refl D (comS_byts p nu g.by_ g.byD)
    · exact Or.inl (hold _ hput)
  | k + 4 => omega

theorem crash_both {b : List Int} {p q : Nat} {nu : Int} {D : List RD} (g : Giv b p q D) (k : Nat) (kp : List Bool) : St b p q nu D (crashD (doAll ((appO p D).take k) ⟨comS b p nu D, comS b p nu D, []⟩) kp) := by
  rcases crash_app (D := D) (S := comS b p nu D) (p := p) g.al (comS_byts p nu g.by_ g.byD) g.byD k kp with h | h
  · exact Or.inr (Or.inl h)
  · exact Or.inr (Or.inr h)

/-- What a state is to a replay. -/
theorem St.says {b : List Int} {p q : Nat} {nu : Int} {D : List RD} {S : List Int} (g : Giv b p q D) (h : St b p q nu D S) :
    q ≤ S.length ∧ S.length ≤ 4194304 ∧ Byts S ∧ (isSgn (jFst S p) → num (jFst S p) 16 4 ≤ (q : Int) - ((p : Int) + 512) ∧ num (jFst S p) 12 4 ≤ ((q : Int) - ((p : Int) + 512)) / 12) ∧
    (pnd S p q = none ∨ (pnd S p q = some D ∧ Like D (comS b p nu D) S)) := by
  have hq := g.len
  have hm := g.max
  have hr := g.room
  have h2 := g.two
  have hcl : (comS b p nu D).length = b.length := comS_len b p q nu D hq h2 hr
  have he := endD_may g.may
  have hno : ∀ S, q ≤ S.length → S.getD p 0 = 0 → ¬ isSgn (jFst S p) := fun S _ h0 => not_sgn (by
    unfold jFst
    rw [part_get, if_pos (by omega)]
    exact h0)
  have hpn : ∀ S, ¬ isSgn (jFst S p) → pnd S p q = none := fun S h => by unfold pnd; rw [if_neg h]
  rcases h with h | h | h
  · have hs := hno S (by rw [h.len]; omega) h.nosig
    exact ⟨by rw [h.len]; omega, by rw [h.len]; omega, h.by_, fun e => absurd e hs, Or.inl (hpn S hs)⟩
  · have l1 := h.lo
    have l2 := h.hi
    obtain ⟨p1, p2, p3, p4, p5⟩ := pnd_any (S := S) (p := p) (q := q) (nu := nu) (D := D) (by omega) h2 hr g.may (by omega)
      (fun i hi => by rw [h.out _ (g.far (by omega) (by omega)), comS_get, if_pos (by omega), show p + i - p = i by omega])
      (fun i hi => by rw [h.out _ (g.far (by omega) (by omega)), comS_get, if_neg (by omega), if_pos (by omega), show p + 512 + i - (p + 512) = i by omega])
    refine ⟨by omega, by omega, h.by_, fun _ => by rw [p2, p3]; omega, ?_⟩
    rw [p5]
    by_cases hD : D = []
    · left; rw [if_pos hD]
    · right; rw [if_neg hD]; exact ⟨rfl, h⟩
  · have hl : S.length = max b.length (endD D) := by
      rw [h]
      unfold appS
      rw [wr_len, Z512_len, if_neg (fun e => by have := Z512_len; rw [e] at this; simp at this), putS_len, hcl]
      omega
    have h0 : S.getD p 0 = 0 := by rw [h, appS_get, if_pos (by omega)]
    have hs := hno S (by omega) h0
    refine ⟨by omega, by omega, ?_, fun e => absurd e hs, Or.inl (hpn S hs)⟩
    rw [h]
    intro i
    rw [appS_get]
    split
    · omega
    · exact putS_byts D _ (comS_byts p nu g.by_ g.byD) g.byD i

theorem St.next {b : List Int} {p q : Nat} {nu : Int} {D : List RD} {S : List Int} (g : Giv b p q D) (h : Like D (comS b p nu D) S) (k : Nat) (kp : List Bool) : St b p q nu D (crashD (doAll ((appO p D).take k) ⟨S, S, []⟩) kp) := by
  rcases crash_app (D := D) (S := S) (p := p) g.al h.by_ g.byD k kp with h' | h'
  · exact Or.inr (Or.inl (h.trans h'))
  · exact Or.inr (Or.inr (h'.trans (h.app p)))

/-- What a replay at last leaves. -/
def Fin (b : List Int) (p q : Nat) (D : List RD) (S : List Int) : Prop :=
  (S.length = b.length ∧ ∀ i, ¬ (p ≤ i ∧ i < q) → S.getD i 0 = b.getD i 0) ∨ (S.length = (putS b D).length ∧ ∀ i, ¬ (p ≤ i ∧ i < q) → S.getD i 0 = (putS b D).getD i 0)

theorem app_fin {b : List Int} {p q : Nat} {nu : Int} {D : List RD} (g : Giv b p q D) : Fin b p q D (appS (comS b p nu D) p D) := by
  have hq := g.len
  have hr := g.room
  have h2 := g.two
  have hcl : (comS b p nu D).length = b.length := comS_len b p q nu D hq h2 hr
  right
  refine ⟨?_, fun i hi => ?_⟩
  · unfold appS
    rw [wr_len, Z512_len, if_neg (fun e => by have := Z512_len; rw [e] at this; simp at this), putS_len, putS_len, hcl]
    omega
  · rw [appS_get, if_neg (by omega)]
    by_cases hc : cov D i
    · exact putS_in D _ _ i hc
    · rw [putS_out D _ i hc, putS_out D _ i hc, comS_get, if_neg (by omega), if_neg (by omega)]

theorem St.fin {b : List Int} {p q : Nat} {nu : Int} {D : List RD} {S : List Int} (g : Giv b p q D) (h : St b p q nu D S) (hn : pnd S p q = none) : Fin b p q D S := by
  have hq := g.len
  have hm := g.max
  have hr := g.room
  have h2 := g.two
  have hcl : (comS b p nu D).length = b.length := comS_len b p q nu D hq h2 hr
  rcases h with h | h | h
  · exact Or.inl ⟨h.len, h.out⟩
  · have l1 := h.lo
    have l2 := h.hi
    obtain ⟨p1, p2, p3, p4, p5⟩ := pnd_any (S := S) (p := p) (q := q) (nu := nu) (D := D) (by omega) h2 hr g.may (by omega)
      (fun i hi => by rw [h.out _ (g.far (by omega) (by omega)), comS_get, if_pos (by omega), show p + i - p = i by omega])
      (fun i hi => by rw [h.out _ (g.far (by omega) (by omega)), comS_get, if_neg (by omega), if_pos (by omega), show p + 512 + i - (p + 512) = i by omega])
    rw [hn] at p5
    by_cases hD : D = []
    · left
      have hc : ∀ i, ¬ cov D i := fun i ⟨r, hr, _⟩ => by rw [hD] at hr; cases hr
      have he : endD D = 0 := by rw [hD]; rfl
      refine ⟨by omega, fun i hi => ?_⟩
      rw [h.out i (hc i), comS_get, if_neg (by omega), if_neg (by omega)]
    · rw [if_neg hD] at p5
      cases p5
  · rw [h]
    exact app_fin g

/-- Behind a replay that is done none counts. -/
theorem app_none {b : List Int} {p q : Nat} {nu : Int} {D : List RD} : St b p q nu D (appS (comS b p nu D) p D) ∧ pnd (appS (comS b p nu D) p D) p q = none := by
  refine ⟨Or.inr (Or.inr rfl), ?_⟩
  have h0 : ¬ isSgn (jFst (appS (comS b p nu D) p D) p) := not_sgn (by
    unfold jFst
    rw [part_get, if_pos (by omega)]
    show (appS (comS b p nu D) p D).getD p 0 = 0
    rw [appS_get, if_pos (by omega)])
  unfold pnd
  rw [if_neg h0]

theorem wr_over (t : Nat) (b l : List Int) (h : t ≤ l.length) : laidsD l (cuts t b) = over (l ++ List.replicate (t + b.length - l.length) 0) t b := by
  have hl : (over (l ++ List.replicate (t + b.length - l.length) 0) t b).length = max l.length (t + b.length) := by
    unfold over
    simp
    omega
  refine ext_getD ?_ (fun i _ => ?_)
  · rw [hl, wr_len]
    split
    · rename_i e
      rw [e]
      simp
      omega
    · rfl
  · rw [wr_get, overP_get _ _ _ (by simp; omega)]
    split
    · rfl
    · rw [getD_app]
      split
      · rfl
      · rw [getD_rep, getD_out _ _ (by omega)]
end Go.Proofs.YtgmifbknmjdemaaGreat.Oct
