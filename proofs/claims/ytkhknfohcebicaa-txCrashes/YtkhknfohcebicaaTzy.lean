/- TxCrashes, for every input: wherever a Commit is cut off, whatever is kept: behind a replay all that was put stands, and all that was written ahead; or, but for what was written ahead, all is as it was (no condition). -/
import Derived.Test.YtkhknfohcebicaaJpd
import Derived.Test.YtkhknfohcebicaaTzx
import Derived.Test.YtkhknfohcebicaaRows
import Derived.Test.YtkhknfohcebicaaOpen
namespace Go.Proofs.Ytkhknfohcebicaa.Oct
open Go.RowKit

theorem pnd_any {S : List Int} {p q : Nat} {nu : Int} {D : List RD} (hq : q ≤ S.length) (hp : p + 1024 ≤ q) (hroom : p + 512 + lenD D ≤ q) (hmay : MayD p q D) (hq2 : q ≤ 4194304)
    (hs : ∀ i, i < 512 → S.getD (p + i) 0 = (signOf nu D).getD i 0) (hb : ∀ i, i < lenD D → S.getD (p + 512 + i) 0 = (encD D).getD i 0) :
    isSgn (jFst S p) ∧ num (jFst S p) 16 4 = lenD D ∧ num (jFst S p) 12 4 = D.length ∧ 12 * D.length ≤ lenD D ∧ pnd S p q = if D = [] then none else some D := by
  have hl : (signOf nu D).length = 512 := secL_len _ _ _ _
  have hf : jFst S p = signOf nu D := by
    unfold jFst
    rw [← hl]
    exact part_is (by rw [hl]; omega) (by rw [hl]; exact hs)
  have hDl : 12 * D.length ≤ lenD D := by
    clear hs hb hf hroom hmay hl
    induction D with
    | nil => simp [lenD]
    | cons r D ih =>
      have e : lenD (r :: D) = (12 + r.2.length) + lenD D := by simp [lenD]
      rw [e]
      simp
      omega
  have hnu : 0 ≤ IntKind.u64.wrap (nu + 1) ∧ IntKind.u64.wrap (nu + 1) < 18446744073709551616 := by rw [IntKind.wrap_u64]; omega
  have hm4 : (0 : Int) ≤ (moreC 0 (encD D) : Nat) ∧ ((moreC 0 (encD D) : Nat) : Int) < 4294967296 := ⟨by omega, by have := moreC_lt 0 (encD D); omega⟩
  have hn := secL_nums (IntKind.u64.wrap (nu + 1)) D.length (encD D).length (moreC 0 (encD D)) hnu ⟨by omega, by omega⟩ ⟨by omega, by rw [encD_length]; omega⟩ hm4
  have hsg : isSgn (jFst S p) := by
    rw [hf]
    exact isSgn_secL _ _ _ _ hnu ⟨by omega, by omega⟩ ⟨by omega, by rw [encD_length]; omega⟩ hm4
  have n16 : num (jFst S p) 16 4 = lenD D := by rw [hf, ← encD_length]; exact hn.2.2.1
  have n12 : num (jFst S p) 12 4 = D.length := by rw [hf]; exact hn.2.1
  have n20 : num (jFst S p) 20 4 = (moreC 0 (encD D) : Nat) := by rw [hf]; exact hn.2.2.2
  refine ⟨hsg, n16, n12, hDl, ?_⟩
  by_cases hD : D = []
  · have hbod : jBod S p = encD D := by
      unfold jBod
      rw [n16, Int.toNat_natCast, ← encD_length]
      exact part_is (by rw [encD_length]; omega) (by rw [encD_length]; exact hb)
    unfold pnd
    rw [if_pos hsg, n12, n20, hbod, if_pos hD]
    unfold cntD
    rw [if_pos rfl, decD_enc D (fun r hr => by
      have h1 := hmay r hr
      have h2 := lenD_mem hr
      omega)]
    simp only
    rw [if_neg (by rw [hD]; simp [okD])]
  · rw [if_neg hD]
    exact (pnd_com hq hp hroom hD hmay hq2 hs hb).2.2.2.2

/-- What is given: a file, its journal's part, records that may be written, room for them. -/
structure Giv (b : List Int) (p q : Nat) (D : List RD) : Prop where
  al : p % 512 = 0
  two : p + 1024 ≤ q
  len : q ≤ b.length
  max : b.length ≤ 30000
  room : p + 512 + lenD D ≤ q
  may : MayD p q D
  by_ : Byts b
  byD : ∀ r ∈ D, Byts r.2
  zero : b.getD p 0 = 0

theorem Giv.far {b : List Int} {p q : Nat} {D : List RD} (h : Giv b p q D) {i : Nat} (h1 : p ≤ i) (h2 : i < q) : ¬ cov D i := fun ⟨r, hr, h3, h4⟩ => by
  have := h.may r hr
  omega

theorem endD_may {p q : Nat} {D : List RD} (h : MayD p q D) : endD D ≤ 4194304 := by
  induction D with
  | nil => simp [endD]
  | cons r D ih =>
    rw [endD]
    have h1 := h r (List.mem_cons_self ..)
    have h2 := ih (fun x hx => h x (List.mem_cons_of_mem _ hx))
    split <;> omega

theorem putS_byts (D : List RD) : ∀ (S : List Int), Byts S → (∀ r ∈ D, Byts r.2) → Byts (putS S D) := by
  induction D with
  | nil => intro S h _; exact h
  | cons r D ih =>
    intro S h hD
    rw [putS]
    refine ih _ (fun i => ?_) (fun x hx => hD x (List.mem_cons_of_mem _ hx))
    rw [wr_get]
    split
    · exact hD r (List.mem_cons_self ..) _
    · exact h i

/-- All but the journal's part as it was, and no sign. -/
structure Old (b : List Int) (p q : Nat) (S : List Int) : Prop where
  len : S.length = b.length
  out : ∀ i, ¬ (p ≤ i ∧ i < q) → S.getD i 0 = b.getD i 0
  nosig : S.getD p 0 = 0
  by_ : Byts S

def St (b : List Int) (p q : Nat) (nu : Int) (D : List RD) (S : List Int) : Prop := Old b p q S ∨ Like D (comS b p nu D) S ∨ S = appS (comS b p nu D) p D

theorem crash_com {b : List Int} {p q : Nat} {nu : Int} {D : List RD} (g : Giv b p q D) (k : Nat) (hk : ¬ 4 ≤ k) (kp : List Bool) : St b p q nu D (crashD (doAll ((comO p nu D).take k) ⟨b, b, []⟩) kp) := by
  obtain ⟨E, hE⟩ : ∃ E : List RD, E = [(((p + 512 : Nat) : Int), encD D)] := ⟨_, rfl⟩
  have hEb : ∀ r ∈ E, Byts r.2 := fun r hr => by
    rw [hE] at hr
    simp at hr
    subst hr
    exact encD_byts g.byD
  have hEe : endD E ≤ b.length := by
    rw [hE]
    simp only [endD]
    have := g.room
    have := g.len
    split
    · simp
    · simp [encD_length]; omega
  have hW : recW E = cuts (p + 512) (encD D) := by
    rw [hE]
    simp [recW]
    rw [show ((p : Int) + 512).toNat = p + 512 by omega]
  have hP : putS b E = laidsD b (cuts (p + 512) (encD D)) := by
    rw [hE]
    simp [putS]
    rw [show ((p : Int) + 512).toNat = p + 512 by omega]
  have hold : ∀ S, Like E b S → Old b p q S := fun S h => by
    have hnc : ∀ i, ¬ (p + 512 ≤ i ∧ i < p + 512 + lenD D) → ¬ cov E i := fun i hi ⟨r, hr, h1, h2⟩ => by
      rw [hE] at hr
      simp at hr
      subst hr
      simp [encD_length] at h1 h2
      omega
    have h1 := h.lo
    have h2 := h.hi
    have h3 := g.room
    refine ⟨by omega, fun i hi => h.out i (hnc i (by omega)), ?_, h.by_⟩
    rw [h.out p (hnc p (by omega)), g.zero]
  have hput : Like E b (putS b E) := by
    refine ⟨putS_out E b, by rw [putS_len]; omega, by rw [putS_len]; omega, fun i => ?_⟩
    rw [hP, wr_get]
    split
    · exact encD_byts g.byD _
    · exact g.by_ _
  match k with
  | 0 => exact Or.inl (hold b (Like.refl E g.by_))
  | 1 =>
    refine Or.inl (hold _ ?_)
    simp only [comO, List.cons_append, List.nil_append, List.take_succ_cons, List.take_zero, doAll, List.foldl_cons, List.foldl_nil, AO.on, crashD]
    rw [← hW]
    exact left_like (recW_wri (fun r h => h) hEb) b g.by_ kp _ (Nat.le_refl _)
  | 2 =>
    refine Or.inl (hold _ ?_)
    simp only [comO, List.cons_append, List.nil_append, List.take_succ_cons, List.take_zero, doAll, List.foldl_cons, List.foldl_nil, AO.on, crashD, List.length_nil, leftD]
    rw [← hP]
    exact hput
  | 3 =>
    simp only [comO, List.cons_append, List.nil_append, List.take_succ_cons, List.take_zero, doAll, List.foldl_cons, List.foldl_nil, AO.on, crashD, cuts_one g.al (signOf_len nu D), List.length_singleton, leftD]
    rw [← hP]
    split
    · right
      left
      have e : laidD ([(p, signOf nu D, false)].getD 0 (0, [], false)) (putS b E) = comS b p nu D := by
        unfold comS
        rw [cuts_one g.al (signOf_len nu D), hP]
        rfl
      rw [e]
      exact Like.refl D (comS_byts p nu g.by_ g.byD)
    · exact Or.inl (hold _ hput)
  | k + 4 => omega

theorem crash_both {b : List Int} {p q : Nat} {nu : Int} {D : List RD} (g : Giv b p q D) (k : Nat) (kp : List Bool) : St b p q nu D (crashD (doAll ((appO p D).take k) ⟨comS b p nu D, comS b p nu D, []⟩) kp) := by
  rcases crash_app (D := D) (S := comS b p nu D) (p := p) g.al (comS_byts p nu g.by_ g.byD) g.byD k kp with h | h
  · exact Or.inr (Or.inl h)
  · exact Or.inr (Or.inr h)

/-- What a state is to a replay. -/
theorem St.says {b : List Int} {p q : Nat} {nu : Int} {D : List RD} {S : List Int} (g : Giv b p q D) (h : St b p q nu D S) :
    q ≤ S.length ∧ S.length ≤ 4194304 ∧ Byts S ∧ (isSgn (jFst S p) → num (jFst S p) 16 4 ≤ (q : Int) - ((p : Int) + 512) ∧ num (jFst S p) 12 4 ≤ ((q : Int) - ((p : Int) + 512)) / 12) ∧
    (pnd S p q = none ∨ (pnd S p q = some D ∧ Like D (comS b p nu D) S)) := by
  have hq := g.len
  have hm := g.max
  have hr := g.room
  have h2 := g.two
  have hcl : (comS b p nu D).length = b.length := comS_len b p q nu D hq h2 hr
  have he := endD_may g.may
  have hno : ∀ S, q ≤ S.length → S.getD p 0 = 0 → ¬ isSgn (jFst S p) := fun S _ h0 => not_sgn (by
    unfold jFst
    rw [part_get, if_pos (by omega)]
    exact h0)
  have hpn : ∀ S, ¬ isSgn (jFst S p) → pnd S p q = none := fun S h => by unfold pnd; rw [if_neg h]
  rcases h with h | h | h
  · have hs := hno S (by rw [h.len]; omega) h.nosig
    exact ⟨by rw [h.len]; omega, by rw [h.len]; omega, h.by_, fun e => absurd e hs, Or.inl (hpn S hs)⟩
  · have l1 := h.lo
    have l2 := h.hi
    obtain ⟨p1, p2, p3, p4, p5⟩ := pnd_any (S := S) (p := p) (q := q) (nu := nu) (D := D) (by omega) h2 hr g.may (by omega)
      (fun i hi => by rw [h.out _ (g.far (by omega) (by omega)), comS_get, if_pos (by omega), show p + i - p = i by omega])
      (fun i hi => by rw [h.out _ (g.far (by omega) (by omega)), comS_get, if_neg (by omega), if_pos (by omega), show p + 512 + i - (p + 512) = i by omega])
    refine ⟨by omega, by omega, h.by_, fun _ => by rw [p2, p3]; omega, ?_⟩
    rw [p5]
    by_cases hD : D = []
    · left; rw [if_pos hD]
    · right; rw [if_neg hD]; exact ⟨rfl, h⟩
  · have hl : S.length = max b.length (endD D) := by
      rw [h]
      unfold appS
      rw [wr_len, Z512_len, if_neg (fun e => by have := Z512_len; rw [e] at this; simp at this), putS_len, hcl]
      omega
    have h0 : S.getD p 0 = 0 := by rw [h, appS_get, if_pos (by omega)]
    have hs := hno S (by omega) h0
    refine ⟨by omega, by omega, ?_, fun e => absurd e hs, Or.inl (hpn S hs)⟩
    rw [h]
    intro i
    rw [appS_get]
    split
    · omega
    · exact putS_byts D _ (comS_byts p nu g.by_ g.byD) g.byD i

theorem St.next {b : List Int} {p q : Nat} {nu : Int} {D : List RD} {S : List Int} (g : Giv b p q D) (h : Like D (comS b p nu D) S) (k : Nat) (kp : List Bool) : St b p q nu D (crashD (doAll ((appO p D).take k) ⟨S, S, []⟩) kp) := by
  rcases crash_app (D := D) (S := S) (p := p) g.al h.by_ g.byD k kp with h' | h'
  · exact Or.inr (Or.inl (h.trans h'))
  · exact Or.inr (Or.inr (h'.trans (h.app p)))

/-- What a replay at last leaves. -/
def Fin (b : List Int) (p q : Nat) (D : List RD) (S : List Int) : Prop :=
  (S.length = b.length ∧ ∀ i, ¬ (p ≤ i ∧ i < q) → S.getD i 0 = b.getD i 0) ∨ (S.length = (putS b D).length ∧ ∀ i, ¬ (p ≤ i ∧ i < q) → S.getD i 0 = (putS b D).getD i 0)

theorem app_fin {b : List Int} {p q : Nat} {nu : Int} {D : List RD} (g : Giv b p q D) : Fin b p q D (appS (comS b p nu D) p D) := by
  have hq := g.len
  have hr := g.room
  have h2 := g.two
  have hcl : (comS b p nu D).length = b.length := comS_len b p q nu D hq h2 hr
  right
  refine ⟨?_, fun i hi => ?_⟩
  · unfold appS
    rw [wr_len, Z512_len, if_neg (fun e => by have := Z512_len; rw [e] at this; simp at this), putS_len, putS_len, hcl]
    omega
  · rw [appS_get, if_neg (by omega)]
    by_cases hc : cov D i
    · exact putS_in D _ _ i hc
    · rw [putS_out D _ i hc, putS_out D _ i hc, comS_get, if_neg (by omega), if_neg (by omega)]

theorem St.fin {b : List Int} {p q : Nat} {nu : Int} {D : List RD} {S : List Int} (g : Giv b p q D) (h : St b p q nu D S) (hn : pnd S p q = none) : Fin b p q D S := by
  have hq := g.len
  have hm := g.max
  have hr := g.room
  have h2 := g.two
  have hcl : (comS b p nu D).length = b.length := comS_len b p q nu D hq h2 hr
  rcases h with h | h | h
  · exact Or.inl ⟨h.len, h.out⟩
  · have l1 := h.lo
    have l2 := h.hi
    obtain ⟨p1, p2, p3, p4, p5⟩ := pnd_any (S := S) (p := p) (q := q) (nu := nu) (D := D) (by omega) h2 hr g.may (by omega)
      (fun i hi => by rw [h.out _ (g.far (by omega) (by omega)), comS_get, if_pos (by omega), show p + i - p = i by omega])
      (fun i hi => by rw [h.out _ (g.far (by omega) (by omega)), comS_get, if_neg (by omega), if_pos (by omega), show p + 512 + i - (p + 512) = i by omega])
    rw [hn] at p5
    by_cases hD : D = []
    · left
      have hc : ∀ i, ¬ cov D i := fun i ⟨r, hr, _⟩ => by rw [hD] at hr; cases hr
      have he : endD D = 0 := by rw [hD]; rfl
      refine ⟨by omega, fun i hi => ?_⟩
      rw [h.out i (hc i), comS_get, if_neg (by omega), if_neg (by omega)]
    · rw [if_neg hD] at p5
      cases p5
  · rw [h]
    exact app_fin g

/-- Behind a replay that is done none counts. -/
theorem app_none {b : List Int} {p q : Nat} {nu : Int} {D : List RD} : St b p q nu D (appS (comS b p nu D) p D) ∧ pnd (appS (comS b p nu D) p D) p q = none := by
  refine ⟨Or.inr (Or.inr rfl), ?_⟩
  have h0 : ¬ isSgn (jFst (appS (comS b p nu D) p D) p) := not_sgn (by
    unfold jFst
    rw [part_get, if_pos (by omega)]
    show (appS (comS b p nu D) p D).getD p 0 = 0
    rw [appS_get, if_pos (by omega)])
  unfold pnd
  rw [if_neg h0]

theorem wr_over (t : Nat) (b l : List Int) (h : t ≤ l.length) : laidsD l (cuts t b) = over (l ++ List.replicate (t + b.length - l.length) 0) t b := by
  have hl : (over (l ++ List.replicate (t + b.length - l.length) 0) t b).length = max l.length (t + b.length) := by
    unfold over
    simp
    omega
  refine ext_getD ?_ (fun i _ => ?_)
  · rw [hl, wr_len]
    split
    · rename_i e
      rw [e]
      simp
      omega
    · rfl
  · rw [wr_get, overP_get _ _ _ (by simp; omega)]
    split
    · rfl
    · rw [getD_app]
      split
      · rfl
      · rw [getD_rep, getD_out _ _ (by omega)]
end Go.Proofs.Ytkhknfohcebicaa.Oct
namespace Go.Proofs.Ytkhknfohcebicaa.Oct
open Go.RowKit Go.Deep Go.Sort

theorem ahd_crash {S : List Int} {D0 : List RD} (hS : Byts S) (hb : ∀ r ∈ D0, Byts r.2) (k : Nat) (hk : ¬ (ahdO D0).length ≤ k) (kp : List Bool) : Like D0 S (crashD (doAll ((ahdO D0).take k) ⟨S, S, []⟩) kp) := by
  have h0 : D0 ≠ [] := fun e => hk (by subst e; simp [ahdO])
  have e1 : ahdO D0 = recO D0 ++ [.fl] := if_neg h0
  have hl : (recO D0).length = D0.length := by simp [recO]
  rw [e1, List.length_append] at hk
  have hk2 : k ≤ (recO D0).length := by simp at hk; omega
  have e : (recO D0 ++ [AO.fl]).take k = recO (D0.take k) := by
    rw [List.take_append_of_le_length hk2]
    simp [recO, List.map_take]
  rw [e1, e, doRecs']
  simp only [crashD, List.nil_append]
  exact left_like (recW_wri (fun r h => List.mem_of_mem_take h) hb) S hS kp _ (Nat.le_refl _)

/-- Wherever a Commit is cut off: bytes that were written ahead, or a state of the journal's. -/
theorem tx_crash {S : List Int} {D0 D : List RD} (g : Giv (putS S D0) 512 10752 D) (hD : D ≠ []) (hS : Byts S) (hb : ∀ r ∈ D0, Byts r.2) (k : Nat) (kp : List Bool) :
    Like D0 S (crashD (doAll ((ahdO D0 ++ txO 512 0 D).take k) ⟨S, S, []⟩) kp) ∨ St (putS S D0) 512 10752 0 D (crashD (doAll ((ahdO D0 ++ txO 512 0 D).take k) ⟨S, S, []⟩) kp) := by
  by_cases hk : (ahdO D0).length ≤ k
  · right
    rw [List.take_append, List.take_of_length_le hk, doAll_append, ahd_state]
    generalize k - (ahdO D0).length = j
    have e : txO 512 0 D = comO 512 0 D ++ appO 512 D := if_neg hD
    have h4l : (comO 512 0 D).length = 4 := rfl
    rw [e]
    by_cases h4 : 4 ≤ j
    · rw [List.take_append, List.take_of_length_le (by omega), doAll_append, com_state]
      exact crash_both g _ kp
    · rw [List.take_append_of_le_length (by omega)]
      exact crash_com g j h4 kp
  · left
    rw [List.take_append_of_le_length (by omega)]
    exact ahd_crash hS hb k hk kp

theorem lenD_ge : ∀ D : List RD, 12 * D.length ≤ lenD D
  | [] => by simp [lenD]
  | r :: D => by
    have ih := lenD_ge D
    simp only [lenD, List.map_cons, List.sum_cons, List.length_cons] at *
    omega

theorem replay_fin (w : World) (J F : Nat) (nu : Int) (X : Nat → Prop) (f : Fs) (k n : Nat) (R : List Int) (hJ : Jrn w J F (512 : Nat) (10752 : Nat) nu) (hF : Fl w X F f ⟨R, R, []⟩ k n) (hk : 1000000 ≤ k) (hn : n ≤ 100) (hXJ : ¬ X J) {b : List Int} {D : List RD} {nu' : Int} (g : Giv b 512 10752 D) (h : St b 512 10752 nu' D R) :
    Calls Try.prog 19 #[.pointer (some ⟨J, 0, none⟩)] w fun e w' => (∃ c, e = .returned (.tuple #[.int .i64 c, .int .i64 0])) ∧ ∃ X' f' k' n' S', Fl w' X' F f' ⟨S', S', []⟩ k' n' ∧ Fin b 512 10752 D S' ∧ Byts S' ∧ Chg (fun i => X i ∨ i = J) w w' := by
  obtain ⟨s1, s2, s3, s4, s5⟩ := h.says g
  have hrd : rdsN R 512 ≤ 2 := by unfold rdsN; split <;> omega
  have hDl := lenD_ge D
  have hro := g.room
  refine (replay_j w J F 512 10752 nu hJ (by omega) X f ⟨R, R, []⟩ k n hF s1 hXJ s3 (by omega) (by omega) s4 rfl).mono ?_
  rintro e w' (⟨h1, _⟩ | ⟨h1, h2, rfl, nu2, f2, hf2, hc2, hj2⟩ | ⟨h1, D2, h2, h3, nu2, hr⟩)
  · exact absurd (show rdsN R 512 ≤ k by omega) h1
  · exact ⟨⟨0, rfl⟩, X, f2, _, _, R, hf2, h.fin g h2, s3, hc2⟩
  · rcases s5 with s5 | ⟨s5, s6⟩
    · have h2' : pnd R 512 10752 = some D2 := h2
      rw [s5] at h2'
      cases h2'
    · have h2' : pnd R 512 10752 = some D2 := h2
      rw [s5] at h2'
      cases h2'
      have hle : D.length + 3 ≤ k - rdsN R 512 := by omega
      obtain ⟨X2, f2, hf2, hx2, hc2, hj2, hn2⟩ := hr
      have hal : (appO 512 D).length ≤ k - rdsN R 512 := by
        unfold appO clrO
        simp [recO_length]
        omega
      have e2 : doAll ((appO 512 D).take (k - rdsN R 512)) ⟨R, R, []⟩ = ⟨appS (comS b 512 nu' D) 512 D, appS (comS b 512 nu' D) 512 D, []⟩ := by
        rw [List.take_of_length_le hal, app_state, s6.app]
      have hf3 := hf2
      rw [e2] at hf3
      rcases h3 with ⟨_, rfl⟩ | ⟨h3, _⟩
      · refine ⟨⟨_, rfl⟩, X2, f2, _, _, _, hf3, app_fin g, ?_, hc2⟩
        exact (St.says g (app_none (b := b) (p := 512) (q := 10752) (nu := nu') (D := D)).1).2.2.1
      · exact absurd hle h3

theorem endD_leT : ∀ (D : List RD) (n : Nat), (∀ r ∈ D, r.1.toNat + r.2.length ≤ n) → endD D ≤ n
  | [], n, _ => by simp [endD]
  | r :: D, n, h => by
    have ih := endD_leT D n (fun x hx => h x (List.mem_cons_of_mem _ hx))
    have h1 := h r (List.mem_cons_self ..)
    unfold endD
    split <;> omega

/-- What the law asks of the bytes behind the replay. -/
def OutT (S : List Int) (D0 : List RD) (Mm S' : List Int) : Prop := S'.length = S.length ∧ ((∀ i, 10752 ≤ i → i < 4194304 → S'.getD i 0 = Mm.getD i 0) ∨ (∀ i, 10752 ≤ i → ¬ cov D0 i → S'.getD i 0 = S.getD i 0))

theorem Pur.ends {S : List Int} {B M : Int → List Int} {D : List RD} {P : List Int} (h : Pur S B M D P) : endD D ≤ 18252 ∧ endD (recsM S B M) ≤ 18432 := by
  refine ⟨endD_leT D 18252 (fun r hr => by have := h.at_ r hr; omega), endD_leT (recsM S B M) 18432 (fun r hr => ?_)⟩
  obtain ⟨x, hx, rfl⟩ := List.mem_map.1 hr
  have hb := runsM_bd M x hx
  rw [recD_len]
  have e : (recD S B M x).1 = x.1 := rfl
  rw [e]
  have h4 := ((runsM_cov M (x.2 - 1).toNat).1 ⟨x, hx, by omega, by omega⟩).2
  have := h.lim _ ((h.put _).2 h4)
  omega

theorem Pur.giv {S : List Int} {B M : Int → List Int} {D0 : List RD} {P : List Int} (h : Pur S B M D0 P) (hl : S.length = 18752) (hS : Byts S) (hz : S.getD 512 0 = 0) (hsee : ∀ i, 0 ≤ seeT S B M i ∧ seeT S B M i < 256) (hroom : 1024 + lenD (recsM S B M) ≤ 10752) : Giv (putS S D0) 512 10752 (recsM S B M) := by
  obtain ⟨h1, h2⟩ := h.ends
  have hlen : (putS S D0).length = 18752 := by rw [putS_len]; omega
  refine ⟨rfl, by omega, by omega, by omega, by omega, fun r hr => ?_, putS_byts D0 S hS (fun r hr => (h.at_ r hr).2.2.2), fun r hr => ?_, ?_⟩
  · obtain ⟨x, hx, rfl⟩ := List.mem_map.1 hr
    have hb := runsM_bd M x hx
    have hno := h.runs.2 x hx
    rw [recD_len]
    have e : (recD S B M x).1 = x.1 := rfl
    rw [e]
    refine ⟨by omega, by omega, Or.inr (Or.inl ?_)⟩
    have h4 := ((runsM_cov M x.1.toNat).1 ⟨x, hx, by omega, by omega⟩).2
    have := h.lim _ ((h.put _).2 h4)
    omega
  · obtain ⟨x, hx, rfl⟩ := List.mem_map.1 hr
    intro i
    show 0 ≤ ((List.range (x.2 - x.1).toNat).map (fun i => seeT S B M (x.1.toNat + i))).getD i 0 ∧ ((List.range (x.2 - x.1).toNat).map (fun i => seeT S B M (x.1.toNat + i))).getD i 0 < 256
    rw [List.getD_eq_getElem?_getD]
    by_cases hi : i < (x.2 - x.1).toNat
    · simp only [List.getElem?_map, List.getElem?_range hi, Option.map_some, Option.getD_some]
      exact hsee _
    · rw [List.getElem?_eq_none (by simp; omega)]
      simp
  · rw [putS_out D0 S 512 (fun ⟨r, hr, h3, h4⟩ => by have := h.at_ r hr; omega), hz]

/-- A replay of what a crash left of a Commit. -/
theorem replay_out (w : World) (J F : Nat) (nu : Int) (X : Nat → Prop) (f : Fs) (k n : Nat) (R : List Int) (hJ : Jrn w J F (512 : Nat) (10752 : Nat) nu) (hF : Fl w X F f ⟨R, R, []⟩ k n) (hk : 1000000 ≤ k) (hn : n ≤ 100) (hXJ : ¬ X J)
    {S Mm : List Int} {B M : Int → List Int} {D0 : List RD} {P : List Int} (h : Pur S B M D0 P) (hl : S.length = 18752) (hS : Byts S) (hz : S.getD 512 0 = 0) (hmm : Byts Mm) (hsee : ∀ j, Mm.getD j 0 = seeT S B M j) (hroom : 1024 + lenD (recsM S B M) ≤ 10752)
    (hR : Like D0 S R ∨ St (putS S D0) 512 10752 0 (recsM S B M) R) :
    Calls Try.prog 19 #[.pointer (some ⟨J, 0, none⟩)] w fun e w' => (∃ c, e = .returned (.tuple #[.int .i64 c, .int .i64 0])) ∧ ∃ X' f' k' n' S', Fl w' X' F f' ⟨S', S', []⟩ k' n' ∧ OutT S D0 Mm S' ∧ Byts S' ∧ Chg (fun i => X i ∨ i = J) w w' := by
  obtain ⟨h1, h2⟩ := h.ends
  have hsb : ∀ i, 0 ≤ seeT S B M i ∧ seeT S B M i < 256 := fun i => by rw [← hsee i]; exact hmm i
  have hnc : ∀ i, i < 10752 → ¬ cov D0 i := fun i hi ⟨r, hr, h3, h4⟩ => by have := h.at_ r hr; omega
  rcases hR with hR | hR
  · have hRl : R.length = 18752 := by have := hR.lo; have := hR.hi; omega
    have hz' : R.getD 512 0 = 0 := by rw [hR.out 512 (hnc 512 (by omega)), hz]
    have g : Giv R 512 10752 [] := ⟨rfl, by omega, by omega, by omega, by simp [lenD], fun r hr => (by cases hr), hR.by_, fun r hr => (by cases hr), hz'⟩
    refine (replay_fin w J F nu X f k n R hJ hF hk hn hXJ (nu' := 0) g (Or.inl ⟨rfl, fun _ _ => rfl, hz', hR.by_⟩)).mono ?_
    rintro e w' ⟨he, X', f', k', n', S', hf, hfin, hb, hc⟩
    refine ⟨he, X', f', k', n', S', hf, ⟨?_, Or.inr (fun i hi hci => ?_)⟩, hb, hc⟩
    · rcases hfin with ⟨h3, _⟩ | ⟨h3, _⟩
      · omega
      · have : (putS R []).length = R.length := rfl
        omega
    · rcases hfin with ⟨_, h3⟩ | ⟨_, h3⟩
      · rw [h3 i (by omega), hR.out i hci]
      · rw [h3 i (by omega)]
        exact hR.out i hci
  · have g := h.giv hl hS hz hsb hroom
    have hS1 : (putS S D0).length = 18752 := by rw [putS_len]; omega
    refine (replay_fin w J F nu X f k n R hJ hF hk hn hXJ g hR).mono ?_
    rintro e w' ⟨he, X', f', k', n', S', hf, hfin, hb, hc⟩
    refine ⟨he, X', f', k', n', S', hf, ?_, hb, hc⟩
    rcases hfin with ⟨h3, h4⟩ | ⟨h3, h4⟩
    · refine ⟨by omega, Or.inr (fun i hi hci => ?_)⟩
      rw [h4 i (by omega), putS_out D0 S i hci]
    · refine ⟨by rw [h3, putS_len, hS1]; omega, Or.inl (fun i hi hi2 => ?_)⟩
      rw [h4 i (by omega), hsee i]
      by_cases hc : cov (recsM S B M) i
      · exact putS_by _ _ (recs_by S B M) _ i hc
      · rw [putS_out _ _ i hc]
        exact h.ah i (fun e => hc ((recs_cov S B M i).2 ⟨hi2, e⟩))

/-- The changes, when the file is to stop behind so many operations. -/
theorem plk_stop {w3 w : World} {T J F : Nat} {X : Nat → Prop} {S : List Int} {k : Nat} {v : Value} {Mm : List Int} {B M : Int → List Int} {L : List JR} {vp : Value} {P : List Int} (h : Plk w3 w T J F X S k v Mm B M L vp P) (hk : k ≤ 50) (m : Nat) (h1 : 1 ≤ m) (h2 : m ≤ 100) :
    Calls Try.prog 16 #[.pointer (some ⟨F, 0, none⟩), .int .i64 m] w fun e w' => e = .returned (.tuple #[]) ∧
      (∃ f' nn vb vm aA cA, Txq w' T J F X f' ⟨S, S, []⟩ (m - 1) nn vb vm (.slice aA L.length cA) B M 512 10752 0 ∧ nn ≤ k ∧ LiesJ w' aA L ∧ ApJ (fun i => X i ∨ i = T) aA L) ∧
      (∀ w'', Chg (fun i => X i ∨ i = J ∨ i = T) w' w'' → Below w3.heap.size w3 w'' ∧ (∃ am cm, v = .slice am Mm.length cm ∧ Sl w'' am cm Mm) ∧ w''.ownsRow w3.heap.size 3 1 vp P.length (P.map (Value.int .i64))) := by
  obtain ⟨am, cm, e1, g1, g2⟩ := h.m
  obtain ⟨f, kk, nn, vb, vm, va, hq, a1, a2, a3, a4, a5, a6, a7, a8, a9, aY⟩ := h.st
  obtain ⟨aA, cA, e2, hLi, _, _, _⟩ := a4.form
  subst e2
  have hAp : ApJ (fun i => X i ∨ i = T) aA L := ⟨fun hne x hx e => by
      have h9 := a5 x.block (by rw [hx]; rfl)
      exact e.elim h9.2.2.1 h9.1, fun r hr hne x hx e => by
      have h9 := (a8 r hr).2 x hx
      exact e.elim h9.2.2.1 h9.1⟩
  have hXF := hq.fl.xF
  refine (stop_fl w X F f _ kk nn hq.fl (by omega) m h1 (by omega)).mono ?_
  rintro e w' ⟨rfl, f', hf', hc'⟩
  have hc : Chg X w w' := hc'.mono (fun i _ e => by rw [e]; exact hXF)
  refine ⟨rfl, ⟨f', nn, vb, vm, aA, cA, hq.file hc hf' (fun i hi => Or.inl hi), a2, hLi.chg hc ⟨fun hne x hx e => hAp.row hne x hx (Or.inl e), fun r hr hne x hx e => hAp.bytes r hr hne x hx (Or.inl e)⟩, hAp⟩, fun w'' hc2 => ?_⟩
  have hc3 : Chg (fun i => X i ∨ i = J ∨ i = T) w w'' := (hc.mono (fun i _ e => Or.inl e)).trans hc2
  refine ⟨h.bel.trans (hc3.below _ h.bel.size (fun i hi e => ?_)), ⟨am, cm, e1, g1.chgQ hc3 (fun x hx e => ?_)⟩, ownsRow_chg a9 hc3 (fun i hi e => ?_)⟩
  · rcases e with e | e | e
    · have := h.xlo i e; omega
    · have := h.jlo; omega
    · have := h.tlo; omega
  · rcases (g2 x hx).2 with h3 | h3
    · rcases e with e | e | e
      · have := h.xlo _ e; omega
      · have := h.jlo; omega
      · have := h.tlo; omega
    · rcases e with e | e | e
      · exact h3.2.2 e
      · exact h3.2.1 e
      · exact h3.1 e
  · have h5 := (aY i hi).1
    rcases e with e | e | e
    · exact h5.2.2.1 e
    · exact h5.2.1 e
    · exact h5.1 e
end Go.Proofs.Ytkhknfohcebicaa.Oct
namespace Go.Proofs.Ytkhknfohcebicaa.Oct
open Go.RowKit Go.Deep Go.Sort

theorem ahdO_cost (D : List RD) : costs (ahdO D) ≤ lenD D + 1 := by
  unfold ahdO
  split
  · simp [costs]
  · rw [costs_append]
    have := recO_cost D
    simp [costs, AO.cost] at this ⊢
    omega

theorem txO_cost (p : Nat) (nu : Int) (D : List RD) : costs (txO p nu D) ≤ 2 * lenD D + 2000 := by
  unfold txO
  split
  · simp [costs]
  · rw [costs_append]
    have h1 := recO_cost D
    have h2 := encD_length D
    have h3 := signOf_len nu D
    have h4 := Z512_len
    unfold appO clrO comO
    simp [costs, AO.cost] at h1 ⊢
    omega

theorem Pur.some_ {S : List Int} {B M : Int → List Int} {D : List RD} {Q : List Int} (h : Pur S B M D Q) (hQ : Q ≠ []) : recsM S B M ≠ [] := fun e => by
  obtain ⟨s, r, rfl⟩ := List.exists_cons_of_ne_nil hQ
  have h1 := (h.put s).1 (List.mem_cons_self ..)
  have h2 := h.lim s (List.mem_cons_self ..)
  obtain ⟨n, rfl⟩ := Int.eq_ofNat_of_zero_le (show 0 ≤ s by omega)
  have h3 := (recs_cov S B M (n * 512)).2 ⟨by omega, by rw [show n * 512 / 512 = n by omega]; exact h1⟩
  rw [e] at h3
  obtain ⟨x, hx, _⟩ := h3
  cases hx

/-- A Commit with the file to stop: whatever is kept of what waits, it is bytes that were written ahead, or a state of the journal's. -/
theorem commit_cut (w : World) (T J F : Nat) (X : Nat → Prop) (f : Fs) (k n : Nat) (vb vm : Value) (aA : Option Addr) (cA : Nat) {S Mm : List Int} {B M : Int → List Int} {L : List JR} {Q : List Int} (h : Txq w T J F X f ⟨S, S, []⟩ k n vb vm (.slice aA L.length cA) B M 512 10752 0) (hLi : LiesJ w aA L) (hAp : ApJ (fun i => X i ∨ i = T) aA L) (hL0 : L.length ≤ 50) (hn : n ≤ 100)
    (hpu : Pur S B M (L.map JR.dat) Q) (hQ : Q ≠ []) (hl : S.length = 18752) (hS : Byts S) (hz : S.getD 512 0 = 0) (hmm : Byts Mm) (hsee : ∀ j, Mm.getD j 0 = seeT S B M j) (hroom : sizeR (runsM M) ≤ 9728) :
    Calls Try.prog 17 #[.pointer (some ⟨T, 0, none⟩)] w fun e w' => (∃ c, e = .returned (.int .i64 c)) ∧ Chg (fun i => X i ∨ i = J ∨ i = T) w w' ∧
      ∃ X' f' A' k' n', Fl w' X' F f' A' k' n' ∧ n' ≤ 900000 ∧ ∀ kp, Like (L.map JR.dat) S (crashD A' kp) ∨ St (putS S (L.map JR.dat)) 512 10752 0 (recsM S B M) (crashD A' kp) := by
  obtain ⟨hM, hno⟩ := hpu.runs
  have hD : ∀ r ∈ L.map JR.dat, r.2.length ≤ 1500 := fun r hr => (hpu.at_ r hr).2.2.1
  have hlD := lenD_small _ _ hD
  rw [List.length_map] at hlD
  have hAt : ∀ r ∈ L, 0 ≤ r.at_ ∧ r.at_ + r.b.length ≤ 4194304 := fun r hr => by
    have := hpu.at_ r.dat (List.mem_map_of_mem hr)
    have e3 : r.dat.1 = r.at_ := rfl
    have e4 : r.dat.2 = r.b := rfl
    rw [e3, e4] at this
    omega
  have hby : ∀ i, 0 ≤ seeT S B M i ∧ seeT S B M i < 256 := fun i => by
    rw [← hsee i]
    exact hmm i
  have hln := recs_len S B M (runsM M) (runsM_bd M)
  have hln2 : (lenD (recsM S B M) : Int) = sizeR (runsM M) := hln
  have g := hpu.giv hl hS hz hby (by omega)
  have hbD : ∀ r ∈ L.map JR.dat, Byts r.2 := fun r hr => (hpu.at_ r hr).2.2.2
  have hco := ahdO_cost (L.map JR.dat)
  have hct := txO_cost 512 0 (recsM S B M)
  refine (commit_a w T J F X f ⟨S, S, []⟩ k n vb vm aA cA L B M 512 10752 0 h hLi hAp (by omega) hAt (by omega) (by omega) (by omega) (by omega) (by omega) hM hno hby).mono ?_
  rintro e w' (⟨g1, _⟩ | ⟨g1, g2, rfl, ⟨f', n', hf, hn', hj⟩, hc⟩ | ⟨g1, g2, rfl, ht, nu', n', hn', X', f', hf, hx, hc, hj, hxj⟩)
  · exfalso
    omega
  · refine ⟨⟨5, rfl⟩, hc.mono (fun i _ e => Or.inl e), X, f', _, _, n', hf, by omega, fun kp => Or.inl ?_⟩
    exact Like.refl _ hS
  · refine ⟨⟨_, rfl⟩, hc, X', f', _, _, _, hf, by show n' + costs (ahdO (L.map JR.dat) ++ txO 512 0 (recsM S B M)) ≤ 900000; rw [costs_append]; omega, fun kp => ?_⟩
    exact tx_crash g (hpu.some_ hQ) hS hbD _ kp
end Go.Proofs.Ytkhknfohcebicaa.Oct
namespace Go.Proofs.Ytkhknfohcebicaa.Oct
open Go.RowKit Go.Deep Go.WideShapes Go.ChangeShapes Go.ChangeAt Go.Sort

theorem over_see {S Mm l' pl : List Int} {B M B' M' : Int → List Int} {t : Nat} {by_ : Int} (hsee : ∀ j, Mm.getD j 0 = seeT S B M j) (hl' : ∀ i, l'.getD i 0 = Mm.getD i 0) (hlen : t + pl.length ≤ l'.length) (hla : Laid B M B' M' t pl.length pl by_) :
    ∀ j, (over l' t pl).getD j 0 = seeT S B' M' j := fun j => by
  have h1 : (over l' t pl).getD j 0 = if t ≤ j ∧ j < t + pl.length then pl.getD (j - t) 0 else l'.getD j 0 := by
    unfold over
    rw [List.getD_eq_getElem?_getD, List.getElem?_append, List.length_take, Nat.min_eq_left (by omega)]
    by_cases hj : j < t
    · rw [if_pos hj, List.getElem?_take, if_pos hj, if_neg (by omega), List.getD_eq_getElem?_getD]
    · rw [if_neg hj, List.getElem?_append]
      by_cases hj2 : j - t < pl.length
      · rw [if_pos hj2, if_pos (by omega), List.getD_eq_getElem?_getD]
      · rw [if_neg hj2, if_neg (by omega), List.getElem?_drop, List.getD_eq_getElem?_getD]
        congr 2
        omega
  rw [h1, see_laid hla]
  split
  · rfl
  · rw [hl', hsee]

theorem over_byts6 {l' pl : List Int} {t : Nat} (hlen : t + pl.length ≤ l'.length) (h1 : Byts l') (h2 : Byts pl) : Byts (over l' t pl) := fun j => by
  unfold over
  rw [List.getD_eq_getElem?_getD, List.getElem?_append, List.length_take, Nat.min_eq_left (by omega)]
  by_cases hj : j < t
  · rw [if_pos hj, List.getElem?_take, if_pos hj, ← List.getD_eq_getElem?_getD]
    exact h1 j
  · rw [if_neg hj, List.getElem?_append]
    by_cases hj2 : j - t < pl.length
    · rw [if_pos hj2, ← List.getD_eq_getElem?_getD]
      exact h2 _
    · rw [if_neg hj2, List.getElem?_drop, ← List.getD_eq_getElem?_getD]
      exact h1 _

theorem ext_drop {l1 l2 : List Int} {n : Nat} (hl : l1.length = l2.length) (h : ∀ i, n ≤ i → i < l1.length → l1.getD i 0 = l2.getD i 0) : (l1.drop n).take (l1.length - n) = (l2.drop n).take (l2.length - n) := by
  refine ext_getD (by simp; omega) (fun i hi => ?_)
  have hi2 : i < l1.length - n := by simp at hi; omega
  rw [part_get, part_get, if_pos hi2, if_pos (by omega)]
  exact h _ (by omega) (by omega)

/-- The bytes of a slice from a place on, as Go cuts it. -/
theorem tail_lies {w : World} {b o c n : Nat} {l : List Int} (h : ∀ k, k < l.length → w.cell? ⟨b, o + k, none⟩ = some (.int .u8 (l.getD k 0))) (hb : b < w.heap.size) (hc : l.length ≤ c) : Lies w (some ⟨b, if c = n then o else o + n, none⟩) ((l.drop n).take (l.length - n)) := by
  by_cases e : c = n
  · rw [if_pos e]
    have h0 : (l.drop n).take (l.length - n) = [] := by
      rw [List.drop_of_length_le (by omega)]
      simp
    rw [h0]
    exact Or.inl rfl
  · rw [if_neg e]
    exact Lies.of_part (Or.inr ⟨b, o, rfl, hb, h⟩) n (l.length - n)

theorem info_int : (Try.prog.info? 3).map (fun i => (i.zero, i.size, i.bytes)) = some (some (.int .i64 0), 1, 8) := by kernel_rfl

theorem wf_byte {n : Int} (h : (Lit.int .u8 n).wf = true) : 0 ≤ n ∧ n < 256 := by
  have : 0 ≤ n ∧ n ≤ 255 := by simpa [Lit.wf, IntKind.min, IntKind.max, IntKind.signed, IntKind.bits] using h
  omega

set_option maxRecDepth 100000 in
set_option maxHeartbeats 2000000 in
/-- A part of bytes that is there, behind which there is room. -/
theorem Part_in (a : Option Addr) (cap : Nat) (l : List Int) (p n : Nat) (w : World) (hlen : l.length ≤ 1000000) (hs : Sl w a cap l) (hp : p + n ≤ l.length) (hn : 0 < n) :
    Calls Try.prog 22 #[.slice a l.length cap, .int .i64 p, .int .i64 n] w fun e w' => ∃ v, e = .returned v ∧ Own w' w.heap.size v ((l.drop p).take n) ∧ Below w.heap.size w w' := by
  rcases hs.lies with h0 | ⟨b, off, rfl, hb, hc⟩
  · rw [h0] at hp; simp at hp; omega
  have hcap := hs.le
  have hmax := hs.max
  have HL := hide (Lies.of_part (Lies.mk hc) p n)
  have hpl : ((l.drop p).take n).length = n := by simp; omega
  have HPl := hide hpl
  have hcc : ¬ cap = p := by omega
  unfold maxLen at hmax
  clear hs hc hpl
  go_enter Try.func22, Try.ntmps22
  go_wp2_with (at_builtin; refine wpList_append_bytes rfl _ _ 30 rfl Try.underlying30 info5 w.heap.size _ [] rfl (by exact Own.nil _ _) _ _ _ ((l.drop p).take n) rfl (by rw [HPl.out]; omega) (by exact HL.out) (by rw [HPl.out]; simp; omega) (by exact Nat.le_refl _) ?_; intro v4 w4 ho4 hg4)
  go_ret
  exact ⟨_, rfl, ho4, Own.behind (Own.nil _ _) (Below.refl _ _) hg4 (Nat.le_refl _)⟩

theorem tail_sl {w : World} {b o c n : Nat} {l : List Int} (h : Sl w (some ⟨b, o, none⟩) c l) : Lies w (some ⟨b, if c = n then o else o + n, none⟩) ((l.drop n).take (l.length - n)) := by
  have hl := h.le
  by_cases e : c = n
  · rw [if_pos e, List.drop_of_length_le (by omega)]
    exact Or.inl (by simp)
  · rw [if_neg e]
    exact Lies.of_part h.lies n _

theorem mod40 (x : Int) : ∃ n : Nat, n < 40 ∧ (IntKind.u64.wrap x).tmod 40 = (n : Int) := by
  have h0 : 0 ≤ IntKind.u64.wrap x := by rw [IntKind.wrap_u64]; omega
  have e : (IntKind.u64.wrap x).tmod 40 = (IntKind.u64.wrap x) % 40 := Int.tmod_eq_emod_of_nonneg h0
  rw [e]
  generalize IntKind.u64.wrap x = y at *
  exact ⟨(y % 40).toNat, by omega, by omega⟩

/-- The bytes that were written ahead, one by one. -/
structure Fre (D : List RD) (P : List Int) : Prop where
  has : ∀ j : Nat, (j : Int) ∈ P ↔ cov D j
  lim : ∀ x ∈ P, 0 ≤ x ∧ x < 18752

theorem Fre.more {D : List RD} {P : List Int} (h : Fre D P) (p : Nat) (ob : List Int) (hp : p + ob.length ≤ 18752) : Fre (D ++ [((p : Int), ob)]) (P ++ (List.range ob.length).map (fun i => ((p + i : Nat) : Int))) := by
  refine ⟨fun j => ?_, fun x hx => ?_⟩
  · rw [List.mem_append, h.has j]
    unfold cov
    simp only [List.mem_append, List.mem_singleton, or_and_right, exists_or, exists_eq_left, List.mem_map, List.mem_range, Int.toNat_natCast]
    constructor
    · rintro (h9 | ⟨i, h1, h2⟩)
      · exact Or.inl h9
      · exact Or.inr (by omega)
    · rintro (h9 | h9)
      · exact Or.inl h9
      · exact Or.inr ⟨j - p, by omega, by omega⟩
  · rcases List.mem_append.1 hx with hx | hx
    · exact h.lim x hx
    · obtain ⟨i, h1, rfl⟩ := List.mem_map.1 hx
      rw [List.mem_range] at h1
      omega

theorem secsP_ne (t m : Nat) : secsP t m ≠ [] ↔ 0 < m := by
  constructor
  · intro h
    rcases Nat.eq_zero_or_pos m with e | e
    · exact absurd (by unfold secsP; rw [if_pos e]) h
    · exact e
  · intro h e
    have : ((t / 512 : Nat) : Int) ∈ secsP t m := (secsP_mem t m _).2 ⟨t, by omega, by omega, rfl⟩
    rw [e] at this
    cases this

/-- Bytes of which some are put over by others'. -/
def mixL (S S' : List Int) (P : List Int) : List Int := (List.range S.length).map (fun j : Nat => if (j : Int) ∈ P then S'.getD j 0 else S.getD j 0)

theorem mixL_len (S S' P : List Int) : (mixL S S' P).length = S.length := by simp [mixL]
theorem mixL_get (S S' P : List Int) (j : Nat) (hj : j < S.length) : (mixL S S' P).getD j 0 = if (j : Int) ∈ P then S'.getD j 0 else S.getD j 0 := by
  unfold mixL
  rw [List.getD_eq_getElem?_getD, List.getElem?_map, List.getElem?_range hj]
  rfl

theorem mixL_nil (S S' : List Int) : mixL S S' [] = S := by
  refine ext_getD (mixL_len _ _ _) (fun j hj => ?_)
  rw [mixL_len] at hj
  rw [mixL_get _ _ _ _ hj, if_neg (by simp)]

theorem mixL_snoc (S S' P : List Int) (x : Nat) : (mixL S S' P).set x (S'.getD x 0) = mixL S S' (P ++ [(x : Int)]) := by
  refine ext_getD (by rw [List.length_set, mixL_len, mixL_len]) (fun j hj => ?_)
  rw [List.length_set, mixL_len] at hj
  rw [mixL_get _ _ _ _ hj, List.getD_eq_getElem?_getD, List.getElem?_set]
  by_cases e : x = j
  · subst e
    rw [if_pos rfl, if_pos (by rw [mixL_len]; exact hj), if_pos (by simp)]
    rfl
  · rw [if_neg e, ← List.getD_eq_getElem?_getD, mixL_get _ _ _ _ hj]
    have : (j : Int) ∈ P ++ [(x : Int)] ↔ (j : Int) ∈ P := by simp; omega
    simp only [this]

set_option maxRecDepth 100000 in
set_option maxHeartbeats 16000000 in
theorem txcrashes_walk (x c : Int) (hc : 0 ≤ c ∧ c < 256) (a : Option Addr) (cap : Nat) (R : List GOp) (o1 : Int) (ak : Option Addr) (ck : Nat) (kp : List Bool) (w : World) (h : Opr w a R) (hf : Fits R) (hR : R.length ≤ maxLen) (hkp : LiesB w ak kp) (hkl : kp.length ≤ maxLen) :
    Calls Try.prog 3 #[.agg #[.int .i64 x, .int .u8 c, .slice a R.length cap, .int .i64 o1, .slice ak kp.length ck]] w fun e w' => e = .returned (.bool true) ∧ Below w.heap.size w w' := by
  have hx0 := Blk.new w #[.int .i64 x, .int .u8 c, .slice a R.length cap, .int .i64 o1, .slice ak kp.length ck] 27
  have q0 := hx0.cell 0 _ rfl
  have q1 := hx0.cell 1 _ rfl
  have q2 := hx0.cell 2 _ rfl
  have q3 := hx0.cell 3 _ rfl
  have q4 := hx0.cell 4 _ rfl
  obtain ⟨W0, hW0⟩ : ∃ W0, W0 = ((w.alloc (.cells #[.int .i64 x, .int .u8 c, .slice a R.length cap, .int .i64 o1, .slice ak kp.length ck] 27)).alloc (.cells #[.int .i64 o1, .slice ak kp.length ck] 25)).drew := ⟨_, rfl⟩
  have hb0 : Below w.heap.size w W0 := by
    rw [hW0]
    have h1 := (Below.refl w.heap.size w).alloc (Nat.le_refl _) (.cells #[.int .i64 x, .int .u8 c, .slice a R.length cap, .int .i64 o1, .slice ak kp.length ck] 27)
    exact (h1.alloc h1.size _).drew
  have hX0 : Blk W0 (w.heap.size + 1) #[.int .i64 o1, .slice ak kp.length ck] 25 := by
    rw [hW0]
    have := Blk.new (w.alloc (.cells #[.int .i64 x, .int .u8 c, .slice a R.length cap, .int .i64 o1, .slice ak kp.length ck] 27)) #[.int .i64 o1, .slice ak kp.length ck] 25
    have e : (w.alloc (.cells #[.int .i64 x, .int .u8 c, .slice a R.length cap, .int .i64 o1, .slice ak kp.length ck] 27)).heap.size = w.heap.size + 1 := by simp
    rw [e] at this
    exact this.drew
  have HB0 := hide hb0
  have HX0 := hide hX0
  have HO := hide (h.below hb0)
  have HR := hide hR
  have HFt := hide hf
  have HKp := hide (hkp.below hb0)
  unfold maxLen at hkl
  clear h hR hf hkp hb0 hX0
  obtain ⟨N1, hN1⟩ : ∃ N1, N1 = w.heap.size + 1 := ⟨_, rfl⟩
  go_enter Try.func3, Try.ntmps3
  go_wp2_with fail
  go_region
  rw [← hW0, ← hN1]
  rw [← hN1] at HX0
  clear q0 q1 q2 q3 q4 hx0 hW0 hN1
  apply_assumption
  go_wp2_with fail
  refine (changed6 _).mono ?_
  rintro e9 w1 ⟨rfl, hb1⟩
  have HB1 := hide (HB0.out.trans (hb1.mono HB0.out.size))
  have HX1 := hide (HX0.out.below hb1)
  have HO1 := hide (HO.out.below hb1)
  have HKp1 := hide (HKp.out.below hb1)
  have HLi := hide (light6 w1 a cap R (HO.out.below hb1) HR.out)
  clear hb1 HB0 HX0 HO HKp
  go_wp2_with fail
  refine HLi.out.mono ?_
  rintro e9 w2 ⟨hb2, hcase⟩
  have HB2 := hide (HB1.out.trans (hb2.mono HB1.out.size))
  have HX2 := hide (HX1.out.below hb2)
  have HO2 := hide (HO1.out.below hb2)
  have HKp2 := hide (HKp1.out.below hb2)
  have k1 := HX2.out.cell 1 _ rfl
  clear hb2 HLi HB1 HX1 HO1 HKp1
  rcases hcase with rfl | ⟨rfl, hR25, hall⟩
  · go_wp2_with fail
    refine (changed6 _).mono ?_
    rintro e9 w5 ⟨rfl, hb5⟩
    have HB5 := hide (HB2.out.trans (hb5.mono HB2.out.size))
    clear hb5
    go_wp2_with fail
    go_ret
    exact ⟨rfl, HB5.out⟩
  by_cases hk3 : 300 < kp.length
  · go_wp2_with fail
    refine (changed6 _).mono ?_
    rintro e9 w5 ⟨rfl, hb5⟩
    have HB5 := hide (HB2.out.trans (hb5.mono HB2.out.size))
    clear hb5
    go_wp2_with fail
    go_ret
    exact ⟨rfl, HB5.out⟩
  have HAll := hide hall
  have HBs := hide (base_any w2 x c)
  clear hall
  go_wp2_with fail
  refine HBs.out.mono ?_
  rintro e9 w2b ⟨v2, S0, m0, rfl, ho2, hS0, hm0, _, hb2b⟩
  obtain ⟨hS0l, hS0v⟩ := hS0
  obtain ⟨a2, c2, rfl, hs2, _⟩ := ho2.sl
  have HLg := hide (longer6 a2 c2 S0 18752 w2b (by omega) (by omega) hs2 (by omega))
  rw [show ((18752 : Nat) : Int) = 18752 from rfl] at HLg
  have HS0v := hide hS0v
  have HB2b := hide hb2b
  have HS0l := hide hS0l
  have Hm0 := hide hm0
  clear k1 HBs ho2 hs2 hb2b hS0v hS0l hm0
  go_wp2_with fail
  refine HLg.out.mono ?_
  rintro e9 w3 ⟨a3, c3, S, rfl, hs3, hl3, hg3, hb3⟩
  have hS0l := HS0l.out
  have hm0 := Hm0.out
  have hSl : S.length = 18752 := by omega
  have hb23 : Below w2.heap.size w2 w3 := HB2b.out.trans (hb3.mono HB2b.out.size)
  have HB3 := hide (HB2.out.trans (hb23.mono HB2.out.size))
  have HX3 := hide (HX2.out.below hb23)
  have HO3 := hide (HO2.out.below hb23)
  have HKp3 := hide (HKp2.out.below hb23)
  have HSb : Hid (Byts S) := hide (fun i => by
    rw [hg3 i]
    by_cases hi : i < S0.length
    · rw [HS0v.out i hi]
      split <;> omega
    · rw [List.getD_eq_getElem?_getD, List.getElem?_eq_none (by omega)]
      simp)
  have HSz : Hid (∀ i, i < 10752 → S.getD i 0 = 0) := hide (fun i hi => by
    rw [hg3 i, HS0v.out i (by omega), if_neg (by omega)])
  have HS3 := hide hs3
  have HSl := hide hSl
  have HOp := hide (open6 w3 a3 c3 S hs3.lies (by omega) (by omega))
  clear hs3 hl3 hg3 hb3 hb23 HLg HS0v HB2b hS0l HB2 HX2 HO2 HKp2 hm0
  have hSb : 10752 ≤ S.length ∧ S.length ≤ 20000 := by omega
  clear hSl
  go_wp2_with fail
  refine HOp.out.mono ?_
  rintro e9 w4 ⟨F, J, f, X, rfl, hf4, hj4, hx4, hlo4, hjl4, hb4⟩
  have HB4 := hide hb4
  have HF4 := hide hf4
  have HJ4 := hide hj4
  have HX4 := hide hx4
  have HLo := hide hlo4
  have HBg := hide (begin_ok w4 J)
  have HXl := hide hf4.x
  have hjl := hj4.lt
  have hw34 := hb4.size
  clear hf4 hj4 hx4 hlo4 hb4 HOp
  go_wp2_with fail
  refine HBg.out.mono ?_
  rintro e9 w5 ⟨T, rfl, hT5, htx5, hb5⟩
  have hb35 : Below w3.heap.size w3 w5 := HB4.out.trans (hb5.mono HB4.out.size)
  have HP0 : Hid (Plk w3 w5 T J F X S 0 (.slice a3 S.length c3) S nobM nobM [] (.slice none 0 0) []) := hide
    ⟨⟨a3, c3, rfl, HS3.out.below hb35, fun x hx => by
        rcases HS3.out.lies with e | ⟨b9, o9, e, h2, _⟩
        · have := HSl.out; rw [e] at this; simp at this
        · rw [hx] at e
          cases e
          exact ⟨Nat.lt_of_lt_of_le h2 hb35.size, Or.inl h2⟩⟩, HSb.out, by rw [HSl.out]; omega, by rw [HSl.out]; omega, hb35, HLo.out, by omega, hjl4, fun _ => Z5_len,
     f, 2000000, 0, .map none, .map none, .slice none 0 0, ⟨htx5, ⟨Or.inl ⟨rfl, fun _ => rfl⟩, Or.inl ⟨rfl, fun _ => rfl⟩, fun _ => Z5_len, fun _ => Z5_len⟩, Or.inl ⟨rfl, rfl⟩, HJ4.out.below hb5, HF4.out.below hb5, fun e => by have := HXl.out T e; omega, HX4.out, fun r hr => (by rcases hr with h | h <;> cases h), (by omega)⟩, by omega, by omega, by simp, ⟨World.ownsRow_nil _ _ _ _, fun r hr => (by cases hr)⟩, fun g hg => by simp [Value.ownBlock] at hg, fun r hr => (by rcases hr with h | h <;> cases h), fun am cm e x hx hlo => ⟨by simp [Value.ownBlock], fun r hr => (by rcases hr with h | h <;> cases h)⟩, fun r hr => (by cases hr), World.ownsRow_nil _ _ _ _, fun i hi => by simp [Value.ownBlock] at hi⟩
  obtain ⟨i1, hi, hz0, hz1, hz2⟩ := info_parts info_int
  clear htx5 hb5 hb35 HBg
  go_wp2_with fail
  go_loopw [13, 14, 15, 16] (fun v vp sm i wr => ∃ (k : Nat) (Mm : List Int) (B M : Int → List Int) (L : List JR) (P Q : List Int) (b : Bool), k ≤ R.length ∧ i = .int .i64 (k : Int) ∧ sm = .bool b ∧ Plk w3 wr T J F X S k v Mm B M L vp P ∧ Mm.length = 18752 ∧ (∀ j, Mm.getD j 0 = seeT S B M j) ∧ Pur S B M (L.map JR.dat) Q ∧ Fre (L.map JR.dat) P ∧ (b = true → Q ≠ []) ∧ P.length ≤ 1500 * k) (fun _ _ _ i _ => R.length - (intOf i).toNat)
  case atStart => exact ⟨0, S, nobM, nobM, [], [], [], false, by omega, rfl, rfl, HP0.out, HSl.out, fun j => by unfold seeT; rw [nob_val], nob_pur S, ⟨fun j => ⟨fun h => (by cases h), fun ⟨r, hr, _⟩ => (by cases hr)⟩, fun x hx => (by cases hx)⟩, fun h => (by cases h), by simp⟩
  case round =>
    obtain ⟨k, Mm, B, M, L, P, Q, bs, hk, rfl, rfl, hply, hMl, hsee, hpur, hfre, hbq, hPk⟩ := hrel
    by_cases hlt : k < R.length
    · rcases HO3.out with h0 | ⟨b, off, rfl, hblt, hcc⟩
      · rw [h0] at hlt; simp at hlt
      obtain ⟨q0, q1, q2, q3, q4⟩ := hcc k hlt
      have hl15 := HAll.out k hlt
      have hfb : Byts (R.getD k GOp.nil).b := (HFt.out k hlt).2.2.2
      generalize R.getD k GOp.nil = o at *
      obtain ⟨ok, ot, on, oa, oc, ob⟩ := o
      dsimp only at *
      have HOb := hide q4
      have HObb : Hid (Byts ob) := hide hfb
      obtain ⟨am0, cm0, e0, _, _⟩ := hply.m
      subst e0
      have HMl := hide hMl
      have hlo5 := hply.lo
      have hhi5 := hply.hi
      clear hMl
      obtain ⟨f9, kk9, nn9, vb9, vm9, va9, _, _, _, _, _, _, _, _, _, ho9, _⟩ := hply.st
      obtain ⟨a3', c3', e3', _, _, _⟩ := rowN ho9
      subst e3'
      have r0 := (hply.bel.cell (p := ⟨b, off + k * 4, none⟩) hblt).trans q0
      have r1 := (hply.bel.cell (p := ⟨b, off + k * 4 + 1, none⟩) hblt).trans q1
      have r2 := (hply.bel.cell (p := ⟨b, off + k * 4 + 2, none⟩) hblt).trans q2
      have r3 := (hply.bel.cell (p := ⟨b, off + k * 4 + 3, none⟩) hblt).trans q3
      clear ho9
      go_wp2_with fail
      refine (place6 _ _ _ _ _).mono ?_
      rintro e9 w4' ⟨p, rfl, hp0, hp1, hp2, hb4⟩
      have hbw : b < wr.heap.size := Nat.lt_of_lt_of_le hblt hply.bel.size
      have t0 := (hb4.cell (p := ⟨b, off + k * 4, none⟩) hbw).trans r0
      have t3 := (hb4.cell (p := ⟨b, off + k * 4 + 3, none⟩) hbw).trans r3
      clear r0 r1 r2 r3
      have hpm : p + ob.length ≤ Mm.length := by have := HMl.out; omega
      by_cases hk1 : ok = 1
      · subst hk1
        as_aux_lemma =>
          have HPu := hide (plk_put (hply.below hb4) oa oc ob HOb.out.lies ⟨HOb.out.le, by have := HOb.out.max; unfold maxLen at this; omega⟩ p (by omega))
          have hml := hply.ml
          go_wp2_with fail
          refine HPu.out.mono ?_
          rintro e9 w5 ⟨rfl, B', M', hply5, hla5⟩
          have HPu5 : Hid (Pur S B' M' (L.map JR.dat) (Q ++ secsP p ob.length)) := hide (hpur.put_ hml hply5.ml hla5 hp0 (by omega))
          have HSe : Hid (∀ j, (over Mm p ob).getD j 0 = seeT S B' M' j) := hide (over_see hsee (fun _ => rfl) hpm hla5)
          have HFr5 := hide hfre
          have HBq := hide hbq
          have HPk : Hid (P.length ≤ 1500 * (k + 1)) := hide (by omega)
          have s3 := (hply5.bel.cell (p := ⟨b, off + k * 4 + 3, none⟩) hblt).trans q3
          obtain ⟨am, cm, e0', hs5, hx5⟩ := hply5.m
          simp only [Value.slice.injEq, true_and] at e0'
          obtain ⟨rfl, rfl⟩ := e0'
          have HWi := hide (With_any am0 cm0 Mm oa oc ob p w5 (by omega) (by omega) hpm hs5 (HOb.out.below hply5.bel))
          have HPl5 := hide hply5
          clear hply5 hla5 hs5 hx5 HPu hply hb4 hpur hsee hfre hbq hPk hml t0 t3
          cases bs
          · by_cases hl0 : 0 < ob.length
            · have hl1 : (0 : Int) < (ob.length : Int) := by omega
              as_aux_lemma =>
                go_wp2_with fail
                refine HWi.out.mono ?_
                rintro e9 w6 ⟨v6, rfl, ho6, hb6⟩
                have HPn : Hid (Plk w3 w6 T J F X S (k + 1) v6 (over Mm p ob) B' M' L (.slice a3' P.length c3') P) := hide (HPl5.out.new hb6 ho6 (over_byts6 hpm HPl5.out.by_ HObb.out) (by rw [over_length hpm]; omega) (by rw [over_length hpm]; omega))
                have HOl : Hid ((over Mm p ob).length = 18752) := hide (by rw [over_length hpm]; exact HMl.out)
                clear ho6 hb6 HWi
                go_wp2_with fail
                exact ⟨⟨k + 1, _, B', M', L, P, (Q ++ secsP p ob.length), true, by omega, by go_num, rfl, HPn.out, HOl.out, HSe.out, HPu5.out, HFr5.out, fun _ e => (secsP_ne p ob.length).2 hl0 (List.append_eq_nil_iff.1 e).2, HPk.out⟩, by simp [intOf]; omega⟩
            · have hl1 : ¬ (0 : Int) < (ob.length : Int) := by omega
              as_aux_lemma =>
                go_wp2_with fail
                refine HWi.out.mono ?_
                rintro e9 w6 ⟨v6, rfl, ho6, hb6⟩
                have HPn : Hid (Plk w3 w6 T J F X S (k + 1) v6 (over Mm p ob) B' M' L (.slice a3' P.length c3') P) := hide (HPl5.out.new hb6 ho6 (over_byts6 hpm HPl5.out.by_ HObb.out) (by rw [over_length hpm]; omega) (by rw [over_length hpm]; omega))
                have HOl : Hid ((over Mm p ob).length = 18752) := hide (by rw [over_length hpm]; exact HMl.out)
                clear ho6 hb6 HWi
                go_wp2_with fail
                exact ⟨⟨k + 1, _, B', M', L, P, (Q ++ secsP p ob.length), false, by omega, by go_num, rfl, HPn.out, HOl.out, HSe.out, HPu5.out, HFr5.out, fun e => (by cases e), HPk.out⟩, by simp [intOf]; omega⟩
          · as_aux_lemma =>
              go_wp2_with fail
              refine HWi.out.mono ?_
              rintro e9 w6 ⟨v6, rfl, ho6, hb6⟩
              have HPn : Hid (Plk w3 w6 T J F X S (k + 1) v6 (over Mm p ob) B' M' L (.slice a3' P.length c3') P) := hide (HPl5.out.new hb6 ho6 (over_byts6 hpm HPl5.out.by_ HObb.out) (by rw [over_length hpm]; omega) (by rw [over_length hpm]; omega))
              have HOl : Hid ((over Mm p ob).length = 18752) := hide (by rw [over_length hpm]; exact HMl.out)
              clear ho6 hb6 HWi
              go_wp2_with fail
              exact ⟨⟨k + 1, _, B', M', L, P, (Q ++ secsP p ob.length), true, by omega, by go_num, rfl, HPn.out, HOl.out, HSe.out, HPu5.out, HFr5.out, fun _ e => HBq.out (by trivial) (List.append_eq_nil_iff.1 e).1, HPk.out⟩, by simp [intOf]; omega⟩
      · by_cases hk2 : ok = 2
        · subst hk2
          as_aux_lemma =>
            have HFr := hide (plk_fresh (hply.below hb4) (by omega) oa oc ob HOb.out.lies ⟨HOb.out.le, by have := HOb.out.max; unfold maxLen at this; omega⟩ p (by omega) (hp2 rfl))
            have hml := hply.ml
            go_wp2_with fail
            refine HFr.out.mono ?_
            rintro e9 w5 ⟨rfl, B', M', L', hply5, hla5, hL5⟩
            have HPu5 : Hid (Pur S B' M' (L'.map JR.dat) Q) := hide (by
              rcases hL5 with ⟨h0, rfl⟩ | ⟨h0, aC, cC, rfl⟩
              · subst h0
                exact hpur.skip_ hml hply5.ml hla5 (by omega)
              · rw [List.map_append]
                show Pur S B' M' (L.map JR.dat ++ [((p : Int), ob)]) Q
                exact hpur.fresh_ hml hply5.ml hla5 hp0 (by omega) hl15 HObb.out)
            have HFr5 : Hid (Fre (L'.map JR.dat) (P ++ (List.range ob.length).map (fun i => ((p + i : Nat) : Int)))) := hide (by
              rcases hL5 with ⟨h0, rfl⟩ | ⟨h0, aC, cC, rfl⟩
              · subst h0
                simpa using hfre
              · rw [List.map_append]
                show Fre (L.map JR.dat ++ [((p : Int), ob)]) _
                exact hfre.more p ob (by omega))
            have HSe : Hid (∀ j, (over Mm p ob).getD j 0 = seeT S B' M' j) := hide (over_see hsee (fun _ => rfl) hpm hla5)
            have HBq := hide hbq
            have hPl0 : P.length ≤ 1500 * k := hPk
            have HPl5a := hide hply5
            clear hply5 hla5 hL5 HFr hply hb4 hpur hsee hfre hbq hPk hml t0 t3
            go_wp2_with fail
            obtain ⟨W2, hW2⟩ : ∃ W2, W2 = wr := ⟨_, rfl⟩
            subst hW2
            go_loopw [14, 18] (fun vp s wr => ∃ n : Nat, n ≤ ob.length ∧ s = .int .i64 (n : Int) ∧ Plk w3 wr T J F X S (k + 1) (.slice am0 Mm.length cm0) Mm B' M' L' vp (P ++ (List.range n).map (fun i => ((p + i : Nat) : Int)))) (fun _ s _ => ob.length - (intOf s).toNat)
            case atStart => exact ⟨0, by omega, rfl, by simpa using HPl5a.out⟩
            case round =>
              as_aux_lemma =>
                obtain ⟨n, hn, rfl, hpl⟩ := hrel
                have s3 := (hpl.bel.cell (p := ⟨b, off + k * 4 + 3, none⟩) hblt).trans q3
                have hbw5 : b < wr.heap.size := Nat.lt_of_lt_of_le hblt hpl.bel.size
                by_cases hlt2 : n < ob.length
                · have hP4 : (P ++ (List.range n).map (fun i => ((p + i : Nat) : Int))).length ≤ 100000 := by
                    rw [List.length_append, List.length_map, List.length_range]
                    omega
                  have HTk : Hid (P ++ (List.range (n + 1)).map (fun i => ((p + i : Nat) : Int)) = P ++ (List.range n).map (fun i => ((p + i : Nat) : Int)) ++ [((p + n : Nat) : Int)]) := hide (by
                    rw [List.range_succ, List.map_append, ← List.append_assoc]
                    rfl)
                  generalize hP' : P ++ (List.range n).map (fun i => ((p + i : Nat) : Int)) = P1 at *
                  obtain ⟨f8, kk8, nn8, vb8, vm8, va8, _, _, _, _, _, _, _, _, _, ho8, _⟩ := hpl.st
                  obtain ⟨a8, c8, rfl, _, hlc8, hcm8⟩ := rowN ho8
                  obtain ⟨z, hz⟩ : ∃ z : Nat, z = p + n := ⟨_, rfl⟩
                  rw [← hz] at HTk
                  have HPl := hide hpl
                  have HO4 : Hid ((wr.alloc (.cells #[.int .i64 (z : Int)] 3)).ownsRow w3.heap.size 3 1 (.slice a8 P1.length c8) P1.length (P1.map (Value.int .i64))) := hide (World.ownsRow.alloc ho8 _)
                  have HB4' : Hid (Below wr.heap.size wr (wr.alloc (.cells #[.int .i64 (z : Int)] 3))) := hide ((Below.refl _ _).alloc (Nat.le_refl _) _)
                  have HN4 := hide (new1X wr 3 (.int .i64 (z : Int)))
                  have hsz : w3.heap.size ≤ (wr.alloc (.cells #[.int .i64 (z : Int)] 3)).heap.size := Nat.le_trans hpl.bel.size HB4'.out.size
                  have hpn : (p : Int) + (n : Int) = (z : Int) := by omega
                  have hn2 : (n : Int) < (ob.length : Int) := by omega
                  have HLt2 := hide hlt2
                  clear hpl ho8 hn hlt2 hz hP'
                  go_wp2_with (at_builtin; refine wpList_append_own_at _ rfl (.tmp 122) (.tmp 126) 41 rfl w3.heap.size 3 i1 (.int .i64 0) 1 8 Try.underlying41 hi hz0 hz1 hz2 rfl (by decide) (.slice a8 P1.length c8) P1.length (P1.map (Value.int .i64)) rfl HO4.out ⟨wr.heap.size, 0, none⟩ 1 1 [.int .i64 (z : Int)] rfl rfl HN4.out (by simp [Value.oneCell']) (by unfold maxLen; omega) (by omega) hsz ?_; intro v5 w5 ho5 hg5 _ hw5; have HO5 := hide ho5; have HG5 := hide hg5; have HV5 := hide hw5; clear ho5 hg5 hw5)
                  refine ⟨⟨n + 1, HLt2.out, by go_num, ?_⟩, by have := HLt2.out; simp [intOf]; omega⟩
                  rw [HTk.out]
                  refine (HPl.out.below HB4'.out).grow HG5.out ?_ HV5.out
                  rw [List.map_append, List.length_append]
                  exact HO5.out
                · obtain rfl : n = ob.length := by omega
                  have hP4 : (P ++ (List.range ob.length).map (fun i => ((p + i : Nat) : Int))).length ≤ 1500 * (k + 1) := by
                    rw [List.length_append, List.length_map, List.length_range]
                    omega
                  have HPk := hide hP4
                  clear hP4
                  generalize P ++ (List.range ob.length).map (fun i => ((p + i : Nat) : Int)) = P5 at *
                  obtain ⟨f8, kk8, nn8, vb8, vm8, va8, _, _, _, _, _, _, _, _, _, ho8, _⟩ := hpl.st
                  obtain ⟨a8, c8, rfl, _, hlc8, hcm8⟩ := rowN ho8
                  obtain ⟨am, cm, e0', hs5, hx5⟩ := hpl.m
                  simp only [Value.slice.injEq, true_and] at e0'
                  obtain ⟨rfl, rfl⟩ := e0'
                  have HWi := hide (With_any am0 cm0 Mm oa oc ob p wr (by omega) (by omega) hpm hs5 (HOb.out.below hpl.bel))
                  have HPl5 := hide hpl
                  clear hpl ho8 hs5 hx5 hn hlt2
                  as_aux_lemma =>
                    go_wp2_with fail
                    refine HWi.out.mono ?_
                    rintro e9 w6 ⟨v6, rfl, ho6, hb6⟩
                    have HPn : Hid (Plk w3 w6 T J F X S (k + 1) v6 (over Mm p ob) B' M' L' (.slice a8 P5.length c8) P5) := hide (HPl5.out.new hb6 ho6 (over_byts6 hpm HPl5.out.by_ HObb.out) (by rw [over_length hpm]; omega) (by rw [over_length hpm]; omega))
                    have HOl : Hid ((over Mm p ob).length = 18752) := hide (by rw [over_length hpm]; exact HMl.out)
                    clear ho6 hb6 HWi
                    go_wp2_with fail
                    exact ⟨⟨k + 1, _, B', M', L', P5, Q, bs, by omega, by go_num, rfl, HPn.out, HOl.out, HSe.out, HPu5.out, HFr5.out, HBq.out, HPk.out⟩, by simp [intOf]; omega⟩
        · have hb1 : (ok == 1) = false := by simpa using hk1
          have hb2 : (ok == 2) = false := by simpa using hk2
          go_wp2_with fail
          exact ⟨⟨k + 1, Mm, B, M, L, P, Q, bs, by omega, by go_num, rfl, (hply.below hb4).more, HMl.out, hsee, hpur, hfre, hbq, by omega⟩, by simp [intOf]; omega⟩
    · obtain rfl : k = R.length := by omega
      as_aux_lemma =>
        have hml := hply.ml
        obtain ⟨f9, kk9, nn9, vb9, vm9, va9, hq, _, _, _, _, _, _, _, _, ho9, _⟩ := hply.st
        obtain ⟨a3', c3', e3', hlN, _, _⟩ := rowN ho9
        subst e3'
        obtain ⟨am, cm, e0, _, _⟩ := hply.m
        subst e0
        have HM := hide hpur.runs
        have HSi := hide (size_q wr T J vb9 vm9 va9 false B M hq.tx hq.ov hq.mm HM.out.1)
        have HRo := fun u (hu : Below wr.heap.size wr u) => hide (room_j u J F 512 10752 0 (hq.below hu).jr (by omega) (by omega))
        rw [show (((10752 : Nat) : Int) - (((512 : Nat) : Int) + 512)) = 9728 from rfl] at HRo
        obtain ⟨z, hz⟩ : ∃ z, z = sizeR (runsM M) := ⟨_, rfl⟩
        rw [← hz] at HSi
        have HzE := hide hz
        have HPl := hide hply
        have HSee := hide hsee
        have HPu := hide hpur
        have HFr := hide hfre
        have HBq := hide hbq
        have HMl := hide hMl
        have hmb : 10752 ≤ Mm.length ∧ Mm.length ≤ 20000 := ⟨hply.lo, hply.hi⟩
        clear hply hq hsee hpur hfre hbq ho9 hlN hz hml hMl
        go_wp2_with fail
        refine HSi.out.mono ?_
        rintro e9 w6 ⟨rfl, hb6⟩
        have HRo6 := HRo w6 hb6
        have HPl6 := hide (HPl.out.below hb6)
        clear hb6 HSi HRo HPl
        go_wp2_with fail
        refine HRo6.out.mono ?_
        rintro e9 w7 ⟨rfl, hb7⟩
        have HPl7 := hide (HPl6.out.below hb7)
        have HBw7 := hide (HB3.out.trans (HPl7.out.bel.mono HB3.out.size))
        clear hb7 HRo6 HPl6
        by_cases hzb : 9728 < z
        · go_wp2_with fail
          go_ret
          exact ⟨rfl, HBw7.out⟩
        cases bs
        · go_wp2_with fail
          go_ret
          exact ⟨rfl, HBw7.out⟩
        as_aux_lemma =>
          have HQn : Hid (Q ≠ []) := hide (HBq.out (by trivial))
          obtain ⟨n4, hn4, hke⟩ := mod40 o1
          have hXl3 := HX3.out
          have k0 := (HPl7.out.bel.cell (p := ⟨N1, 0, none⟩) hXl3.lt).trans (hXl3.cell 0 _ rfl)
          have HSt := hide (plk_stop HPl7.out (by omega) (1 + n4) (by omega) (by omega))
          rw [show ((1 + n4 : Nat) : Int) = 1 + (n4 : Int) by omega] at HSt
          clear hXl3 HBq
          go_wp2_with fail
          refine HSt.out.mono ?_
          rintro e9 w8 ⟨rfl, ⟨f8, nn8, vb8, vm8, aA, cA, hq8, hnn8, hLi8, hAp8⟩, hkeep⟩
          have HLl : Hid (L.length ≤ 50) := hide (by
            obtain ⟨_, _, _, _, _, _, _, _, _, h9, _⟩ := HPl7.out.st
            omega)
          have HCm := hide (commit_cut w8 T J F X f8 (1 + n4 - 1) nn8 vb8 vm8 aA cA hq8 hLi8 hAp8 HLl.out (by omega) HPu.out HQn.out HSl.out HSb.out (HSz.out 512 (by omega)) HPl7.out.by_ HSee.out (by rw [← HzE.out]; omega))
          have HKe := hide hkeep
          clear hq8 hLi8 hAp8 hkeep HSt k0
          go_wp2_with fail
          refine HCm.out.mono ?_
          rintro e9 w9 ⟨⟨c9, rfl⟩, hc9, X9, f9', A9, k9, n9, hf9, hn9, hcr⟩
          obtain ⟨hb39, ⟨am9, cm9, e9', hs9⟩, hrow9⟩ := HKe.out w9 hc9
          simp only [Value.slice.injEq, true_and] at e9'
          obtain ⟨rfl, rfl⟩ := e9'
          as_aux_lemma =>
            have hXl3 := HX3.out
            have k1 := (hb39.cell (p := ⟨N1, 1, none⟩) hXl3.lt).trans (hXl3.cell 1 _ rfl)
            have HCr := hide (crash_fl w9 X9 F f9' A9 k9 n9 hf9 hn9 ak ck kp (HKp3.out.below hb39))
            have HcR := hide (hcr kp)
            have HB39 := hide hb39
            have HS9 := hide hs9
            have HRow9 := hide hrow9
            clear hc9 hf9 hcr hb39 hs9 hrow9 HCm HKe hXl3
            go_wp2_with fail
            refine HCr.out.mono ?_
            rintro e9 w10 ⟨v10, rfl, ho10, hb10⟩
            have ho10' : Own w10 w9.heap.size v10 (crashD A9 kp) := ho10
            clear ho10 HCr k1
            obtain ⟨Rr, hRr⟩ : ∃ Rr, Rr = crashD A9 kp := ⟨_, rfl⟩
            rw [← hRr] at ho10' HcR
            clear hRr
            have hRl : 10752 ≤ Rr.length ∧ Rr.length ≤ 4194304 := by
              rcases HcR.out with h | h
              · have h1 := h.lo
                have h2 := h.hi
                have h3 := HPu.out.ends.1
                have h4 := HSl.out
                omega
              · have hby : ∀ i, 0 ≤ seeT S B M i ∧ seeT S B M i < 256 := fun i => by
                  rw [← HSee.out i]
                  exact HPl7.out.by_ i
                have hln2 : (lenD (recsM S B M) : Int) = sizeR (runsM M) := recs_len S B M (runsM M) (runsM_bd M)
                have h9 := HzE.out
                have g := HPu.out.giv HSl.out HSb.out (HSz.out 512 (by omega)) hby (by omega)
                exact ⟨(h.says g).1, (h.says g).2.1⟩
            as_aux_lemma =>
              obtain ⟨a10, c10, rfl, hsl10, _⟩ := ho10'.form
              have HOp := hide (open6 w10 a10 c10 Rr hsl10 hRl.2 hRl.1)
              have HB10 := hide (HB39.out.trans (hb10.mono HB39.out.size))
              have HS10 := hide (HS9.out.below hb10)
              have HRow10 : Hid (w10.ownsRow w3.heap.size 3 1 (.slice a3' P.length c3') P.length (P.map (Value.int .i64))) := hide (World.ownsRow.kept (row := none) HRow9.out ⟨hb10.os, hb10.tape, hb10.output, hb10.size, fun k hk _ => hb10.block k hk⟩ (by cases (Value.slice a3' P.length c3').ownBlock <;> simp))
              clear ho10' hsl10 hb10 HS9 HRow9
              go_wp2_with fail
              refine HOp.out.mono ?_
              rintro e9 w11 ⟨F2, J2, f2, X2, rfl, hf11, hj11, hx11, hlo11, hjl11, hb11⟩
              have HRp := hide (replay_out w11 J2 F2 0 X2 f2 2000000 0 Rr hj11 hf11 (by omega) (by omega) hx11 HPu.out HSl.out HSb.out (HSz.out 512 (by omega)) HPl7.out.by_ HSee.out (by
                have hln2 : (lenD (recsM S B M) : Int) = sizeR (runsM M) := recs_len S B M (runsM M) (runsM_bd M)
                have h9 := HzE.out
                omega) HcR.out)
              have HB11 := hide hb11
              have HLo11 := hide hlo11
              clear hf11 hj11 hx11 hlo11 hb11 HOp HcR
              go_wp2_with fail
              refine HRp.out.mono ?_
              rintro e9 w12 ⟨⟨c12, rfl⟩, X', f', k', n', S', hf12, hout, hby12, hc12⟩
              have HB12 : Hid (Below w10.heap.size w10 w12) := hide (HB11.out.trans (hc12.below _ HB11.out.size (fun i hi e => by
                rcases e with e | e
                · have := HLo11.out i e; omega
                · omega)))
              have HBy := hide (bytes_fl w12 X' F2 f' _ _ _ hf12)
              have HOut := hide hout
              have HBy12 := hide hby12
              clear hf12 hout hby12 hc12 HRp HB11 HLo11
              go_wp2_with fail
              refine HBy.out.mono ?_
              rintro e9 w13 ⟨v13, rfl, ho13, hb13⟩
              as_aux_lemma =>
                have ho13' : Own w13 w12.heap.size v13 S' := ho13
                have HB13 : Hid (Below w10.heap.size w10 w13) := hide (HB12.out.trans (hb13.mono HB12.out.size))
                have hSS : S'.length = S.length := HOut.out.1
                obtain ⟨an, cn, rfl, hsn, hgn⟩ := ho13'.sl
                obtain ⟨bn, rfl, hbn1, hbn2⟩ := hgn (fun e => by rw [e] at hSS; simp at hSS; omega)
                have HN := hide ho13'
                have hcn := hsn.le
                have hcnm := hsn.max
                unfold maxLen at hcnm
                have HSm := hide (HS10.out.below HB13.out)
                have HS3' : Hid (Sl w13 a3 c3 S) := hide (HS3.out.below (HB10.out.trans (HB13.out.mono HB10.out.size)))
                rcases HSm.out.lies with h0 | ⟨bm, om, rfl, hbm, hcmm⟩
                · rw [h0] at hmb; simp at hmb
                have hcm1 := HSm.out.le
                have hcm2 := HSm.out.max
                unfold maxLen at hcm2
                have HSS := hide hSS
                have HMm := hide hcmm
                rw [hSS] at HN hcn ⊢
                have hneq : ((S.length : Int) != (S.length : Int)) = false := by simp
                have HsN := hide hsn
                clear ho13 ho13' hsn hgn hb13 HBy hSS hcmm HB12
                have HEqD : Hid (((S'.drop 10752).take (S'.length - 10752)).length = S.length - 10752 ∧ ((Mm.drop 10752).take (Mm.length - 10752)).length = Mm.length - 10752 ∧ Byts ((S'.drop 10752).take (S'.length - 10752)) ∧ Byts ((Mm.drop 10752).take (Mm.length - 10752))) := hide (by
                  refine ⟨by rw [HSS.out]; simp; have := HSS.out; omega, by simp, fun i => ?_, fun i => ?_⟩
                  · rw [part_get]
                    split
                    · exact HBy12.out _
                    · omega
                  · rw [part_get]
                    split
                    · exact HPl7.out.by_ _
                    · omega)
                go_wp2_with fail
                as_aux_lemma =>
                  have hd13 : Below w13.heap.size w13 w13.drew := (Below.refl _ _).drew
                  have HT1 := hide (tail_sl (n := 10752) (HsN.out.below hd13))
                  have HT2 := hide (tail_sl (n := 10752) (HSm.out.below hd13))
                  obtain ⟨y1, hy1⟩ : ∃ y1 : Nat, y1 = if cn = 10752 then 0 else 0 + 10752 := ⟨_, rfl⟩
                  obtain ⟨y2, hy2⟩ : ∃ y2 : Nat, y2 = if cm = 10752 then om else om + 10752 := ⟨_, rfl⟩
                  rw [← hy1] at HT1
                  rw [← hy2] at HT2
                  have Hy1 := hide hy1
                  have Hy2 := hide hy2
                  clear hy1 hy2
                  refine wp_region_held_drew (S := (fun _ : World => True)) (by kernel_rfl) trivial (fun _ => ?_)
                  refine any_take 0 (some 180) (.slice (some ⟨bn, 0, none⟩) S.length cn) rfl rfl (by kernel_rfl) (by kernel_rfl) (by kernel_rfl) (fun _ _ _ h => h) (by rfl) trivial ?_ ?_
                  · intro u hSu
                    go_simp
                  simp only [Act.put, List.setIfInBounds_toArray, List.set_cons_zero, List.set_cons_succ]
                  refine any_take 1 (some 181) (.slice (some ⟨bn, y1, none⟩) (S.length - 10752) (cn - 10752)) rfl rfl (by kernel_rfl) (by kernel_rfl) (by kernel_rfl) (fun _ _ _ h => h) (by rfl) trivial ?_ ?_
                  · intro u hSu
                    have hyy := Hy1.out
                    rw [hyy]
                    clear hyy
                    by_cases hcc : cn = 10752
                    · rw [if_pos hcc]
                      obtain rfl : cn = 10752 := hcc
                      go_simp
                      try (intro h9; exfalso; omega)
                    · rw [if_neg hcc]
                      go_simp
                      try (intro h9; exfalso; omega)
                  simp only [Act.put, List.setIfInBounds_toArray, List.set_cons_zero, List.set_cons_succ]
                  refine any_take 2 (some 182) (.slice (some ⟨bm, om, none⟩) Mm.length cm) rfl rfl (by kernel_rfl) (by kernel_rfl) (by kernel_rfl) (fun _ _ _ h => h) (by rfl) trivial ?_ ?_
                  · intro u hSu
                    go_simp
                  simp only [Act.put, List.setIfInBounds_toArray, List.set_cons_zero, List.set_cons_succ]
                  refine any_take 3 (some 183) (.slice (some ⟨bm, y2, none⟩) (Mm.length - 10752) (cm - 10752)) rfl rfl (by kernel_rfl) (by kernel_rfl) (by kernel_rfl) (fun _ _ _ h => h) (by rfl) trivial ?_ ?_
                  · intro u hSu
                    have hyy := Hy2.out
                    rw [hyy]
                    clear hyy
                    by_cases hcc : cm = 10752
                    · rw [if_pos hcc]
                      obtain rfl : cm = 10752 := hcc
                      go_simp
                      try (intro h9; exfalso; omega)
                    · rw [if_neg hcc]
                      go_simp
                      try (intro h9; exfalso; omega)
                  simp only [Act.put, List.setIfInBounds_toArray, List.set_cons_zero, List.set_cons_succ]
                  refine wpAnyH_ready (rs := [4]) (by kernel_rfl) (by simp) ?_
                  refine AllReadyH.cons (i := 4) rfl (fun K hK => ?_) AllReadyH.nil
                  go_simp
                  have HSa := hide (Same_any _ _ (cn - 10752) (cm - 10752) _ _ w13.drew HT1.out HT2.out HEqD.out.2.2.1 HEqD.out.2.2.2)
                  rw [HEqD.out.1, HEqD.out.2.1] at HSa
                  refine HSa.out.mono ?_
                  rintro e9 w14 ⟨rfl, h14⟩
                  rw [h14]
                  clear h14
                  go_simp
                  refine hK.out _ _ trivial (fun _ => ?_)
                  clear hK K
                  try simp only [Act.put, List.setIfInBounds_toArray, List.set_cons_zero, List.set_cons_succ]
                  refine wpAnyH_done (by kernel_rfl) ?_ _
                  have HBf : Hid (Below w.heap.size w w13.drew) := hide ((HB3.out.trans ((HB10.out.trans (HB13.out.mono HB10.out.size)).mono HB3.out.size)).drew)
                  clear HSa HT1 HT2
                  apply_assumption
                  by_cases heq : (S'.drop 10752).take (S'.length - 10752) = (Mm.drop 10752).take (Mm.length - 10752)
                  · rw [decide_eq_true heq]
                    clear heq
                    go_wp2_with fail
                    go_ret
                    exact ⟨rfl, HBf.out⟩
                  rw [decide_eq_false heq]
                  as_aux_lemma =>
                    have HAlt : Hid (∀ i, 10752 ≤ i → ¬ cov (L.map JR.dat) i → S'.getD i 0 = S.getD i 0) := hide (by
                      rcases HOut.out.2 with h | h
                      · exact absurd (ext_drop (by rw [HSS.out, HSl.out, HMl.out]) (fun i h1 h2 => h i h1 (by have := HSS.out; have := HSl.out; omega))) heq
                      · exact h)
                    have HPt := hide (Part_in a3 c3 S 0 S.length w13.drew (by omega) (HS3'.out.below hd13) (by omega) (by omega))
                    rw [show ((0 : Nat) : Int) = 0 from rfl, List.drop_zero, List.take_length] at HPt
                    clear heq
                    go_wp2_with fail
                    refine HPt.out.mono ?_
                    rintro e9 w15 ⟨v15, rfl, ho15, hb15⟩
                    have hb15' : Below w13.heap.size w13 w15 := hd13.trans (hb15.mono hd13.size)
                    have ho15' : Own w15 w13.heap.size v15 S := ho15
                    obtain ⟨a15, c15, rfl, hs15, hg15⟩ := ho15'.sl
                    obtain ⟨g, rfl, hg1, hg2⟩ := hg15 (fun e => by rw [e] at hSb; simp at hSb)
                    have HO15 := hide ho15'
                    have HB15 := hide hb15'
                    have hc15 := hs15.le
                    have hc15m := hs15.max
                    unfold maxLen at hc15m
                    as_aux_lemma =>
                      obtain ⟨NS, hNS⟩ : ∃ NS, NS = S.length := ⟨_, rfl⟩
                      have HNS := hide hNS
                      rw [← hNS] at HO15 hc15 hcn hSb ⊢
                      clear ho15 ho15' hb15 hb15' hs15 hg15 HPt hneq hd13 hNS
                      go_wp2_with fail
                      go_loopw [25] (fun i wr => ∃ n : Nat, n ≤ P.length ∧ i = .int .i64 (n : Int) ∧ Own wr w13.heap.size (.slice (some ⟨g, 0, none⟩) NS c15) (mixL S S' (P.take n)) ∧ Below w13.heap.size w13 wr) (fun i _ => P.length - (intOf i).toNat)
                      case atStart => exact ⟨0, by omega, rfl, by rw [List.take_zero, mixL_nil]; exact HO15.out, HB15.out⟩
                      case round =>
                        as_aux_lemma =>
                          obtain ⟨n, hn, rfl, ho, hb⟩ := hrel
                          have HO := hide ho
                          have HB := hide hb
                          have HLm : Hid (NS = (mixL S S' (P.take n)).length) := hide (by rw [mixL_len]; exact HNS.out)
                          clear ho hb
                          by_cases hlt2 : n < P.length
                          · obtain ⟨aP, cP, eP, hlP, _, _⟩ := rowN HRow10.out
                            simp only [Value.slice.injEq, true_and] at eP
                            obtain ⟨rfl, rfl⟩ := eP
                            rcases hlP with h0 | ⟨bp, op, rfl, hbp, hcP⟩
                            · rw [h0] at hlt2; simp at hlt2
                            have hmem : P.getD n 0 ∈ P := by
                              have : P.getD n 0 = P[n] := by simp [hlt2]
                              rw [this]
                              exact List.getElem_mem _
                            have hxl := HFr.out.lim _ hmem
                            obtain ⟨xn, hxn⟩ := Int.eq_ofNat_of_zero_le hxl.1
                            have hb1013 := HB13.out
                            have hbp13 := Nat.lt_of_lt_of_le hbp hb1013.size
                            have cP13 := (hb1013.cell (p := ⟨bp, op + n, none⟩) hbp).trans (hcP n hlt2)
                            rw [hxn] at cP13 hxl
                            have cP0 := (HB.out.cell (p := ⟨bp, op + n, none⟩) hbp13).trans cP13
                            have hxs : xn < NS := by have := HNS.out; have := HSl.out; omega
                            have cN13 := HN.out.cell (by rw [HSS.out]) xn (by have := HNS.out; omega)
                            have cN0 := (HB.out.cell (p := ⟨bn, xn, none⟩) hbn2).trans cN13
                            have c0 := HO.out.cell HLm.out xn hxs
                            have f0 := HO.out.free HLm.out xn
                            obtain ⟨hs1, hs2⟩ := HO.out.set HLm.out xn (S'.getD xn 0)
                            rw [mixL_snoc] at hs1
                            have HTk : Hid (P.take (n + 1) = P.take n ++ [(xn : Int)]) := hide (by
                              rw [List.take_succ_eq_append_getElem hlt2, ← hxn]
                              simp [hlt2])
                            have HS1 := hide hs1
                            have HS2 : Hid (Below w13.heap.size w13 (wr.setCell ⟨g, xn, none⟩ (.int .u8 (S'.getD xn 0)))) := hide (HB.out.setCell (p := ⟨g, xn, none⟩) hg1 _)
                            have HLt2 := hide hlt2
                            have hxi : (xn : Int) < (NS : Int) := by omega
                            clear hs1 hs2 hcP hmem hxn hlt2 hxl
                            obtain ⟨y, hy⟩ : ∃ y, y = S'.getD xn 0 := ⟨_, rfl⟩
                            rw [← hy] at cN13 cN0 HS1 HS2
                            have HS1d := hide (HS1.out.below (Below.refl _ _).drew)
                            have HS2d := hide HS2.out.drew
                            have HcP := hide cP13
                            have HcN := hide cN13
                            clear hy HS1 HS2 cP13 cN13
                            go_wp2_with fail
                            have hS0 : (fun u : World => u.cell? ⟨bp, op + n, none⟩ = some (.int .i64 (xn : Int)) ∧ u.cell? ⟨bn, xn, none⟩ = some (.int .u8 y)) wr.drew := ⟨cP0, cN0⟩
                            have cst : wr.drew.cell? ⟨g, xn, none⟩ = _ := c0
                            have fst : wr.drew.frozen? ⟨g, xn, none⟩ = false := f0
                            refine wp_region_held_drew (S := (fun u : World => u.cell? ⟨bp, op + n, none⟩ = some (.int .i64 (xn : Int)) ∧ u.cell? ⟨bn, xn, none⟩ = some (.int .u8 y))) (by kernel_rfl) hS0 (fun _ => ?_)
                            clear cP0 cN0 c0 f0
                            refine any_take 0 (some 195) (.slice (some ⟨g, 0, none⟩) NS c15) rfl rfl (by kernel_rfl) (by kernel_rfl) (by kernel_rfl) (fun _ _ _ h => h) (by rfl) hS0 ?_ ?_
                            · intro u hSu
                              have hSu1 : u.cell? ⟨bp, op + n, none⟩ = some (.int .i64 (xn : Int)) := hSu.1
                              have hSu2 : u.cell? ⟨bn, xn, none⟩ = some (.int .u8 y) := hSu.2
                              clear hSu
                              go_simp
                            simp only [Act.put, List.setIfInBounds_toArray, List.set_cons_zero, List.set_cons_succ]
                            refine any_take 1 (some 196) (.slice (some ⟨bp, op, none⟩) P.length c3') rfl rfl (by kernel_rfl) (by kernel_rfl) (by kernel_rfl) (fun _ _ _ h => h) (by rfl) hS0 ?_ ?_
                            · intro u hSu
                              have hSu1 : u.cell? ⟨bp, op + n, none⟩ = some (.int .i64 (xn : Int)) := hSu.1
                              have hSu2 : u.cell? ⟨bn, xn, none⟩ = some (.int .u8 y) := hSu.2
                              clear hSu
                              go_simp
                            simp only [Act.put, List.setIfInBounds_toArray, List.set_cons_zero, List.set_cons_succ]
                            refine any_take 2 (some 197) (.int .i64 (n : Int)) rfl rfl (by kernel_rfl) (by kernel_rfl) (by kernel_rfl) (fun _ _ _ h => h) (by rfl) hS0 ?_ ?_
                            · intro u hSu
                              have hSu1 : u.cell? ⟨bp, op + n, none⟩ = some (.int .i64 (xn : Int)) := hSu.1
                              have hSu2 : u.cell? ⟨bn, xn, none⟩ = some (.int .u8 y) := hSu.2
                              clear hSu
                              go_simp
                            simp only [Act.put, List.setIfInBounds_toArray, List.set_cons_zero, List.set_cons_succ]
                            refine any_take 3 (some 198) (.pointer (some ⟨bp, op + n, none⟩)) rfl rfl (by kernel_rfl) (by kernel_rfl) (by kernel_rfl) (fun _ _ _ h => h) (by rfl) hS0 ?_ ?_
                            · intro u hSu
                              have hSu1 : u.cell? ⟨bp, op + n, none⟩ = some (.int .i64 (xn : Int)) := hSu.1
                              have hSu2 : u.cell? ⟨bn, xn, none⟩ = some (.int .u8 y) := hSu.2
                              clear hSu
                              go_simp
                            simp only [Act.put, List.setIfInBounds_toArray, List.set_cons_zero, List.set_cons_succ]
                            refine any_take 4 (some 199) (.int .i64 (xn : Int)) rfl rfl (by kernel_rfl) (by kernel_rfl) (by kernel_rfl) (fun _ _ _ h => h) (by rfl) hS0 ?_ ?_
                            · intro u hSu
                              have hSu1 : u.cell? ⟨bp, op + n, none⟩ = some (.int .i64 (xn : Int)) := hSu.1
                              have hSu2 : u.cell? ⟨bn, xn, none⟩ = some (.int .u8 y) := hSu.2
                              clear hSu
                              go_simp
                            simp only [Act.put, List.setIfInBounds_toArray, List.set_cons_zero, List.set_cons_succ]
                            refine any_take 5 (some 200) (.slice (some ⟨bn, 0, none⟩) NS cn) rfl rfl (by kernel_rfl) (by kernel_rfl) (by kernel_rfl) (fun _ _ _ h => h) (by rfl) hS0 ?_ ?_
                            · intro u hSu
                              have hSu1 : u.cell? ⟨bp, op + n, none⟩ = some (.int .i64 (xn : Int)) := hSu.1
                              have hSu2 : u.cell? ⟨bn, xn, none⟩ = some (.int .u8 y) := hSu.2
                              clear hSu
                              go_simp
                            simp only [Act.put, List.setIfInBounds_toArray, List.set_cons_zero, List.set_cons_succ]
                            refine any_take 6 (some 201) (.slice (some ⟨bp, op, none⟩) P.length c3') rfl rfl (by kernel_rfl) (by kernel_rfl) (by kernel_rfl) (fun _ _ _ h => h) (by rfl) hS0 ?_ ?_
                            · intro u hSu
                              have hSu1 : u.cell? ⟨bp, op + n, none⟩ = some (.int .i64 (xn : Int)) := hSu.1
                              have hSu2 : u.cell? ⟨bn, xn, none⟩ = some (.int .u8 y) := hSu.2
                              clear hSu
                              go_simp
                            simp only [Act.put, List.setIfInBounds_toArray, List.set_cons_zero, List.set_cons_succ]
                            refine any_take 7 (some 202) (.int .i64 (n : Int)) rfl rfl (by kernel_rfl) (by kernel_rfl) (by kernel_rfl) (fun _ _ _ h => h) (by rfl) hS0 ?_ ?_
                            · intro u hSu
                              have hSu1 : u.cell? ⟨bp, op + n, none⟩ = some (.int .i64 (xn : Int)) := hSu.1
                              have hSu2 : u.cell? ⟨bn, xn, none⟩ = some (.int .u8 y) := hSu.2
                              clear hSu
                              go_simp
                            simp only [Act.put, List.setIfInBounds_toArray, List.set_cons_zero, List.set_cons_succ]
                            refine any_take 8 (some 203) (.pointer (some ⟨bp, op + n, none⟩)) rfl rfl (by kernel_rfl) (by kernel_rfl) (by kernel_rfl) (fun _ _ _ h => h) (by rfl) hS0 ?_ ?_
                            · intro u hSu
                              have hSu1 : u.cell? ⟨bp, op + n, none⟩ = some (.int .i64 (xn : Int)) := hSu.1
                              have hSu2 : u.cell? ⟨bn, xn, none⟩ = some (.int .u8 y) := hSu.2
                              clear hSu
                              go_simp
                            simp only [Act.put, List.setIfInBounds_toArray, List.set_cons_zero, List.set_cons_succ]
                            refine any_take 9 (some 204) (.int .i64 (xn : Int)) rfl rfl (by kernel_rfl) (by kernel_rfl) (by kernel_rfl) (fun _ _ _ h => h) (by rfl) hS0 ?_ ?_
                            · intro u hSu
                              have hSu1 : u.cell? ⟨bp, op + n, none⟩ = some (.int .i64 (xn : Int)) := hSu.1
                              have hSu2 : u.cell? ⟨bn, xn, none⟩ = some (.int .u8 y) := hSu.2
                              clear hSu
                              go_simp
                            simp only [Act.put, List.setIfInBounds_toArray, List.set_cons_zero, List.set_cons_succ]
                            refine any_take 10 (some 205) (.pointer (some ⟨bn, xn, none⟩)) rfl rfl (by kernel_rfl) (by kernel_rfl) (by kernel_rfl) (fun _ _ _ h => h) (by rfl) hS0 ?_ ?_
                            · intro u hSu
                              have hSu1 : u.cell? ⟨bp, op + n, none⟩ = some (.int .i64 (xn : Int)) := hSu.1
                              have hSu2 : u.cell? ⟨bn, xn, none⟩ = some (.int .u8 y) := hSu.2
                              clear hSu
                              go_simp
                            simp only [Act.put, List.setIfInBounds_toArray, List.set_cons_zero, List.set_cons_succ]
                            refine any_take 11 (some 206) (.int .u8 y) rfl rfl (by kernel_rfl) (by kernel_rfl) (by kernel_rfl) (fun _ _ _ h => h) (by rfl) hS0 ?_ ?_
                            · intro u hSu
                              have hSu1 : u.cell? ⟨bp, op + n, none⟩ = some (.int .i64 (xn : Int)) := hSu.1
                              have hSu2 : u.cell? ⟨bn, xn, none⟩ = some (.int .u8 y) := hSu.2
                              clear hSu
                              go_simp
                            simp only [Act.put, List.setIfInBounds_toArray, List.set_cons_zero, List.set_cons_succ]
                            refine any_take 12 (some 207) (.pointer (some ⟨g, xn, none⟩)) rfl rfl (by kernel_rfl) (by kernel_rfl) (by kernel_rfl) (fun _ _ _ h => h) (by rfl) hS0 ?_ ?_
                            · intro u hSu
                              have hSu1 : u.cell? ⟨bp, op + n, none⟩ = some (.int .i64 (xn : Int)) := hSu.1
                              have hSu2 : u.cell? ⟨bn, xn, none⟩ = some (.int .u8 y) := hSu.2
                              clear hSu
                              go_simp
                            simp only [Act.put, List.setIfInBounds_toArray, List.set_cons_zero, List.set_cons_succ]
                            as_aux_lemma =>
                              refine wpAnyH_ready (rs := [13]) (by kernel_rfl) (by simp) ?_
                              refine AllReadyH.cons (i := 13) rfl (fun K hK => ?_) AllReadyH.nil
                              have cs2 := cst
                              have fs2 := fst
                              go_simp
                              refine hK.out _ _ ?_ (fun _ => ?_)
                              · exact ⟨(HS2d.out.cell (p := ⟨bp, op + n, none⟩) hbp13).trans HcP.out, (HS2d.out.cell (p := ⟨bn, xn, none⟩) hbn2).trans HcN.out⟩
                              clear hK K cs2 fs2
                              try simp only [Act.put, List.setIfInBounds_toArray, List.set_cons_zero, List.set_cons_succ]
                              refine wpAnyH_done (by kernel_rfl) ?_ _
                              clear hS0 cst fst
                              generalize (wr.setCell ⟨g, xn, none⟩ (.int .u8 y)).drew = wz at *
                              apply_assumption
                              go_wp2_with fail
                              exact ⟨⟨n + 1, HLt2.out, by go_num, by rw [HTk.out]; exact HS1d.out, HS2d.out⟩, by have := HLt2.out; simp [intOf]; omega⟩
                          · obtain rfl : n = P.length := by omega
                            have hdr : Below wr.heap.size wr wr.drew := (Below.refl _ _).drew
                            have HO' : Hid (Own wr w13.heap.size (.slice (some ⟨g, 0, none⟩) NS c15) (mixL S S' P)) := hide (by have := HO.out; rwa [List.take_length] at this)
                            obtain ⟨a16, c16, e16, hs16, _⟩ := HO'.out.sl
                            have e16' : a16 = some ⟨g, 0, none⟩ ∧ c16 = c15 := by
                              simp only [Value.slice.injEq] at e16
                              exact ⟨e16.1.symm, e16.2.2.symm⟩
                            obtain ⟨rfl, rfl⟩ := e16'
                            have HsN2 : Hid (Sl wr.drew (some ⟨bn, 0, none⟩) cn S') := hide ((HsN.out.below HB.out).below hdr)
                            have HT1 := hide (tail_sl (n := 10752) HsN2.out)
                            have HT2 := hide (tail_sl (n := 10752) (hs16.below hdr))
                            obtain ⟨y3, hy3⟩ : ∃ y3 : Nat, y3 = if cn = 10752 then 0 else 0 + 10752 := ⟨_, rfl⟩
                            obtain ⟨y4, hy4⟩ : ∃ y4 : Nat, y4 = if c16 = 10752 then 0 else 0 + 10752 := ⟨_, rfl⟩
                            rw [← hy3] at HT1
                            rw [← hy4] at HT2
                            have Hy3 := hide hy3
                            have Hy4 := hide hy4
                            have HEq : Hid ((S'.drop 10752).take (S'.length - 10752) = ((mixL S S' P).drop 10752).take ((mixL S S' P).length - 10752)) := hide (ext_drop (by rw [mixL_len]; exact HSS.out) (fun i h1 h2 => by
                              rw [HSS.out] at h2
                              rw [mixL_get _ _ _ _ h2]
                              split
                              · rfl
                              · next h9 => exact HAlt.out i h1 (fun e => h9 ((HFr.out.has i).2 e))))
                            have HBm : Hid (Byts (((mixL S S' P).drop 10752).take ((mixL S S' P).length - 10752))) := hide (by rw [← HEq.out]; exact HEqD.out.2.2.1)
                            have Hl1 : Hid (((S'.drop 10752).take (S'.length - 10752)).length = NS - 10752) := hide (by rw [HNS.out]; exact HEqD.out.1)
                            have Hl2 : Hid ((((mixL S S' P).drop 10752).take ((mixL S S' P).length - 10752)).length = NS - 10752) := hide (by rw [← HEq.out]; exact Hl1.out)
                            have HBf2 : Hid (Below w.heap.size w wr.drew) := hide ((HB3.out.trans ((HB10.out.trans ((HB13.out.trans (HB.out.mono HB13.out.size)).mono HB10.out.size)).mono HB3.out.size)).drew)
                            clear hs16 hy3 hy4 e16 hlt2 hn
                            go_wp2_with fail
                            refine wp_region_held_drew (S := (fun _ : World => True)) (by kernel_rfl) trivial (fun _ => ?_)
                            refine any_take 0 (some 208) (.slice (some ⟨bn, 0, none⟩) NS cn) rfl rfl (by kernel_rfl) (by kernel_rfl) (by kernel_rfl) (fun _ _ _ h => h) (by rfl) trivial ?_ ?_
                            · intro u hSu
                              go_simp
                            simp only [Act.put, List.setIfInBounds_toArray, List.set_cons_zero, List.set_cons_succ]
                            refine any_take 1 (some 209) (.slice (some ⟨bn, y3, none⟩) (NS - 10752) (cn - 10752)) rfl rfl (by kernel_rfl) (by kernel_rfl) (by kernel_rfl) (fun _ _ _ h => h) (by rfl) trivial ?_ ?_
                            · intro u hSu
                              have hyy := Hy3.out
                              rw [hyy]
                              clear hyy
                              by_cases hcc : cn = 10752
                              · rw [if_pos hcc]
                                obtain rfl : cn = 10752 := hcc
                                go_simp
                                try (intro h9; exfalso; omega)
                              · rw [if_neg hcc]
                                go_simp
                                try (intro h9; exfalso; omega)
                            simp only [Act.put, List.setIfInBounds_toArray, List.set_cons_zero, List.set_cons_succ]
                            refine any_take 2 (some 210) (.slice (some ⟨g, 0, none⟩) NS c16) rfl rfl (by kernel_rfl) (by kernel_rfl) (by kernel_rfl) (fun _ _ _ h => h) (by rfl) trivial ?_ ?_
                            · intro u hSu
                              go_simp
                            simp only [Act.put, List.setIfInBounds_toArray, List.set_cons_zero, List.set_cons_succ]
                            refine any_take 3 (some 211) (.slice (some ⟨g, y4, none⟩) (NS - 10752) (c16 - 10752)) rfl rfl (by kernel_rfl) (by kernel_rfl) (by kernel_rfl) (fun _ _ _ h => h) (by rfl) trivial ?_ ?_
                            · intro u hSu
                              have hyy := Hy4.out
                              rw [hyy]
                              clear hyy
                              by_cases hcc : c16 = 10752
                              · rw [if_pos hcc]
                                obtain rfl : c16 = 10752 := hcc
                                go_simp
                                try (intro h9; exfalso; omega)
                              · rw [if_neg hcc]
                                go_simp
                                try (intro h9; exfalso; omega)
                            simp only [Act.put, List.setIfInBounds_toArray, List.set_cons_zero, List.set_cons_succ]
                            refine wpAnyH_ready (rs := [4]) (by kernel_rfl) (by simp) ?_
                            refine AllReadyH.cons (i := 4) rfl (fun K hK => ?_) AllReadyH.nil
                            go_simp
                            have HSa := hide (Same_any _ _ (cn - 10752) (c16 - 10752) _ _ wr.drew HT1.out HT2.out HEqD.out.2.2.1 HBm.out)
                            rw [decide_eq_true HEq.out, Hl1.out, Hl2.out] at HSa
                            refine HSa.out.mono ?_
                            rintro e9 w17 ⟨rfl, h17⟩
                            rw [h17]
                            clear h17
                            go_simp
                            refine hK.out _ _ trivial (fun _ => ?_)
                            clear hK K
                            try simp only [Act.put, List.setIfInBounds_toArray, List.set_cons_zero, List.set_cons_succ]
                            refine any_take 5 (some 2) (.bool true) rfl rfl (by kernel_rfl) (by kernel_rfl) (by kernel_rfl) (fun _ _ _ h => h) (by rfl) trivial ?_ ?_
                            · intro u hSu
                              go_simp
                            simp only [Act.put, List.setIfInBounds_toArray, List.set_cons_zero, List.set_cons_succ]
                            refine wpAnyH_done (by kernel_rfl) ?_ _
                            apply_assumption
                            go_wp2_with fail
                            go_ret
                            exact ⟨rfl, HBf2.out⟩

theorem arr5c {cs : Array Value} (h : cs.size = 5) : ∃ c0 c1 c2 c3 c4, cs = #[c0, c1, c2, c3, c4] := by
  obtain ⟨l⟩ := cs
  match l, h with
  | [a, b, c, d, e], _ => exact ⟨a, b, c, d, e, rfl⟩

theorem cellsC6 : Try.prog.cellsOf 27 = 5 := by kernel_rfl
theorem cellsCut6 : Try.prog.cellsOf 25 = 2 := by kernel_rfl
theorem cellsU8 : Try.prog.cellsOf 5 = 1 := by kernel_rfl
theorem cellsOs6 : Try.prog.cellsOf 22 = 1 := by kernel_rfl
theorem cellsBs6 : Try.prog.cellsOf 23 = 1 := by kernel_rfl

set_option maxRecDepth 100000 in
theorem open_case6 {H : Type} {enc : TypeId × Value → H} {W : World} {base : Nat} {v : Value} {d : DataW H} {p : List MemPlace}
    (hv : Value.okWide Try.prog W .any base 27 v) (h : DataW.Trod enc Try.prog W 0 (fun _ => true) true 27 v d p) :
    ∃ (x c : Int) (a : Option Addr) (cap : Nat) (R : List GOp) (o : Int) (ak : Option Addr) (ck : Nat) (kp : List Bool), v = .agg #[.int .i64 x, .int .u8 c, .slice a R.length cap, .int .i64 o, .slice ak kp.length ck] ∧ (0 ≤ c ∧ c < 256) ∧ Opr W a R ∧ Fits R ∧ R.length ≤ maxLen ∧ LiesB W ak kp ∧ kp.length ≤ maxLen := by
  obtain ⟨cs, rfl, hsz⟩ := okWide_struct Try.underlying27 hv
  obtain ⟨c0, c1, c2, c3, c4, rfl⟩ := arr5c (hsz.trans cellsC6)
  obtain ⟨fuel, hf⟩ := h
  obtain ⟨xs, n, _, hx, _, hlen, hall⟩ := DataW.trod_struct Try.underlying27 hf
  match xs, hlen with
  | [y0, y1, y2, y3], _ =>
    have h0 := hall 0 _ rfl
    have h1 := hall 1 _ rfl
    have h2 := hall 2 _ rfl
    have h3 := hall 3 _ rfl
    simp [Value.cells, cells3, cellsU8, cellsOs6, cellsCut6] at h0 h1 h2 h3
    obtain ⟨ys, n2, _, _, _, hlen2, hall2⟩ := DataW.trod_struct Try.underlying25 h3
    match ys, hlen2 with
    | [z0, z1], _ =>
      have g0 := hall2 0 _ rfl
      have g1 := hall2 1 _ rfl
      simp [cells3, cellsBs6] at g0 g1
      obtain ⟨x0, q0, _, w0⟩ := DataW.trod_int Try.underlying3 h0
      obtain ⟨x1, q1, _, w1⟩ := DataW.trod_int Try.underlying5 h1
      obtain ⟨a2, k2, l2, q2, hn2, hf2, ho2⟩ := open_ops_trod h2
      obtain ⟨x3, q3, _, w3⟩ := DataW.trod_int Try.underlying3 g0
      obtain ⟨a4, k4, l4, q4, hn4, hl4⟩ := open_bools_trod g1
      simp at q0 q1 q3
      subst q0 q1 q2 q3 q4
      exact ⟨x0, x1, a2, k2, l2, x3, a4, k4, l4, rfl, wf_byte w1, ho2, hf2, hn2, hl4, hn4⟩

set_option maxRecDepth 100000 in
theorem txCrashes_lifted (os : Os) (started : os.Started) (H : Type) (enc : TypeId × Value → H) :
    ReturnsInHanded {} Try.checked os 3 .any (Rows.txCrashesSpec.pre6 enc Try.prog Try.f3 Rows.txCrashesRow.domain false) (Rows.txCrashesSpec.post enc Try.prog Try.f3 false true false false) := by
  refine returnsInHanded_of_change (C := Try.checked) own started (by kernel_rfl) Try.func3
    (ChangeSpec.witness6 (enc := enc) (C := Try.checked) false ⟨#[], #[.agg #[.int .i64 0, .int .u8 0, .slice none 0 0, .int .i64 0, .slice none 0 0]], []⟩ 8 (by kernel_rfl) (by kernel_rfl) (by kernel_rfl) (by kernel_rfl)) ?_
  intro W base args ds gs before hval0 hW _ _
  have hval : ∀ (j : Nat) t v, Try.f3.params[j]? = some t → args[j]? = some v → Value.okWide Try.prog W .any base t v := hval0
  have hW' := hW
  obtain ⟨p, q, hA0, hV, rfl, hfz, hnd⟩ := hW
  have hA : DataW.TrodAll enc Try.prog W 0 (fun _ => true) true Try.f3.params.toList args.toList ds p := hA0
  rw [Try.params3] at hA hval
  obtain ⟨v0, vs0, d0, ds0, p0, q0, hargs0, rfl, rfl, h0, r0⟩ := trodAll_cons hA
  obtain ⟨rfl, rfl, rfl⟩ := trodAll_nil r0
  obtain rfl : args = #[v0] := by cases args; simp_all
  obtain ⟨rfl, rfl⟩ := trodVars_none hV
  simp only [List.append_nil] at hW'
  have hlt0 : ∀ x ∈ p0, x.block < W.heap.size := fun x hx => by simpa using hW'.lt x (by simp [hx])
  obtain ⟨x0, y0, a0, cap0, l0, o0, ak0, ck0, kp0, rfl, hy0, ho0, hf0, hn0, hk0, hkl0⟩ := open_case6 (hval 0 27 v0 rfl rfl) h0
  clear hA0
  refine (txcrashes_walk x0 y0 hy0 a0 cap0 l0 o0 ak0 ck0 kp0 W ho0 hf0 hn0 hk0 hkl0).mono fun e W' ⟨he, hb⟩ => ?_
  subst he
  refine ⟨_, rfl, _, _, _, [], (p0 ++ []), [], hW', ?_, ?_, rfl, hb.frame _, fun h => by cases h⟩
  · exact trodAll_cons_mk (shut_bool Try.underlying4 _) trodAll_mk0
  · exact trodAll_cons_mk (Below.trod laidOut (by kernel_rfl) (of_decide_eq_true (by kernel_rfl)) h0 hb hlt0) (trodAll_mk0)

theorem txCrashes_holds : Rows.TxCrashesSaid :=
  OpenClaim.holds_of_wide 3 Try.f3 rfl rfl rfl rfl rfl rfl rfl ⟨rfl, rfl, rfl, rfl, rfl⟩ rfl rfl rfl rfl rfl (by kernel_rfl) Try.func3 (by kernel_rfl)
    (of_decide_eq_true (by kernel_rfl)) (by unfold Func.isWrapper; first | (rw [if_pos (by decide +kernel)]; kernel_rfl) | (rw [if_neg (by decide +kernel)]; exact ⟨rfl, rfl⟩))
    (fun os started H enc _ => txCrashes_lifted os started H enc)
end Go.Proofs.Ytkhknfohcebicaa.Oct
