/- What commits, one behind the other, make of a file, and what a crash leaves of the last of them: no program. -/
import Derived.Test.YtibkhgmmjhlpmaaGreatPJroJpdJrp
import Derived.Test.YtibkhgmmjhlpmaaGreatPJlaJflJfmJfr
import Derived.Test.YtibkhgmmjhlpmaaGreatPTyvTykTym
namespace Go.Proofs.YtibkhgmmjhlpmaaGreat.Oct
open Go.RowKit

def JR.fit (r : JR) : Prop := (-9223372036854775808 ≤ r.at_ ∧ r.at_ ≤ 9223372036854775807) ∧ Byts r.b

/-- Does a record write a byte? -/
def cov (D : List RD) (i : Nat) : Prop := ∃ r ∈ D, r.1.toNat ≤ i ∧ i < r.1.toNat + r.2.length

/-- Where the last of the records ends. -/
def endD : List RD → Nat
  | [] => 0
  | r :: D => max (if r.2 = [] then 0 else r.1.toNat + r.2.length) (endD D)

theorem putS_out (D : List RD) : ∀ (S : List Int) (i : Nat), ¬ cov D i → (putS S D).getD i 0 = S.getD i 0 := by
  induction D with
  | nil => intro S i _; rfl
  | cons r D ih =>
    intro S i h
    rw [putS, ih _ i (fun ⟨x, hx, h1⟩ => h ⟨x, List.mem_cons_of_mem _ hx, h1⟩), wr_get, if_neg (fun h1 => h ⟨r, List.mem_cons_self .., h1⟩)]

theorem putS_in (D : List RD) : ∀ (S S' : List Int) (i : Nat), cov D i → (putS S D).getD i 0 = (putS S' D).getD i 0 := by
  induction D with
  | nil => intro S S' i ⟨r, hr, _⟩; cases hr
  | cons r D ih =>
    intro S S' i h
    rw [putS, putS]
    by_cases h2 : cov D i
    · exact ih _ _ i h2
    · rw [putS_out D _ i h2, putS_out D _ i h2]
      obtain ⟨x, hx, h1⟩ := h
      rcases List.mem_cons.1 hx with rfl | hx
      · rw [wr_get, wr_get, if_pos h1, if_pos h1]
      · exact absurd ⟨x, hx, h1⟩ h2

theorem putS_len (D : List RD) : ∀ (S : List Int), (putS S D).length = max S.length (endD D) := by
  induction D with
  | nil => intro S; simp [putS, endD]
  | cons r D ih =>
    intro S
    rw [putS, ih, wr_len, endD]
    split <;> omega

/-- The same as another, but for bytes that the records write. -/
structure Like (D : List RD) (S S' : List Int) : Prop where
  out : ∀ i, ¬ cov D i → S'.getD i 0 = S.getD i 0
  lo : S.length ≤ S'.length
  hi : S'.length ≤ max S.length (endD D)
  by_ : Byts S'

theorem Like.refl (D : List RD) {S : List Int} (h : Byts S) : Like D S S := ⟨fun _ _ => rfl, Nat.le_refl _, by omega, h⟩

theorem Like.trans {D : List RD} {S S' S'' : List Int} (h : Like D S S') (h' : Like D S' S'') : Like D S S'' :=
  ⟨fun i hi => (h'.out i hi).trans (h.out i hi), Nat.le_trans h.lo h'.lo, by have := h.hi; have := h'.hi; omega, h'.by_⟩

theorem Like.put {D : List RD} {S S' : List Int} (h : Like D S S') : putS S' D = putS S D := by
  have h1 := h.lo
  have h2 := h.hi
  refine ext_getD (by rw [putS_len, putS_len]; omega) (fun i _ => ?_)
  by_cases hc : cov D i
  · exact putS_in D _ _ i hc
  · rw [putS_out D _ i hc, putS_out D _ i hc, h.out i hc]

theorem Like.app {D : List RD} {S S' : List Int} (h : Like D S S') (p : Nat) : appS S' p D = appS S p D := by
  unfold appS
  rw [h.put]

theorem cuts_mem (n : Nat) : ∀ (t : Nat) (b : List Int), b.length ≤ n → ∀ d ∈ cuts t b, d.2.2 = false ∧ t ≤ d.1 ∧ d.1 + d.2.1.length ≤ t + b.length ∧ d.2.1 ≠ [] ∧ (Byts b → Byts d.2.1) := by
  induction n with
  | zero =>
    intro t b hb d hd
    have : b = [] := List.length_eq_zero_iff.1 (by omega)
    subst this
    rw [cuts_nil] at hd
    cases hd
  | succ n ih =>
    intro t b hb d hd
    by_cases h0 : b = []
    · subst h0
      rw [cuts_nil] at hd
      cases hd
    · have hl := List.length_pos_iff.2 h0
      rw [cuts, if_neg h0] at hd
      generalize hm : min (512 - t % 512) b.length = m at hd
      have hm1 : 1 ≤ m := by omega
      have hm2 : m ≤ b.length := by omega
      rcases List.mem_cons.1 hd with rfl | hd
      · refine ⟨rfl, Nat.le_refl _, by simp; omega, fun e => ?_, fun h => h.take m⟩
        have := congrArg List.length e
        rw [List.length_take, List.length_nil] at this
        omega
      · obtain ⟨h1, h2, h3, h4, h5⟩ := ih (t + m) (b.drop m) (by simp; omega) d hd
        refine ⟨h1, by omega, ?_, h4, fun h => h5 (h.drop m)⟩
        simp at h3
        omega

/-- Writes of bytes that the records write. -/
def Wri (D : List RD) (W : List (Nat × List Int × Bool)) : Prop := ∀ d ∈ W, d.2.2 = false ∧ (∀ i, d.1 ≤ i → i < d.1 + d.2.1.length → cov D i) ∧ d.1 + d.2.1.length ≤ endD D ∧ Byts d.2.1

def recW (D : List RD) : List (Nat × List Int × Bool) := D.flatMap (fun r => cuts r.1.toNat r.2)

theorem endD_mem {D : List RD} {r : RD} (h : r ∈ D) (hn : r.2 ≠ []) : r.1.toNat + r.2.length ≤ endD D := by
  induction D with
  | nil => cases h
  | cons x D ih =>
    rw [endD]
    rcases List.mem_cons.1 h with rfl | h
    · rw [if_neg hn]; omega
    · have := ih h; omega

theorem recW_wri {D E : List RD} (hs : ∀ r ∈ E, r ∈ D) (hb : ∀ r ∈ D, Byts r.2) : Wri D (recW E) := by
  intro d hd
  obtain ⟨r, hr, h⟩ := List.mem_flatMap.1 hd
  obtain ⟨h1, h2, h3, h4, h5⟩ := cuts_mem _ _ _ (Nat.le_refl _) d h
  have hne : r.2 ≠ [] := fun e => by
    rw [e, cuts_nil] at h
    cases h
  have := endD_mem (hs r hr) hne
  exact ⟨h1, fun i hi hj => ⟨r, hs r hr, by omega, by omega⟩, by omega, h5 (hb r (hs r hr))⟩

theorem laidD_byts {p : Nat} {b l : List Int} (hb : Byts b) (hl : Byts l) : Byts (laidD (p, b, false) l) := fun i => by
  rw [laidD_get]
  split
  · exact hb _
  · exact hl _

theorem left_like {D : List RD} {W : List (Nat × List Int × Bool)} (hW : Wri D W) (S : List Int) (hS : Byts S) (kp : List Bool) : ∀ j, j ≤ W.length → Like D S (leftD S W kp j)
  | 0, _ => Like.refl D hS
  | j + 1, hj => by
    have ih := left_like hW S hS kp j (by omega)
    rw [leftD]
    split
    · have hd : W.getD j (0, [], false) ∈ W := by
        have : W.getD j (0, [], false) = W[j] := by simp [show j < W.length by omega]
        rw [this]
        exact List.getElem_mem _
      obtain ⟨h1, h2, h3, h4⟩ := hW _ hd
      generalize W.getD j (0, [], false) = d at *
      obtain ⟨t, b, c⟩ := d
      simp only at *
      subst h1
      refine ⟨fun i hi => ?_, ?_, ?_, laidD_byts h4 ih.by_⟩
      · rw [laidD_get, if_neg (fun h => hi (h2 i h.1 h.2)), ih.out i hi]
      · rw [laidD_length]
        have := ih.lo
        omega
      · rw [laidD_length]
        have := ih.hi
        omega
    · exact ih

theorem doRecs' (D : List RD) : ∀ (A : A3), doAll (recO D) A = ⟨putS A.S D, A.T, A.D ++ recW D⟩ := by
  induction D with
  | nil => intro A; simp [recO, doAll, putS, recW]
  | cons r D ih =>
    intro A
    have h := ih ((AO.wr r.1.toNat r.2).on A)
    rw [show recO (r :: D) = AO.wr r.1.toNat r.2 :: recO D from rfl]
    rw [show doAll (AO.wr r.1.toNat r.2 :: recO D) A = doAll (recO D) ((AO.wr r.1.toNat r.2).on A) from rfl, h]
    simp [AO.on, putS, recW]

theorem recW_laid (D : List RD) : ∀ S, laidsD S (recW D) = putS S D := by
  induction D with
  | nil => intro S; rfl
  | cons r D ih =>
    intro S
    rw [show recW (r :: D) = cuts r.1.toNat r.2 ++ recW D from rfl, laidsD_append, ih, putS]

theorem cuts_one {p : Nat} {b : List Int} (hp : p % 512 = 0) (hb : b.length = 512) : cuts p b = [(p, b, false)] := by
  have h0 : b ≠ [] := fun e => by rw [e] at hb; simp at hb
  rw [cuts, if_neg h0, hp, hb]
  simp
  rw [List.drop_of_length_le (by omega), List.take_of_length_le (by omega), cuts_nil]
  simp

/-- What a crash leaves. -/
def crashD (A : A3) (kp : List Bool) : List Int := leftD A.T A.D kp A.D.length

/-- WHEREVER AN APPLY IS CUT OFF, whatever is kept: only bytes of the records have changed, or all is done and the sign is gone. -/
theorem crash_app {D : List RD} {S : List Int} {p : Nat} (hp : p % 512 = 0) (hS : Byts S) (hD : ∀ r ∈ D, Byts r.2) (k : Nat) (kp : List Bool) :
    Like D S (crashD (doAll ((appO p D).take k) ⟨S, S, []⟩) kp) ∨ crashD (doAll ((appO p D).take k) ⟨S, S, []⟩) kp = appS S p D := by
  have hput : Like D S (putS S D) := by
    refine ⟨putS_out D S, by rw [putS_len]; omega, by rw [putS_len]; omega, ?_⟩
    have h := left_like (recW_wri (fun r h => h) hD) S hS (List.replicate (recW D).length true) (recW D).length (Nat.le_refl _)
    have e : ∀ (W : List (Nat × List Int × Bool)) (T : List Int) (j : Nat), j ≤ W.length → leftD T W (List.replicate W.length true) j = laidsD T (W.take j) := by
      intro W T j
      induction j with
      | zero => intro _; rfl
      | succ j ih =>
        intro hj
        rw [leftD, if_pos (by simp [show j < W.length by omega]), ih (by omega), take_get W j (by omega) (0, [], false), laidsD_append]
        rfl
    rw [e _ _ _ (Nat.le_refl _), List.take_length, recW_laid] at h
    exact h.by_
  have hlen : (recO D).length = D.length := by simp [recO]
  by_cases h1 : k ≤ D.length
  · left
    have e : (appO p D).take k = recO (D.take k) := by
      unfold appO
      rw [List.take_append_of_le_length (by omega)]
      simp [recO, List.map_take]
    rw [e, doRecs']
    exact left_like (recW_wri (fun r h => List.mem_of_mem_take h) hD) S hS kp _ (by simp)
  · have e0 : (appO p D).take k = recO D ++ ([AO.fl] ++ clrO p).take (k - D.length) := by
      unfold appO
      rw [List.take_append, hlen, List.take_of_length_le (by omega)]
    have e1 : doAll (recO D ++ [AO.fl]) ⟨S, S, []⟩ = ⟨putS S D, putS S D, []⟩ := by
      rw [doAll_append, doRecs']
      simp [doAll, AO.on, recW_laid]
    rw [e0]
    match hk : k - D.length with
    | 0 => omega
    | 1 =>
      left
      rw [show ([AO.fl] ++ clrO p).take 1 = [AO.fl] from rfl, e1]
      exact hput
    | 2 =>
      rw [show ([AO.fl] ++ clrO p).take 2 = [AO.fl] ++ [AO.wr p Z512] from rfl, ← List.append_assoc, doAll_append, e1]
      simp only [doAll, List.foldl_cons, List.foldl_nil, AO.on, crashD, cuts_one hp Z512_len, List.nil_append, List.length_singleton, leftD]
      split
      · right
        unfold appS
        rw [cuts_one hp Z512_len]
        rfl
      · left
        exact hput
    | j + 3 =>
      right
      rw [show ([AO.fl] ++ clrO p).take (j + 3) = [AO.fl] ++ clrO p from by simp [clrO], show recO D ++ ([AO.fl] ++ clrO p) = appO p D from rfl, app_state]
      rfl
end Go.Proofs.YtibkhgmmjhlpmaaGreat.Oct

namespace Go.Proofs.YtibkhgmmjhlpmaaGreat.Oct
open Go.RowKit Go.Deep Go.Sort

/-- What is written ahead, as operations. -/
def ahdO (D : List RD) : List AO := if D = [] then [] else recO D ++ [.fl]

theorem ahd_state (S : List Int) (D : List RD) : doAll (ahdO D) ⟨S, S, []⟩ = ⟨putS S D, putS S D, []⟩ := by
  unfold ahdO
  split
  · next h => subst h; rfl
  · obtain ⟨E, h1, h2⟩ := doRecs D ⟨S, S, []⟩
    rw [doAll_append, h1]
    simp [doAll, AO.on, h2]

/-- The bytes behind a commit's own operations. -/
def txS (S : List Int) (p : Nat) (nu : Int) (D : List RD) : List Int := if D = [] then S else appS (comS S p nu D) p D

theorem tx_state (S : List Int) (p : Nat) (nu : Int) (D : List RD) : doAll (txO p nu D) ⟨S, S, []⟩ = ⟨txS S p nu D, txS S p nu D, []⟩ := by
  unfold txO txS
  split
  · rfl
  · rw [doAll_append, com_state, app_state]

/-- Records that all say the same of each byte. -/
theorem putS_by (g : Nat → Int) : ∀ (D : List RD), (∀ r ∈ D, ∀ j, j < r.2.length → r.2.getD j 0 = g (r.1.toNat + j)) → ∀ (S : List Int) (i : Nat), cov D i → (putS S D).getD i 0 = g i
  | [], _, S, i, ⟨r, hr, _⟩ => by cases hr
  | r :: D, h, S, i, hc => by
    rw [putS]
    by_cases h2 : cov D i
    · exact putS_by g D (fun x hx => h x (List.mem_cons_of_mem _ hx)) _ i h2
    · rw [putS_out D _ i h2]
      obtain ⟨x, hx, h1⟩ := hc
      rcases List.mem_cons.1 hx with rfl | hx
      · rw [wr_get, if_pos h1, h x (List.mem_cons_self ..) _ (by omega)]
        congr 1
        omega
      · exact absurd ⟨x, hx, h1⟩ h2

def covE (O : List (Int × Int)) (i : Int) : Prop := ∃ r ∈ O, r.1 ≤ i ∧ i < r.2

theorem lastO (O : List (Int × Int)) (h : O ≠ []) : ∃ O' x, O = O' ++ [x] := by
  rcases List.eq_nil_or_concat O with h0 | ⟨O', x, h1⟩
  · exact absurd h0 h
  · exact ⟨O', x, by simpa using h1⟩

theorem runS_nil (s : Int) : runS [] s = [(s * 512, s * 512 + 512)] := by simp [runS]

theorem runS_yes (O : List (Int × Int)) (a s : Int) : runS (O ++ [(a, s * 512)]) s = O ++ [(a, s * 512 + 512)] := by
  unfold runS
  rw [if_pos ⟨by simp, by simp⟩]
  simp

theorem runS_no (O : List (Int × Int)) (a b s : Int) (h : b ≠ s * 512) : runS (O ++ [(a, b)]) s = O ++ [(a, b)] ++ [(s * 512, s * 512 + 512)] := by
  unfold runS
  rw [if_neg (fun e => h (by simpa using e.2))]

/-- The three ways a sector goes behind the runs. -/
theorem runS_ways (O : List (Int × Int)) (s : Int) : (O = [] ∧ runS O s = [(s * 512, s * 512 + 512)]) ∨ (∃ O' a, O = O' ++ [(a, s * 512)] ∧ runS O s = O' ++ [(a, s * 512 + 512)]) ∨ (∃ O' a b, O = O' ++ [(a, b)] ∧ b ≠ s * 512 ∧ runS O s = O' ++ [(a, b)] ++ [(s * 512, s * 512 + 512)]) := by
  by_cases h : O = []
  · subst h
    exact Or.inl ⟨rfl, runS_nil s⟩
  · obtain ⟨O', ⟨a, b⟩, rfl⟩ := lastO O h
    by_cases hb : b = s * 512
    · subst hb
      exact Or.inr (Or.inl ⟨O', a, rfl, runS_yes O' a s⟩)
    · exact Or.inr (Or.inr ⟨O', a, b, rfl, hb, runS_no O' a b s hb⟩)

theorem runS_cov (O : List (Int × Int)) (s i : Int) (hO : ∀ r ∈ O, r.1 ≤ r.2) : covE (runS O s) i ↔ covE O i ∨ (s * 512 ≤ i ∧ i < s * 512 + 512) := by
  rcases runS_ways O s with ⟨rfl, e⟩ | ⟨O', a, rfl, e⟩ | ⟨O', a, b, rfl, hb, e⟩
  · rw [e]
    unfold covE
    simp
  · have := hO (a, s * 512) (by simp)
    rw [e]
    unfold covE
    simp only [List.mem_append, List.mem_singleton, or_and_right, exists_or, exists_eq_left]
    simp only at this
    constructor
    · rintro (h | h)
      · exact Or.inl (Or.inl h)
      · by_cases h9 : i < s * 512
        · exact Or.inl (Or.inr ⟨h.1, h9⟩)
        · exact Or.inr ⟨by omega, h.2⟩
    · rintro ((h | h) | h)
      · exact Or.inl h
      · exact Or.inr ⟨h.1, by omega⟩
      · exact Or.inr ⟨by omega, h.2⟩
  · rw [e]
    unfold covE
    simp only [List.mem_append, List.mem_singleton, or_and_right, exists_or, exists_eq_left]

theorem runS_ok (O : List (Int × Int)) (s : Int) (hO : ∀ r ∈ O, r.1 ≤ r.2) : ∀ r ∈ runS O s, r.1 ≤ r.2 := by
  rcases runS_ways O s with ⟨rfl, e⟩ | ⟨O', a, rfl, e⟩ | ⟨O', a, b, rfl, hb, e⟩
  · rw [e]
    intro r hr
    simp only [List.mem_singleton] at hr
    subst hr
    simp only
    omega
  · rw [e]
    intro r hr
    rcases List.mem_append.1 hr with h | h
    · exact hO r (List.mem_append_left _ h)
    · simp only [List.mem_singleton] at h
      subst h
      have := hO (a, s * 512) (by simp)
      simp only at this ⊢
      omega
  · rw [e]
    intro r hr
    rcases List.mem_append.1 hr with h | h
    · exact hO r h
    · simp only [List.mem_singleton] at h
      subst h
      simp only
      omega

theorem runs_cov : ∀ (K : List Int) (O : List (Int × Int)), (∀ r ∈ O, r.1 ≤ r.2) → ∀ i, covE (K.foldl runS O) i ↔ covE O i ∨ ∃ s ∈ K, s * 512 ≤ i ∧ i < s * 512 + 512
  | [], O, _, i => by simp
  | s :: K, O, hO, i => by
    rw [List.foldl_cons, runs_cov K (runS O s) (runS_ok O s hO) i, runS_cov O s i hO]
    simp only [List.mem_cons, or_and_right, exists_or, exists_eq_left]
    constructor
    · rintro ((h | h) | h)
      · exact Or.inl h
      · exact Or.inr (Or.inl h)
      · exact Or.inr (Or.inr h)
    · rintro (h | h | h)
      · exact Or.inl (Or.inl h)
      · exact Or.inl (Or.inr h)
      · exact Or.inr h

theorem runsM_cov (M : Int → List Int) (i : Nat) : covE (runsM M) i ↔ i < 4194304 ∧ 2 ∈ M ((i / 512 : Nat) : Int) := by
  unfold runsM runsL
  rw [runs_cov _ _ (fun r hr => by cases hr)]
  constructor
  · rintro (⟨r, hr, _⟩ | ⟨s, hs, h1, h2⟩)
    · cases hr
    · obtain ⟨h3, h4⟩ := (secsM_mem M s).1 hs
      have e : s = ((i / 512 : Nat) : Int) := by omega
      rw [← e]
      exact ⟨by omega, h4⟩
  · rintro ⟨h1, h2⟩
    exact Or.inr ⟨_, (secsM_mem M _).2 ⟨by omega, h2⟩, by omega, by omega⟩

theorem recs_cov (S : List Int) (B M : Int → List Int) (i : Nat) : cov (recsM S B M) i ↔ i < 4194304 ∧ 2 ∈ M ((i / 512 : Nat) : Int) := by
  rw [← runsM_cov]
  unfold cov recsM covE
  have hbd := runsM_bd M
  constructor
  · rintro ⟨r, hr, h1, h2⟩
    obtain ⟨x, hx, rfl⟩ := List.mem_map.1 hr
    have hb := hbd x hx
    rw [recD_len] at h2
    have e : (recD S B M x).1 = x.1 := rfl
    rw [e] at h1 h2
    exact ⟨x, hx, by omega, by omega⟩
  · rintro ⟨x, hx, h1, h2⟩
    have hb := hbd x hx
    refine ⟨recD S B M x, List.mem_map_of_mem hx, ?_, ?_⟩
    · have e : (recD S B M x).1 = x.1 := rfl
      rw [e]
      omega
    · rw [recD_len]
      have e : (recD S B M x).1 = x.1 := rfl
      rw [e]
      omega

theorem recs_by (S : List Int) (B M : Int → List Int) : ∀ r ∈ recsM S B M, ∀ j, j < r.2.length → r.2.getD j 0 = seeT S B M (r.1.toNat + j) := by
  intro r hr j hj
  obtain ⟨x, hx, rfl⟩ := List.mem_map.1 hr
  rw [recD_len] at hj
  show ((List.range (x.2 - x.1).toNat).map (fun i => seeT S B M (x.1.toNat + i))).getD j 0 = _
  rw [List.getD_eq_getElem?_getD, List.getElem?_map, List.getElem?_range hj]
  rfl

/-- What was written ahead is what the changes show, where no byte of a sector was put. -/
def AhdOk (S : List Int) (D : List RD) (B M : Int → List Int) : Prop := ∀ i : Nat, ¬ 2 ∈ M ((i / 512 : Nat) : Int) → (putS S D).getD i 0 = seeT S B M i

theorem putS_snoc (D : List RD) (r : RD) : ∀ S, putS S (D ++ [r]) = laidsD (putS S D) (cuts r.1.toNat r.2) := by
  induction D with
  | nil => intro S; rfl
  | cons x D ih =>
    intro S
    rw [List.cons_append, putS, ih, putS]

/-- Behind a commit all bytes are what the changes showed. -/
theorem txS_get (S : List Int) (D : List RD) (B M : Int → List Int) (p q : Nat) (nu : Int) (hah : AhdOk S D B M) (hroom : p + 512 + lenD (recsM S B M) ≤ q) (i : Nat) (hi : q ≤ i) (hi2 : i < 4194304) : (txS (putS S D) p nu (recsM S B M)).getD i 0 = seeT S B M i := by
  unfold txS
  by_cases hc : cov (recsM S B M) i
  · rw [if_neg (fun e => by rw [e] at hc; obtain ⟨r, hr, _⟩ := hc; cases hr), appS_get, if_neg (by omega)]
    exact putS_by _ _ (recs_by S B M) _ i hc
  · have h2 : ¬ 2 ∈ M ((i / 512 : Nat) : Int) := fun e => hc ((recs_cov S B M i).2 ⟨hi2, e⟩)
    split
    · exact hah i h2
    · rw [appS_get, if_neg (by omega), putS_out _ _ i hc, comS_get, if_neg (by omega), if_neg (by omega)]
      exact hah i h2

/-- No mark above 2. -/
def Mk2 (M : Int → List Int) : Prop := ∀ q, mkT M q ≤ 2

theorem Mk2.laid {B M B' M' : Int → List Int} {t m : Nat} {pl : List Int} {by_ : Int} (h : Mk2 M) (hb : by_ ≤ 2) (hl : Laid B M B' M' t m pl by_) : Mk2 M' := fun q => by
  rw [hl.2.1 q]
  have := h q
  split <;> omega

theorem mem_mk {M : Int → List Int} (hl : ∀ s, (M s).length = 512) (n : Nat) : 2 ∈ M (n : Int) ↔ ∃ q, q / 512 = n ∧ mkT M q = 2 := by
  rw [mem2 (hl _)]
  constructor
  · rintro ⟨j, hj, h⟩
    exact ⟨512 * n + j, by omega, h⟩
  · rintro ⟨q, hq, h⟩
    exact ⟨q % 512, by omega, by rw [show 512 * n + q % 512 = q by omega]; exact h⟩

theorem laid_two {B M B' M' : Int → List Int} {t m : Nat} {pl : List Int} (hl : ∀ s, (M s).length = 512) (hl' : ∀ s, (M' s).length = 512) (h2 : Mk2 M) (h : Laid B M B' M' t m pl 2) (n : Nat) : 2 ∈ M' (n : Int) ↔ 2 ∈ M (n : Int) ∨ ∃ q, t ≤ q ∧ q < t + m ∧ q / 512 = n := by
  rw [mem_mk hl', mem_mk hl]
  constructor
  · rintro ⟨q, hq, e⟩
    rw [h.2.1 q] at e
    by_cases hc : t ≤ q ∧ q < t + m
    · exact Or.inr ⟨q, hc.1, hc.2, hq⟩
    · rw [if_neg hc] at e
      exact Or.inl ⟨q, hq, e⟩
  · rintro (⟨q, hq, e⟩ | ⟨q, h3, h4, hq⟩)
    · refine ⟨q, hq, ?_⟩
      rw [h.2.1 q, e]
      split <;> simp
    · refine ⟨q, hq, ?_⟩
      rw [h.2.1 q, if_pos ⟨h3, h4⟩]
      have := h2 q
      omega

theorem laid_one {B M B' M' : Int → List Int} {t m : Nat} {pl : List Int} (hl : ∀ s, (M s).length = 512) (hl' : ∀ s, (M' s).length = 512) (h : Laid B M B' M' t m pl 1) (n : Nat) : 2 ∈ M' (n : Int) ↔ 2 ∈ M (n : Int) := by
  rw [mem_mk hl', mem_mk hl]
  have e : ∀ q, mkT M' q = 2 ↔ mkT M q = 2 := fun q => by
    rw [h.2.1 q]
    split <;> omega
  simp only [e]

theorem see_laid {S : List Int} {B M B' M' : Int → List Int} {t m : Nat} {pl : List Int} {by_ : Int} (h : Laid B M B' M' t m pl by_) (i : Nat) : seeT S B' M' i = if t ≤ i ∧ i < t + m then pl.getD (i - t) 0 else seeT S B M i := h.1 i _

theorem AhdOk.put {S : List Int} {D : List RD} {B M B' M' : Int → List Int} {t m : Nat} {pl : List Int} (hl : ∀ s, (M s).length = 512) (hl' : ∀ s, (M' s).length = 512) (h2 : Mk2 M) (h : AhdOk S D B M) (hla : Laid B M B' M' t m pl 2) : AhdOk S D B' M' := fun i hi => by
  have hn : ¬ (2 ∈ M ((i / 512 : Nat) : Int) ∨ ∃ q, t ≤ q ∧ q < t + m ∧ q / 512 = i / 512) := fun e => hi ((laid_two hl hl' h2 hla _).2 e)
  rw [see_laid hla, if_neg (fun e => hn (Or.inr ⟨i, e.1, e.2, rfl⟩))]
  exact h i (fun e => hn (Or.inl e))

theorem AhdOk.fresh {S : List Int} {D : List RD} {B M B' M' : Int → List Int} {t : Nat} {pl : List Int} (hl : ∀ s, (M s).length = 512) (hl' : ∀ s, (M' s).length = 512) (h : AhdOk S D B M) (hla : Laid B M B' M' t pl.length pl 1) : AhdOk S (D ++ [((t : Int), pl)]) B' M' := fun i hi => by
  rw [putS_snoc, wr_get, see_laid hla]
  simp only [Int.toNat_natCast]
  by_cases hc : t ≤ i ∧ i < t + pl.length
  · rw [if_pos hc, if_pos hc]
  · rw [if_neg hc, if_neg hc]
    exact h i (fun e => hi ((laid_one hl hl' hla _).2 e))

theorem AhdOk.skip {S : List Int} {D : List RD} {B M B' M' : Int → List Int} {t : Nat} {by_ : Int} (hl : ∀ s, (M s).length = 512) (hl' : ∀ s, (M' s).length = 512) (h : AhdOk S D B M) (hla : Laid B M B' M' t 0 [] by_) : AhdOk S D B' M' := fun i hi => by
  rw [see_laid hla, if_neg (by omega)]
  refine h i (fun e => hi ?_)
  rw [mem_mk hl'] 
  rw [mem_mk hl] at e
  obtain ⟨q, hq, e⟩ := e
  exact ⟨q, hq, by rw [hla.2.1 q, if_neg (by omega)]; exact e⟩

/-- How many bytes sectors take in the journal. -/
def needN (P : Int → Bool) : Nat → Int
  | 0 => 0
  | n + 1 => needN P n + (if P n then 512 else 0) + (if P n && !P ((n : Int) - 1) then 12 else 0)

def secsN (M : Int → List Int) (n : Nat) : List Int := ((List.range n).map (fun n : Nat => (n : Int))).filter (fun s => decide (2 ∈ M s))

theorem secsN_mem (M : Int → List Int) (n : Nat) (s : Int) : s ∈ secsN M n ↔ (0 ≤ s ∧ s < n) ∧ 2 ∈ M s := by
  unfold secsN
  simp only [List.mem_filter, List.mem_map, List.mem_range, decide_eq_true_eq]
  constructor
  · rintro ⟨⟨k, hk, rfl⟩, h⟩
    exact ⟨by omega, h⟩
  · rintro ⟨h1, h2⟩
    exact ⟨⟨s.toNat, by omega, by omega⟩, h2⟩

theorem secsN_succ (M : Int → List Int) (n : Nat) : secsN M (n + 1) = secsN M n ++ (if 2 ∈ M (n : Int) then [(n : Int)] else []) := by
  unfold secsN
  rw [List.range_succ, List.map_append, List.filter_append]
  congr 1
  simp only [List.map_cons, List.map_nil, List.filter_cons, List.filter_nil, decide_eq_true_eq]

theorem sizeR_yes (O : List (Int × Int)) (s : Int) (h : ∃ O' a, O = O' ++ [(a, s * 512)]) : sizeR (runS O s) = sizeR O + 512 := by
  obtain ⟨O', a, rfl⟩ := h
  rw [runS_yes, sizeR_snoc, sizeR_snoc]
  simp only
  omega

theorem sizeR_no (O : List (Int × Int)) (s : Int) (h : ¬ ∃ O' a, O = O' ++ [(a, s * 512)]) : sizeR (runS O s) = sizeR O + 512 + 12 := by
  rcases runS_ways O s with ⟨rfl, e⟩ | ⟨O', a, rfl, e⟩ | ⟨O', a, b, rfl, hb, e⟩
  · rw [e]
    simp only [sizeR, List.map_cons, List.map_nil, List.sum_cons, List.sum_nil]
    omega
  · exact absurd ⟨O', a, rfl⟩ h
  · rw [e, sizeR_snoc]
    simp only
    omega

/-- Where the last run ends. -/
theorem runsL_last (K : List Int) (k : Int) : ∃ O' a, runsL (K ++ [k]) = O' ++ [(a, k * 512 + 512)] := by
  rw [runsL_snoc]
  rcases runS_ways (runsL K) k with ⟨_, e⟩ | ⟨O', a, _, e⟩ | ⟨O', a, b, _, hb, e⟩
  · exact ⟨[], _, e⟩
  · exact ⟨O', a, e⟩
  · exact ⟨_, _, e⟩

theorem runs_size (M : Int → List Int) (hM : ∀ s : Int, s < 0 → ¬ 2 ∈ M s) : ∀ n : Nat, sizeR (runsL (secsN M n)) = needN (fun s => decide (2 ∈ M s)) n ∧ ((∃ O' a, runsL (secsN M n) = O' ++ [(a, (n : Int) * 512)]) ↔ 2 ∈ M ((n : Int) - 1)) ∧ (∀ O' a b, runsL (secsN M n) = O' ++ [(a, b)] → b ≤ (n : Int) * 512)
  | 0 => by
    refine ⟨rfl, ⟨?_, ?_⟩, ?_⟩
    · rintro ⟨O', a, h⟩
      have := congrArg List.length h
      simp [secsN, runsL] at this
    · intro h
      exact absurd h (hM _ (by omega))
    · intro O' a b h
      have := congrArg List.length h
      simp [secsN, runsL] at this
  | n + 1 => by
    obtain ⟨h1, h2, h3⟩ := runs_size M hM n
    rw [secsN_succ]
    by_cases hn : 2 ∈ M (n : Int)
    · rw [if_pos hn]
      obtain ⟨O', a, hl⟩ := runsL_last (secsN M n) n
      refine ⟨?_, ⟨fun _ => ?_, fun _ => ?_⟩, ?_⟩
      · rw [runsL_snoc]
        conv => rhs; unfold needN
        by_cases hm : 2 ∈ M ((n : Int) - 1)
        · rw [sizeR_yes _ _ (h2.2 hm), h1, if_pos (by simpa using hn), if_neg (by simp [hm])]
          omega
        · rw [sizeR_no _ _ (fun e => hm (h2.1 e)), h1, if_pos (by simpa using hn), if_pos (by simp [hn, hm])]
      · rw [show ((n + 1 : Nat) : Int) - 1 = n by omega]
        exact hn
      · exact ⟨O', a, by rw [hl, show ((n + 1 : Nat) : Int) * 512 = (n : Int) * 512 + 512 by omega]⟩
      · intro O2 a2 b2 h
        rw [hl] at h
        have h4 := List.append_inj_right' h rfl
        simp only [List.cons.injEq, Prod.mk.injEq, and_true] at h4
        omega
    · rw [if_neg hn, List.append_nil]
      refine ⟨?_, ⟨fun ⟨O', a, h⟩ => ?_, fun h => ?_⟩, fun O' a b h => ?_⟩
      · rw [h1]
        conv => rhs; unfold needN
        simp [hn]
      · have := h3 O' a _ h
        omega
      · rw [show ((n + 1 : Nat) : Int) - 1 = n by omega] at h
        exact absurd h hn
      · have := h3 O' a b h
        omega

theorem secsN_rise (M : Int → List Int) (n : Nat) : (secsN M n).Pairwise (· < ·) := by
  induction n with
  | zero => simp [secsN]
  | succ n ih =>
    rw [secsN_succ, List.pairwise_append]
    refine ⟨ih, ?_, ?_⟩
    · split <;> simp
    · intro a ha b hb
      have h1 := ((secsN_mem M n a).1 ha).1
      split at hb
      · simp only [List.mem_singleton] at hb
        omega
      · cases hb

theorem size_need (M : Int → List Int) (n : Nat) (hn : n ≤ 8192) (hM : ∀ s : Int, ¬ (0 ≤ s ∧ s < n) → ¬ 2 ∈ M s) (P : Int → Bool) (hP : ∀ s : Int, P s = true ↔ 2 ∈ M s) : sizeR (runsM M) = needN P n := by
  have e : secsM M = secsN M n := rise_eq _ _ (secsM_rise M) (secsN_rise M n) (fun x => by
    rw [secsM_mem, secsN_mem]
    constructor
    · rintro ⟨_, h⟩
      exact ⟨Classical.byContradiction (fun h9 => hM x h9 h), h⟩
    · rintro ⟨h1, h⟩
      exact ⟨by omega, h⟩)
  unfold runsM
  have e2 : P = (fun s => decide (2 ∈ M s)) := by
    funext s
    rw [Bool.eq_iff_iff, decide_eq_true_iff]
    exact hP s
  rw [e, (runs_size M (fun s hs => hM s (by omega)) n).1, e2]
end Go.Proofs.YtibkhgmmjhlpmaaGreat.Oct

namespace Go.Proofs.YtibkhgmmjhlpmaaGreat.Oct
open Go.RowKit

theorem pnd_any {S : List Int} {p q : Nat} {nu : Int} {D : List RD} (hq : q ≤ S.length) (hp : p + 1024 ≤ q) (hroom : p + 512 + lenD D ≤ q) (hmay : MayD p q D) (hq2 : q ≤ 4194304)
    (hs : ∀ i, i < 512 → S.getD (p + i) 0 = (signOf nu D).getD i 0) (hb : ∀ i, i < lenD D → S.getD (p + 512 + i) 0 = (encD D).getD i 0) :
    isSgn (jFst S p) ∧ num (jFst S p) 16 4 = lenD D ∧ num (jFst S p) 12 4 = D.length ∧ 12 * D.length ≤ lenD D ∧ pnd S p q = if D = [] then none else some D := by
  have hl : (signOf nu D).length = 512 := secL_len _ _ _ _
  have hf : jFst S p = signOf nu D := by
    unfold jFst
    rw [← hl]
    exact part_is (by rw [hl]; omega) (by rw [hl]; exact hs)
  have hDl : 12 * D.length ≤ lenD D := by
    clear hs hb hf hroom hmay hl
    induction D with
    | nil => simp [lenD]
    | cons r D ih =>
      have e : lenD (r :: D) = (12 + r.2.length) + lenD D := by simp [lenD]
      rw [e]
      simp
      omega
  have hnu : 0 ≤ IntKind.u64.wrap (nu + 1) ∧ IntKind.u64.wrap (nu + 1) < 18446744073709551616 := by rw [IntKind.wrap_u64]; omega
  have hm4 : (0 : Int) ≤ (moreC 0 (encD D) : Nat) ∧ ((moreC 0 (encD D) : Nat) : Int) < 4294967296 := ⟨by omega, by have := moreC_lt 0 (encD D); omega⟩
  have hn := secL_nums (IntKind.u64.wrap (nu + 1)) D.length (encD D).length (moreC 0 (encD D)) hnu ⟨by omega, by omega⟩ ⟨by omega, by rw [encD_length]; omega⟩ hm4
  have hsg : isSgn (jFst S p) := by
    rw [hf]
    exact isSgn_secL _ _ _ _ hnu ⟨by omega, by omega⟩ ⟨by omega, by rw [encD_length]; omega⟩ hm4
  have n16 : num (jFst S p) 16 4 = lenD D := by rw [hf, ← encD_length]; exact hn.2.2.1
  have n12 : num (jFst S p) 12 4 = D.length := by rw [hf]; exact hn.2.1
  have n20 : num (jFst S p) 20 4 = (moreC 0 (encD D) : Nat) := by rw [hf]; exact hn.2.2.2
  refine ⟨hsg, n16, n12, hDl, ?_⟩
  by_cases hD : D = []
  · have hbod : jBod S p = encD D := by
      unfold jBod
      rw [n16, Int.toNat_natCast, ← encD_length]
      exact part_is (by rw [encD_length]; omega) (by rw [encD_length]; exact hb)
    unfold pnd
    rw [if_pos hsg, n12, n20, hbod, if_pos hD]
    unfold cntD
    rw [if_pos rfl, decD_enc D (fun r hr => by
      have h1 := hmay r hr
      have h2 := lenD_mem hr
      omega)]
    simp only
    rw [if_neg (by rw [hD]; simp [okD])]
  · rw [if_neg hD]
    exact (pnd_com hq hp hroom hD hmay hq2 hs hb).2.2.2.2

/-- What is given: a file, its journal's part, records that may be written, room for them. -/
structure Giv (b : List Int) (p q : Nat) (D : List RD) : Prop where
  al : p % 512 = 0
  two : p + 1024 ≤ q
  len : q ≤ b.length
  max : b.length ≤ 30000
  room : p + 512 + lenD D ≤ q
  may : MayD p q D
  by_ : Byts b
  byD : ∀ r ∈ D, Byts r.2
  zero : b.getD p 0 = 0

theorem Giv.far {b : List Int} {p q : Nat} {D : List RD} (h : Giv b p q D) {i : Nat} (h1 : p ≤ i) (h2 : i < q) : ¬ cov D i := fun ⟨r, hr, h3, h4⟩ => by
  have := h.may r hr
  omega

theorem endD_may {p q : Nat} {D : List RD} (h : MayD p q D) : endD D ≤ 4194304 := by
  induction D with
  | nil => simp [endD]
  | cons r D ih =>
    rw [endD]
    have h1 := h r (List.mem_cons_self ..)
    have h2 := ih (fun x hx => h x (List.mem_cons_of_mem _ hx))
    split <;> omega

theorem putS_byts (D : List RD) : ∀ (S : List Int), Byts S → (∀ r ∈ D, Byts r.2) → Byts (putS S D) := by
  induction D with
  | nil => intro S h _; exact h
  | cons r D ih =>
    intro S h hD
    rw [putS]
    refine ih _ (fun i => ?_) (fun x hx => hD x (List.mem_cons_of_mem _ hx))
    rw [wr_get]
    split
    · exact hD r (List.mem_cons_self ..) _
    · exact h i

/-- All but the journal's part as it was, and no sign. -/
structure Old (b : List Int) (p q : Nat) (S : List Int) : Prop where
  len : S.length = b.length
  out : ∀ i, ¬ (p ≤ i ∧ i < q) → S.getD i 0 = b.getD i 0
  nosig : S.getD p 0 = 0
  by_ : Byts S

def St (b : List Int) (p q : Nat) (nu : Int) (D : List RD) (S : List Int) : Prop := Old b p q S ∨ Like D (comS b p nu D) S ∨ S = appS (comS b p nu D) p D

theorem crash_com {b : List Int} {p q : Nat} {nu : Int} {D : List RD} (g : Giv b p q D) (k : Nat) (hk : ¬ 4 ≤ k) (kp : List Bool) : St b p q nu D (crashD (doAll ((comO p nu D).take k) ⟨b, b, []⟩) kp) := by
  obtain ⟨E, hE⟩ : ∃ E : List RD, E = [(((p + 512 : Nat) : Int), encD D)] := ⟨_, rfl⟩
  have hEb : ∀ r ∈ E, Byts r.2 := fun r hr => by
    rw [hE] at hr
    simp at hr
    subst hr
    exact encD_byts g.byD
  have hEe : endD E ≤ b.length := by
    rw [hE]
    simp only [endD]
    have := g.room
    have := g.len
    split
    · simp
    · simp [encD_length]; omega
  have hW : recW E = cuts (p + 512) (encD D) := by
    rw [hE]
    simp [recW]
    rw [show ((p : Int) + 512).toNat = p + 512 by omega]
  have hP : putS b E = laidsD b (cuts (p + 512) (encD D)) := by
    rw [hE]
    simp [putS]
    rw [show ((p : Int) + 512).toNat = p + 512 by omega]
  have hold : ∀ S, Like E b S → Old b p q S := fun S h => by
    have hnc : ∀ i, ¬ (p + 512 ≤ i ∧ i < p + 512 + lenD D) → ¬ cov E i := fun i hi ⟨r, hr, h1, h2⟩ => by
      rw [hE] at hr
      simp at hr
      subst hr
      simp [encD_length] at h1 h2
      omega
    have h1 := h.lo
    have h2 := h.hi
    have h3 := g.room
    refine ⟨by omega, fun i hi => h.out i (hnc i (by omega)), ?_, h.by_⟩
    rw [h.out p (hnc p (by omega)), g.zero]
  have hput : Like E b (putS b E) := by
    refine ⟨putS_out E b, by rw [putS_len]; omega, by rw [putS_len]; omega, fun i => ?_⟩
    rw [hP, wr_get]
    split
    · exact encD_byts g.byD _
    · exact g.by_ _
  match k with
  | 0 => exact Or.inl (hold b (Like.refl E g.by_))
  | 1 =>
    refine Or.inl (hold _ ?_)
    simp only [comO, List.cons_append, List.nil_append, List.take_succ_cons, List.take_zero, doAll, List.foldl_cons, List.foldl_nil, AO.on, crashD]
    rw [← hW]
    exact left_like (recW_wri (fun r h => h) hEb) b g.by_ kp _ (Nat.le_refl _)
  | 2 =>
    refine Or.inl (hold _ ?_)
    simp only [comO, List.cons_append, List.nil_append, List.take_succ_cons, List.take_zero, doAll, List.foldl_cons, List.foldl_nil, AO.on, crashD, List.length_nil, leftD]
    rw [← hP]
    exact hput
  | 3 =>
    simp only [comO, List.cons_append, List.nil_append, List.take_succ_cons, List.take_zero, doAll, List.foldl_cons, List.foldl_nil, AO.on, crashD, cuts_one g.al (signOf_len nu D), List.length_singleton, leftD]
    rw [← hP]
    split
    · right
      left
      have e : laidD ([(p, signOf nu D, false)].getD 0 (0, [], false)) (putS b E) = comS b p nu D := by
        unfold comS
        rw [cuts_one g.al (signOf_len nu D), hP]
        rfl
      rw [e]
      exact Like.refl D (comS_byts p nu g.by_ g.byD)
    · exact Or.inl (hold _ hput)
  | k + 4 => omega

theorem crash_both {b : List Int} {p q : Nat} {nu : Int} {D : List RD} (g : Giv b p q D) (k : Nat) (kp : List Bool) : St b p q nu D (crashD (doAll ((appO p D).take k) ⟨comS b p nu D, comS b p nu D, []⟩) kp) := by
  rcases crash_app (D := D) (S := comS b p nu D) (p := p) g.al (comS_byts p nu g.by_ g.byD) g.byD k kp with h | h
  · exact Or.inr (Or.inl h)
  · exact Or.inr (Or.inr h)

/-- What a state is to a replay. -/
theorem St.says {b : List Int} {p q : Nat} {nu : Int} {D : List RD} {S : List Int} (g : Giv b p q D) (h : St b p q nu D S) :
    q ≤ S.length ∧ S.length ≤ 4194304 ∧ Byts S ∧ (isSgn (jFst S p) → num (jFst S p) 16 4 ≤ (q : Int) - ((p : Int) + 512) ∧ num (jFst S p) 12 4 ≤ ((q : Int) - ((p : Int) + 512)) / 12) ∧
    (pnd S p q = none ∨ (pnd S p q = some D ∧ Like D (comS b p nu D) S)) := by
  have hq := g.len
  have hm := g.max
  have hr := g.room
  have h2 := g.two
  have hcl : (comS b p nu D).length = b.length := comS_len b p q nu D hq h2 hr
  have he := endD_may g.may
  have hno : ∀ S, q ≤ S.length → S.getD p 0 = 0 → ¬ isSgn (jFst S p) := fun S _ h0 => not_sgn (by
    unfold jFst
    rw [part_get, if_pos (by omega)]
    exact h0)
  have hpn : ∀ S, ¬ isSgn (jFst S p) → pnd S p q = none := fun S h => by unfold pnd; rw [if_neg h]
  rcases h with h | h | h
  · have hs := hno S (by rw [h.len]; omega) h.nosig
    exact ⟨by rw [h.len]; omega, by rw [h.len]; omega, h.by_, fun e => absurd e hs, Or.inl (hpn S hs)⟩
  · have l1 := h.lo
    have l2 := h.hi
    obtain ⟨p1, p2, p3, p4, p5⟩ := pnd_any (S := S) (p := p) (q := q) (nu := nu) (D := D) (by omega) h2 hr g.may (by omega)
      (fun i hi => by rw [h.out _ (g.far (by omega) (by omega)), comS_get, if_pos (by omega), show p + i - p = i by omega])
      (fun i hi => by rw [h.out _ (g.far (by omega) (by omega)), comS_get, if_neg (by omega), if_pos (by omega), show p + 512 + i - (p + 512) = i by omega])
    refine ⟨by omega, by omega, h.by_, fun _ => by rw [p2, p3]; omega, ?_⟩
    rw [p5]
    by_cases hD : D = []
    · left; rw [if_pos hD]
    · right; rw [if_neg hD]; exact ⟨rfl, h⟩
  · have hl : S.length = max b.length (endD D) := by
      rw [h]
      unfold appS
      rw [wr_len, Z512_len, if_neg (fun e => by have := Z512_len; rw [e] at this; simp at this), putS_len, hcl]
      omega
    have h0 : S.getD p 0 = 0 := by rw [h, appS_get, if_pos (by omega)]
    have hs := hno S (by omega) h0
    refine ⟨by omega, by omega, ?_, fun e => absurd e hs, Or.inl (hpn S hs)⟩
    rw [h]
    intro i
    rw [appS_get]
    split
    · omega
    · exact putS_byts D _ (comS_byts p nu g.by_ g.byD) g.byD i

theorem St.next {b : List Int} {p q : Nat} {nu : Int} {D : List RD} {S : List Int} (g : Giv b p q D) (h : Like D (comS b p nu D) S) (k : Nat) (kp : List Bool) : St b p q nu D (crashD (doAll ((appO p D).take k) ⟨S, S, []⟩) kp) := by
  rcases crash_app (D := D) (S := S) (p := p) g.al h.by_ g.byD k kp with h' | h'
  · exact Or.inr (Or.inl (h.trans h'))
  · exact Or.inr (Or.inr (h'.trans (h.app p)))

/-- What a replay at last leaves. -/
def Fin (b : List Int) (p q : Nat) (D : List RD) (S : List Int) : Prop :=
  (S.length = b.length ∧ ∀ i, ¬ (p ≤ i ∧ i < q) → S.getD i 0 = b.getD i 0) ∨ (S.length = (putS b D).length ∧ ∀ i, ¬ (p ≤ i ∧ i < q) → S.getD i 0 = (putS b D).getD i 0)

theorem app_fin {b : List Int} {p q : Nat} {nu : Int} {D : List RD} (g : Giv b p q D) : Fin b p q D (appS (comS b p nu D) p D) := by
  have hq := g.len
  have hr := g.room
  have h2 := g.two
  have hcl : (comS b p nu D).length = b.length := comS_len b p q nu D hq h2 hr
  right
  refine ⟨?_, fun i hi => ?_⟩
  · unfold appS
    rw [wr_len, Z512_len, if_neg (fun e => by have := Z512_len; rw [e] at this; simp at this), putS_len, putS_len, hcl]
    omega
  · rw [appS_get, if_neg (by omega)]
    by_cases hc : cov D i
    · exact putS_in D _ _ i hc
    · rw [putS_out D _ i hc, putS_out D _ i hc, comS_get, if_neg (by omega), if_neg (by omega)]

theorem St.fin {b : List Int} {p q : Nat} {nu : Int} {D : List RD} {S : List Int} (g : Giv b p q D) (h : St b p q nu D S) (hn : pnd S p q = none) : Fin b p q D S := by
  have hq := g.len
  have hm := g.max
  have hr := g.room
  have h2 := g.two
  have hcl : (comS b p nu D).length = b.length := comS_len b p q nu D hq h2 hr
  rcases h with h | h | h
  · exact Or.inl ⟨h.len, h.out⟩
  · have l1 := h.lo
    have l2 := h.hi
    obtain ⟨p1, p2, p3, p4, p5⟩ := pnd_any (S := S) (p := p) (q := q) (nu := nu) (D := D) (by omega) h2 hr g.may (by omega)
      (fun i hi => by rw [h.out _ (g.far (by omega) (by omega)), comS_get, if_pos (by omega), show p + i - p = i by omega])
      (fun i hi => by rw [h.out _ (g.far (by omega) (by omega)), comS_get, if_neg (by omega), if_pos (by omega), show p + 512 + i - (p + 512) = i by omega])
    rw [hn] at p5
    by_cases hD : D = []
    · left
      have hc : ∀ i, ¬ cov D i := fun i ⟨r, hr, _⟩ => by rw [hD] at hr; cases hr
      have he : endD D = 0 := by rw [hD]; rfl
      refine ⟨by omega, fun i hi => ?_⟩
      rw [h.out i (hc i), comS_get, if_neg (by omega), if_neg (by omega)]
    · rw [if_neg hD] at p5
      cases p5
  · rw [h]
    exact app_fin g

/-- Behind a replay that is done none counts. -/
theorem app_none {b : List Int} {p q : Nat} {nu : Int} {D : List RD} : St b p q nu D (appS (comS b p nu D) p D) ∧ pnd (appS (comS b p nu D) p D) p q = none := by
  refine ⟨Or.inr (Or.inr rfl), ?_⟩
  have h0 : ¬ isSgn (jFst (appS (comS b p nu D) p D) p) := not_sgn (by
    unfold jFst
    rw [part_get, if_pos (by omega)]
    show (appS (comS b p nu D) p D).getD p 0 = 0
    rw [appS_get, if_pos (by omega)])
  unfold pnd
  rw [if_neg h0]

theorem wr_over (t : Nat) (b l : List Int) (h : t ≤ l.length) : laidsD l (cuts t b) = over (l ++ List.replicate (t + b.length - l.length) 0) t b := by
  have hl : (over (l ++ List.replicate (t + b.length - l.length) 0) t b).length = max l.length (t + b.length) := by
    unfold over
    simp
    omega
  refine ext_getD ?_ (fun i _ => ?_)
  · rw [hl, wr_len]
    split
    · rename_i e
      rw [e]
      simp
      omega
    · rfl
  · rw [wr_get, overP_get _ _ _ (by simp; omega)]
    split
    · rfl
    · rw [getD_app]
      split
      · rfl
      · rw [getD_rep, getD_out _ _ (by omega)]
end Go.Proofs.YtibkhgmmjhlpmaaGreat.Oct

namespace Go.Proofs.YtibkhgmmjhlpmaaGreat.Oct
open Go.RowKit Go.Deep Go.Sort

/-- A file between two commits, and the bytes that it is held against. -/
structure Rst (S m : List Int) : Prop where
  len : S.length = 16896
  by_ : Byts S
  sgn : S.getD 512 0 = 0
  low : ∀ i, i < 512 → S.getD i 0 = 0
  hi : ∀ i, 15360 ≤ i → S.getD i 0 = m.getD i 0

/-- Changes that are all behind the journal, and the bytes that they are held against. -/
structure Ahm (S : List Int) (B M : Int → List Int) (m : List Int) : Prop where
  ml : ∀ s, (M s).length = 512
  m2 : Mk2 M
  lim : ∀ s : Int, 2 ∈ M s → 30 ≤ s ∧ s < 33
  ah : AhdOk S [] B M
  see : ∀ i, 15360 ≤ i → m.getD i 0 = seeT S B M i
  by_ : ∀ i, 0 ≤ seeT S B M i ∧ seeT S B M i < 256

theorem Rst.none {S m : List Int} (h : Rst S m) : Ahm S nobM nobM m :=
  ⟨fun _ => Z5_len, fun q => by rw [nob_mk]; omega, fun s hs => absurd hs (nob_no s), fun i _ => by unfold seeT; rw [nob_val]; rfl, fun i hi => by unfold seeT; rw [nob_val]; exact (h.hi i hi).symm, fun i => by unfold seeT; rw [nob_val]; exact h.by_ i⟩

theorem Ahm.put {S m m' : List Int} {B M B' M' : Int → List Int} {t : Nat} {pl : List Int} (h : Ahm S B M m) (hl' : ∀ s, (M' s).length = 512) (hla : Laid B M B' M' t pl.length pl 2) (ht : 15360 ≤ t) (ht2 : t + pl.length ≤ 16896) (hpl : Byts pl)
    (hm : ∀ i, 15360 ≤ i → m'.getD i 0 = if t ≤ i ∧ i < t + pl.length then pl.getD (i - t) 0 else m.getD i 0) : Ahm S B' M' m' := by
  refine ⟨hl', h.m2.laid (by omega) hla, fun s hs => ?_, h.ah.put h.ml hl' h.m2 hla, fun i hi => ?_, fun i => ?_⟩
  · by_cases h8 : 0 ≤ s ∧ s < 8192
    · obtain ⟨n, rfl⟩ := Int.eq_ofNat_of_zero_le h8.1
      rcases (laid_two h.ml hl' h.m2 hla n).1 hs with h9 | ⟨q, h1, h2, h3⟩
      · exact h.lim _ h9
      · omega
    · rw [hla.2.2 s h8] at hs
      exact h.lim s hs
  · rw [hm i hi, see_laid hla]
    split
    · rfl
    · exact h.see i hi
  · rw [see_laid hla]
    split
    · exact hpl _
    · exact h.by_ i

theorem Ahm.far {S m : List Int} {B M : Int → List Int} (h : Ahm S B M m) : (∀ s : Int, ¬ (0 ≤ s ∧ s < 8192) → ¬ 2 ∈ M s) ∧ (∀ r ∈ runsM M, 15360 ≤ r.1 ∧ r.1 ≤ r.2 ∧ r.2 ≤ 16896) ∧ ∀ r ∈ runsM M, ¬ (r.1 < (15360 : Nat) ∧ ((512 : Nat) : Int) < r.2) := by
  have hr : ∀ r ∈ runsM M, 15360 ≤ r.1 ∧ r.1 ≤ r.2 ∧ r.2 ≤ 16896 := fun r hr => by
    have hb := runsM_bd M r hr
    have h3 := ((runsM_cov M r.1.toNat).1 ⟨r, hr, by omega, by omega⟩).2
    have h4 := ((runsM_cov M (r.2 - 1).toNat).1 ⟨r, hr, by omega, by omega⟩).2
    have := h.lim _ h3
    have := h.lim _ h4
    omega
  exact ⟨fun s hs e => hs (by have := h.lim s e; omega), hr, fun r hr9 => by have := hr r hr9; omega⟩

theorem Ahm.recs {S m : List Int} {B M : Int → List Int} (h : Ahm S B M m) : ∀ r ∈ recsM S B M, 15360 ≤ r.1 ∧ r.1 + r.2.length ≤ 16896 ∧ Byts r.2 := fun r hr => by
  obtain ⟨x, hx, rfl⟩ := List.mem_map.1 hr
  have := h.far.2.1 x hx
  refine ⟨this.1, ?_, fun i => ?_⟩
  · rw [recD_len]
    have e : (recD S B M x).1 = x.1 := rfl
    rw [e]
    omega
  · show 0 ≤ ((List.range (x.2 - x.1).toNat).map (fun i => seeT S B M (x.1.toNat + i))).getD i 0 ∧ ((List.range (x.2 - x.1).toNat).map (fun i => seeT S B M (x.1.toNat + i))).getD i 0 < 256
    rw [List.getD_eq_getElem?_getD]
    by_cases hi : i < (x.2 - x.1).toNat
    · simp only [List.getElem?_map, List.getElem?_range hi, Option.map_some, Option.getD_some]
      exact h.by_ _
    · rw [List.getElem?_eq_none (by simp; omega)]
      simp

theorem endD_leN : ∀ (D : List RD) (n : Nat), (∀ r ∈ D, r.1.toNat + r.2.length ≤ n) → endD D ≤ n
  | [], n, _ => by simp [endD]
  | r :: D, n, h => by
    have ih := endD_leN D n (fun x hx => h x (List.mem_cons_of_mem _ hx))
    have h1 := h r (List.mem_cons_self ..)
    unfold endD
    split <;> omega

theorem Ahm.giv {S m0 m : List Int} {B M : Int → List Int} (h0 : Rst S m0) (h : Ahm S B M m) (hroom : 1024 + lenD (recsM S B M) ≤ 15360) : Giv S 512 15360 (recsM S B M) :=
  ⟨rfl, by omega, by rw [h0.len]; omega, by rw [h0.len]; omega, by omega, fun r hr => by have := h.recs r hr; omega, h0.by_, fun r hr => (h.recs r hr).2.2, h0.sgn⟩

theorem Ahm.cvd {S m : List Int} {B M : Int → List Int} (h : Ahm S B M m) {i : Nat} (hi : i < 15360) : ¬ cov (recsM S B M) i := fun ⟨r, hr, h1, h2⟩ => by
  have := h.recs r hr
  omega

/-- The bytes behind a replay that did the records. -/
theorem Ahm.done {S m0 m : List Int} {B M : Int → List Int} (h0 : Rst S m0) (h : Ahm S B M m) : (putS S (recsM S B M)).length = 16896 ∧ (∀ i, i < 512 → (putS S (recsM S B M)).getD i 0 = 0) ∧ ∀ i, 15360 ≤ i → i < 16896 → (putS S (recsM S B M)).getD i 0 = m.getD i 0 := by
  have he : endD (recsM S B M) ≤ 16896 := endD_leN _ _ (fun r hr => by have := h.recs r hr; omega)
  refine ⟨by rw [putS_len, h0.len]; omega, fun i hi => ?_, fun i hi hi2 => ?_⟩
  · rw [putS_out _ _ i (h.cvd (by omega)), h0.low i hi]
  · rw [h.see i hi]
    by_cases hc : cov (recsM S B M) i
    · exact putS_by _ _ (recs_by S B M) _ i hc
    · rw [putS_out _ _ i hc]
      exact h.ah i (fun e => hc ((recs_cov S B M i).2 ⟨by omega, e⟩))

/-- Behind a commit that was done. -/
theorem Ahm.next {S m0 m : List Int} {B M : Int → List Int} (h0 : Rst S m0) (h : Ahm S B M m) (hm : m.length = 16896) (nu : Int) (hroom : 1024 + lenD (recsM S B M) ≤ 15360) : Rst (txS S 512 nu (recsM S B M)) m := by
  have g := h.giv h0 hroom
  have he : endD (recsM S B M) ≤ 16896 := endD_leN _ _ (fun r hr => by have := h.recs r hr; omega)
  have hcl := comS_len S 512 15360 nu (recsM S B M) (by rw [h0.len]; omega) (by omega) (by omega)
  have hl : (txS S 512 nu (recsM S B M)).length = 16896 := by
    unfold txS
    split
    · exact h0.len
    · unfold appS
      rw [wr_len, Z512_len, if_neg (fun e => by have := Z512_len; rw [e] at this; simp at this), putS_len, hcl, h0.len]
      omega
  refine ⟨hl, ?_, ?_, fun i hi => ?_, fun i hi => ?_⟩
  · unfold txS
    split
    · exact h0.by_
    · intro i
      rw [appS_get]
      split
      · omega
      · exact putS_byts _ _ (comS_byts 512 nu h0.by_ g.byD) g.byD i
  · unfold txS
    split
    · exact h0.sgn
    · rw [appS_get, if_pos (by omega)]
  · unfold txS
    split
    · exact h0.low i hi
    · rw [appS_get, if_neg (by omega), putS_out _ _ i (h.cvd (by omega)), comS_get, if_neg (by omega), if_neg (by omega), h0.low i hi]
  · by_cases h2 : i < 16896
    · have := txS_get S [] B M 512 15360 nu h.ah (by omega) i hi (by omega)
      rw [h.see i hi]
      exact this
    · rw [List.getD_eq_getElem?_getD, List.getD_eq_getElem?_getD, List.getElem?_eq_none (by omega), List.getElem?_eq_none (by omega)]

/-- What a file may come to, whatever a crash keeps: the bytes m, or the bytes m'. -/
def Way (A : A3) (m m' : List Int) : Prop := ∃ b nu D, Giv b 512 15360 D ∧ (∀ kp, St b 512 15360 nu D (crashD A kp)) ∧ b.length = 16896 ∧ (putS b D).length = 16896 ∧
  (∀ i, i < 512 → b.getD i 0 = 0 ∧ (putS b D).getD i 0 = 0) ∧ ∀ i, 15360 ≤ i → i < 16896 → b.getD i 0 = m.getD i 0 ∧ (putS b D).getD i 0 = m'.getD i 0

theorem Rst.way {S m : List Int} (h : Rst S m) (m' : List Int) (hm' : ∀ i, 15360 ≤ i → i < 16896 → m'.getD i 0 = m.getD i 0) : Way ⟨S, S, []⟩ m m' :=
  ⟨S, 0, [], ⟨rfl, by omega, by rw [h.len]; omega, by rw [h.len]; omega, by simp [lenD], fun r hr => (by cases hr), h.by_, fun r hr => (by cases hr), h.sgn⟩, fun _ => Or.inl ⟨rfl, fun _ _ => rfl, h.sgn, h.by_⟩, h.len, h.len, fun i hi => ⟨h.low i hi, h.low i hi⟩, fun i hi h2 => ⟨h.hi i hi, by rw [hm' i hi h2]; exact h.hi i hi⟩⟩

/-- A Commit that was cut off, where it read. -/
theorem Ahm.read {S m0 m : List Int} {B M : Int → List Int} (h0 : Rst S m0) (h : Ahm S B M m) (hroom : 1024 + lenD (recsM S B M) ≤ 15360) : Way ⟨S, S, []⟩ m0 m :=
  ⟨S, 0, recsM S B M, h.giv h0 hroom, fun _ => Or.inl ⟨rfl, fun _ _ => rfl, h0.sgn, h0.by_⟩, h0.len, (h.done h0).1, fun i hi => ⟨h0.low i hi, (h.done h0).2.1 i hi⟩, fun i hi h2 => ⟨h0.hi i hi, (h.done h0).2.2 i hi h2⟩⟩

/-- A Commit that was cut off, where it wrote. -/
theorem Ahm.cut {S m0 m : List Int} {B M : Int → List Int} (h0 : Rst S m0) (h : Ahm S B M m) (nu : Int) (hroom : 1024 + lenD (recsM S B M) ≤ 15360) (hne : recsM S B M ≠ []) (j : Nat) : Way (doAll ((txO 512 nu (recsM S B M)).take j) ⟨S, S, []⟩) m0 m := by
  have g := h.giv h0 hroom
  refine ⟨S, nu, recsM S B M, g, fun kp => ?_, h0.len, (h.done h0).1, fun i hi => ⟨h0.low i hi, (h.done h0).2.1 i hi⟩, fun i hi h2 => ⟨h0.hi i hi, (h.done h0).2.2 i hi h2⟩⟩
  have e : txO 512 nu (recsM S B M) = comO 512 nu (recsM S B M) ++ appO 512 (recsM S B M) := if_neg hne
  have h4l : (comO 512 nu (recsM S B M)).length = 4 := rfl
  rw [e]
  by_cases h4 : 4 ≤ j
  · rw [List.take_append, List.take_of_length_le (by omega), doAll_append, com_state]
    exact crash_both g _ kp
  · rw [List.take_append_of_le_length (by omega)]
    exact crash_com g j h4 kp

/-- The bytes that a replay at last leaves. -/
def EndW (m m' S' : List Int) : Prop := S'.length = 16896 ∧ (∀ i, i < 512 → S'.getD i 0 = 0) ∧ ((∀ i, 15360 ≤ i → i < 16896 → S'.getD i 0 = m.getD i 0) ∨ ∀ i, 15360 ≤ i → i < 16896 → S'.getD i 0 = m'.getD i 0)

theorem fin_end {b S' m m' : List Int} {D : List RD} (hf : Fin b 512 15360 D S') (h1 : b.length = 16896) (h2 : (putS b D).length = 16896) (h3 : ∀ i, i < 512 → b.getD i 0 = 0 ∧ (putS b D).getD i 0 = 0) (h4 : ∀ i, 15360 ≤ i → i < 16896 → b.getD i 0 = m.getD i 0 ∧ (putS b D).getD i 0 = m'.getD i 0) : EndW m m' S' := by
  rcases hf with ⟨f1, f2⟩ | ⟨f1, f2⟩
  · exact ⟨by omega, fun i hi => by rw [f2 i (by omega)]; exact (h3 i hi).1, Or.inl (fun i hi h9 => by rw [f2 i (by omega)]; exact (h4 i hi h9).1)⟩
  · exact ⟨by omega, fun i hi => by rw [f2 i (by omega)]; exact (h3 i hi).2, Or.inr (fun i hi h9 => by rw [f2 i (by omega)]; exact (h4 i hi h9).2)⟩
end Go.Proofs.YtibkhgmmjhlpmaaGreat.Oct
