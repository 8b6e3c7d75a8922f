/- What a crash leaves of a commit and of an apply: no program. -/
import Derived.Test.YtgmifbknmjdemaaGreatPJrp
import Derived.Test.YtgmifbknmjdemaaGreatPJlaJflJfmJfr
namespace Go.Proofs.YtgmifbknmjdemaaGreat.Oct
open Go.RowKit

def JR.fit (r : JR) : Prop := (-9223372036854775808 ≤ r.at_ ∧ r.at_ ≤ 9223372036854775807) ∧ Byts r.b

/-- Does a record write a byte? -/
def cov (D : List RD) (i : Nat) : Prop := ∃ r ∈ D, r.1.toNat ≤ i ∧ i < r.1.toNat + r.2.length

/-- Where the last of the records ends. -/
def endD : List RD → Nat
  | [] => 0
  | r :: D => max (if r.2 = [] then 0 else r.1.toNat + r.2.length) (endD D)

theorem putS_out (D : List RD) : ∀ (S : List Int) (i : Nat), ¬ cov D i → (putS S D).getD i 0 = S.getD i 0 := by
  induction D with
  | nil => intro S i _; rfl
  | cons r D ih =>
    intro S i h
    rw [putS, ih _ i (fun ⟨x, hx, h1⟩ => h ⟨x, List.mem_cons_of_mem _ hx, h1⟩), wr_get, if_neg (fun h1 => h ⟨r, List.mem_cons_self .., h1⟩)]

theorem putS_in (D : List RD) : ∀ (S S' : List Int) (i : Nat), cov D i → (putS S D).getD i 0 = (putS S' D).getD i 0 := by
  induction D with
  | nil => intro S S' i ⟨r, hr, _⟩; cases hr
  | cons r D ih =>
    intro S S' i h
    rw [putS, putS]
    by_cases h2 : cov D i
    · exact ih _ _ i h2
    · rw [putS_out D _ i h2, putS_out D _ i h2]
      obtain ⟨x, hx, h1⟩ := h
      rcases List.mem_cons.1 hx with rfl | hx
      · rw [wr_get, wr_get, if_pos h1, if_pos h1]
      · exact absurd ⟨x, hx, h1⟩ h2

theorem putS_len (D : List RD) : ∀ (S : List Int), (putS S D).length = max S.length (endD D) := by
  induction D with
  | nil => intro S; simp [putS, endD]
  | cons r D ih =>
    intro S
    rw [putS, ih, wr_len, endD]
    split <;> omega

/-- The same as another, but for bytes that the records write. -/
structure Like (D : List RD) (S S' : List Int) : Prop where
  out : ∀ i, ¬ cov D i → S'.getD i 0 = S.getD i 0
  lo : S.length ≤ S'.length
  hi : S'.length ≤ max S.length (endD D)
  by_ : Byts S'

theorem Like.refl (D : List RD) {S : List Int} (h : Byts S) : Like D S S := ⟨fun _ _ => rfl, Nat.le_refl _, by omega, h⟩

theorem Like.trans {D : List RD} {S S' S'' : List Int} (h : Like D S S') (h' : Like D S' S'') : Like D S S'' :=
  ⟨fun i hi => (h'.out i hi).trans (h.out i hi), Nat.le_trans h.lo h'.lo, by have := h.hi; have := h'.hi; omega, h'.by_⟩

theorem Like.put {D : List RD} {S S' : List Int} (h : Like D S S') : putS S' D = putS S D := by
  have h1 := h.lo
  have h2 := h.hi
  refine ext_getD (by rw [putS_len, putS_len]; omega) (fun i _ => ?_)
  by_cases hc : cov D i
  · exact putS_in D _ _ i hc
  · rw [putS_out D _ i hc, putS_out D _ i hc, h.out i hc]

theorem Like.app {D : List RD} {S S' : List Int} (h : Like D S S') (p : Nat) : appS S' p D = appS S p D := by
  unfold appS
  rw [h.put]

theorem cuts_mem (n : Nat) : ∀ (t : Nat) (b : List Int), b.length ≤ n → ∀ d ∈ cuts t b, d.2.2 = false ∧ t ≤ d.1 ∧ d.1 + d.2.1.length ≤ t + b.length ∧ d.2.1 ≠ [] ∧ (Byts b → Byts d.2.1) := by
  induction n with
  | zero =>
    intro t b hb d hd
    have : b = [] := List.length_eq_zero_iff.1 (by omega)
    subst this
    rw [cuts_nil] at hd
    cases hd
  | succ n ih =>
    intro t b hb d hd
    by_cases h0 : b = []
    · subst h0
      rw [cuts_nil] at hd
      cases hd
    · have hl := List.length_pos_iff.2 h0
      rw [cuts, if_neg h0] at hd
      generalize hm : min (512 - t % 512) b.length = m at hd
      have hm1 : 1 ≤ m := by omega
      have hm2 : m ≤ b.length := by omega
      rcases List.mem_cons.1 hd with rfl | hd
      · refine ⟨rfl, Nat.le_refl _, by simp; omega, fun e => ?_, fun h => h.take m⟩
        have := congrArg List.length e
        rw [List.length_take, List.length_nil] at this
        omega
      · obtain ⟨h1, h2, h3, h4, h5⟩ := ih (t + m) (b.drop m) (by simp; omega) d hd
        refine ⟨h1, by omega, ?_, h4, fun h => h5 (h.drop m)⟩
        simp at h3
        omega

/-- Writes of bytes that the records write. -/
def Wri (D : List RD) (W : List (Nat × List Int × Bool)) : Prop := ∀ d ∈ W, d.2.2 = false ∧ (∀ i, d.1 ≤ i → i < d.1 + d.2.1.length → cov D i) ∧ d.1 + d.2.1.length ≤ endD D ∧ Byts d.2.1

def recW (D : List RD) : List (Nat × List Int × Bool) := D.flatMap (fun r => cuts r.1.toNat r.2)

theorem endD_mem {D : List RD} {r : RD} (h : r ∈ D) (hn : r.2 ≠ []) : r.1.toNat + r.2.length ≤ endD D := by
  induction D with
  | nil => cases h
  | cons x D ih =>
    rw [endD]
    rcases List.mem_cons.1 h with rfl | h
    · rw [if_neg hn]; omega
    · have := ih h; omega

theorem recW_wri {D E : List RD} (hs : ∀ r ∈ E, r ∈ D) (hb : ∀ r ∈ D, Byts r.2) : Wri D (recW E) := by
  intro d hd
  obtain ⟨r, hr, h⟩ := List.mem_flatMap.1 hd
  obtain ⟨h1, h2, h3, h4, h5⟩ := cuts_mem _ _ _ (Nat.le_refl _) d h
  have hne : r.2 ≠ [] := fun e => by
    rw [e, cuts_nil] at h
    cases h
  have := endD_mem (hs r hr) hne
  exact ⟨h1, fun i hi hj => ⟨r, hs r hr, by omega, by omega⟩, by omega, h5 (hb r (hs r hr))⟩

theorem laidD_byts {p : Nat} {b l : List Int} (hb : Byts b) (hl : Byts l) : Byts (laidD (p, b, false) l) := fun i => by
  rw [laidD_get]
  split
  · exact hb _
  · exact hl _

theorem left_like {D : List RD} {W : List (Nat × List Int × Bool)} (hW : Wri D W) (S : List Int) (hS : Byts S) (kp : List Bool) : ∀ j, j ≤ W.length → Like D S (leftD S W kp j)
  | 0, _ => Like.refl D hS
  | j + 1, hj => by
    have ih := left_like hW S hS kp j (by omega)
    rw [leftD]
    split
    · have hd : W.getD j (0, [], false) ∈ W := by
        have : W.getD j (0, [], false) = W[j] := by simp [show j < W.length by omega]
        rw [this]
        exact List.getElem_mem _
      obtain ⟨h1, h2, h3, h4⟩ := hW _ hd
      generalize W.getD j (0, [], false) = d at *
      obtain ⟨t, b, c⟩ := d
      simp only at *
      subst h1
      refine ⟨fun i hi => ?_, ?_, ?_, laidD_byts h4 ih.by_⟩
      · rw [laidD_get, if_neg (fun h => hi (h2 i h.1 h.2)), ih.out i hi]
      · rw [laidD_length]
        have := ih.lo
        omega
      · rw [laidD_length]
        have := ih.hi
        omega
    · exact ih

theorem doRecs' (D : List RD) : ∀ (A : A3), doAll (recO D) A = ⟨putS A.S D, A.T, A.D ++ recW D⟩ := by
  induction D with
  | nil => intro A; simp [recO, doAll, putS, recW]
  | cons r D ih =>
    intro A
    have h := ih ((AO.wr r.1.toNat r.2).on A)
    rw [show recO (r :: D) = AO.wr r.1.toNat r.2 :: recO D from rfl]
    rw [show doAll (AO.wr r.1.toNat r.2 :: recO D) A = doAll (recO D) ((AO.wr r.1.toNat r.2).on A) from rfl, h]
    simp [AO.on, putS, recW]

theorem recW_laid (D : List RD) : ∀ S, laidsD S (recW D) = putS S D := by
  induction D with
  | nil => intro S; rfl
  | cons r D ih =>
    intro S
    rw [show recW (r :: D) = cuts r.1.toNat r.2 ++ recW D from rfl, laidsD_append, ih, putS]

theorem cuts_one {p : Nat} {b : List Int} (hp : p % 512 = 0) (hb : b.length = 512) : cuts p b = [(p, b, false)] := by
  have h0 : b ≠ [] := fun e => by rw [e] at hb; simp at hb
  rw [cuts, if_neg h0, hp, hb]
  simp
  rw [List.drop_of_length_le (by omega), List.take_of_length_le (by omega), cuts_nil]
  simp

/-- What a crash leaves. -/
def crashD (A : A3) (kp : List Bool) : List Int := leftD A.T A.D kp A.D.length

/-- WHEREVER AN APPLY IS CUT OFF, whatever is kept: only bytes of the records have changed, or all is done and the sign is gone. -/
theorem crash_app {D : List RD} {S : List Int} {p : Nat} (hp : p % 512 = 0) (hS : Byts S) (hD : ∀ r ∈ D, Byts r.2) (k : Nat) (kp : List Bool) :
    Like D S (crashD (doAll ((appO p D).take k) ⟨S, S, []⟩) kp) ∨ crashD (doAll ((appO p D).take k) ⟨S, S, []⟩) kp = appS S p D := by
  have hput : Like D S (putS S D) := by
    refine ⟨putS_out D S, by rw [putS_len]; omega, by rw [putS_len]; omega, ?_⟩
    have h := left_like (recW_wri (fun r h => h) hD) S hS (List.replicate (recW D).length true) (recW D).length (Nat.le_refl _)
    have e : ∀ (W : List (Nat × List Int × Bool)) (T : List Int) (j : Nat), j ≤ W.length → leftD T W (List.replicate W.length true) j = laidsD T (W.take j) := by
      intro W T j
      induction j with
      | zero => intro _; rfl
      | succ j ih =>
        intro hj
        rw [leftD, if_pos (by simp [show j < W.length by omega]), ih (by omega), take_get W j (by omega) (0, [], false), laidsD_append]
        rfl
    rw [e _ _ _ (Nat.le_refl _), List.take_length, recW_laid] at h
    exact h.by_
  have hlen : (recO D).length = D.length := by simp [recO]
  by_cases h1 : k ≤ D.length
  · left
    have e : (appO p D).take k = recO (D.take k) := by
      unfold appO
      rw [List.take_append_of_le_length (by omega)]
      simp [recO, List.map_take]
    rw [e, doRecs']
    exact left_like (recW_wri (fun r h => List.mem_of_mem_take h) hD) S hS kp _ (by simp)
  · have e0 : (appO p D).take k = recO D ++ ([AO.fl] ++ clrO p).take (k - D.length) := by
      unfold appO
      rw [List.take_append, hlen, List.take_of_length_le (by omega)]
    have e1 : doAll (recO D ++ [AO.fl]) ⟨S, S, []⟩ = ⟨putS S D, putS S D, []⟩ := by
      rw [doAll_append, doRecs']
      simp [doAll, AO.on, recW_laid]
    rw [e0]
    match hk : k - D.length with
    | 0 => omega
    | 1 =>
      left
      rw [show ([AO.fl] ++ clrO p).take 1 = [AO.fl] from rfl, e1]
      exact hput
    | 2 =>
      rw [show ([AO.fl] ++ clrO p).take 2 = [AO.fl] ++ [AO.wr p Z512] from rfl, ← List.append_assoc, doAll_append, e1]
      simp only [doAll, List.foldl_cons, List.foldl_nil, AO.on, crashD, cuts_one hp Z512_len, List.nil_append, List.length_singleton, leftD]
      split
      · right
        unfold appS
        rw [cuts_one hp Z512_len]
        rfl
      · left
        exact hput
    | j + 3 =>
      right
      rw [show ([AO.fl] ++ clrO p).take (j + 3) = [AO.fl] ++ clrO p from by simp [clrO], show recO D ++ ([AO.fl] ++ clrO p) = appO p D from rfl, app_state]
      rfl
end Go.Proofs.YtgmifbknmjdemaaGreat.Oct
