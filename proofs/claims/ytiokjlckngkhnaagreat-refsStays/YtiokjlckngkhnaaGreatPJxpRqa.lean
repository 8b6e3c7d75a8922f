/- What a Commit of changed counts makes of the bytes: no program. -/
import Derived.Test.YtiokjlckngkhnaaGreatPJpdJrp
import Derived.Test.YtiokjlckngkhnaaGreatPJlaJflJfmJfr
import Derived.Test.YtiokjlckngkhnaaGreatPRqp
import Derived.Test.YtiokjlckngkhnaaGreatPTyj
namespace Go.Proofs.YtiokjlckngkhnaaGreat.Oct
open Go.RowKit

def JR.fit (r : JR) : Prop := (-9223372036854775808 ≤ r.at_ ∧ r.at_ ≤ 9223372036854775807) ∧ Byts r.b

/-- Does a record write a byte? -/
def cov (D : List RD) (i : Nat) : Prop := ∃ r ∈ D, r.1.toNat ≤ i ∧ i < r.1.toNat + r.2.length

/-- Where the last of the records ends. -/
def endD : List RD → Nat
  | [] => 0
  | r :: D => max (if r.2 = [] then 0 else r.1.toNat + r.2.length) (endD D)

theorem putS_out (D : List RD) : ∀ (S : List Int) (i : Nat), ¬ cov D i → (putS S D).getD i 0 = S.getD i 0 := by
  induction D with
  | nil => intro S i _; rfl
  | cons r D ih =>
    intro S i h
    rw [putS, ih _ i (fun ⟨x, hx, h1⟩ => h ⟨x, List.mem_cons_of_mem _ hx, h1⟩), wr_get, if_neg (fun h1 => h ⟨r, List.mem_cons_self .., h1⟩)]

theorem putS_in (D : List RD) : ∀ (S S' : List Int) (i : Nat), cov D i → (putS S D).getD i 0 = (putS S' D).getD i 0 := by
  induction D with
  | nil => intro S S' i ⟨r, hr, _⟩; cases hr
  | cons r D ih =>
    intro S S' i h
    rw [putS, putS]
    by_cases h2 : cov D i
    · exact ih _ _ i h2
    · rw [putS_out D _ i h2, putS_out D _ i h2]
      obtain ⟨x, hx, h1⟩ := h
      rcases List.mem_cons.1 hx with rfl | hx
      · rw [wr_get, wr_get, if_pos h1, if_pos h1]
      · exact absurd ⟨x, hx, h1⟩ h2

theorem putS_len (D : List RD) : ∀ (S : List Int), (putS S D).length = max S.length (endD D) := by
  induction D with
  | nil => intro S; simp [putS, endD]
  | cons r D ih =>
    intro S
    rw [putS, ih, wr_len, endD]
    split <;> omega

/-- The same as another, but for bytes that the records write. -/
structure Like (D : List RD) (S S' : List Int) : Prop where
  out : ∀ i, ¬ cov D i → S'.getD i 0 = S.getD i 0
  lo : S.length ≤ S'.length
  hi : S'.length ≤ max S.length (endD D)
  by_ : Byts S'

theorem Like.refl (D : List RD) {S : List Int} (h : Byts S) : Like D S S := ⟨fun _ _ => rfl, Nat.le_refl _, by omega, h⟩

theorem Like.trans {D : List RD} {S S' S'' : List Int} (h : Like D S S') (h' : Like D S' S'') : Like D S S'' :=
  ⟨fun i hi => (h'.out i hi).trans (h.out i hi), Nat.le_trans h.lo h'.lo, by have := h.hi; have := h'.hi; omega, h'.by_⟩

theorem Like.put {D : List RD} {S S' : List Int} (h : Like D S S') : putS S' D = putS S D := by
  have h1 := h.lo
  have h2 := h.hi
  refine ext_getD (by rw [putS_len, putS_len]; omega) (fun i _ => ?_)
  by_cases hc : cov D i
  · exact putS_in D _ _ i hc
  · rw [putS_out D _ i hc, putS_out D _ i hc, h.out i hc]

theorem Like.app {D : List RD} {S S' : List Int} (h : Like D S S') (p : Nat) : appS S' p D = appS S p D := by
  unfold appS
  rw [h.put]

theorem cuts_mem (n : Nat) : ∀ (t : Nat) (b : List Int), b.length ≤ n → ∀ d ∈ cuts t b, d.2.2 = false ∧ t ≤ d.1 ∧ d.1 + d.2.1.length ≤ t + b.length ∧ d.2.1 ≠ [] ∧ (Byts b → Byts d.2.1) := by
  induction n with
  | zero =>
    intro t b hb d hd
    have : b = [] := List.length_eq_zero_iff.1 (by omega)
    subst this
    rw [cuts_nil] at hd
    cases hd
  | succ n ih =>
    intro t b hb d hd
    by_cases h0 : b = []
    · subst h0
      rw [cuts_nil] at hd
      cases hd
    · have hl := List.length_pos_iff.2 h0
      rw [cuts, if_neg h0] at hd
      generalize hm : min (512 - t % 512) b.length = m at hd
      have hm1 : 1 ≤ m := by omega
      have hm2 : m ≤ b.length := by omega
      rcases List.mem_cons.1 hd with rfl | hd
      · refine ⟨rfl, Nat.le_refl _, by simp; omega, fun e => ?_, fun h => h.take m⟩
        have := congrArg List.length e
        rw [List.length_take, List.length_nil] at this
        omega
      · obtain ⟨h1, h2, h3, h4, h5⟩ := ih (t + m) (b.drop m) (by simp; omega) d hd
        refine ⟨h1, by omega, ?_, h4, fun h => h5 (h.drop m)⟩
        simp at h3
        omega

/-- Writes of bytes that the records write. -/
def Wri (D : List RD) (W : List (Nat × List Int × Bool)) : Prop := ∀ d ∈ W, d.2.2 = false ∧ (∀ i, d.1 ≤ i → i < d.1 + d.2.1.length → cov D i) ∧ d.1 + d.2.1.length ≤ endD D ∧ Byts d.2.1

def recW (D : List RD) : List (Nat × List Int × Bool) := D.flatMap (fun r => cuts r.1.toNat r.2)

theorem endD_mem {D : List RD} {r : RD} (h : r ∈ D) (hn : r.2 ≠ []) : r.1.toNat + r.2.length ≤ endD D := by
  induction D with
  | nil => cases h
  | cons x D ih =>
    rw [endD]
    rcases List.mem_cons.1 h with rfl | h
    · rw [if_neg hn]; omega
    · have := ih h; omega

theorem recW_wri {D E : List RD} (hs : ∀ r ∈ E, r ∈ D) (hb : ∀ r ∈ D, Byts r.2) : Wri D (recW E) := by
  intro d hd
  obtain ⟨r, hr, h⟩ := List.mem_flatMap.1 hd
  obtain ⟨h1, h2, h3, h4, h5⟩ := cuts_mem _ _ _ (Nat.le_refl _) d h
  have hne : r.2 ≠ [] := fun e => by
    rw [e, cuts_nil] at h
    cases h
  have := endD_mem (hs r hr) hne
  exact ⟨h1, fun i hi hj => ⟨r, hs r hr, by omega, by omega⟩, by omega, h5 (hb r (hs r hr))⟩

theorem laidD_byts {p : Nat} {b l : List Int} (hb : Byts b) (hl : Byts l) : Byts (laidD (p, b, false) l) := fun i => by
  rw [laidD_get]
  split
  · exact hb _
  · exact hl _

theorem left_like {D : List RD} {W : List (Nat × List Int × Bool)} (hW : Wri D W) (S : List Int) (hS : Byts S) (kp : List Bool) : ∀ j, j ≤ W.length → Like D S (leftD S W kp j)
  | 0, _ => Like.refl D hS
  | j + 1, hj => by
    have ih := left_like hW S hS kp j (by omega)
    rw [leftD]
    split
    · have hd : W.getD j (0, [], false) ∈ W := by
        have : W.getD j (0, [], false) = W[j] := by simp [show j < W.length by omega]
        rw [this]
        exact List.getElem_mem _
      obtain ⟨h1, h2, h3, h4⟩ := hW _ hd
      generalize W.getD j (0, [], false) = d at *
      obtain ⟨t, b, c⟩ := d
      simp only at *
      subst h1
      refine ⟨fun i hi => ?_, ?_, ?_, laidD_byts h4 ih.by_⟩
      · rw [laidD_get, if_neg (fun h => hi (h2 i h.1 h.2)), ih.out i hi]
      · rw [laidD_length]
        have := ih.lo
        omega
      · rw [laidD_length]
        have := ih.hi
        omega
    · exact ih

theorem doRecs' (D : List RD) : ∀ (A : A3), doAll (recO D) A = ⟨putS A.S D, A.T, A.D ++ recW D⟩ := by
  induction D with
  | nil => intro A; simp [recO, doAll, putS, recW]
  | cons r D ih =>
    intro A
    have h := ih ((AO.wr r.1.toNat r.2).on A)
    rw [show recO (r :: D) = AO.wr r.1.toNat r.2 :: recO D from rfl]
    rw [show doAll (AO.wr r.1.toNat r.2 :: recO D) A = doAll (recO D) ((AO.wr r.1.toNat r.2).on A) from rfl, h]
    simp [AO.on, putS, recW]

theorem recW_laid (D : List RD) : ∀ S, laidsD S (recW D) = putS S D := by
  induction D with
  | nil => intro S; rfl
  | cons r D ih =>
    intro S
    rw [show recW (r :: D) = cuts r.1.toNat r.2 ++ recW D from rfl, laidsD_append, ih, putS]

theorem cuts_one {p : Nat} {b : List Int} (hp : p % 512 = 0) (hb : b.length = 512) : cuts p b = [(p, b, false)] := by
  have h0 : b ≠ [] := fun e => by rw [e] at hb; simp at hb
  rw [cuts, if_neg h0, hp, hb]
  simp
  rw [List.drop_of_length_le (by omega), List.take_of_length_le (by omega), cuts_nil]
  simp

/-- What a crash leaves. -/
def crashD (A : A3) (kp : List Bool) : List Int := leftD A.T A.D kp A.D.length

/-- WHEREVER AN APPLY IS CUT OFF, whatever is kept: only bytes of the records have changed, or all is done and the sign is gone. -/
theorem crash_app {D : List RD} {S : List Int} {p : Nat} (hp : p % 512 = 0) (hS : Byts S) (hD : ∀ r ∈ D, Byts r.2) (k : Nat) (kp : List Bool) :
    Like D S (crashD (doAll ((appO p D).take k) ⟨S, S, []⟩) kp) ∨ crashD (doAll ((appO p D).take k) ⟨S, S, []⟩) kp = appS S p D := by
  have hput : Like D S (putS S D) := by
    refine ⟨putS_out D S, by rw [putS_len]; omega, by rw [putS_len]; omega, ?_⟩
    have h := left_like (recW_wri (fun r h => h) hD) S hS (List.replicate (recW D).length true) (recW D).length (Nat.le_refl _)
    have e : ∀ (W : List (Nat × List Int × Bool)) (T : List Int) (j : Nat), j ≤ W.length → leftD T W (List.replicate W.length true) j = laidsD T (W.take j) := by
      intro W T j
      induction j with
      | zero => intro _; rfl
      | succ j ih =>
        intro hj
        rw [leftD, if_pos (by simp [show j < W.length by omega]), ih (by omega), take_get W j (by omega) (0, [], false), laidsD_append]
        rfl
    rw [e _ _ _ (Nat.le_refl _), List.take_length, recW_laid] at h
    exact h.by_
  have hlen : (recO D).length = D.length := by simp [recO]
  by_cases h1 : k ≤ D.length
  · left
    have e : (appO p D).take k = recO (D.take k) := by
      unfold appO
      rw [List.take_append_of_le_length (by omega)]
      simp [recO, List.map_take]
    rw [e, doRecs']
    exact left_like (recW_wri (fun r h => List.mem_of_mem_take h) hD) S hS kp _ (by simp)
  · have e0 : (appO p D).take k = recO D ++ ([AO.fl] ++ clrO p).take (k - D.length) := by
      unfold appO
      rw [List.take_append, hlen, List.take_of_length_le (by omega)]
    have e1 : doAll (recO D ++ [AO.fl]) ⟨S, S, []⟩ = ⟨putS S D, putS S D, []⟩ := by
      rw [doAll_append, doRecs']
      simp [doAll, AO.on, recW_laid]
    rw [e0]
    match hk : k - D.length with
    | 0 => omega
    | 1 =>
      left
      rw [show ([AO.fl] ++ clrO p).take 1 = [AO.fl] from rfl, e1]
      exact hput
    | 2 =>
      rw [show ([AO.fl] ++ clrO p).take 2 = [AO.fl] ++ [AO.wr p Z512] from rfl, ← List.append_assoc, doAll_append, e1]
      simp only [doAll, List.foldl_cons, List.foldl_nil, AO.on, crashD, cuts_one hp Z512_len, List.nil_append, List.length_singleton, leftD]
      split
      · right
        unfold appS
        rw [cuts_one hp Z512_len]
        rfl
      · left
        exact hput
    | j + 3 =>
      right
      rw [show ([AO.fl] ++ clrO p).take (j + 3) = [AO.fl] ++ clrO p from by simp [clrO], show recO D ++ ([AO.fl] ++ clrO p) = appO p D from rfl, app_state]
      rfl
end Go.Proofs.YtiokjlckngkhnaaGreat.Oct

namespace Go.Proofs.YtiokjlckngkhnaaGreat.Oct
open Go.RowKit Go.Deep Go.Sort

theorem putS_byQ (g : Nat → Int) : ∀ (D : List RD), (∀ r ∈ D, ∀ j, j < r.2.length → r.2.getD j 0 = g (r.1.toNat + j)) → ∀ (S : List Int) (i : Nat), cov D i → (putS S D).getD i 0 = g i
  | [], _, S, i, ⟨r, hr, _⟩ => by cases hr
  | r :: D, h, S, i, hc => by
    rw [putS]
    by_cases h2 : cov D i
    · exact putS_byQ g D (fun x hx => h x (List.mem_cons_of_mem _ hx)) _ i h2
    · rw [putS_out D _ i h2]
      obtain ⟨x, hx, h1⟩ := hc
      rcases List.mem_cons.1 hx with rfl | hx
      · rw [wr_get, if_pos h1, h x (List.mem_cons_self ..) _ (by omega)]
        congr 1
        omega
      · exact absurd ⟨x, hx, h1⟩ h2

/-- Marks of the counts alone: one sector, or none. -/
theorem secs_one {B M : Int → List Int} {H : Nat} (hH : H ≤ 100) (hl : ∀ s, (M s).length = 512) (hneg : ∀ s : Int, ¬ (0 ≤ s ∧ s < 8192) → M s = Z5) (hout : ∀ x y, ¬ (15360 ≤ x ∧ x < 15360 + 2 * H) → valT B M x y = y) :
    (∀ s : Int, 2 ∈ M s → s = 30) ∧ (secsM M = [] ∨ secsM M = [30]) := by
  have h1 : ∀ s : Int, 2 ∈ M s → s = 30 := fun s hs => by
    by_cases h0 : 0 ≤ s ∧ s < 8192
    · obtain ⟨n, rfl⟩ := Int.eq_ofNat_of_zero_le h0.1
      obtain ⟨j, hj, hv⟩ := List.getElem_of_mem hs
      have hj5 : j < 512 := by rw [hl] at hj; exact hj
      by_cases hc : 15360 ≤ 512 * n + j ∧ 512 * n + j < 15360 + 2 * H
      · omega
      · have := out_mk (B := B) (M := M) (x := 512 * n + j) (fun y => hout _ y hc)
        unfold mkT at this
        rw [show (512 * n + j) / 512 = n by omega, show (512 * n + j) % 512 = j by omega, List.getD_eq_getElem?_getD, List.getElem?_eq_getElem hj, Option.getD_some] at this
        have hv2 : (M (n : Int))[j] = 2 := hv
        omega
    · rw [hneg s h0] at hs
      exact absurd (List.eq_of_mem_replicate hs) (by decide)
  refine ⟨h1, ?_⟩
  by_cases h30 : 2 ∈ M 30
  · right
    refine rise_eq _ _ (secsM_rise M) (by simp) (fun x => ?_)
    rw [secsM_mem, List.mem_singleton]
    exact ⟨fun h => h1 x h.2, fun h => by subst h; exact ⟨by omega, h30⟩⟩
  · left
    refine rise_eq _ _ (secsM_rise M) (by simp) (fun x => ?_)
    rw [secsM_mem]
    exact ⟨fun h => absurd (h1 x h.2 ▸ h.2) h30, fun h => (by cases h)⟩

theorem runs_one {M : Int → List Int} (h : secsM M = [] ∨ secsM M = [30]) : (runsM M = [] ∧ secsM M = []) ∨ (runsM M = [(15360, 15872)] ∧ secsM M = [30]) := by
  rcases h with h | h
  · left
    refine ⟨?_, h⟩
    unfold runsM
    rw [h]
    rfl
  · right
    refine ⟨?_, h⟩
    unfold runsM
    rw [h]
    simp [runsL, runS]

theorem recD_by (S : List Int) (B M : Int → List Int) (r : Int × Int) (j : Nat) (hj : j < (recD S B M r).2.length) : (recD S B M r).2.getD j 0 = seeT S B M ((recD S B M r).1.toNat + j) := by
  rw [recD_len] at hj
  show ((List.range (r.2 - r.1).toNat).map (fun i => seeT S B M (r.1.toNat + i))).getD j 0 = _
  rw [List.getD_eq_getElem?_getD, List.getElem?_map, List.getElem?_range hj]
  rfl

/-- The bytes behind the Commit. -/
theorem stays_get {S : List Int} {B M : Int → List Int} {H : Nat} {Ct : List Int} (h : CtsR S B M H Ct) (hH : H ≤ 100) (hl : ∀ s, (M s).length = 512) (hneg : ∀ s : Int, ¬ (0 ≤ s ∧ s < 8192) → M s = Z5) (htwo : ∀ q, mkT M q = 0 ∨ mkT M q = 2) (nu : Int) (i : Nat) (hi : ¬ (512 ≤ i ∧ i < 15360)) :
    (if recsM S B M = [] then S else appS (comS S 512 nu (recsM S B M)) 512 (recsM S B M)).getD i 0 = seeT S B M i := by
  obtain ⟨h1, h2⟩ := secs_one hH hl hneg h.out
  have hno : ∀ x, ¬ 2 ∈ M ((x / 512 : Nat) : Int) → seeT S B M x = S.getD x 0 := fun x hx => by
    unfold seeT valT
    have hm : mkT M x = 0 := by
      rcases htwo x with e | e
      · exact e
      · exfalso
        refine hx ?_
        unfold mkT at e
        have hlt : x % 512 < (M ((x / 512 : Nat) : Int)).length := by rw [hl]; omega
        rw [List.getD_eq_getElem?_getD, List.getElem?_eq_getElem hlt, Option.getD_some] at e
        rw [← e]
        exact List.getElem_mem _
    unfold mkT at hm
    rw [if_pos hm]
  rcases runs_one h2 with ⟨hr, hs⟩ | ⟨hr, hs⟩
  · have e : recsM S B M = [] := by unfold recsM; rw [hr]; rfl
    rw [if_pos e, hno i (fun h9 => by
      have := h1 _ h9
      have h8 := (secsM_mem M 30).2 ⟨by omega, this ▸ h9⟩
      rw [hs] at h8
      cases h8)]
  · have e : recsM S B M = [recD S B M (15360, 15872)] := by unfold recsM; rw [hr]; rfl
    have hlen : (recD S B M (15360, 15872)).2.length = 512 := by rw [recD_len]; rfl
    have hld : lenD (recsM S B M) = 524 := by rw [e]; simp [lenD, hlen]
    rw [if_neg (by rw [e]; simp), appS_get, if_neg (by omega)]
    by_cases hc : cov (recsM S B M) i
    · refine putS_byQ _ _ (fun r hr9 j hj => ?_) _ i hc
      rw [e, List.mem_singleton] at hr9
      subst hr9
      rw [hlen] at hj
      exact recD_by S B M _ j (by rw [hlen]; exact hj)
    · rw [putS_out _ _ i hc, comS_get, if_neg (by omega), if_neg (by rw [hld]; omega), hno i (fun h9 => ?_)]
      have h30 := h1 _ h9
      refine hc ⟨_, by rw [e]; exact List.mem_singleton.2 rfl, ?_, ?_⟩
      · show (15360 : Int).toNat ≤ i
        omega
      · show i < (15360 : Int).toNat + (recD S B M (15360, 15872)).2.length
        rw [hlen]
        omega

def txQ (S : List Int) (D : List RD) : List Int := if D = [] then S else appS (comS S 512 0 D) 512 D

theorem txQ_state (S : List Int) (D : List RD) : doAll (txO 512 0 D) ⟨S, S, []⟩ = ⟨txQ S D, txQ S D, []⟩ := by
  unfold txO txQ
  split
  · rfl
  · rw [doAll_append, com_state, app_state]

theorem stays_len {S : List Int} {B M : Int → List Int} (h2 : secsM M = [] ∨ secsM M = [30]) (hS : S.length = 16896) : (txQ S (recsM S B M)).length = 16896 := by
  unfold txQ
  rcases runs_one h2 with ⟨hr, hs⟩ | ⟨hr, hs⟩
  · rw [if_pos (by unfold recsM; rw [hr]; rfl)]
    exact hS
  · have e : recsM S B M = [recD S B M (15360, 15872)] := by unfold recsM; rw [hr]; rfl
    have hlen : (recD S B M (15360, 15872)).2.length = 512 := by rw [recD_len]; rfl
    have hld : lenD (recsM S B M) = 524 := by rw [e]; simp [lenD, hlen]
    have h1 : (recD S B M (15360, 15872)).1.toNat = 15360 := rfl
    have hne : (recD S B M (15360, 15872)).2 ≠ [] := fun e9 => by rw [e9] at hlen; simp at hlen
    have hz : Z512 ≠ [] := fun e9 => by have := Z512_len; rw [e9] at this; simp at this
    rw [if_neg (by rw [e]; simp)]
    unfold appS
    rw [wr_len, if_neg hz, putS_len, Z512_len, comS_len S 512 15360 0 (recsM S B M) (by omega) (by omega) (by rw [hld]; omega), e]
    unfold endD
    rw [if_neg hne, h1, hlen]
    simp only [endD]
    omega

theorem stays_ops {S : List Int} {B M : Int → List Int} (h2 : secsM M = [] ∨ secsM M = [30]) : sizeR (runsM M) ≤ 524 ∧ rdR S (runsM M) ≤ 1 ∧ (txO 512 0 (recsM S B M)).length ≤ 8 ∧ (∀ r ∈ runsM M, r.1 = 15360 ∧ r.2 = 15872) := by
  rcases runs_one h2 with ⟨hr, hs⟩ | ⟨hr, hs⟩
  · have e : recsM S B M = [] := by unfold recsM; rw [hr]; rfl
    rw [hr, e]
    refine ⟨by simp [sizeR], by simp [rdR], by simp [txO], fun r h => (by cases h)⟩
  · have e : recsM S B M = [recD S B M (15360, 15872)] := by unfold recsM; rw [hr]; rfl
    rw [hr, e]
    refine ⟨by simp [sizeR], ?_, ?_, fun r h => ?_⟩
    · simp only [rdR, List.map_cons, List.map_nil, List.sum_cons, List.sum_nil]
      unfold rdc
      split <;> omega
    · unfold txO
      rw [if_neg (by simp), List.length_append]
      unfold appO clrO comO
      simp [recO_length]
    · rw [List.mem_singleton] at h
      subst h
      exact ⟨rfl, rfl⟩

/-- The counts as bytes. -/
def wantL (m : List Int) : List Int := m.flatMap (fun c => bytesOf c 2)

theorem want_two (c : Int) : bytesOf c 2 = [c % 256, c / 256 % 256] := by
  simp [bytesOf]

theorem want_len (m : List Int) : (wantL m).length = 2 * m.length := by
  unfold wantL
  induction m with
  | nil => rfl
  | cons c m ih =>
    rw [List.flatMap_cons, List.length_append, ih, want_two]
    simp
    omega

theorem want_get : ∀ (m : List Int) (n : Nat), n < m.length → (wantL m).getD (2 * n) 0 = m.getD n 0 % 256 ∧ (wantL m).getD (2 * n + 1) 0 = m.getD n 0 / 256 % 256
  | [], n, h => by simp at h
  | c :: m, 0, _ => by
    unfold wantL
    rw [List.flatMap_cons, want_two]
    simp
  | c :: m, n + 1, h => by
    have ih := want_get m n (by simpa using h)
    unfold wantL at *
    rw [List.flatMap_cons, want_two]
    simp only [List.cons_append, List.nil_append, List.getD_cons_succ]
    rw [show 2 * (n + 1) = 2 * n + 1 + 1 by omega]
    simp only [List.getD_cons_succ]
    exact ih

theorem want_byts (m : List Int) : Byts (wantL m) := fun j => by
  by_cases hj : j < 2 * m.length
  · have h := want_get m (j / 2) (by omega)
    rcases Nat.mod_two_eq_zero_or_one j with e | e
    · rw [show j = 2 * (j / 2) by omega, h.1]
      omega
    · rw [show j = 2 * (j / 2) + 1 by omega, h.2]
      omega
  · rw [List.getD_eq_getElem?_getD, List.getElem?_eq_none (by rw [want_len]; omega)]
    simp

theorem over_bytsQ {l b : List Int} {t : Nat} (h : t + b.length ≤ l.length) (h1 : Byts l) (h2 : Byts b) : Byts (over l t b) := fun i => by
  rw [overP_get _ _ _ h]
  split
  · exact h2 _
  · exact h1 _

/-- What the law asks. -/
theorem stays_says {S : List Int} {B M : Int → List Int} {H : Nat} {Ct : List Int} (h : CtsR S B M H Ct) (x : Nat) : seeT S B M x = if 15360 ≤ x ∧ x < 15360 + 2 * H then (wantL Ct).getD (x - 15360) 0 else S.getD x 0 := by
  by_cases hx : 15360 ≤ x ∧ x < 15360 + 2 * H
  · rw [if_pos hx]
    obtain ⟨n, hn⟩ : ∃ n, n = (x - 15360) / 2 := ⟨_, rfl⟩
    have hnH : n < H := by omega
    have hg := want_get Ct n (by rw [h.len]; exact hnH)
    have he := h.eq n hnH
    have b0 := h.by_ (15360 + 2 * n)
    have b1 := h.by_ (15360 + 2 * n + 1)
    unfold cntR at he
    rcases Nat.mod_two_eq_zero_or_one (x - 15360) with e | e
    · rw [show x - 15360 = 2 * n by omega, hg.1, he, show x = 15360 + 2 * n by omega]
      omega
    · rw [show x - 15360 = 2 * n + 1 by omega, hg.2, he, show x = 15360 + 2 * n + 1 by omega]
      omega
  · rw [if_neg hx]
    unfold seeT
    exact h.out x _ hx
end Go.Proofs.YtiokjlckngkhnaaGreat.Oct
