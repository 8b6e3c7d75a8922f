/- Clusters that are given out, each put into an entry of a table: what the bytes say of it. No program. -/
import Derived.Test.YtibkhgmmjhlpmaaGreatPJxpTzaJxqNoa
import Derived.Test.YtibkhgmmjhlpmaaGreatPRfzRfq
import Derived.Test.YtibkhgmmjhlpmaaGreatPTbsTbt
namespace Go.Proofs.YtibkhgmmjhlpmaaGreat.Oct
open Go.RowKit Go.Deep Go.Sort

/-- The counts that bytes say: 33, and k more, have one. -/
def CntF (g : Nat → Int) (k : Nat) : Prop := ∀ n, n < 120 → g (15360 + 2 * n) + 256 * g (15360 + 2 * n + 1) = if n < 33 + k then 1 else 0

/-- The entries that bytes say. -/
structure EntF (g : Nat → Int) (E : List E3) : Prop where
  len : E.length = 64
  ok : ∀ i, i < 64 → okN (E.getD i z3) = true
  by_ : ∀ i, i < 64 → ∀ b, b < 8 → g (32 * 512 + 8 * i + b) = enN (E.getD i z3) / 2 ^ (8 * b) % 256

/-- The entries of used places: in their order. -/
structure EntU (E : List E3) (U : List Nat) : Prop where
  no : ∀ i, i < 64 → i ∉ U → E.getD i z3 = z3
  yes : ∀ j, j < U.length → E.getD (U.getD j 0) z3 = (2, 33 + (j : Int), true)
  nd : U.Nodup
  lt : ∀ i ∈ U, i < 64

theorem EntF.ents {S : List Int} {B M : Int → List Int} {E : List E3} (h : EntF (seeT S B M) E) : Ents S B M 32 E := ⟨h.len, h.ok, h.by_⟩

theorem EntU.not {E : List E3} {U : List Nat} (h : EntU E U) (i : Nat) (hi : i < 64) : ((E.getD i z3).1 = 2 ↔ i ∈ U) := by
  constructor
  · intro h2
    refine Classical.byContradiction fun hn => ?_
    rw [h.no i hi hn] at h2
    cases h2
  · intro hm
    obtain ⟨j, hj, e⟩ := List.getElem_of_mem hm
    have e2 : U.getD j 0 = i := by simp [hj, e]
    have := h.yes j hj
    rw [e2] at this
    rw [this]

theorem EntU.at_ {E : List E3} {U : List Nat} (h : EntU E U) (i : Nat) (hm : i ∈ U) : ∃ j, j < U.length ∧ U.getD j 0 = i ∧ E.getD i z3 = (2, 33 + (j : Int), true) := by
  obtain ⟨j, hj, e⟩ := List.getElem_of_mem hm
  have e2 : U.getD j 0 = i := by simp [hj, e]
  have := h.yes j hj
  rw [e2] at this
  exact ⟨j, hj, e2, this⟩

/-- No two entries have one cluster. -/
theorem EntU.other {E : List E3} {U : List Nat} (h : EntU E U) {i j : Nat} (hi : i ∈ U) (hj : j ∈ U) (he : (E.getD i z3).2.1 = (E.getD j z3).2.1) : i = j := by
  obtain ⟨a, ha, ea, e1⟩ := h.at_ i hi
  obtain ⟨b, hb, eb, e2⟩ := h.at_ j hj
  rw [e1, e2] at he
  simp only at he
  have : a = b := by omega
  subst this
  rw [← ea, ← eb]

theorem EntU.push {E : List E3} {U : List Nat} (h : EntU E U) (hl : E.length = 64) (p : Nat) (hp : p < 64) (hn : p ∉ U) : EntU (E.set p (2, 33 + (U.length : Int), true)) (U ++ [p]) := by
  have hg : ∀ i, (E.set p (2, 33 + (U.length : Int), true)).getD i z3 = if i = p then (2, 33 + (U.length : Int), true) else E.getD i z3 := fun i => by
    rw [List.getD_eq_getElem?_getD, List.getElem?_set]
    by_cases e : p = i
    · subst e
      rw [if_pos rfl, if_pos (by omega), if_pos rfl]
      rfl
    · rw [if_neg e, if_neg (fun e2 => e e2.symm), ← List.getD_eq_getElem?_getD]
  refine ⟨fun i hi hm => ?_, fun j hj => ?_, ?_, fun i hi => ?_⟩
  · rw [hg, if_neg (fun e => hm (by simp [e]))]
    exact h.no i hi (fun e => hm (by simp [e]))
  · simp at hj
    rcases Nat.lt_or_ge j U.length with h1 | h1
    · have e : (U ++ [p]).getD j 0 = U.getD j 0 := by simp [List.getElem?_append_left h1]
      rw [e, hg, if_neg (fun e2 => hn (by rw [← e2]; simp [h1])), h.yes j h1]
    · obtain rfl : j = U.length := by omega
      have e : (U ++ [p]).getD U.length 0 = p := by simp
      rw [e, hg, if_pos rfl]
  · rw [List.nodup_append]
    exact ⟨h.nd, by simp, fun a ha b hb => by simp at hb; subst hb; exact fun e => hn (e ▸ ha)⟩
  · rcases List.mem_append.1 hi with h1 | h1
    · exact h.lt i h1
    · simp at h1; omega

/-- How many of the first places are used. -/
def cU (U : List Nat) : Nat → Nat
  | 0 => 0
  | n + 1 => cU U n + (if n ∈ U then 1 else 0)

theorem cU_cons (p : Nat) (U : List Nat) (hp : p ∉ U) : ∀ n, cU (p :: U) n = cU U n + (if p < n then 1 else 0)
  | 0 => by simp [cU]
  | n + 1 => by
    rw [cU, cU, cU_cons p U hp n]
    have e0 : (if n ∈ p :: U then 1 else 0) = (if n = p then 1 else 0) + (if n ∈ U then 1 else 0 : Nat) := by
      by_cases h1 : n = p
      · subst h1
        rw [if_pos (List.mem_cons_self ..), if_pos rfl, if_neg hp]
      · have e : n ∈ p :: U ↔ n ∈ U := by simp [h1]
        simp only [e, if_neg h1, Nat.zero_add]
    have e1 : (if p < n + 1 then 1 else 0) = (if p < n then 1 else 0) + (if n = p then 1 else 0 : Nat) := by
      by_cases h1 : p < n
      · rw [if_pos h1, if_pos (by omega), if_neg (by omega)]
      · by_cases h2 : n = p
        · rw [if_neg h1, if_pos (by omega), if_pos h2]
        · rw [if_neg h1, if_neg (by omega), if_neg h2]
    rw [e0, e1]
    omega

theorem cU_all : ∀ (U : List Nat), U.Nodup → (∀ i ∈ U, i < 64) → cU U 64 = U.length
  | [], _, _ => by
    have : ∀ n, cU [] n = 0 := fun n => by
      induction n with
      | zero => rfl
      | succ n ih => rw [cU, ih]; simp
    rw [this]; rfl
  | p :: U, hn, hl => by
    obtain ⟨h1, h2⟩ := List.nodup_cons.1 hn
    rw [cU_cons p U h1, cU_all U h2 (fun i hi => hl i (List.mem_cons_of_mem _ hi)), if_pos (hl p (List.mem_cons_self ..))]
    rfl

theorem cU_le (U : List Nat) : ∀ n, cU U n ≤ n
  | 0 => by simp [cU]
  | n + 1 => by have := cU_le U n; rw [cU]; split <;> omega

/-- What changes leave as it is. -/
def OutU (B M : Int → List Int) : Prop := ∀ x : Nat, ¬ ((15360 ≤ x ∧ x < 15872) ∨ (16384 ≤ x ∧ x < 16896)) → ∀ y, valT B M x y = y

/-- What is known of the changes when clusters were given out for the places U. -/
structure Gvn (S : List Int) (B M : Int → List Int) (E : List E3) (U : List Nat) : Prop where
  by_ : ∀ x, 0 ≤ seeT S B M x ∧ seeT S B M x < 256
  cnt : CntF (seeT S B M) U.length
  ent : EntF (seeT S B M) E
  use : EntU E U
  out : OutU B M

theorem Gvn.lo {S : List Int} {B M : Int → List Int} {E : List E3} {U : List Nat} (h : Gvn S B M E U) (hU : U.length < 87) : loR (cntR S B M) 120 = ((33 + U.length : Nat) : Int) := by
  have hc : ∀ n, n < 120 → cntR S B M n = if n < 33 + U.length then 1 else 0 := h.cnt
  rw [loR_first (cntR S B M) (33 + U.length) (by rw [hc _ (by omega), if_neg (by omega)]) (by omega) (fun m h1 h2 => by rw [hc m (by omega), if_pos h2]; omega) 120, if_neg (by omega)]

theorem Gvn.step {S : List Int} {B M B1 M1 B2 M2 : Int → List Int} {E : List E3} {U : List Nat} (h : Gvn S B M E U) (hU : U.length < 87) (p : Nat) (hp : p < 64) (hn : p ∉ U) (h1 : SetR B M B1 M1 (33 + U.length) 1)
    (h2 : ∀ x y, valT B2 M2 x y = if 32 * 512 + 8 * p ≤ x ∧ x < 32 * 512 + 8 * p + 8 then encN 2 (33 + (U.length : Int)) true / 2 ^ (8 * (x - (32 * 512 + 8 * p))) % 256 else valT B1 M1 x y) :
    Gvn S B2 M2 (E.set p (2, 33 + (U.length : Int), true)) (U ++ [p]) := by
  have s1 : ∀ x, seeT S B1 M1 x = if 15360 + 2 * (33 + U.length) ≤ x ∧ x < 15360 + 2 * (33 + U.length) + 2 then 1 / 2 ^ (8 * (x - (15360 + 2 * (33 + U.length)))) % 256 else seeT S B M x := fun x => h1 x _
  have s2 : ∀ x, seeT S B2 M2 x = if 32 * 512 + 8 * p ≤ x ∧ x < 32 * 512 + 8 * p + 8 then encN 2 (33 + (U.length : Int)) true / 2 ^ (8 * (x - (32 * 512 + 8 * p))) % 256 else seeT S B1 M1 x := fun x => h2 x _
  have hb1 : ∀ x, 0 ≤ seeT S B1 M1 x ∧ seeT S B1 M1 x < 256 := see_by h1 h.by_
  have hok : okN (2, 33 + (U.length : Int), true) = true := decide_eq_true (Or.inl ⟨rfl, by simp only; omega, by simp only; omega⟩)
  have hg : ∀ i, (E.set p (2, 33 + (U.length : Int), true)).getD i z3 = if i = p then (2, 33 + (U.length : Int), true) else E.getD i z3 := fun i => by
    have hl := h.ent.len
    rw [List.getD_eq_getElem?_getD, List.getElem?_set]
    by_cases e : p = i
    · subst e
      rw [if_pos rfl, if_pos (by omega), if_pos rfl]
      rfl
    · rw [if_neg e, if_neg (fun e2 => e e2.symm), ← List.getD_eq_getElem?_getD]
  refine ⟨fun x => ?_, fun n hn9 => ?_, ⟨by rw [List.length_set]; exact h.ent.len, fun i hi => ?_, fun i hi b hb => ?_⟩, h.use.push h.ent.len p hp hn, fun x hx y => ?_⟩
  · rw [s2]
    split
    · omega
    · exact hb1 x
  · have hc := cnt_set (S := S) h1 (by omega) n
    unfold cntR at hc
    rw [s2, s2, if_neg (by omega), if_neg (by omega), hc, List.length_append, List.length_singleton]
    have h9 := h.cnt n hn9
    by_cases e : n = 33 + U.length
    · rw [if_pos e, if_pos (by omega)]
    · rw [if_neg e, h9]
      by_cases e2 : n < 33 + U.length
      · rw [if_pos e2, if_pos (by omega)]
      · rw [if_neg e2, if_neg (by omega)]
  · rw [hg]
    split
    · exact hok
    · exact h.ent.ok i hi
  · rw [s2, hg]
    by_cases e : i = p
    · subst e
      rw [if_pos (by omega), if_pos rfl, show 32 * 512 + 8 * i + b - (32 * 512 + 8 * i) = b by omega]
      rfl
    · rw [if_neg (by omega), if_neg e, s1, if_neg (by omega)]
      exact h.ent.by_ i hi b hb
  · rw [h2 x y, if_neg (by omega), h1 x y, if_neg (by omega)]
    exact h.out x hx y

theorem mk0_val {B M : Int → List Int} {x : Nat} (h : mkT M x = 0) (y : Int) : valT B M x y = y := by
  unfold valT
  exact if_pos h

/-- The bytes that changes show, as a list. -/
def lisU (S : List Int) (B M : Int → List Int) : List Int := (List.range 16896).map (fun i => seeT S B M i)

theorem lisU_len (S : List Int) (B M : Int → List Int) : (lisU S B M).length = 16896 := by
  unfold lisU
  rw [List.length_map, List.length_range]

theorem lisU_get (S : List Int) (B M : Int → List Int) (i : Nat) (hi : i < 16896) : (lisU S B M).getD i 0 = seeT S B M i := by
  unfold lisU
  rw [List.getD_eq_getElem?_getD, List.getElem?_map, List.getElem?_range hi]
  rfl

/-- Changes of clusters that were given out, as a Commit takes them. -/
theorem Gvn.ahm {S : List Int} {B M : Int → List Int} {E : List E3} {U : List Nat} (h : Gvn S B M E U) (hS : S.length = 16896) (ml : ∀ s, (M s).length = 512) (two : ∀ q, mkT M q = 0 ∨ mkT M q = 2) (neg : ∀ s : Int, ¬ (0 ≤ s ∧ s < 8192) → M s = Z5) : Ahm S B M (lisU S B M) := by
  have hout : ∀ x, ¬ ((15360 ≤ x ∧ x < 15872) ∨ (16384 ≤ x ∧ x < 16896)) → mkT M x = 0 := fun x hx => out_mk (h.out x hx)
  refine ⟨ml, fun q => by rcases two q with e | e <;> omega, fun s hs => ?_, fun i hi => ?_, fun i hi => ?_, h.by_⟩
  · by_cases h8 : 0 ≤ s ∧ s < 8192
    · obtain ⟨n, rfl⟩ := Int.eq_ofNat_of_zero_le h8.1
      obtain ⟨q, hq, e⟩ := (mem_mk ml n).1 hs
      have : (15360 ≤ q ∧ q < 15872) ∨ (16384 ≤ q ∧ q < 16896) := Classical.byContradiction fun hn => by
        rw [hout q hn] at e
        cases e
      omega
    · rw [neg s h8] at hs
      exact absurd (List.eq_of_mem_replicate hs) (by decide)
  · have e : mkT M i = 0 := (two i).resolve_right (fun e => hi ((mem_mk ml _).2 ⟨i, rfl, e⟩))
    show S.getD i 0 = _
    unfold seeT
    rw [mk0_val e]
  · by_cases h2 : i < 16896
    · exact lisU_get S B M i h2
    · have e := hout i (by omega)
      unfold seeT
      rw [mk0_val e, List.getD_eq_getElem?_getD, List.getD_eq_getElem?_getD, List.getElem?_eq_none (by rw [lisU_len]; omega), List.getElem?_eq_none (by omega)]

/-- The bytes of a file that was opened again say as much. -/
theorem said_by {g g' : Nat → Int} (h : ∀ x, 15360 ≤ x → x < 16896 → g' x = g x) {E : List E3} {k : Nat} (hc : CntF g k) (he : EntF g E) : CntF g' k ∧ EntF g' E :=
  ⟨fun n hn => by rw [h _ (by omega) (by omega), h _ (by omega) (by omega)]; exact hc n hn, he.len, he.ok, fun i hi b hb => by rw [h _ (by omega) (by omega)]; exact he.by_ i hi b hb⟩

/-- The file as it is at first. -/
structure Bas (S : List Int) : Prop where
  len : S.length = 16896
  one : ∀ i, S.getD i 0 = if 15360 ≤ i ∧ i < 15426 ∧ i % 2 = 0 then 1 else 0

theorem enN_zero (b : Nat) : enN z3 / 2 ^ (8 * b) % 256 = 0 := by
  have : enN z3 = 0 := by decide
  rw [this]
  simp

theorem Bas.says {S : List Int} (h : Bas S) : Byts S ∧ S.getD 512 0 = 0 ∧ (∀ i, i < 512 → S.getD i 0 = 0) ∧ CntF (fun x => S.getD x 0) 0 ∧ EntF (fun x => S.getD x 0) (List.replicate 64 z3) ∧ EntU (List.replicate 64 z3) [] := by
  have hz : ∀ i, (List.replicate 64 z3).getD i z3 = z3 := fun i => by
    rw [List.getD_eq_getElem?_getD, List.getElem?_replicate]
    split <;> rfl
  refine ⟨fun i => by rw [h.one]; split <;> omega, by rw [h.one]; simp, fun i hi => by rw [h.one, if_neg (by omega)], fun n hn => ?_, ⟨List.length_replicate, fun i _ => by rw [hz]; decide, fun i hi b hb => ?_⟩, fun i _ _ => hz i, fun j hj => (by simp at hj), by simp, fun i hi => (by cases hi)⟩
  · show S.getD (15360 + 2 * n) 0 + 256 * S.getD (15360 + 2 * n + 1) 0 = _
    rw [h.one (15360 + 2 * n), h.one (15360 + 2 * n + 1)]
    have e2 : ¬ (15360 ≤ 15360 + 2 * n + 1 ∧ 15360 + 2 * n + 1 < 15426 ∧ (15360 + 2 * n + 1) % 2 = 0) := by omega
    rw [if_neg e2]
    by_cases e : n < 33
    · have e3 : 15360 ≤ 15360 + 2 * n ∧ 15360 + 2 * n < 15426 ∧ (15360 + 2 * n) % 2 = 0 := by omega
      rw [if_pos e3, if_pos (by omega)]; rfl
    · have e3 : ¬ (15360 ≤ 15360 + 2 * n ∧ 15360 + 2 * n < 15426 ∧ (15360 + 2 * n) % 2 = 0) := by omega
      rw [if_neg e3, if_neg (by omega)]; rfl
  · show S.getD (32 * 512 + 8 * i + b) 0 = _
    rw [h.one, hz, enN_zero]
    exact if_neg (by omega)

/-- The changes that begin over the file as it is at first. -/
theorem Bas.start {l S : List Int} (h : Bas l) (hf : Fin l 512 15360 [] S) (hs : S = l ∨ S.getD 512 0 = 0) (hb : Byts S) : Rst S S ∧ S.length = 16896 ∧ Gvn S (fun _ => Z5) (fun _ => Z5) (List.replicate 64 z3) [] ∧ ∀ i, 15360 ≤ i → S.getD i 0 = l.getD i 0 := by
  obtain ⟨s1, s2, s3, s4, s5, s6⟩ := h.says
  have hp : putS l [] = l := rfl
  obtain ⟨hl, ho⟩ : S.length = l.length ∧ ∀ i, ¬ (512 ≤ i ∧ i < 15360) → S.getD i 0 = l.getD i 0 := by
    rcases hf with ⟨f1, f2⟩ | ⟨f1, f2⟩
    · exact ⟨f1, f2⟩
    · rw [hp] at f1 f2
      exact ⟨f1, f2⟩
  have hv : ∀ x y, valT (fun _ => Z5) (fun _ => Z5) x y = y := fun x y => by
    unfold valT
    exact if_pos (z5_getQ _)
  have hsee : ∀ x, seeT S (fun _ => Z5) (fun _ => Z5) x = S.getD x 0 := fun x => hv x _
  have hlen : S.length = 16896 := by rw [hl, h.len]
  obtain ⟨a, b⟩ := said_by (g := fun x => l.getD x 0) (g' := seeT S (fun _ => Z5) (fun _ => Z5)) (fun x h1 h2 => by rw [hsee x]; exact ho x (by omega)) s4 s5
  refine ⟨⟨hlen, hb, ?_, fun i hi => by rw [ho i (by omega)]; exact s3 i hi, fun _ _ => rfl⟩, hlen, ⟨fun x => by rw [hsee x]; exact hb x, a, b, s6, fun x _ y => hv x y⟩, fun i hi => ho i (by omega)⟩
  rcases hs with e | e
  · rw [e]; exact s2
  · exact e
end Go.Proofs.YtibkhgmmjhlpmaaGreat.Oct
