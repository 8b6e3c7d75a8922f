/- The journal is replayed. -/
import Derived.Test.YtiokjlckngkhnaaGreatPJrk
namespace Go.Proofs.YtiokjlckngkhnaaGreat.Oct
open Go.RowKit Go.Deep

/-- No record is barred, and there is one. -/
def okD (p q : Nat) (D : List RD) : Bool := !D.isEmpty && !(D.any (fun r => barB p q r.1 r.2.length))

/-- The records of a body, by what a sign says of it. -/
def cntD (p q : Nat) (c s : Int) (l : List Int) : Option (List RD) :=
  if (moreC 0 l : Int) = s then (match decD l c with | some D => if okD p q D = true then some D else none | none => none) else none

theorem anyB_dat (p q : Nat) (R : List JR) : (R.map JR.dat).any (fun r => barB p q r.1 r.2.length) = anyB p q R := by
  unfold anyB
  rw [List.any_map]
  rfl

theorem decO_small {l : List Int} {p : Nat} {r : RD} (hb : Byts l) (h : decO l p = some r) : 0 ≤ r.1 ∧ r.1 ≤ 4194304 ∧ r.2.length ≤ l.length := by
  have he := decO_end h
  unfold decO at h
  split at h
  · rename_i hc
    simp at h
    have := (num_lt l p hb 8).1
    subst h
    simp only at *
    omega
  · cases h

theorem decM_small {l : List Int} (hb : Byts l) : ∀ {k : Nat} {D : List RD} {p : Nat}, decM l k = some (D, p) → ∀ r ∈ D, 0 ≤ r.1 ∧ r.1 ≤ 4194304 ∧ r.2.length ≤ l.length
  | 0, D, p, h => by
    simp [decM] at h
    obtain ⟨rfl, rfl⟩ := h
    intro r hr
    cases hr
  | k + 1, D, p, h => by
    rw [decM] at h
    split at h
    · cases h
    · rename_i D' p' hm
      split at h
      · cases h
      · rename_i r hr
        simp at h
        obtain ⟨rfl, rfl⟩ := h
        intro x hx
        rcases List.mem_append.1 hx with hx | hx
        · exact decM_small hb hm x hx
        · simp at hx
          subst hx
          exact decO_small hb hr

theorem decD_small' {l : List Int} (hb : Byts l) {c : Int} {D : List RD} (h : decD l c = some D) : (D.length : Int) ≤ max c 0 ∧ D.length ≤ l.length ∧ ∀ r ∈ D, 0 ≤ r.1 ∧ r.1 ≤ 4194304 ∧ r.2.length ≤ l.length := by
  unfold decD at h
  split at h
  · cases h
  · split at h
    · cases h
    · rename_i D' p' hm
      split at h
      · simp at h
        subst h
        have := (decM_end hm).2
        exact ⟨by omega, by omega, decM_small hb hm⟩
      · cases h
end Go.Proofs.YtiokjlckngkhnaaGreat.Oct

namespace Go.Proofs.YtiokjlckngkhnaaGreat.Oct
open Go.RowKit Go.Deep

/-- A journal's first sector; its body, by the sign. -/
def jFst (S : List Int) (p : Nat) : List Int := (S.drop p).take 512
def jBod (S : List Int) (p : Nat) : List Int := (S.drop (p + 512)).take (num (jFst S p) 16 4).toNat

open Classical in
/-- The records that are to be done. -/
noncomputable def pnd (S : List Int) (p q : Nat) : Option (List RD) :=
  if isSgn (jFst S p) then cntD p q (num (jFst S p) 12 4) (num (jFst S p) 20 4) (jBod S p) else none

open Classical in
/-- How many reads that takes. -/
noncomputable def rdsN (S : List Int) (p : Nat) : Nat := if isSgn (jFst S p) then 2 else 1

theorem drewB {n : Nat} {w w' : World} (hb : Below n w w') (k : Nat) : Below n w (w'.drewN k) := ⟨hb.os, hb.tape, hb.output, hb.size, hb.block⟩

theorem OwnK.mono {w : World} {B B' : Nat} {v : Value} {R : List JR} (h : OwnK w B v R) (hb : B' ≤ B) : OwnK w B' v R :=
  ⟨⟨h.row.1, (h.row.2).imp id (fun ⟨g, cap, cur, h1, h2, h3⟩ => ⟨g, cap, cur, h1, Nat.le_trans hb h2, h3⟩)⟩, fun r hr => ⟨(h.far r hr).1, fun hne => by
    obtain ⟨g, h1, h2, h3⟩ := (h.far r hr).2 hne
    exact ⟨g, h1, Nat.le_trans hb h2, h3⟩⟩⟩

theorem OwnK.chg {X : Nat → Prop} {w w' : World} {B : Nat} {v : Value} {R : List JR} (h : OwnK w B v R) (hc : Chg X w w') (hx : ∀ i, B ≤ i → ¬ X i) : OwnK w' B v R :=
  ⟨ownsRow_chg h.row hc (fun g hg => hx g (World.ownsRow.lt h.row g hg).1), fun r hr => by
    refine ⟨?_, fun hne => ?_⟩
    · have hs := (h.far r hr).1
      refine ⟨hs.le, hs.max, hs.none, ?_⟩
      by_cases hbn : r.b = []
      · rw [hbn]; exact Lies.nil _ _
      · obtain ⟨g, h1, h2, h3, h4⟩ := (h.far r hr).2 hbn
        exact hs.lies.chg hc (fun x hx9 => by rw [h1] at hx9; cases hx9; exact hx g h2)
    · obtain ⟨g, h1, h2, h3, h4⟩ := (h.far r hr).2 hne
      exact ⟨g, h1, h2, Nat.lt_of_lt_of_le h3 hc.size, h4⟩⟩

theorem five0 {u : World} {J F p q G : Nat} {nu : Int} {x0 x1 x2 x3 : Value} (h : Jrn u J F p q nu) (hb : Blk u G #[x0, x1, x2, x3] 108) :
    u.cell? ⟨J, 0, none⟩ = some (.pointer (some ⟨F, 0, none⟩)) ∧ u.cell? ⟨G, 0, none⟩ = some x0 ∧ u.cell? ⟨G, 1, none⟩ = some x1 ∧ u.cell? ⟨G, 2, none⟩ = some x2 ∧ u.cell? ⟨G, 3, none⟩ = some x3 :=
  ⟨h.cells.1, hb.cell 0 _ rfl, hb.cell 1 _ rfl, hb.cell 2 _ rfl, hb.cell 3 _ rfl⟩

theorem two0 {u : World} {J F p q : Nat} {nu : Int} (h : Jrn u J F p q nu) :
    u.cell? ⟨J, 0, none⟩ = some (.pointer (some ⟨F, 0, none⟩)) ∧ u.cell? ⟨J, 1, none⟩ = some (.int .i64 (p : Int)) :=
  ⟨h.cells.1, h.cells.2.1⟩
end Go.Proofs.YtiokjlckngkhnaaGreat.Oct

namespace Go.Proofs.YtiokjlckngkhnaaGreat.Oct
open Go.RowKit Go.Deep

theorem decO_at {l : List Int} {p : Nat} {r : RD} (h : decO l p = some r) : p + 12 ≤ l.length ∧ r = (num l p 8, (l.drop (p + 12)).take (num l (p + 8) 4).toNat) := by
  unfold decO at h
  split at h
  · rename_i hc
    simp at h
    exact ⟨hc.1, h.symm⟩
  · cases h

theorem decM_len {l : List Int} : ∀ {k : Nat} {D : List RD} {p : Nat}, decM l k = some (D, p) → lenD D = p
  | 0, D, p, h => by
    simp [decM] at h
    obtain ⟨rfl, rfl⟩ := h
    rfl
  | k + 1, D, p, h => by
    rw [decM] at h
    split at h
    · cases h
    · rename_i D' p' hm
      split at h
      · cases h
      · rename_i r hr
        simp at h
        obtain ⟨rfl, rfl⟩ := h
        rw [lenD_append, decM_len hm]
        simp [lenD]

theorem decD_len {l : List Int} {c : Int} {D : List RD} (h : decD l c = some D) : lenD D = l.length := by
  unfold decD at h
  split at h
  · cases h
  · split at h
    · cases h
    · rename_i D' p' hm
      split at h
      · rename_i hp
        simp at h
        subst h
        rw [decM_len hm, hp]
      · cases h

theorem cntD_some {p q : Nat} {c s : Int} {l : List Int} {D : List RD} (h : cntD p q c s l = some D) : decD l c = some D ∧ okD p q D = true ∧ (moreC 0 l : Int) = s := by
  unfold cntD at h
  split at h
  · rename_i hs
    split at h
    · rename_i D' hd
      split at h
      · rename_i hok
        simp at h
        subst h
        exact ⟨hd, hok, hs⟩
      · cases h
    · cases h
  · cases h

/-- Records that may be written. -/
def MayD (p q : Nat) (D : List RD) : Prop := ∀ r ∈ D, 0 ≤ r.1 ∧ r.1 + r.2.length ≤ 4194304 ∧ (r.2.length = 0 ∨ (q : Int) ≤ r.1 ∨ r.1 + r.2.length ≤ p)

theorem okD_may {p q : Nat} {D : List RD} (h : okD p q D = true) : D ≠ [] ∧ MayD p q D := by
  unfold okD at h
  simp only [Bool.and_eq_true, Bool.not_eq_true', List.isEmpty_eq_false_iff, List.any_eq_false] at h
  refine ⟨h.1, fun r hr => ?_⟩
  have := h.2 r hr
  unfold barB at this
  simp at this
  omega

theorem may_okD {p q : Nat} {D : List RD} (h0 : D ≠ []) (h : MayD p q D) : okD p q D = true := by
  unfold okD
  simp only [Bool.and_eq_true, Bool.not_eq_true', List.isEmpty_eq_false_iff, List.any_eq_false]
  refine ⟨h0, fun r hr => ?_⟩
  have := h r hr
  unfold barB
  simp
  omega

theorem pnd_some {S : List Int} {p q : Nat} {D : List RD} (h : pnd S p q = some D) : isSgn (jFst S p) ∧ D ≠ [] ∧ MayD p q D ∧ lenD D = (jBod S p).length ∧ D.length ≤ (jBod S p).length := by
  unfold pnd at h
  split at h
  · rename_i hs
    obtain ⟨h1, h2, h3⟩ := cntD_some h
    have := okD_may h2
    refine ⟨hs, this.1, this.2, decD_len h1, ?_⟩
    rw [← decD_len h1]
    clear h h1 h2 h3 hs this
    induction D with
    | nil => simp
    | cons r D ih =>
      have e : lenD (r :: D) = (12 + r.2.length) + lenD D := by simp [lenD]
      rw [e]
      simp
      omega
  · cases h
end Go.Proofs.YtiokjlckngkhnaaGreat.Oct
