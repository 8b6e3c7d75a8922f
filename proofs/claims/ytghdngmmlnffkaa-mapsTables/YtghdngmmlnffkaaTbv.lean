/- A table, the changes beneath it and the document's row beside it, as one. -/
import Derived.Test.YtghdngmmlnffkaaTbu
namespace Go.Proofs.Ytghdngmmlnffkaa.Oct
open Go.RowKit Go.Deep

/-- Where things stand: fixed through all. -/
structure Plc (n0 T J F A Rm : Nat) (X : Nat → Prop) : Prop where
  x : ∀ k, X k → n0 ≤ k ∧ k < J
  j : n0 ≤ J
  t : n0 ≤ T
  a : n0 ≤ A
  r : n0 ≤ Rm
  at_ : A ≠ T
  rt : Rm ≠ T
  ra : Rm ≠ A
  ax : ¬ X A
  rx : ¬ X Rm

def TInv (w0 w : World) (T J F A Rm : Nat) (X : Nat → Prop) (S : List Int) (c : Nat) (Et Em : List E3) (k : Nat) : Prop :=
  ∃ f vb vm B M, Tst w T J F X f S vb vm B M 512 15360 ∧ f.ops ≤ (k : Int) ∧ Tab w A T c ∧ OwnR w w0.heap.size (.slice (some ⟨Rm, 0, none⟩) 64 64) Em ∧ Em.length = 64 ∧ Ents S B M c Et ∧ (∀ x, 0 ≤ seeT S B M x ∧ seeT S B M x < 256) ∧ (∀ r, vb = .map (some r) ∨ vm = .map (some r) → w0.heap.size ≤ r) ∧ Below w0.heap.size w0 w

theorem TInv.below0 {w0 w : World} {T J F A Rm : Nat} {X : Nat → Prop} {S : List Int} {c : Nat} {Et Em : List E3} {k : Nat} (h : TInv w0 w T J F A Rm X S c Et Em k) : Below w0.heap.size w0 w := by
  obtain ⟨f, vb, vm, B, M, _, _, _, _, _, _, _, _, hb⟩ := h
  exact hb

theorem OwnR.below' {w w' : World} {B : Nat} {v : Value} {L : List E3} (h : OwnR w B v L) (hb : RowKit.Below w.heap.size w w') : OwnR w' B v L := h.below hb

theorem OwnR.chg {X : Nat → Prop} {w w' : World} {B g n cap : Nat} {L : List E3} (h : OwnR w B (.slice (some ⟨g, 0, none⟩) n cap) L) (hc : Chg X w w') (hx : ¬ X g) : OwnR w' B (.slice (some ⟨g, 0, none⟩) n cap) L :=
  ownsRow_chg h hc (fun q hq => by
    have : q = g := by simpa [Value.ownBlock] using hq.symm
    rw [this]; exact hx)

theorem TInv.below {w0 w w' : World} {T J F A Rm : Nat} {X : Nat → Prop} {S : List Int} {c : Nat} {Et Em : List E3} {k : Nat} (h : TInv w0 w T J F A Rm X S c Et Em k) (hb : Below w.heap.size w w') : TInv w0 w' T J F A Rm X S c Et Em k := by
  obtain ⟨f, vb, vm, B, M, h1, h2, h3, h4, h5, h6, h7, h8, h9⟩ := h
  exact ⟨f, vb, vm, B, M, h1.below hb, h2, h3.below hb, h4.below hb, h5, h6, h7, h8, h9.trans (hb.mono h9.size)⟩

theorem TInv.more {w0 w : World} {T J F A Rm : Nat} {X : Nat → Prop} {S : List Int} {c : Nat} {Et Em : List E3} {k k' : Nat} (h : TInv w0 w T J F A Rm X S c Et Em k) (hk : k ≤ k') : TInv w0 w T J F A Rm X S c Et Em k' := by
  obtain ⟨f, vb, vm, B, M, h1, h2, hr⟩ := h
  exact ⟨f, vb, vm, B, M, h1, by omega, hr⟩

theorem inv_get {w0 w : World} {T J F A Rm : Nat} {X : Nat → Prop} {S : List Int} {c : Nat} {Et Em : List E3} {k : Nat} (h : TInv w0 w T J F A Rm X S c Et Em k) (hp : Plc w0.heap.size T J F A Rm X) (hS : S.length ≤ 4194304) (hk : k < 1000) (hc : 1 ≤ c ∧ c < 60) (i : Nat) (hi : i < 64) (x y : Int) (z : Bool) (hx : Et.getD i z3 = (x, y, z)) :
    Calls Try.prog 13 #[.pointer (some ⟨A, 0, none⟩), .int .i64 i] w fun e w' => e = .returned (.tuple #[.agg #[.int .i64 x, .int .i64 y, .bool z], .int .i64 0]) ∧ TInv w0 w' T J F A Rm X S c Et Em (k + 1) := by
  obtain ⟨f, vb, vm, B, M, h1, h2, h3, h4, h5, h6, h7, h8, h9⟩ := h
  have hF := (hp.x F h1.fil.xF).1
  refine (tab_get w A T J F X f S vb vm B M 512 15360 h1 hS (by omega) (fun q hq => Nat.lt_trans (hp.x q hq).2 h1.jr.lt) h7 c h3 hp.ax hc Et h6 i hi x y z hx).mono ?_
  rintro e9 w3 ⟨f', rfl, ht, hf, hcg⟩
  have hAF : A ≠ F := fun e => hp.ax (e ▸ h1.fil.xF)
  have hRF : Rm ≠ F := fun e => hp.rx (e ▸ h1.fil.xF)
  exact ⟨rfl, f', vb, vm, B, M, ht, by omega, (hcg.block A h3.lt hAF).trans h3, h4.chg hcg hRF, h5, h6, h7, h8, h9.trans (hcg.below _ h9.size (fun q hq e => by omega))⟩

theorem inv_get_no {w0 w : World} {T J F A Rm : Nat} {X : Nat → Prop} {S : List Int} {c : Nat} {Et Em : List E3} {k : Nat} (h : TInv w0 w T J F A Rm X S c Et Em k) (i : Int) (hi : ¬ (0 ≤ i ∧ i < 64)) :
    Calls Try.prog 13 #[.pointer (some ⟨A, 0, none⟩), .int .i64 i] w fun e w' => e = .returned (.tuple #[.agg #[.int .i64 0, .int .i64 0, .bool false], .int .i64 4]) ∧ TInv w0 w' T J F A Rm X S c Et Em k := by
  have h0 := h
  obtain ⟨f, vb, vm, B, M, h1, h2, h3, h4, h5, h6, h7, h8, h9⟩ := h
  refine (tab_get_no w A T c h3 i hi).mono ?_
  rintro e9 w3 ⟨rfl, hb⟩
  exact ⟨rfl, h0.below hb⟩

theorem inv_set_no {w0 w : World} {T J F A Rm : Nat} {X : Nat → Prop} {S : List Int} {c : Nat} {Et Em : List E3} {k : Nat} (h : TInv w0 w T J F A Rm X S c Et Em k) (i : Int) (hi : ¬ (0 ≤ i ∧ i < 64)) (x y : Int) (z : Bool) :
    Calls Try.prog 12 #[.pointer (some ⟨A, 0, none⟩), .int .i64 i, .agg #[.int .i64 x, .int .i64 y, .bool z]] w fun e w' => e = .returned (.int .i64 4) ∧ TInv w0 w' T J F A Rm X S c Et Em k := by
  have h0 := h
  obtain ⟨f, vb, vm, B, M, h1, h2, h3, h4, h5, h6, h7, h8, h9⟩ := h
  refine (tab_set_no w A T c h3 i hi x y z).mono ?_
  rintro e9 w3 ⟨rfl, hb⟩
  exact ⟨rfl, h0.below hb⟩

theorem inv_set {w0 w : World} {T J F A Rm : Nat} {X : Nat → Prop} {S : List Int} {c : Nat} {Et Em : List E3} {k : Nat} (h : TInv w0 w T J F A Rm X S c Et Em k) (hp : Plc w0.heap.size T J F A Rm X) (hc : 1 ≤ c ∧ c < 60) (i : Nat) (hi : i < 64) (x y : Int) (z : Bool) :
    Calls Try.prog 12 #[.pointer (some ⟨A, 0, none⟩), .int .i64 i, .agg #[.int .i64 x, .int .i64 y, .bool z]] w fun e w' => (okE x y z = false ∧ e = .returned (.int .i64 11) ∧ TInv w0 w' T J F A Rm X S c Et Em k) ∨ (okE x y z = true ∧ e = .returned (.int .i64 0) ∧ TInv w0 w' T J F A Rm X S c (Et.set i (x, y, z)) Em k) := by
  have h0 := h
  obtain ⟨f, vb, vm, B, M, h1, h2, h3, h4, h5, h6, h7, h8, h9⟩ := h
  refine (tab_set w A T J F X f S vb vm B M 512 15360 h1 (fun q hq => Nat.lt_trans (hp.x q hq).2 h1.jr.lt) c h3 hp.at_ hc i hi x y z).mono ?_
  rintro e9 w3 (⟨hok, rfl, hb⟩ | ⟨hok, rfl, ⟨vb', vm', B', M', ht, hv, hrr⟩, hcg⟩)
  · exact Or.inl ⟨hok, rfl, h0.below hb⟩
  · refine Or.inr ⟨hok, rfl, f, vb', vm', B', M', ht, h2, (hcg.block A h3.lt ?_).trans h3, h4.chg hcg ?_, h5, ⟨by rw [List.length_set]; exact h6.len, fun j hj => ?_, fun j hj b hb => ?_⟩, fun q => ?_, fun r hr => ?_, h9.trans (hcg.below _ h9.size (fun q hq e => ?_))⟩
    · rintro (e | e | e)
      · exact hp.at_ e
      · obtain ⟨_, es, c9, he⟩ := h1.ov.b.lt A e
        have hj : w.heap[A]? = _ := h3
        rw [he] at hj; cases hj
      · obtain ⟨_, es, c9, he⟩ := h1.ov.m.lt A e
        have hj : w.heap[A]? = _ := h3
        rw [he] at hj; cases hj
    · have hcell : ∃ cs t, w.heap[Rm]? = some (.cells cs t (0, 0)) := by
        rcases h4.2 with ⟨e, _⟩ | ⟨g', cap', cur, e, _, hh, _⟩
        · cases e
        · simp at e
          obtain ⟨rfl, _⟩ := e
          exact ⟨_, _, hh⟩
      obtain ⟨cs, t, hj⟩ := hcell
      rintro (e | e | e)
      · exact hp.rt e
      · obtain ⟨_, es, c9, he⟩ := h1.ov.b.lt Rm e
        rw [he] at hj; cases hj
      · obtain ⟨_, es, c9, he⟩ := h1.ov.m.lt Rm e
        rw [he] at hj; cases hj
    · rw [getD_set3 Et i j _ (by rw [h6.len]; exact hi)]
      by_cases hij : i = j
      · rw [if_pos hij]; exact hok
      · rw [if_neg hij]; exact h6.ok j hj
    · unfold seeT
      rw [hv, getD_set3 Et i j _ (by rw [h6.len]; exact hi)]
      by_cases hij : i = j
      · subst hij
        rw [if_pos (by omega), if_pos rfl, show c * 512 + 8 * i + b - (c * 512 + 8 * i) = b by omega]
        rfl
      · rw [if_neg (by omega), if_neg hij]
        exact h6.by_ j hj b hb
    · unfold seeT
      rw [hv]
      split
      · omega
      · exact h7 q
    · rcases hrr r hr with e | e
      · exact h8 r e
      · exact Nat.le_trans h9.size e
    · rcases e with e | e | e
      · have := hp.t; omega
      · have := h8 q (Or.inl e); omega
      · have := h8 q (Or.inr e); omega

theorem inv_all {w0 w : World} {T J F A Rm : Nat} {X : Nat → Prop} {S : List Int} {c : Nat} {Et Em : List E3} {k : Nat} (h : TInv w0 w T J F A Rm X S c Et Em k) (hp : Plc w0.heap.size T J F A Rm X) (hS : S.length ≤ 4194304) (hk : k < 1000) (hc : 1 ≤ c ∧ c < 60) :
    Calls Try.prog 14 #[.pointer (some ⟨A, 0, none⟩)] w fun e w' => ∃ v, e = .returned (.tuple #[v, .int .i64 0]) ∧ OwnN w' w0.heap.size v Et ∧ Et.length = 64 ∧ OwnR w' w0.heap.size (.slice (some ⟨Rm, 0, none⟩) 64 64) Em ∧ Below w0.heap.size w0 w' := by
  obtain ⟨f, vb, vm, B, M, h1, h2, h3, h4, h5, h6, h7, h8, h9⟩ := h
  have hF := (hp.x F h1.fil.xF).1
  have hRF : Rm ≠ F := fun e => hp.rx (e ▸ h1.fil.xF)
  refine (tab_all w A T J F X f S vb vm B M 512 15360 h1 hS (by omega) (fun q hq => Nat.lt_trans (hp.x q hq).2 h1.jr.lt) h7 c h3 hp.ax hc Et h6).mono ?_
  rintro e9 w3 ⟨v, rfl, hv, hcg⟩
  exact ⟨v, rfl, hv.mono h9.size, h6.len, h4.chg hcg hRF, h9.trans (hcg.below _ h9.size (fun q hq e => by omega))⟩

/-- An entry of the row is another one. -/
theorem TInv.row {w0 w : World} {T J F A Rm : Nat} {X : Nat → Prop} {S : List Int} {c : Nat} {Et Em : List E3} {k : Nat} (h : TInv w0 w T J F A Rm X S c Et Em k) (hp : Plc w0.heap.size T J F A Rm X) (i : Nat) (hi : i < 64) (x y : Int) (z : Bool) (hJR : J ≠ Rm) :
    TInv w0 (((w.setCell ⟨Rm, i * 3, none⟩ (.int .i64 x)).setCell ⟨Rm, i * 3 + 1, none⟩ (.int .i64 y)).setCell ⟨Rm, i * 3 + 2, none⟩ (.bool z)) T J F A Rm X S c Et (Em.set i (x, y, z)) k := by
  obtain ⟨f, vb, vm, B, M, h1, h2, h3, h4, h5, h6, h7, h8, h9⟩ := h
  have hs := h4.set h5.symm i (x, y, z) hi
  have hcell : ∃ cs t, w.heap[Rm]? = some (.cells cs t (0, 0)) := by
    rcases h4.2 with ⟨e, _⟩ | ⟨g', cap', cur, e, _, hh, _⟩
    · cases e
    · simp at e
      obtain ⟨rfl, _⟩ := e
      exact ⟨_, _, hh⟩
  obtain ⟨cs, t, hj⟩ := hcell
  have hcg := Chg.of_grown hs.2
  refine ⟨f, vb, vm, B, M, h1.chg hcg (by simp; exact fun e => hp.rt e.symm) (by simp; exact hJR) (fun r hr e => ?_) (fun q _ hq e => by simp at e; exact hp.rx (e ▸ hq)), h2, (hcg.block A h3.lt (by simp; exact fun e => hp.ra e.symm)).trans h3, hs.1, by rw [List.length_set]; exact h5, h6, h7, h8, h9.trans (hcg.below _ h9.size (fun q hq e => by have := hp.r; simp at e; omega))⟩
  simp at e
  subst e
  rcases hr with e | e
  · obtain ⟨_, es, c9, he⟩ := h1.ov.b.lt r e
    rw [he] at hj; cases hj
  · obtain ⟨_, es, c9, he⟩ := h1.ov.m.lt r e
    rw [he] at hj; cases hj
end Go.Proofs.Ytghdngmmlnffkaa.Oct
