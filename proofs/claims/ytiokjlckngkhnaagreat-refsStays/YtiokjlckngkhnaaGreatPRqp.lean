/- Counts, the changes beneath them and the document's row beside them, as one (as Rpa; blocks that are kept). -/
import Derived.Test.YtiokjlckngkhnaaGreatPRfq
namespace Go.Proofs.YtiokjlckngkhnaaGreat.Oct
open Go.RowKit Go.Deep

/-- Where things stand: fixed through all. -/
structure PlcR (n0 T J F A Rm : Nat) (X : Nat → Prop) : Prop where
  x : ∀ k, X k → n0 ≤ k ∧ k < J
  j : n0 ≤ J
  t : n0 ≤ T
  a : n0 ≤ A
  r : n0 ≤ Rm
  at_ : A ≠ T
  rt : Rm ≠ T
  ra : Rm ≠ A
  rj : J ≠ Rm
  ax : ¬ X A
  rx : ¬ X Rm

/-- The counts that the changes show, as a list; no byte elsewhere is changed. -/
structure CtsR (S : List Int) (B M : Int → List Int) (H : Nat) (Ct : List Int) : Prop where
  len : Ct.length = H
  eq : ∀ n, n < H → Ct.getD n 0 = cntR S B M n
  by_ : ∀ x, 0 ≤ seeT S B M x ∧ seeT S B M x < 256
  out : ∀ x y, ¬ (15360 ≤ x ∧ x < 15360 + 2 * H) → valT B M x y = y

theorem CtsR.set {S : List Int} {B M B' M' : Int → List Int} {H : Nat} {Ct : List Int} (h : CtsR S B M H Ct) {n : Nat} {v : Int} (hs : SetR B M B' M' n v) (hn : n < H) (hv : 0 ≤ v ∧ v ≤ 65535) : CtsR S B' M' H (Ct.set n v) := by
  refine ⟨by rw [List.length_set]; exact h.len, fun m hm => ?_, see_by hs h.by_, fun x y hx => ?_⟩
  · rw [getD_set _ _ _ _ (by rw [h.len]; exact hn), cnt_set hs hv, h.eq m hm]
    by_cases he : m = n
    · rw [if_pos he, if_pos he.symm]
    · rw [if_neg he, if_neg (fun e => he e.symm)]
  · rw [hs, if_neg (by omega), h.out x y hx]

theorem CtsR.bd {S : List Int} {B M : Int → List Int} {H : Nat} {Ct : List Int} (h : CtsR S B M H Ct) (n : Nat) : 0 ≤ Ct.getD n 0 ∧ Ct.getD n 0 ≤ 65535 := by
  by_cases hn : n < H
  · rw [h.eq n hn]
    have := cntR_bd h.by_ n
    omega
  · rw [List.getD_eq_getElem?_getD, List.getElem?_eq_none (by rw [h.len]; omega)]
    simp

def Kpt (T : Nat) (X : Nat → Prop) (w w' : World) : Prop := ∀ P cs t, w.heap[P]? = some (.cells cs t (0, 0)) → P ≠ T → ¬ X P → w'.heap[P]? = some (.cells cs t (0, 0))

theorem Kpt.of_below {T : Nat} {X : Nat → Prop} {w w' : World} (hb : Below w.heap.size w w') : Kpt T X w w' := fun P _ _ h _ _ => (hb.block P (Array.getElem?_eq_some_iff.1 h).1).trans h

theorem Kpt.of_read {w w' : World} {T J F : Nat} {X : Nat → Prop} {S : List Int} {f : Fs} {vb vm : Value} {B M : Int → List Int} {p q : Int} (h1 : Tst w T J F X f S vb vm B M p q) (hcg : Chg (fun k => k = F) w w') : Kpt T X w w' := fun P _ _ h _ hx => (hcg.block P (Array.getElem?_eq_some_iff.1 h).1 (fun e => hx (e ▸ h1.fil.xF))).trans h

theorem Kpt.of_wrote {w w' : World} {T J F : Nat} {X : Nat → Prop} {S : List Int} {f : Fs} {vb vm : Value} {B M : Int → List Int} {p q : Int} (h1 : Tst w T J F X f S vb vm B M p q) (hcg : Chg (fun k => k = F ∨ k = T ∨ vb = .map (some k) ∨ vm = .map (some k)) w w') : Kpt T X w w' := fun P _ _ h ht hx => (hcg.block P (Array.getElem?_eq_some_iff.1 h).1 (by
  rintro (e | e | e | e)
  · exact hx (e ▸ h1.fil.xF)
  · exact ht e
  · obtain ⟨_, es, c9, he⟩ := h1.ov.b.lt P e
    rw [he] at h; cases h
  · obtain ⟨_, es, c9, he⟩ := h1.ov.m.lt P e
    rw [he] at h; cases h)).trans h

/-- Blocks that are none of the changes', the file's and the row's, kept as they were. -/
def KpO (K : Nat → Option Obj) (T : Nat) (X : Nat → Prop) (Rm : Nat) (w : World) : Prop := ∀ P o, K P = some o → (∃ cs t, o = .cells cs t (0, 0)) ∧ P ≠ T ∧ ¬ X P ∧ P ≠ Rm ∧ w.heap[P]? = some o

theorem KpO.kpt {K : Nat → Option Obj} {T Rm : Nat} {X : Nat → Prop} {w w' : World} (h : KpO K T X Rm w) (hk : Kpt T X w w') : KpO K T X Rm w' := fun P o hP => by
  obtain ⟨⟨cs, t, rfl⟩, h1, h2, h3, h4⟩ := h P o hP
  exact ⟨⟨cs, t, rfl⟩, h1, h2, h3, hk P cs t h4 h1 h2⟩

theorem KpO.row {K : Nat → Option Obj} {T Rm : Nat} {X : Nat → Prop} {w w' : World} (h : KpO K T X Rm w) (hc : Chg (fun i => some i = some Rm) w w') : KpO K T X Rm w' := fun P o hP => by
  obtain ⟨hc0, h1, h2, h3, h4⟩ := h P o hP
  exact ⟨hc0, h1, h2, h3, (hc.block P (Array.getElem?_eq_some_iff.1 h4).1 (fun e => h3 (Option.some.inj e))).trans h4⟩

def RInv (K : Nat → Option Obj) (w0 w : World) (T J F A Rm H : Nat) (X : Nat → Prop) (S Ct m : List Int) (k : Nat) : Prop :=
  ∃ f vb vm B M, Tst w T J F X f S vb vm B M 512 15360 ∧ f.ops ≤ (k : Int) ∧ Rfs w A T H ∧ OwnJ w w0.heap.size (.slice (some ⟨Rm, 0, none⟩) H H) m ∧ m.length = H ∧ CtsR S B M H Ct ∧ (∀ r, vb = .map (some r) ∨ vm = .map (some r) → w0.heap.size ≤ r) ∧ (Below w0.heap.size w0 w ∧ KpO K T X Rm w)

theorem RInv.below0 {K : Nat → Option Obj} {w0 w : World} {T J F A Rm H : Nat} {X : Nat → Prop} {S Ct m : List Int} {k : Nat} (h : RInv K w0 w T J F A Rm H X S Ct m k) : Below w0.heap.size w0 w := by
  obtain ⟨f, vb, vm, B, M, _, _, _, _, _, _, _, hb⟩ := h
  exact hb.1

theorem OwnJ.chg {X : Nat → Prop} {w w' : World} {B g n cap : Nat} {L : List Int} (h : OwnJ w B (.slice (some ⟨g, 0, none⟩) n cap) L) (hc : Chg X w w') (hx : ¬ X g) : OwnJ w' B (.slice (some ⟨g, 0, none⟩) n cap) L :=
  ownsRow_chg h hc (fun q hq => by
    have : q = g := by simpa [Value.ownBlock] using hq.symm
    rw [this]; exact hx)

theorem RInv.below {K : Nat → Option Obj} {w0 w w' : World} {T J F A Rm H : Nat} {X : Nat → Prop} {S Ct m : List Int} {k : Nat} (h : RInv K w0 w T J F A Rm H X S Ct m k) (hb : Below w.heap.size w w') : RInv K w0 w' T J F A Rm H X S Ct m k := by
  obtain ⟨f, vb, vm, B, M, h1, h2, h3, h4, h5, h6, h8, h9⟩ := h
  exact ⟨f, vb, vm, B, M, h1.below hb, h2, h3.below hb, h4.below hb, h5, h6, h8, h9.1.trans (hb.mono h9.1.size), h9.2.kpt (Kpt.of_below hb)⟩

theorem RInv.more {K : Nat → Option Obj} {w0 w : World} {T J F A Rm H : Nat} {X : Nat → Prop} {S Ct m : List Int} {k k' : Nat} (h : RInv K w0 w T J F A Rm H X S Ct m k) (hk : k ≤ k') : RInv K w0 w T J F A Rm H X S Ct m k' := by
  obtain ⟨f, vb, vm, B, M, h1, h2, hr⟩ := h
  exact ⟨f, vb, vm, B, M, h1, by omega, hr⟩

theorem RInv.len {K : Nat → Option Obj} {w0 w : World} {T J F A Rm H : Nat} {X : Nat → Prop} {S Ct m : List Int} {k : Nat} (h : RInv K w0 w T J F A Rm H X S Ct m k) : m.length = H := by
  obtain ⟨f, vb, vm, B, M, _, _, _, _, h5, _⟩ := h
  exact h5

theorem RInv.bd {K : Nat → Option Obj} {w0 w : World} {T J F A Rm H : Nat} {X : Nat → Prop} {S Ct m : List Int} {k : Nat} (h : RInv K w0 w T J F A Rm H X S Ct m k) (n : Nat) : 0 ≤ Ct.getD n 0 ∧ Ct.getD n 0 ≤ 65535 := by
  obtain ⟨f, vb, vm, B, M, _, _, _, _, _, h6, _⟩ := h
  exact h6.bd n

theorem RInv.cell {K : Nat → Option Obj} {w0 w : World} {T J F A Rm H : Nat} {X : Nat → Prop} {S Ct m : List Int} {k : Nat} (h : RInv K w0 w T J F A Rm H X S Ct m k) (n : Nat) (hn : n < H) : w.cell? ⟨Rm, n, none⟩ = some (.int .i64 (m.getD n 0)) := by
  obtain ⟨f, vb, vm, B, M, _, _, _, h4, h5, _⟩ := h
  exact h4.cell h5.symm n hn

theorem RInv.free {K : Nat → Option Obj} {w0 w : World} {T J F A Rm H : Nat} {X : Nat → Prop} {S Ct m : List Int} {k : Nat} (h : RInv K w0 w T J F A Rm H X S Ct m k) (n : Nat) : w.frozen? ⟨Rm, n, none⟩ = false := by
  obtain ⟨f, vb, vm, B, M, _, _, _, h4, h5, _⟩ := h
  exact h4.free h5.symm n


/-- What a call that only reads leaves. -/
theorem RInv.read {K : Nat → Option Obj} {w0 w w' : World} {T J F A Rm H : Nat} {X : Nat → Prop} {S Ct m : List Int} {k : Nat} {f f' : Fs} {vb vm : Value} {B M : Int → List Int} (hp : PlcR w0.heap.size T J F A Rm X) (h1 : Tst w T J F X f S vb vm B M 512 15360) (h2 : f.ops ≤ (k : Int)) (h3 : Rfs w A T H) (h4 : OwnJ w w0.heap.size (.slice (some ⟨Rm, 0, none⟩) H H) m) (h5 : m.length = H) (h6 : CtsR S B M H Ct) (h8 : ∀ r, vb = .map (some r) ∨ vm = .map (some r) → w0.heap.size ≤ r) (h9 : Below w0.heap.size w0 w ∧ KpO K T X Rm w)
    (ht : Tst w' T J F X f' S vb vm B M 512 15360) (hf : f'.ops ≤ f.ops + 1) (hcg : Chg (fun k => k = F) w w') : RInv K w0 w' T J F A Rm H X S Ct m (k + 1) := by
  have hF := (hp.x F h1.fil.xF).1
  have hAF : A ≠ F := fun e => hp.ax (e ▸ h1.fil.xF)
  have hRF : Rm ≠ F := fun e => hp.rx (e ▸ h1.fil.xF)
  exact ⟨f', vb, vm, B, M, ht, by omega, (hcg.block A h3.lt hAF).trans h3, h4.chg hcg hRF, h5, h6, h8, h9.1.trans (hcg.below _ h9.1.size (fun q hq e => by omega)), h9.2.kpt (Kpt.of_read h1 hcg)⟩

/-- What a call that sets a count leaves. -/
theorem RInv.wrote {K : Nat → Option Obj} {w0 w w' : World} {T J F A Rm H : Nat} {X : Nat → Prop} {S Ct m : List Int} {k : Nat} {f f' : Fs} {vb vm vb' vm' : Value} {B M B' M' : Int → List Int} (hp : PlcR w0.heap.size T J F A Rm X) (h1 : Tst w T J F X f S vb vm B M 512 15360) (h2 : f.ops ≤ (k : Int)) (h3 : Rfs w A T H) (h4 : OwnJ w w0.heap.size (.slice (some ⟨Rm, 0, none⟩) H H) m) (h5 : m.length = H) (h6 : CtsR S B M H Ct) (h8 : ∀ r, vb = .map (some r) ∨ vm = .map (some r) → w0.heap.size ≤ r) (h9 : Below w0.heap.size w0 w ∧ KpO K T X Rm w)
    {n : Nat} {v : Int} (hn : n < H) (hv : 0 ≤ v ∧ v ≤ 65535)
    (ht : Tst w' T J F X f' S vb' vm' B' M' 512 15360) (hf : f'.ops ≤ f.ops + 1) (hs : SetR B M B' M' n v) (hrr : ∀ r, vb' = .map (some r) ∨ vm' = .map (some r) → (vb = .map (some r) ∨ vm = .map (some r)) ∨ w.heap.size ≤ r) (hcg : Chg (fun k => k = F ∨ k = T ∨ vb = .map (some k) ∨ vm = .map (some k)) w w') : RInv K w0 w' T J F A Rm H X S (Ct.set n v) m (k + 1) := by
  have hF := (hp.x F h1.fil.xF).1
  have hAF : A ≠ F := fun e => hp.ax (e ▸ h1.fil.xF)
  have hRF : Rm ≠ F := fun e => hp.rx (e ▸ h1.fil.xF)
  have hcell : ∃ cs t, w.heap[Rm]? = some (.cells cs t (0, 0)) := by
    rcases h4.2 with ⟨e, _⟩ | ⟨g', cap', cur, e, _, hh, _⟩
    · cases e
    · simp at e
      obtain ⟨rfl, _⟩ := e
      exact ⟨_, _, hh⟩
  obtain ⟨cs, t, hj⟩ := hcell
  refine ⟨f', vb', vm', B', M', ht, by omega, (hcg.block A h3.lt ?_).trans h3, h4.chg hcg ?_, h5, h6.set hs hn hv, fun r hr => ?_, h9.1.trans (hcg.below _ h9.1.size (fun q hq e => ?_)), h9.2.kpt (Kpt.of_wrote h1 hcg)⟩
  · rintro (e | e | e | e)
    · exact hAF e
    · exact hp.at_ e
    · obtain ⟨_, es, c9, he⟩ := h1.ov.b.lt A e
      have hj : w.heap[A]? = _ := h3
      rw [he] at hj; cases hj
    · obtain ⟨_, es, c9, he⟩ := h1.ov.m.lt A e
      have hj : w.heap[A]? = _ := h3
      rw [he] at hj; cases hj
  · rintro (e | e | e | e)
    · exact hRF e
    · exact hp.rt e
    · obtain ⟨_, es, c9, he⟩ := h1.ov.b.lt Rm e
      rw [he] at hj; cases hj
    · obtain ⟨_, es, c9, he⟩ := h1.ov.m.lt Rm e
      rw [he] at hj; cases hj
  · rcases hrr r hr with e | e
    · exact h8 r e
    · exact Nat.le_trans h9.1.size e
  · rcases e with e | e | e | e
    · omega
    · have := hp.t; omega
    · have := h8 q (Or.inl e); omega
    · have := h8 q (Or.inr e); omega

/-- A number of the row is another one. -/
theorem RInv.row {K : Nat → Option Obj} {w0 w : World} {T J F A Rm H : Nat} {X : Nat → Prop} {S Ct m : List Int} {k : Nat} (h : RInv K w0 w T J F A Rm H X S Ct m k) (hp : PlcR w0.heap.size T J F A Rm X) (i : Nat) (x : Int) :
    RInv K w0 (w.setCell ⟨Rm, i, none⟩ (.int .i64 x)) T J F A Rm H X S Ct (m.set i x) k := by
  obtain ⟨f, vb, vm, B, M, h1, h2, h3, h4, h5, h6, h8, h9⟩ := h
  have hs := h4.set h5.symm i x
  have hcell : ∃ cs t, w.heap[Rm]? = some (.cells cs t (0, 0)) := by
    rcases h4.2 with ⟨e, _⟩ | ⟨g', cap', cur, e, _, hh, _⟩
    · cases e
    · simp at e
      obtain ⟨rfl, _⟩ := e
      exact ⟨_, _, hh⟩
  obtain ⟨cs, t, hj⟩ := hcell
  have hcg := Chg.of_grown hs.2
  refine ⟨f, vb, vm, B, M, h1.chg hcg (by simp; exact fun e => hp.rt e.symm) (by simp; exact hp.rj) (fun r hr e => ?_) (fun q _ hq e => by simp at e; exact hp.rx (e ▸ hq)), h2, (hcg.block A h3.lt (by simp; exact fun e => hp.ra e.symm)).trans h3, hs.1, by rw [List.length_set]; exact h5, h6, h8, h9.1.trans (hcg.below _ h9.1.size (fun q hq e => by have := hp.r; simp at e; omega)), h9.2.row hcg⟩
  simp at e
  subst e
  rcases hr with e | e
  · obtain ⟨_, es, c9, he⟩ := h1.ov.b.lt r e
    rw [he] at hj; cases hj
  · obtain ⟨_, es, c9, he⟩ := h1.ov.m.lt r e
    rw [he] at hj; cases hj

theorem rinv_get {K : Nat → Option Obj} {w0 w : World} {T J F A Rm H : Nat} {X : Nat → Prop} {S Ct m : List Int} {k : Nat} (h : RInv K w0 w T J F A Rm H X S Ct m k) (hp : PlcR w0.heap.size T J F A Rm X) (hS : S.length ≤ 4194304) (hk : k < 1000) (hH : H < 100) (n : Nat) (hn : n < H) :
    Calls Tryz.prog 19 #[.pointer (some ⟨A, 0, none⟩), .int .i64 n] w fun e w' => e = .returned (.tuple #[.int .i64 (Ct.getD n 0), .int .i64 0]) ∧ RInv K w0 w' T J F A Rm H X S Ct m (k + 1) ∧ Kpt T X w w' := by
  obtain ⟨f, vb, vm, B, M, h1, h2, h3, h4, h5, h6, h8, h9⟩ := h
  refine (rfs_get w A T J F X f S vb vm B M 512 15360 h1 hS (by omega) (fun q hq => Nat.lt_trans (hp.x q hq).2 h1.jr.lt) h6.by_ H h3 hp.ax (by omega) n hn).mono ?_
  rintro e9 w3 ⟨f', rfl, ht, hf, hcg⟩
  exact ⟨by rw [h6.eq n hn], RInv.read hp h1 h2 h3 h4 h5 h6 h8 h9 ht hf hcg, Kpt.of_read h1 hcg⟩

theorem rinv_get_no {K : Nat → Option Obj} {w0 w : World} {T J F A Rm H : Nat} {X : Nat → Prop} {S Ct m : List Int} {k : Nat} (h : RInv K w0 w T J F A Rm H X S Ct m k) (n : Int) (hn : ¬ (0 ≤ n ∧ n < H)) :
    Calls Tryz.prog 19 #[.pointer (some ⟨A, 0, none⟩), .int .i64 n] w fun e w' => e = .returned (.tuple #[.int .i64 0, .int .i64 4]) ∧ RInv K w0 w' T J F A Rm H X S Ct m k ∧ Kpt T X w w' := by
  have h0 := h
  obtain ⟨f, vb, vm, B, M, h1, h2, h3, _⟩ := h
  refine (rfs_get_no w A T H h3 n hn).mono ?_
  rintro e9 w3 ⟨rfl, hb⟩
  exact ⟨rfl, h0.below hb, Kpt.of_below hb⟩

theorem rinv_set {K : Nat → Option Obj} {w0 w : World} {T J F A Rm H : Nat} {X : Nat → Prop} {S Ct m : List Int} {k : Nat} (h : RInv K w0 w T J F A Rm H X S Ct m k) (hp : PlcR w0.heap.size T J F A Rm X) (hH : H < 100) (n : Nat) (hn : n < H) (v : Int) (hv : 0 ≤ v ∧ v ≤ 65535) :
    Calls Tryz.prog 27 #[.pointer (some ⟨A, 0, none⟩), .int .i64 n, .int .i64 v] w fun e w' => e = .returned (.int .i64 0) ∧ RInv K w0 w' T J F A Rm H X S (Ct.set n v) m (k + 1) ∧ Kpt T X w w' := by
  obtain ⟨f, vb, vm, B, M, h1, h2, h3, h4, h5, h6, h8, h9⟩ := h
  refine (rfs_set w A T J F X f S vb vm B M 512 15360 h1 (fun q hq => Nat.lt_trans (hp.x q hq).2 h1.jr.lt) H h3 hp.at_ (by omega) n hn v hv).mono ?_
  rintro e9 w3 ⟨rfl, ⟨vb', vm', B', M', ht, hs, hrr⟩, hcg⟩
  exact ⟨rfl, RInv.wrote hp h1 h2 h3 h4 h5 h6 h8 h9 hn hv ht (by omega) hs hrr (hcg.mono (fun i _ h => Or.inr h)), Kpt.of_wrote h1 (hcg.mono (fun i _ h => Or.inr h))⟩

theorem rinv_set_no {K : Nat → Option Obj} {w0 w : World} {T J F A Rm H : Nat} {X : Nat → Prop} {S Ct m : List Int} {k : Nat} (h : RInv K w0 w T J F A Rm H X S Ct m k) (n v : Int) (hn : ¬ (0 ≤ n ∧ n < H)) :
    Calls Tryz.prog 27 #[.pointer (some ⟨A, 0, none⟩), .int .i64 n, .int .i64 v] w fun e w' => e = .returned (.int .i64 4) ∧ RInv K w0 w' T J F A Rm H X S Ct m k ∧ Kpt T X w w' := by
  have h0 := h
  obtain ⟨f, vb, vm, B, M, h1, h2, h3, _⟩ := h
  refine (rfs_set_no w A T H h3 n v hn).mono ?_
  rintro e9 w3 ⟨rfl, hb⟩
  exact ⟨rfl, h0.below hb, Kpt.of_below hb⟩

theorem rinv_set_big {K : Nat → Option Obj} {w0 w : World} {T J F A Rm H : Nat} {X : Nat → Prop} {S Ct m : List Int} {k : Nat} (h : RInv K w0 w T J F A Rm H X S Ct m k) (n v : Int) (hn : 0 ≤ n ∧ n < H) (hv : ¬ (0 ≤ v ∧ v ≤ 65535)) :
    Calls Tryz.prog 27 #[.pointer (some ⟨A, 0, none⟩), .int .i64 n, .int .i64 v] w fun e w' => e = .returned (.int .i64 20) ∧ RInv K w0 w' T J F A Rm H X S Ct m k ∧ Kpt T X w w' := by
  have h0 := h
  obtain ⟨f, vb, vm, B, M, h1, h2, h3, _⟩ := h
  refine (rfs_set_big w A T H h3 n v hn hv).mono ?_
  rintro e9 w3 ⟨rfl, hb⟩
  exact ⟨rfl, h0.below hb, Kpt.of_below hb⟩

theorem rfs_add_no (w : World) (A T H : Nat) (hA : Rfs w A T H) (n b : Int) (hn : ¬ (0 ≤ n ∧ n < H)) :
    Calls Tryz.prog 28 #[.pointer (some ⟨A, 0, none⟩), .int .i64 n, .int .i64 b] w fun e w' => e = .returned (.tuple #[.int .i64 0, .int .i64 4]) ∧ Below w.heap.size w w' := by
  have HG := hide (rfs_get_no w A T H hA n hn)
  clear hA hn
  go_enter Tryz.func28, Tryz.ntmps28
  go_wp2_with fail
  refine HG.out.mono ?_
  rintro e9 w2 ⟨rfl, hb2⟩
  have HB2 := hide hb2
  clear hb2
  go_wp2_with fail
  go_ret2
  exact ⟨rfl, HB2.out⟩

theorem rinv_add_no {K : Nat → Option Obj} {w0 w : World} {T J F A Rm H : Nat} {X : Nat → Prop} {S Ct m : List Int} {k : Nat} (h : RInv K w0 w T J F A Rm H X S Ct m k) (n b : Int) (hn : ¬ (0 ≤ n ∧ n < H)) :
    Calls Tryz.prog 28 #[.pointer (some ⟨A, 0, none⟩), .int .i64 n, .int .i64 b] w fun e w' => e = .returned (.tuple #[.int .i64 0, .int .i64 4]) ∧ RInv K w0 w' T J F A Rm H X S Ct m k ∧ Kpt T X w w' := by
  have h0 := h
  obtain ⟨f, vb, vm, B, M, h1, h2, h3, _⟩ := h
  refine (rfs_add_no w A T H h3 n b hn).mono ?_
  rintro e9 w3 ⟨rfl, hb⟩
  exact ⟨rfl, h0.below hb, Kpt.of_below hb⟩

theorem rinv_add {K : Nat → Option Obj} {w0 w : World} {T J F A Rm H : Nat} {X : Nat → Prop} {S Ct m : List Int} {k : Nat} (h : RInv K w0 w T J F A Rm H X S Ct m k) (hp : PlcR w0.heap.size T J F A Rm X) (hS : S.length ≤ 4194304) (hk : k < 1000) (hH : H < 100) (n : Nat) (hn : n < H) (b c : Int) (hc : Ct.getD n 0 = c) :
    Calls Tryz.prog 28 #[.pointer (some ⟨A, 0, none⟩), .int .i64 n, .int .i64 b] w fun e w' =>
      (b < -c ∧ e = .returned (.tuple #[.int .i64 0, .int .i64 23]) ∧ RInv K w0 w' T J F A Rm H X S Ct m (k + 1) ∧ Kpt T X w w') ∨
      (65535 - c < b ∧ e = .returned (.tuple #[.int .i64 0, .int .i64 20]) ∧ RInv K w0 w' T J F A Rm H X S Ct m (k + 1) ∧ Kpt T X w w') ∨
      (0 ≤ c + b ∧ c + b ≤ 65535 ∧ e = .returned (.tuple #[.int .i64 (c + b), .int .i64 0]) ∧ RInv K w0 w' T J F A Rm H X S (Ct.set n (c + b)) m (k + 1) ∧ Kpt T X w w') := by
  obtain ⟨f, vb, vm, B, M, h1, h2, h3, h4, h5, h6, h8, h9⟩ := h
  have he : cntR S B M n = c := by rw [← h6.eq n hn, hc]
  have had := rfs_add w A T J F X f S vb vm B M 512 15360 h1 hS (by omega) (fun q hq => Nat.lt_trans (hp.x q hq).2 h1.jr.lt) h6.by_ H h3 hp.ax hp.at_ (by omega) n hn b
  rw [he] at had
  refine had.mono ?_
  rintro e9 w3 (⟨hl, rfl, f', ht, hf, hcg⟩ | ⟨hl, rfl, f', ht, hf, hcg⟩ | ⟨hl, hl2, rfl, f', vb', vm', B', M', ht, hf, hs, hrr, hcg⟩)
  · exact Or.inl ⟨hl, rfl, RInv.read hp h1 h2 h3 h4 h5 h6 h8 h9 ht hf hcg, Kpt.of_read h1 hcg⟩
  · exact Or.inr (Or.inl ⟨hl, rfl, RInv.read hp h1 h2 h3 h4 h5 h6 h8 h9 ht hf hcg, Kpt.of_read h1 hcg⟩)
  · exact Or.inr (Or.inr ⟨hl, hl2, rfl, RInv.wrote hp h1 h2 h3 h4 h5 h6 h8 h9 hn ⟨hl, hl2⟩ ht hf hs hrr hcg, Kpt.of_wrote h1 hcg⟩)

theorem hiR_congr {c d : Nat → Int} : ∀ k, (∀ n, n < k → c n = d n) → hiR c k = hiR d k
  | 0, _ => rfl
  | k + 1, h => by rw [hiR, hiR, h k (by omega), hiR_congr k (fun n hn => h n (by omega))]

theorem loR_congr {c d : Nat → Int} : ∀ k, (∀ n, n < k → c n = d n) → loR c k = loR d k
  | 0, _ => rfl
  | k + 1, h => by rw [loR, loR, h k (by omega), loR_congr k (fun n hn => h n (by omega))]

theorem rinv_alloc {K : Nat → Option Obj} {w0 w : World} {T J F A Rm H : Nat} {X : Nat → Prop} {S Ct m : List Int} {k : Nat} (h : RInv K w0 w T J F A Rm H X S Ct m k) (hp : PlcR w0.heap.size T J F A Rm X) (hS : S.length ≤ 4194304) (hk : k < 1000) (hH0 : 40 ≤ H) (hH : H < 100) :
    Calls Tryz.prog 18 #[.pointer (some ⟨A, 0, none⟩)] w fun e w' =>
      (loR (fun n => Ct.getD n 0) H = -1 ∧ e = .returned (.tuple #[.int .i64 0, .int .i64 15]) ∧ RInv K w0 w' T J F A Rm H X S Ct m (k + 1) ∧ Kpt T X w w') ∨
      (∃ n : Nat, loR (fun n => Ct.getD n 0) H = n ∧ 33 ≤ n ∧ n < H ∧ Ct.getD n 0 = 0 ∧ e = .returned (.tuple #[.int .i64 n, .int .i64 0]) ∧ RInv K w0 w' T J F A Rm H X S (Ct.set n 1) m (k + 1) ∧ Kpt T X w w') := by
  obtain ⟨f, vb, vm, B, M, h1, h2, h3, h4, h5, h6, h8, h9⟩ := h
  rw [loR_congr (c := fun n => Ct.getD n 0) (d := cntR S B M) H (fun n hn => h6.eq n hn)]
  refine (rfs_alloc w A T J F X f S vb vm B M 512 15360 h1 hS (by omega) (fun q hq => Nat.lt_trans (hp.x q hq).2 h1.jr.lt) h6.by_ H h3 hp.ax hp.at_ hH0 hH).mono ?_
  rintro e9 w3 (⟨hl, rfl, f', ht, hf, hcg⟩ | ⟨n, hl, h33, hnH, hn0, rfl, f', vb', vm', B', M', ht, hf, hs, hrr, hcg⟩)
  · exact Or.inl ⟨hl, rfl, RInv.read hp h1 h2 h3 h4 h5 h6 h8 h9 ht hf hcg, Kpt.of_read h1 hcg⟩
  · exact Or.inr ⟨n, hl, h33, hnH, by rw [h6.eq n hnH, hn0], rfl, RInv.wrote hp h1 h2 h3 h4 h5 h6 h8 h9 hnH (by omega) ht hf hs hrr hcg, Kpt.of_wrote h1 hcg⟩

theorem rinv_all {K : Nat → Option Obj} {w0 w : World} {T J F A Rm H : Nat} {X : Nat → Prop} {S Ct m : List Int} {k : Nat} (h : RInv K w0 w T J F A Rm H X S Ct m k) (hp : PlcR w0.heap.size T J F A Rm X) (hS : S.length ≤ 4194304) (hk : k < 1000) (hH0 : 40 ≤ H) (hH : H < 100) :
    Calls Tryz.prog 64 #[.pointer (some ⟨A, 0, none⟩)] w fun e w' => ∃ v, e = .returned (.tuple #[v, .int .i64 0]) ∧ OwnJ w' w.heap.size v Ct ∧ RInv K w0 w' T J F A Rm H X S Ct m (k + 1) ∧ Kpt T X w w' := by
  obtain ⟨f, vb, vm, B, M, h1, h2, h3, h4, h5, h6, h8, h9⟩ := h
  refine (rfs_all w A T J F X f S vb vm B M 512 15360 h1 hS (by omega) (fun q hq => Nat.lt_trans (hp.x q hq).2 h1.jr.lt) h6.by_ H h3 hp.ax (by omega) (by omega)).mono ?_
  rintro e9 w3 ⟨v, f', L, rfl, ho, hLl, hLv, ht, hf, hcg⟩
  have hLC : L = Ct := by
    refine List.ext_getElem (by rw [hLl, h6.len]) (fun i h7 h8 => ?_)
    have := hLv i (by omega)
    rw [← h6.eq i (by omega)] at this
    simpa [List.getD_eq_getElem?_getD, h7, h8] using this
  rw [hLC] at ho
  exact ⟨v, rfl, ho, RInv.read hp h1 h2 h3 h4 h5 h6 h8 h9 ht hf hcg, Kpt.of_read h1 hcg⟩

theorem rinv_ends {K : Nat → Option Obj} {w0 w : World} {T J F A Rm H : Nat} {X : Nat → Prop} {S Ct m : List Int} {k : Nat} (h : RInv K w0 w T J F A Rm H X S Ct m k) (hp : PlcR w0.heap.size T J F A Rm X) (hS : S.length ≤ 4194304) (hk : k < 1000) (hH0 : 40 ≤ H) (hH : H < 100) :
    Calls Tryz.prog 37 #[.pointer (some ⟨A, 0, none⟩)] w fun e w' => e = .returned (.tuple #[.int .i64 (hiR (fun n => Ct.getD n 0) H), .int .i64 (loR (fun n => Ct.getD n 0) H), .int .i64 0]) ∧ RInv K w0 w' T J F A Rm H X S Ct m (k + 1) ∧ Kpt T X w w' ∧ Chg (fun k => k = F) w w' := by
  obtain ⟨f, vb, vm, B, M, h1, h2, h3, h4, h5, h6, h8, h9⟩ := h
  rw [loR_congr (c := fun n => Ct.getD n 0) (d := cntR S B M) H (fun n hn => h6.eq n hn), hiR_congr (c := fun n => Ct.getD n 0) (d := cntR S B M) H (fun n hn => h6.eq n hn)]
  refine (rfs_ends w A T J F X f S vb vm B M 512 15360 h1 hS (by omega) (fun q hq => Nat.lt_trans (hp.x q hq).2 h1.jr.lt) h6.by_ H h3 hp.ax hH0 hH).mono ?_
  rintro e9 w3 ⟨f', rfl, ht, hf, hcg⟩
  exact ⟨rfl, RInv.read hp h1 h2 h3 h4 h5 h6 h8 h9 ht hf hcg, Kpt.of_read h1 hcg, hcg⟩
end Go.Proofs.YtiokjlckngkhnaaGreat.Oct
