/- What the law holds while it gives clusters out; its Commit, cut off anywhere; what a file that is opened again says. -/
import Derived.Test.YtibkhgmmjhlpmaaGreatPTtb
namespace Go.Proofs.YtibkhgmmjhlpmaaGreat.Oct
open Go.RowKit Go.Deep Go.Sort

/-- Changes, their counts, their table, and a row of used places: their blocks are apart, and all above w0's. -/
structure Hld (w0 w : World) (T J F A1 A2 : Nat) (X : Nat → Prop) (f : Fs) (S : List Int) (vb vm : Value) (B M : Int → List Int) (vu : Value) (U : List Nat) (m : Nat) : Prop where
  st : Tst w T J F X f S vb vm B M (512 : Nat) (15360 : Nat)
  ops : f.ops ≤ (m : Int)
  rf : Rfs w A1 T 120
  tb : Tab w A2 T 32
  mlo : ∀ r, vb = .map (some r) ∨ vm = .map (some r) → w0.heap.size ≤ r
  xlo : ∀ i, X i → w0.heap.size ≤ i
  xlt : ∀ i, X i → i < w.heap.size
  lo : w0.heap.size ≤ T ∧ w0.heap.size ≤ A1 ∧ w0.heap.size ≤ A2 ∧ w0.heap.size ≤ J
  ne : A1 ≠ T ∧ A2 ≠ T ∧ A1 ≠ A2
  xa : ¬ X A1 ∧ ¬ X A2
  row : w.ownsRow w0.heap.size 2 1 vu U.length (U.map (fun i : Nat => Value.int .i64 (i : Int)))
  apt : ∀ g, vu.ownBlock = some g → ¬ X g ∧ g ≠ T ∧ g ≠ A1 ∧ g ≠ A2 ∧ g ≠ J ∧ ∀ r, vb = .map (some r) ∨ vm = .map (some r) → g ≠ r
  bel : Below w0.heap.size w0 w

theorem Hld.nomap {w0 w : World} {T J F A1 A2 : Nat} {X : Nat → Prop} {f : Fs} {S : List Int} {vb vm : Value} {B M : Int → List Int} {vu : Value} {U : List Nat} {m : Nat} (h : Hld w0 w T J F A1 A2 X f S vb vm B M vu U m) (r : Nat) (hr : vb = .map (some r) ∨ vm = .map (some r)) : A1 ≠ r ∧ A2 ≠ r := by
  have h1 : w.heap[A1]? = _ := h.rf
  have h2 : w.heap[A2]? = _ := h.tb
  obtain ⟨es, c, he⟩ : ∃ es c, w.heap[r]? = some (.map es c) := by
    rcases hr with e | e
    · obtain ⟨_, es, c, he⟩ := h.st.ov.b.lt r e
      exact ⟨es, c, he⟩
    · obtain ⟨_, es, c, he⟩ := h.st.ov.m.lt r e
      exact ⟨es, c, he⟩
  constructor
  · intro e
    rw [e, he] at h1
    cases h1
  · intro e
    rw [e, he] at h2
    cases h2

theorem Hld.below {w0 w w' : World} {T J F A1 A2 : Nat} {X : Nat → Prop} {f : Fs} {S : List Int} {vb vm : Value} {B M : Int → List Int} {vu : Value} {U : List Nat} {m : Nat} (h : Hld w0 w T J F A1 A2 X f S vb vm B M vu U m) (hb : Below w.heap.size w w') : Hld w0 w' T J F A1 A2 X f S vb vm B M vu U m :=
  ⟨h.st.below hb, h.ops, h.rf.below hb, h.tb.below hb, h.mlo, h.xlo, fun i hi => Nat.lt_of_lt_of_le (h.xlt i hi) hb.size, h.lo, h.ne, h.xa, ownsRow_chg h.row (Chg.of_below (X := fun _ => False) hb) (fun _ _ e => e), h.apt, h.bel.trans (hb.mono h.bel.size)⟩

theorem Hld.more {w0 w : World} {T J F A1 A2 : Nat} {X : Nat → Prop} {f : Fs} {S : List Int} {vb vm : Value} {B M : Int → List Int} {vu : Value} {U : List Nat} {m m' : Nat} (h : Hld w0 w T J F A1 A2 X f S vb vm B M vu U m) (hm : m ≤ m') : Hld w0 w T J F A1 A2 X f S vb vm B M vu U m' :=
  ⟨h.st, by have := h.ops; omega, h.rf, h.tb, h.mlo, h.xlo, h.xlt, h.lo, h.ne, h.xa, h.row, h.apt, h.bel⟩

/-- What the changes' own calls leave of it. -/
theorem Hld.put {w0 w w' : World} {T J F A1 A2 : Nat} {X : Nat → Prop} {f f' : Fs} {S : List Int} {vb vm vb' vm' : Value} {B M B' M' : Int → List Int} {vu : Value} {U : List Nat} {m : Nat} (h : Hld w0 w T J F A1 A2 X f S vb vm B M vu U m) (hc : Chg (fun k => k = F ∨ k = T ∨ vb = .map (some k) ∨ vm = .map (some k)) w w') (hst : Tst w' T J F X f' S vb' vm' B' M' (512 : Nat) (15360 : Nat)) (ho : f'.ops ≤ f.ops + 1)
    (hmp : ∀ r, vb' = .map (some r) ∨ vm' = .map (some r) → (vb = .map (some r) ∨ vm = .map (some r)) ∨ w.heap.size ≤ r) : Hld w0 w' T J F A1 A2 X f' S vb' vm' B' M' vu U (m + 1) := by
  have hF : X F := h.st.fil.xF
  have hlo := h.lo
  have hs := h.bel.size
  have hno : ∀ A, A ≠ T → ¬ X A → (∀ r, vb = .map (some r) ∨ vm = .map (some r) → A ≠ r) → ¬ (A = F ∨ A = T ∨ vb = .map (some A) ∨ vm = .map (some A)) := fun A h1 h2 h3 e => by
    rcases e with e | e | e | e
    · exact h2 (e ▸ hF)
    · exact h1 e
    · exact h3 A (Or.inl e) rfl
    · exact h3 A (Or.inr e) rfl
  refine ⟨hst, by have := h.ops; omega, (hc.block A1 h.rf.lt (hno A1 h.ne.1 h.xa.1 (fun r hr => (h.nomap r hr).1))).trans h.rf, (hc.block A2 h.tb.lt (hno A2 h.ne.2.1 h.xa.2 (fun r hr => (h.nomap r hr).2))).trans h.tb, fun r hr => ?_, h.xlo, fun i hi => Nat.lt_of_lt_of_le (h.xlt i hi) hc.size, h.lo, h.ne, h.xa, ownsRow_chg h.row hc (fun g hg => hno g (h.apt g hg).2.1 (h.apt g hg).1 (h.apt g hg).2.2.2.2.2), fun g hg => ?_, h.bel.trans (hc.below _ hs (fun i hi e => ?_))⟩
  · rcases hmp r hr with h9 | h9
    · exact h.mlo r h9
    · omega
  · obtain ⟨g1, g2, g3, g4, g5, g6⟩ := h.apt g hg
    refine ⟨g1, g2, g3, g4, g5, fun r hr => ?_⟩
    rcases hmp r hr with h9 | h9
    · exact g6 r h9
    · have := ownsRow_lt h.row g hg
      omega
  · rcases e with e | e | e | e
    · have := h.xlo i (e ▸ hF); omega
    · omega
    · have := h.mlo i (Or.inl e); omega
    · have := h.mlo i (Or.inr e); omega

theorem Hld.get {w0 w : World} {T J F A1 A2 : Nat} {X : Nat → Prop} {f : Fs} {S : List Int} {vb vm : Value} {B M : Int → List Int} {vu : Value} {U : List Nat} {m : Nat} {E : List E3} (h : Hld w0 w T J F A1 A2 X f S vb vm B M vu U m) (hg : Gvn S B M E U) (hS : S.length = 16896) (hm : m < 900000) (p : Nat) (hp : p < 64) (x y : Int) (z : Bool) (hx : E.getD p z3 = (x, y, z)) :
    Calls Tryz.prog 10 #[.pointer (some ⟨A2, 0, none⟩), .int .i64 p] w fun e w' => e = .returned (.tuple #[.agg #[.int .i64 x, .int .i64 y, .bool z], .int .i64 0]) ∧ ∃ f', Hld w0 w' T J F A1 A2 X f' S vb vm B M vu U (m + 1) := by
  have ho := h.ops
  refine (tab_get w A2 T J F X f S vb vm B M (512 : Nat) (15360 : Nat) h.st (by omega) (by omega) h.xlt hg.by_ 32 h.tb h.xa.2 (by omega) E hg.ent.ents p hp x y z hx).mono ?_
  rintro e w' ⟨f', rfl, hst, hf, hc⟩
  exact ⟨rfl, f', h.put (hc.mono (fun i _ e => Or.inl e)) hst hf (fun r hr => Or.inl hr)⟩

/-- A cluster is given out, and put into an entry. -/
theorem Hld.alloc {w0 w : World} {T J F A1 A2 : Nat} {X : Nat → Prop} {f : Fs} {S : List Int} {vb vm : Value} {B M : Int → List Int} {vu : Value} {U : List Nat} {m : Nat} {E : List E3} (h : Hld w0 w T J F A1 A2 X f S vb vm B M vu U m) (hg : Gvn S B M E U) (hS : S.length = 16896) (hm : m < 900000) (hU : U.length < 87) :
    Calls Tryz.prog 11 #[.pointer (some ⟨A1, 0, none⟩)] w fun e w' => e = .returned (.tuple #[.int .i64 (33 + (U.length : Int)), .int .i64 0]) ∧ ∃ f' vb' vm' B' M', Hld w0 w' T J F A1 A2 X f' S vb' vm' B' M' vu U (m + 1) ∧ SetR B M B' M' (33 + U.length) 1 := by
  have ho := h.ops
  have hlo := hg.lo hU
  refine (rfs_alloc w A1 T J F X f S vb vm B M (512 : Nat) (15360 : Nat) h.st (by omega) (by omega) h.xlt hg.by_ 120 h.rf h.xa.1 h.ne.1 (by omega) (by omega)).mono ?_
  rintro e w' (⟨h1, _⟩ | ⟨n, h1, _, _, _, rfl, f', vb', vm', B', M', hst, hf, hse, hmp, hc⟩)
  · rw [hlo] at h1; omega
  · have e1 : n = 33 + U.length := by rw [hlo] at h1; omega
    subst e1
    exact ⟨by rw [show ((33 + U.length : Nat) : Int) = 33 + (U.length : Int) by omega], f', vb', vm', B', M', h.put hc hst hf hmp, hse⟩

theorem Hld.set {w0 w : World} {T J F A1 A2 : Nat} {X : Nat → Prop} {f : Fs} {S : List Int} {vb vm : Value} {B M B0 M0 : Int → List Int} {vu : Value} {U : List Nat} {m : Nat} {E : List E3} (h : Hld w0 w T J F A1 A2 X f S vb vm B M vu U m) (hg : Gvn S B0 M0 E U) (hU : U.length < 87) (hse : SetR B0 M0 B M (33 + U.length) 1) (p : Nat) (hp : p < 64) (hn : p ∉ U) :
    Calls Tryz.prog 12 #[.pointer (some ⟨A2, 0, none⟩), .int .i64 p, .agg #[.int .i64 2, .int .i64 (33 + (U.length : Int)), .bool true]] w fun e w' => e = .returned (.int .i64 0) ∧ ∃ vb' vm' B' M', Hld w0 w' T J F A1 A2 X f S vb' vm' B' M' vu U (m + 1) ∧ Gvn S B' M' (E.set p (2, 33 + (U.length : Int), true)) (U ++ [p]) := by
  have hok : okE 2 (33 + (U.length : Int)) true = true := decide_eq_true (Or.inl ⟨rfl, by omega, by omega⟩)
  refine (tab_set w A2 T J F X f S vb vm B M (512 : Nat) (15360 : Nat) h.st h.xlt 32 h.tb h.ne.2.1 (by omega) p hp 2 (33 + (U.length : Int)) true).mono ?_
  rintro e w' (⟨h1, _⟩ | ⟨_, rfl, ⟨vb', vm', B', M', hst, hv, hmp⟩, hc⟩)
  · rw [hok] at h1; cases h1
  · exact ⟨rfl, vb', vm', B', M', h.put (hc.mono (fun i _ e => Or.inr e)) hst (by omega) hmp, hg.step hU p hp hn hse hv⟩

/-- One more place in the row. -/
theorem Hld.push {w0 w w' : World} {T J F A1 A2 : Nat} {X : Nat → Prop} {f : Fs} {S : List Int} {vb vm : Value} {B M : Int → List Int} {vu vu' : Value} {U : List Nat} {m p : Nat} (h : Hld w0 w T J F A1 A2 X f S vb vm B M vu U m) (ho : w'.ownsRow w0.heap.size 2 1 vu' (U.length + 1) (U.map (fun i : Nat => Value.int .i64 (i : Int)) ++ [.int .i64 (p : Int)])) (hg : w.grownBy w' vu.ownBlock) (hb : vu'.ownBlock = vu.ownBlock ∨ vu'.ownBlock = some w.heap.size) : Hld w0 w' T J F A1 A2 X f S vb vm B M vu' (U ++ [p]) m := by
  have hc := Chg.of_grown hg
  have hT := h.st.tx.lt
  have hJ := h.st.jr.lt
  have h1 := h.rf.lt
  have h2 := h.tb.lt
  refine ⟨h.st.chg hc (fun e => (h.apt T e.symm).2.1 rfl) (fun e => (h.apt J e.symm).2.2.2.2.1 rfl) (fun r hr e => (h.apt r e.symm).2.2.2.2.2 r hr rfl) (fun i _ hi e => (h.apt i e.symm).1 hi), h.ops, (hc.block A1 h1 (fun e => (h.apt A1 e.symm).2.2.1 rfl)).trans h.rf, (hc.block A2 h2 (fun e => (h.apt A2 e.symm).2.2.2.1 rfl)).trans h.tb, h.mlo, h.xlo, fun i hi => Nat.lt_of_lt_of_le (h.xlt i hi) hc.size, h.lo, h.ne, h.xa, by simpa using ho, fun g hg9 => ?_, h.bel.trans (hc.below _ h.bel.size (fun i hi e => by have := (World.ownsRow.lt h.row i e.symm).1; omega))⟩
  rcases hb with e | e
  · exact h.apt g (by rw [← e]; exact hg9)
  · rw [e] at hg9
    have e2 : w.heap.size = g := by simpa using hg9
    subst e2
    refine ⟨fun e => by have := h.xlt _ e; omega, by omega, by omega, by omega, by omega, fun r hr => ?_⟩
    have : r < w.heap.size := hr.elim (fun e => (h.st.ov.b.lt r e).1) (fun e => (h.st.ov.m.lt r e).1)
    omega

theorem txO_costT (p : Nat) (nu : Int) (D : List RD) : costs (txO p nu D) ≤ 2 * lenD D + 2000 := by
  unfold txO
  split
  · simp [costs]
  · rw [costs_append]
    have h1 := recO_cost D
    have h2 := encD_length D
    have h3 := signOf_len nu D
    have h4 := Z512_len
    unfold appO clrO comO
    simp [costs, AO.cost] at h1 ⊢
    omega

/-- The file is to stop behind so many operations. -/
theorem Hld.stop {w0 w : World} {T J F A1 A2 : Nat} {X : Nat → Prop} {f : Fs} {S : List Int} {vb vm : Value} {B M : Int → List Int} {vu : Value} {U : List Nat} {m : Nat} (h : Hld w0 w T J F A1 A2 X f S vb vm B M vu U m) (hS : S.length = 16896) (hm : m ≤ 100000) (j : Nat) (h1 : 1 ≤ j) (h2 : j ≤ 100) :
    Calls Tryz.prog 13 #[.pointer (some ⟨F, 0, none⟩), .int .i64 j] w fun e w' => e = .returned (.tuple #[]) ∧ ∃ f' nu, Txq w' T J F X f' ⟨S, S, []⟩ (j - 1) 100000 vb vm (.slice none 0 0) B M 512 15360 nu ∧ Chg X w w' := by
  have ho := h.ops
  obtain ⟨k, hf⟩ := h.st.fl h.xlt (by omega) 100000 (by omega) (by omega)
  refine (stop_fl w X F f _ k 100000 hf (by omega) j h1 (by omega)).mono ?_
  rintro e w' ⟨rfl, f', hf', hc'⟩
  have hc : Chg X w w' := hc'.mono (fun i _ e => by rw [e]; exact hf.xF)
  obtain ⟨nu, hq⟩ := h.st.txk hc hf'
  exact ⟨rfl, f', nu, hq, hc⟩

/-- A Commit of the law's: done, or cut off. -/
theorem commit_t (w : World) (T J F : Nat) (X : Nat → Prop) (f : Fs) (k : Nat) (vb vm : Value) {S : List Int} {B M : Int → List Int} {nu : Int} (h : Txq w T J F X f ⟨S, S, []⟩ k 100000 vb vm (.slice none 0 0) B M 512 15360 nu) (h0 : Rst S S) (ha : Ahm S B M (lisU S B M)) :
    Calls Tryz.prog 14 #[.pointer (some ⟨T, 0, none⟩)] w fun e w' => ∃ X' f' A' k' n', Fl w' X' F f' A' k' n' ∧ n' ≤ 900000 ∧ Chg (fun i => X i ∨ i = J ∨ i = T) w w' ∧
      ((e = .returned (.int .i64 0) ∧ Way A' (lisU S B M) (lisU S B M)) ∨ (e = .returned (.int .i64 5) ∧ Way A' S (lisU S B M))) := by
  obtain ⟨hM, hru, hno⟩ := ha.far
  have hln : (lenD (recsM S B M) : Int) = sizeR (runsM M) := recs_len S B M (runsM M) (runsM_bd M)
  have hct := txO_costT 512 nu (recsM S B M)
  have hsz : sizeR (runsM M) ≤ 14336 := by
    have hs := size_need M 33 (by omega) (fun s hs e => hs (by have := ha.lim s e; omega)) (fun s => decide (2 ∈ M s)) (fun s => by simp)
    have h9 : needN (fun s => decide (2 ∈ M s)) 33 ≤ 524 * 3 + 0 := by
      have h30 : ∀ n : Nat, n ≤ 30 → needN (fun s => decide (2 ∈ M s)) n = 0 := fun n => by
        induction n with
        | zero => intro _; rfl
        | succ n ih =>
          intro hn
          have e : decide (2 ∈ M (n : Int)) = false := decide_eq_false (fun e => by have := ha.lim _ e; omega)
          unfold needN
          simp only [e, Bool.false_and, Bool.false_eq_true, if_false]
          rw [ih (by omega)]
          rfl
      have hst : ∀ n : Nat, needN (fun s => decide (2 ∈ M s)) (n + 1) ≤ needN (fun s => decide (2 ∈ M s)) n + 524 := fun n => by
        conv => lhs; unfold needN
        split <;> split <;> omega
      have a1 : needN (fun s => decide (2 ∈ M s)) 31 ≤ needN (fun s => decide (2 ∈ M s)) 30 + 524 := hst 30
      have a2 : needN (fun s => decide (2 ∈ M s)) 32 ≤ needN (fun s => decide (2 ∈ M s)) 31 + 524 := hst 31
      have a3 : needN (fun s => decide (2 ∈ M s)) 33 ≤ needN (fun s => decide (2 ∈ M s)) 32 + 524 := hst 32
      have a0 := h30 30 (by omega)
      omega
    omega
  refine (commit_a w T J F X f ⟨S, S, []⟩ k 100000 vb vm none 0 [] B M 512 15360 nu h (Or.inl rfl) ⟨fun hne => absurd rfl hne, fun r hr => (by cases hr)⟩ (by simp) (fun r hr => (by cases hr)) (by simp [lenD]) (by simp [lenD]) (by omega) (by omega) (by omega) hM hno ha.by_).mono ?_
  have ea : ahdO (([] : List JR).map JR.dat) = [] := by simp [ahdO]
  rw [ea, List.nil_append]
  rintro e w' (⟨g0, _⟩ | ⟨g1, _, rfl, ⟨f', n', hf, hn', hj⟩, hc⟩ | ⟨g1, g2, rfl, _, nu', n', hn', X', f', hf, hx, hc, hj, hxj⟩)
  · exfalso
    omega
  · exact ⟨X, f', _, 0, n', hf, by omega, hc.mono (fun i _ e => Or.inl e), Or.inr ⟨rfl, ha.read h0 (by omega)⟩⟩
  · have hroom : 1024 + lenD (recsM S B M) ≤ 15360 := by omega
    have hn9 : n' + costs (txO 512 nu (recsM S B M)) ≤ 900000 := by omega
    by_cases hk : (txO 512 nu (recsM S B M)).length ≤ k - rdR S (runsM M)
    · have e1 : cod (txO 512 nu (recsM S B M)).length (k - rdR S (runsM M)) = 0 := cod_ok hk
      rw [List.take_of_length_le hk, tx_state] at hf
      refine ⟨X', f', _, _, _, hf, hn9, hc, Or.inl ⟨by rw [e1], (ha.next h0 (lisU_len S B M) nu hroom).way _ (fun _ _ _ => rfl)⟩⟩
    · have e1 : cod (txO 512 nu (recsM S B M)).length (k - rdR S (runsM M)) = 5 := cod_no hk
      have hne : recsM S B M ≠ [] := fun e => hk (by rw [e]; simp [txO])
      exact ⟨X', f', _, _, _, hf, hn9, hc, Or.inr ⟨by rw [e1], ha.cut h0 nu hroom hne _⟩⟩

/-- What a file that was opened again says: all places, or none of them. -/
theorem end_says {l S S' : List Int} {B M : Int → List Int} {E : List E3} {U : List Nat} (hS : Bas l) (hl : ∀ i, 15360 ≤ i → S.getD i 0 = l.getD i 0) (hg : Gvn S B M E U) {m1 : List Int} {p : Prop} (h1 : (m1 = S ∧ p) ∨ m1 = lisU S B M) (h : EndW m1 (lisU S B M) S') : ∃ E' U', CntF (fun x => S'.getD x 0) U'.length ∧ EntF (fun x => S'.getD x 0) E' ∧ EntU E' U' ∧ (U' = U ∨ (U' = [] ∧ p)) := by
  obtain ⟨_, _, _, s4, s5, s6⟩ := hS.says
  have hall : (∀ i, 15360 ≤ i → i < 16896 → S'.getD i 0 = (lisU S B M).getD i 0) → ∃ E' U', CntF (fun x => S'.getD x 0) U'.length ∧ EntF (fun x => S'.getD x 0) E' ∧ EntU E' U' ∧ (U' = U ∨ (U' = [] ∧ p)) := fun he => by
    obtain ⟨a, b⟩ := said_by (g := seeT S B M) (g' := fun x => S'.getD x 0) (fun x h1 h2 => by show S'.getD x 0 = _; rw [he x h1 h2, lisU_get S B M x h2]) hg.cnt hg.ent
    exact ⟨E, U, a, b, hg.use, Or.inl rfl⟩
  rcases h.2.2 with he | he
  · rcases h1 with ⟨e1, hp⟩ | e1
    · have h9 := said_by (g := fun x => l.getD x 0) (g' := fun x => S'.getD x 0) (fun x h1 h2 => by show S'.getD x 0 = l.getD x 0; rw [he x h1 h2, e1]; exact hl x h1) s4 s5
      refine ⟨List.replicate 64 z3, [], ?_, h9.2, s6, Or.inr ⟨rfl, hp⟩⟩
      exact h9.1
    · exact hall (fun i h1 h2 => by rw [he i h1 h2, e1])
  · exact hall he
end Go.Proofs.YtibkhgmmjhlpmaaGreat.Oct
