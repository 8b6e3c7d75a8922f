/- Changes that are committed, and cut off: what the law holds behind them; a replay at last. -/
import Derived.Test.YtgmifbknmjdemaaGreatPNod
namespace Go.Proofs.YtgmifbknmjdemaaGreat.Oct
open Go.RowKit Go.Deep Go.Sort

/-- What the law knows of its lists when no more is committed: sure is the first of the states that may be. -/
structure Knf (A : A3) (Qs : List (List Int)) (sure : Nat) (E : List (Int × Int)) : Prop where
  way : ∃ i j, sure ≤ i ∧ i < Qs.length ∧ sure ≤ j ∧ j < Qs.length ∧ Way A (Qs.getD i []) (Qs.getD j [])
  len : ∀ Q ∈ Qs, Q.length = 18800 ∧ Byts Q
  tou : ∀ Q ∈ Qs, ∀ j : Nat, 12800 ≤ j → Q.getD j 0 ≠ 0 → InE E j
  jou : ∀ j : Nat, 512 ≤ j → j < 12800 → InE E j
  el : E.length ≤ 200
  ql : Qs.length ≤ 200

theorem txO_costN (p : Nat) (nu : Int) (D : List RD) : costs (txO p nu D) ≤ 2 * lenD D + 2000 := by
  unfold txO
  split
  · simp [costs]
  · rw [costs_append]
    have h1 := recO_cost D
    have h2 := encD_length D
    have h3 := signOf_len nu D
    have h4 := Z512_len
    unfold appO clrO comO
    simp [costs, AO.cost] at h1 ⊢
    omega

theorem Aln.below {w0 w w' : World} {F J : Nat} {X : Nat → Prop} {f : Fs} {A : A3} {k n : Nat} {nu : Int} {vs : Value} {Qs : List (List Int)} {am : Option Addr} {cm : Nat} {m : List Int} {ae : Option Addr} {E : List (Int × Int)} (h : Aln w0 w F J X f A k n nu vs Qs am cm m ae E) (hb : Below w.heap.size w w') : Aln w0 w' F J X f A k n nu vs Qs am cm m ae E :=
  ⟨h.bel.trans (hb.mono h.bel.size), h.fl.below hb, h.jr.below hb, h.xJ, h.xlo, h.jlo, h.rows.below hb, h.ml.below hb, fun x hx => ⟨Nat.lt_of_lt_of_le (h.mx x hx).1 hb.size, (h.mx x hx).2⟩, h.el.below hb, fun x hx => ⟨Nat.lt_of_lt_of_le (h.ex x hx).1 hb.size, (h.ex x hx).2⟩⟩

/-- Behind changes of which nothing came. -/
theorem Aln.full {w0 w1 w w' : World} {T J F : Nat} {X : Nat → Prop} {f : Fs} {S m0 : List Int} {k n : Nat} {nu : Int} {vb vm : Value} {B M : Int → List Int} {g cap : Nat} {Nx : List Int} {ae : Option Addr} {E : List (Int × Int)} {vs : Value} {Qs : List (List Int)} {am : Option Addr} {cm : Nat} {ae0 : Option Addr} {E0 : List (Int × Int)}
    (h1 : Aln w0 w1 F J X f ⟨S, S, []⟩ k n nu vs Qs am cm m0 ae0 E0) (h : Inn w1 w T J F X f S k n nu vb vm B M g cap Nx ae E vs.ownBlock) (hb : Below w.heap.size w w') : Aln w0 w' F J X f ⟨S, S, []⟩ k n nu vs Qs am cm m0 ae E := by
  have h2 := h1.below h.bel
  have h3 := h2.below hb
  exact ⟨h3.bel, h3.fl, h3.jr, h3.xJ, h3.xlo, h3.jlo, h3.rows, h3.ml, h3.mx, h.el.below hb, fun x hx => ⟨Nat.lt_of_lt_of_le (h.ex x hx).1 hb.size, fun e => e.elim (h.ex x hx).2.1 (h.ex x hx).2.2.1, (h.ex x hx).2.2.2.2.2.2⟩⟩

/-- Behind changes that came, or were cut off. -/
theorem Aln.after {w0 w1 w w' : World} {T J F : Nat} {X X' : Nat → Prop} {f f' : Fs} {S m0 : List Int} {A' : A3} {k n k' n' : Nat} {nu nu' : Int} {vb vm : Value} {B M : Int → List Int} {g cap : Nat} {Nx : List Int} {ae : Option Addr} {E : List (Int × Int)} {vs : Value} {Qs : List (List Int)} {am : Option Addr} {cm : Nat} {ae0 : Option Addr} {E0 : List (Int × Int)}
    (h1 : Aln w0 w1 F J X f ⟨S, S, []⟩ k n nu vs Qs am cm m0 ae0 E0) (h : Inn w1 w T J F X f S k n nu vb vm B M g cap Nx ae E vs.ownBlock) (hc : Chg (fun i => X i ∨ i = J ∨ i = T) w w') (hf : Fl w' X' F f' A' k' n') (hj : Jrn w' J F (512 : Nat) (12800 : Nat) nu') (hxJ : ¬ X' J) (hx : ∀ i, X' i → X i ∨ w.heap.size ≤ i) :
    Aln w0 w' F J X' f' A' k' n' nu' vs Qs (some ⟨g, 0, none⟩) cap Nx ae E := by
  have hT := h.tlo
  have hJ := h.jlt
  have hg := h.nx.gblk
  have hs := h.bel.size
  have hs0 := h1.bel.size
  have hc1 : Chg (fun i => X i ∨ i = J ∨ i = T) w1 w' := (Chg.of_below h.bel).trans hc
  have hXl := h.xlt
  refine ⟨h1.bel.trans (hc1.below _ hs0 (fun i hi e => ?_)), hf, hj, hxJ, fun i hi => ?_, h1.jlo, h1.rows.chg hc1 (fun i hi e => ?_) (fun i hi e => ?_), ?_, fun x e => ?_, h.el.chgN hc (fun x e9 e => ?_), fun x e => ?_⟩
  · rcases e with e | e | e
    · have := h1.xlo i e; omega
    · have := h1.jlo; omega
    · omega
  · rcases hx i hi with e | e
    · exact h1.xlo i e
    · omega
  · rcases e with e | e | e
    · exact Or.inl e
    · exact Or.inr e
    · omega
  · rcases e with e | e
    · rcases hx i e with e | e
      · exact Or.inl e
      · omega
    · exact Or.inr e
  · have h9 := h.nx.chg hc (fun i hi e => by
      have e2 : i = g := by simpa [Value.ownBlock] using hi.symm
      subst e2
      rcases e with e | e | e
      · have := hXl _ e; omega
      · omega
      · exact h.nT.1 e)
    obtain ⟨a9, c9, e9, hs9, _⟩ := h9.sl
    rw [h.nl] at e9
    cases e9
    exact hs9
  · cases e
    refine ⟨Nat.lt_of_lt_of_le hg.2 hc.size, fun e => ?_, fun e => ?_⟩
    · rcases e with e | e
      · rcases hx _ e with e | e
        · have := hXl _ e; simp only at this; omega
        · simp only at e; omega
      · simp only at e; omega
    · have := h.vlt _ e
      simp only at this
      omega
  · obtain ⟨x1, x2, x3, x4, x5, x6⟩ := h.ex x e9
    rcases e with e | e | e
    · exact x2 e
    · exact x3 e
    · exact x4 e
  · obtain ⟨x1, x2, x3, x4, x5, x6, x7⟩ := h.ex x e
    refine ⟨Nat.lt_of_lt_of_le x1 hc.size, fun e => ?_, x7⟩
    rcases e with e | e
    · rcases hx _ e with e | e
      · exact x2 e
      · omega
    · exact x3 e

/-- One more state in the row. -/
theorem Aln.push {w0 w w' : World} {F J : Nat} {X : Nat → Prop} {f : Fs} {A : A3} {k n : Nat} {nu : Int} {vs v' : Value} {Qs : List (List Int)} {am : Option Addr} {cm : Nat} {m : List Int} {ae : Option Addr} {E : List (Int × Int)} {xs : List Value} (h : Aln w0 w F J X f A k n nu vs Qs am cm m ae E)
    (ho : w.ownsRow w0.heap.size 24 1 vs Qs.length xs) (hv : ∀ g, vs.ownBlock = some g → ¬ (X g ∨ g = J))
    (hm : ∀ i, i < Qs.length → ∃ a c, xs[i]? = some (.slice a (Qs.getD i []).length c) ∧ Sl w a c (Qs.getD i []) ∧ ∀ x, a = some x → x.block < w.heap.size ∧ ¬ (X x.block ∨ x.block = J) ∧ vs.ownBlock ≠ some x.block)
    (ho' : w'.ownsRow w0.heap.size 24 1 v' (Qs.length + 1) (xs ++ [.slice am m.length cm])) (hg : w.grownBy w' vs.ownBlock) (hb : v'.ownBlock = vs.ownBlock ∨ v'.ownBlock = some w.heap.size) :
    Aln w0 w' F J X f A k n nu v' (Qs ++ [m]) am cm m ae E := by
  have hc := Chg.of_grown hg
  have hJl := h.jr.lt
  have hXl := h.fl.x
  have hother : ∀ x : Addr, x.block < w.heap.size → vs.ownBlock ≠ some x.block → v'.ownBlock ≠ some x.block := fun x h1 h2 => by
    rcases hb with e | e
    · rw [e]; exact h2
    · rw [e]; intro e'; simp at e'; omega
  refine ⟨h.bel.trans (hc.below _ h.bel.size (fun i hi e => by have := (World.ownsRow.lt ho i e.symm).1; omega)), h.fl.chg hc (fun i _ hi e => hv i e.symm (Or.inl hi)), (hc.block J hJl (fun e => hv J e.symm (Or.inr rfl))).trans h.jr, h.xJ, h.xlo, h.jlo,
    Rws.push ho hv hm (fun i e => e.elim (hXl i) (fun e => by rw [e]; exact hJl)) ho' hg hb h.ml h.mx, h.ml.chgN hc (fun x hx e => (h.mx x hx).2.2 e.symm), fun x hx => ⟨Nat.lt_of_lt_of_le (h.mx x hx).1 hc.size, (h.mx x hx).2.1, hother x (h.mx x hx).1 (h.mx x hx).2.2⟩, h.el.chgN hc (fun x hx e => (h.ex x hx).2.2 e.symm), fun x hx => ⟨Nat.lt_of_lt_of_le (h.ex x hx).1 hc.size, (h.ex x hx).2.1, hother x (h.ex x hx).1 (h.ex x hx).2.2⟩⟩

/-- A Commit of the law's: no room; done; or cut off. -/
theorem Inn.commit {w0 w1 w : World} {T J F : Nat} {X : Nat → Prop} {f : Fs} {S m0 : List Int} {k n : Nat} {nu : Int} {vb vm : Value} {B M : Int → List Int} {g cap : Nat} {Nx : List Int} {ae : Option Addr} {E : List (Int × Int)} {vs : Value} {Qs : List (List Int)} {am : Option Addr} {cm : Nat} {ae0 : Option Addr} {E0 : List (Int × Int)}
    (h1 : Aln w0 w1 F J X f ⟨S, S, []⟩ k n nu vs Qs am cm m0 ae0 E0) (h : Inn w1 w T J F X f S k n nu vb vm B M g cap Nx ae E vs.ownBlock) (h0 : Rst S m0) (ha : Ahm S B M Nx) (hn : n ≤ 240000) :
    Calls Tryz.prog 13 #[.pointer (some ⟨T, 0, none⟩)] w fun e w' =>
      (e = .returned (.int .i64 15) ∧ Aln w0 w' F J X f ⟨S, S, []⟩ k n nu vs Qs am cm m0 ae E) ∨
      (e = .returned (.int .i64 0) ∧ ∃ X' f' S' k' n' nu', Aln w0 w' F J X' f' ⟨S', S', []⟩ k' n' nu' vs Qs (some ⟨g, 0, none⟩) cap Nx ae E ∧ n' ≤ n + 34000 ∧ Rst S' Nx) ∨
      (e = .returned (.int .i64 5) ∧ ∃ X' f' A' k' n' nu', Aln w0 w' F J X' f' A' k' n' nu' vs Qs (some ⟨g, 0, none⟩) cap Nx ae E ∧ n' ≤ n + 34000 ∧ Way A' m0 Nx) := by
  obtain ⟨hM, _, hno⟩ := ha.far
  have hln : (lenD (recsM S B M) : Int) = sizeR (runsM M) := recs_len S B M (runsM M) (runsM_bd M)
  have hct := txO_costN 512 nu (recsM S B M)
  refine (commit_a w T J F X f ⟨S, S, []⟩ k n vb vm none 0 [] B M 512 12800 nu h.q (Or.inl rfl) ⟨fun hne => absurd rfl hne, fun r hr => (by cases hr)⟩ (by simp) (fun r hr => (by cases hr)) (by simp [lenD]) (by simp [lenD]; omega) (by omega) (by omega) (by omega) hM hno ha.by_).mono ?_
  have ea : ahdO (([] : List JR).map JR.dat) = [] := by simp [ahdO]
  rw [ea, List.nil_append]
  rintro e w' (⟨_, rfl, hb⟩ | ⟨g1, _, rfl, ⟨f', n', hf, hn', hj⟩, hc⟩ | ⟨g1, g2, rfl, _, nu', n', hn', X', f', hf, hx, hc, hj, hxj⟩)
  · exact Or.inl ⟨rfl, h1.full h hb⟩
  · refine Or.inr (Or.inr ⟨rfl, X, f', _, 0, n', nu, h1.after h (hc.mono (fun i _ e => Or.inl e)) hf hj h1.xJ (fun i hi => Or.inl hi), by omega, ha.read h0 (by omega)⟩)
  · have hroom : 1024 + lenD (recsM S B M) ≤ 12800 := by omega
    by_cases hk : (txO 512 nu (recsM S B M)).length ≤ k - rdR S (runsM M)
    · have e1 : cod (txO 512 nu (recsM S B M)).length (k - rdR S (runsM M)) = 0 := cod_ok hk
      rw [List.take_of_length_le hk, tx_state] at hf
      have hf2 := h1.after h hc hf hj hxj hx
      refine Or.inr (Or.inl ⟨?_, X', f', _, _, _, nu', hf2, (show n' + costs (txO 512 nu (recsM S B M)) ≤ n + 34000 by omega), ha.next h0 h.nl nu hroom⟩)
      rw [e1]
    · have e1 : cod (txO 512 nu (recsM S B M)).length (k - rdR S (runsM M)) = 5 := cod_no hk
      have hne : recsM S B M ≠ [] := fun e => hk (by rw [e]; simp [txO])
      have hf2 := h1.after h hc hf hj hxj hx
      refine Or.inr (Or.inr ⟨?_, X', f', _, _, _, nu', hf2, (show n' + costs (txO 512 nu (recsM S B M)) ≤ n + 34000 by omega), ha.cut h0 nu hroom hne _⟩)
      rw [e1]

theorem lenD_geN : ∀ D : List RD, 12 * D.length ≤ lenD D
  | [] => by simp [lenD]
  | r :: D => by
    have ih := lenD_geN D
    simp only [lenD, List.map_cons, List.sum_cons, List.length_cons] at *
    omega

/-- A replay of what a crash left. -/
theorem replay_n (w : World) (J F : Nat) (nu : Int) (X : Nat → Prop) (f : Fs) (k n : Nat) (R : List Int) (hJ : Jrn w J F (512 : Nat) (12800 : Nat) nu) (hF : Fl w X F f ⟨R, R, []⟩ k n) (hk : 1000000 ≤ k) (hn : n ≤ 100) (hXJ : ¬ X J) {b : List Int} {D : List RD} {nu' : Int} (g : Giv b 512 12800 D) (h : St b 512 12800 nu' D R) :
    Calls Tryz.prog 15 #[.pointer (some ⟨J, 0, none⟩)] w fun e w' => (∃ c, e = .returned (.tuple #[.int .i64 c, .int .i64 0])) ∧ ∃ X' f' k' n' S', Fl w' X' F f' ⟨S', S', []⟩ k' n' ∧ Fin b 512 12800 D S' ∧ Byts S' ∧ Chg (fun i => X i ∨ i = J) w w' := by
  obtain ⟨s1, s2, s3, s4, s5⟩ := h.says g
  have hrd : rdsN R 512 ≤ 2 := by unfold rdsN; split <;> omega
  have hDl := lenD_geN D
  have hro := g.room
  refine (replay_j w J F 512 12800 nu hJ (by omega) X f ⟨R, R, []⟩ k n hF s1 hXJ s3 (by omega) (by omega) s4 rfl).mono ?_
  rintro e w' (⟨h1, _⟩ | ⟨h1, h2, rfl, nu2, f2, hf2, hc2, hj2⟩ | ⟨h1, D2, h2, h3, nu2, hr⟩)
  · exact absurd (show rdsN R 512 ≤ k by omega) h1
  · exact ⟨⟨0, rfl⟩, X, f2, _, _, R, hf2, h.fin g h2, s3, hc2⟩
  · rcases s5 with s5 | ⟨s5, s6⟩
    · have h2' : pnd R 512 12800 = some D2 := h2
      rw [s5] at h2'
      cases h2'
    · have h2' : pnd R 512 12800 = some D2 := h2
      rw [s5] at h2'
      cases h2'
      have hle : D.length + 3 ≤ k - rdsN R 512 := by omega
      obtain ⟨X2, f2, hf2, hx2, hc2, hj2, hn2⟩ := hr
      have hal : (appO 512 D).length ≤ k - rdsN R 512 := by
        unfold appO clrO
        simp [recO_length]
        omega
      have e2 : doAll ((appO 512 D).take (k - rdsN R 512)) ⟨R, R, []⟩ = ⟨appS (comS b 512 nu' D) 512 D, appS (comS b 512 nu' D) 512 D, []⟩ := by
        rw [List.take_of_length_le hal, app_state, s6.app]
      have hf3 := hf2
      rw [e2] at hf3
      rcases h3 with ⟨_, rfl⟩ | ⟨h3, _⟩
      · refine ⟨⟨_, rfl⟩, X2, f2, _, _, _, hf3, app_fin g, ?_, hc2⟩
        exact (St.says g (app_none (b := b) (p := 512) (q := 12800) (nu := nu') (D := D)).1).2.2.1
      · exact absurd hle h3
end Go.Proofs.YtgmifbknmjdemaaGreat.Oct
