/- Small calls of the law; what it holds of its changes while it puts. -/
import Derived.Test.YtgmifbknmjdemaaGreatPNoe
namespace Go.Proofs.YtgmifbknmjdemaaGreat.Oct
open Go.RowKit Go.Deep Go.Sort

theorem make_b (w : World) : ∃ wb Z, (Instr.makeSlice 24 (.int .i64 18800) (.int .i64 18800)).run Tryz.prog w = .ok (.slice (some ⟨w.heap.size, 0, none⟩) 18800 18800) wb ∧ Own wb w.heap.size (.slice (some ⟨w.heap.size, 0, none⟩) 18800 18800) Z ∧ Z.length = 18800 ∧ (∀ i, Z.getD i 0 = 0) ∧ Below w.heap.size w wb ∧ w.heap.size < wb.heap.size := by
  have h1 := run_make_bytes w 18800 (by omega)
  have h2 := Own.made w 18800 (by unfold maxLen; omega)
  have hb : Below w.heap.size w (w.alloc (.cells (madeCells #[.int .u8 0] 18800) 5)) := (Below.refl _ _).alloc (Nat.le_refl _) _
  have hs : w.heap.size < (w.alloc (.cells (madeCells #[.int .u8 0] 18800) 5)).heap.size := by rw [show (w.alloc (.cells (madeCells #[.int .u8 0] 18800) 5)).heap.size = w.heap.size + 1 by simp]; omega
  obtain ⟨Z, hZ⟩ : ∃ Z, Z = List.replicate 18800 (0 : Int) := ⟨_, rfl⟩
  rw [← hZ] at h2
  refine ⟨_, Z, h1, h2, by rw [hZ]; exact List.length_replicate, fun i => ?_, hb, hs⟩
  rw [hZ, List.getD_eq_getElem?_getD, List.getElem?_replicate]
  split <;> rfl

theorem Aln.set {w0 w w' : World} {F J : Nat} {X : Nat → Prop} {f : Fs} {A : A3} {k n : Nat} {nu : Int} {vs : Value} {Qs : List (List Int)} {am : Option Addr} {cm : Nat} {m : List Int} {ae ae' : Option Addr} {E E' : List (Int × Int)} (h : Aln w0 w F J X f A k n nu vs Qs am cm m ae E) (hb : Below w.heap.size w w') (hl : LiesE w' ae' E') (hx : ∀ x, ae' = some x → w.heap.size ≤ x.block ∧ x.block < w'.heap.size) : Aln w0 w' F J X f A k n nu vs Qs am cm m ae' E' := by
  have h2 := h.below hb
  refine ⟨h2.bel, h2.fl, h2.jr, h2.xJ, h2.xlo, h2.jlo, h2.rows, h2.ml, h2.mx, hl, fun x e => ?_⟩
  obtain ⟨h3, h4⟩ := hx x e
  have hJ := h.jr.lt
  obtain ⟨xs, ho, _⟩ := h.rows
  refine ⟨h4, fun e9 => ?_, fun e9 => ?_⟩
  · rcases e9 with e9 | e9
    · have := h.fl.x _ e9; omega
    · omega
  · have := (World.ownsRow.lt ho _ e9).2
    omega

theorem zero_kno {Z : List Int} {E : List (Int × Int)} (hl : Z.length = 18800) (hz : ∀ i, Z.getD i 0 = 0) (hE : ∀ x, InE E x ↔ InE [((512 : Int), (12800 : Int))] x) (hEl : E.length ≤ 1) : Kno Z Z [Z] E 0 := by
  have hb : Byts Z := fun i => by rw [hz i]; omega
  refine ⟨⟨hl, hb, hz _, fun i _ => hz i, fun _ _ => rfl⟩, hl, ⟨[], rfl⟩, fun Q hQ => ?_, fun Q hQ j _ hne => ?_, fun j h1 h2 => ?_, by omega, by simp⟩
  · simp only [List.mem_singleton] at hQ
    subst hQ
    exact ⟨hl, hb⟩
  · simp only [List.mem_singleton] at hQ
    subst hQ
    exact absurd (hz j) hne
  · rw [hE, inE_one]
    simp only
    omega

/-- Changes that begin. -/
theorem Inn.start {w0 w1 wb w4 : World} {T J F : Nat} {X : Nat → Prop} {f : Fs} {S : List Int} {k n : Nat} {nu : Int} {vs : Value} {Qs : List (List Int)} {am : Option Addr} {cm : Nat} {m : List Int} {ae : Option Addr} {E : List (Int × Int)} {v4 : Value} (h1 : Aln w0 w1 F J X f ⟨S, S, []⟩ k n nu vs Qs am cm m ae E) (hb : Below w1.heap.size w1 wb) (hT : w1.heap.size ≤ T) (htx : Txs wb T J (.map none) (.map none) (.slice none 0 0) false) (hb4 : Below wb.heap.size wb w4) (ho4 : Own w4 wb.heap.size v4 m) (hml : m.length = 18800) :
    ∃ g cap, v4 = .slice (some ⟨g, 0, none⟩) 18800 cap ∧ 18800 ≤ cap ∧ cap ≤ 9223372036854775807 ∧ Inn w1 w4 T J F X f S k n nu (.map none) (.map none) nobM nobM g cap m ae E vs.ownBlock := by
  obtain ⟨a4, c4, e4, hs4, hg⟩ := ho4.sl
  obtain ⟨g, rfl, hg1, hg2⟩ := hg (fun e => by rw [e] at hml; simp at hml)
  rw [hml] at e4
  have h4 := h1.below (hb.trans (hb4.mono hb.size))
  have hJl := h1.jr.lt
  have hXl := h1.fl.x
  have hTl := htx.lt
  have hsb := hb.size
  obtain ⟨xs, hox, _⟩ := h1.rows
  have hle := hs4.le
  have hmx := hs4.max
  rw [hml] at hle
  unfold maxLen at hmx
  subst e4
  refine ⟨g, c4, rfl, hle, hmx, hb.trans (hb4.mono hb.size), ⟨htx.below hb4, ⟨Or.inl ⟨rfl, fun _ => rfl⟩, Or.inl ⟨rfl, fun _ => rfl⟩, fun _ => Z5_len, fun _ => Z5_len⟩, Or.inl ⟨rfl, rfl⟩, h4.jr, h4.fl, fun e => by have := hXl T e; omega, h1.xJ, fun r hr => (by rcases hr with h | h <;> cases h), by omega⟩, hXl, hJl, hT, fun r hr => (by rcases hr with h | h <;> cases h), ho4.mono hsb, hml, ⟨by omega, fun r hr => (by rcases hr with h | h <;> cases h)⟩, h4.el, fun x hx => ?_, fun i hi => (World.ownsRow.lt hox i hi).2⟩
  have h5 := h1.ex x hx
  exact ⟨(h4.ex x hx).1, fun e => h5.2.1 (Or.inl e), fun e => h5.2.1 (Or.inr e), by omega, fun r hr => (by rcases hr with h | h <;> cases h), by omega, h5.2.2⟩

theorem mod_pick (x : Int) (b : Nat) (hb : 0 < b) : ∃ n : Nat, n < b ∧ (IntKind.u64.wrap x).tmod (b : Int) = (n : Int) := by
  have h0 : 0 ≤ IntKind.u64.wrap x := by rw [IntKind.wrap_u64]; omega
  have e : (IntKind.u64.wrap x).tmod b = (IntKind.u64.wrap x) % b := Int.tmod_eq_emod_of_nonneg h0
  rw [e]
  generalize IntKind.u64.wrap x = y at *
  have h1 := Int.emod_nonneg y (show (b : Int) ≠ 0 by omega)
  have h2 := Int.emod_lt_of_pos y (show (0 : Int) < b by omega)
  exact ⟨(y % b).toNat, by omega, by omega⟩

theorem pick150 (w : World) (x : Int) : Calls Tryz.prog 8 #[.int .i64 x, .int .i64 150] w fun e w' => ∃ t : Nat, t < 150 ∧ e = .returned (.int .i64 t) ∧ w' = w := by
  obtain ⟨t, ht, he⟩ := mod_pick x 150 (by omega)
  have e2 : (IntKind.u64.wrap x).tmod 150 = (t : Int) := he
  clear he
  go_enter Tryz.func8, Tryz.ntmps8
  go_wp2_with fail
  go_ret
  exact ⟨t, ht, rfl, rfl⟩

theorem pick5000 (w : World) (x : Int) : Calls Tryz.prog 8 #[.int .i64 x, .int .i64 5000] w fun e w' => ∃ t : Nat, t < 5000 ∧ e = .returned (.int .i64 t) ∧ w' = w := by
  obtain ⟨t, ht, he⟩ := mod_pick x 5000 (by omega)
  have e2 : (IntKind.u64.wrap x).tmod 5000 = (t : Int) := he
  clear he
  go_enter Tryz.func8, Tryz.ntmps8
  go_wp2_with fail
  go_ret
  exact ⟨t, ht, rfl, rfl⟩

theorem overN_get (m : List Int) (o : Nat) (l : List Int) (h : o + l.length ≤ m.length) (i : Nat) : (over m o l).getD i 0 = if o ≤ i ∧ i < o + l.length then l.getD (i - o) 0 else m.getD i 0 := by
  have ht : (m.take o).length = o := by simp; omega
  unfold over
  simp only [List.getD_eq_getElem?_getD]
  split
  · rename_i hi
    rw [List.getElem?_append_right (by omega), List.getElem?_append_left (by omega), ht]
  · rename_i hi
    rcases Nat.lt_or_ge i o with h1 | h1
    · rw [List.getElem?_append_left (by omega), List.getElem?_take_of_lt h1]
    · rw [List.getElem?_append_right (by omega), List.getElem?_append_right (by omega), ht, List.getElem?_drop]
      congr 2
      omega

/-- What is known of the lists within changes. -/
structure Prg (S : List Int) (B M : Int → List Int) (Nx : List Int) (E0 E : List (Int × Int)) (kk : Nat) : Prop where
  ah : Ahm S B M Nx
  by_ : Byts Nx
  tou : ∀ j : Nat, 12800 ≤ j → Nx.getD j 0 ≠ 0 → InE E j
  sub : ∀ j : Int, InE E0 j → InE E j
  el : E.length ≤ E0.length + kk

theorem Prg.step {S : List Int} {B M B' M' : Int → List Int} {Nx : List Int} {E0 E E' : List (Int × Int)} {kk t : Nat} {pl : List Int} (h : Prg S B M Nx E0 E kk) (hN : Nx.length = 18800) (hla : Laid B M B' M' t pl.length pl 2) (hl' : ∀ s, (M' s).length = 512) (ht : 12800 ≤ t) (ht2 : t + pl.length ≤ 18432) (hpl : Byts pl)
    (hE : ∀ x, InE E' x ↔ InE E x ∨ ((t : Int) ≤ x ∧ x < (t : Int) + pl.length)) (hEl : E'.length ≤ E.length + 1) : Prg S B' M' (over Nx t pl) E0 E' (kk + 1) := by
  refine ⟨h.ah.put hl' hla ht ht2 hpl (fun i _ => overN_get Nx t pl (by omega) i), h.by_.over hpl t, fun j hj hne => ?_, fun j hj => (hE j).2 (Or.inl (h.sub j hj)), by have := h.el; omega⟩
  rw [overN_get Nx t pl (by omega) j] at hne
  by_cases hc : t ≤ j ∧ j < t + pl.length
  · exact (hE j).2 (Or.inr (by omega))
  · rw [if_neg hc] at hne
    exact (hE j).2 (Or.inl (h.tou j hj hne))

/-- Behind changes that came. -/
theorem Kno.next {S S' m : List Int} {Qs : List (List Int)} {E0 E : List (Int × Int)} {k kk : Nat} {B M : Int → List Int} {Nx : List Int} (h : Kno S m Qs E0 k) (hp : Prg S B M Nx E0 E kk) (hN : Nx.length = 18800) (hk : kk ≤ 8) (hr : Rst S' Nx) : Kno S' Nx (Qs ++ [Nx]) E (k + 1) :=
  ⟨hr, hN, ⟨Qs, rfl⟩, fun Q hQ => (List.mem_append.1 hQ).elim (h.len Q) (fun e => by simp only [List.mem_singleton] at e; subst e; exact ⟨hN, hp.by_⟩), fun Q hQ j hj hne => (List.mem_append.1 hQ).elim (fun e => hp.sub _ (h.tou Q e j hj hne)) (fun e => by simp only [List.mem_singleton] at e; subst e; exact hp.tou j hj hne), fun j h1 h2 => hp.sub _ (h.jou j h1 h2), by have := h.el; have := hp.el; omega, by have := h.ql; simp; omega⟩

/-- Behind changes for which there was no room. -/
theorem Kno.full {S m : List Int} {Qs : List (List Int)} {E0 E : List (Int × Int)} {k kk : Nat} {B M : Int → List Int} {Nx : List Int} (h : Kno S m Qs E0 k) (hp : Prg S B M Nx E0 E kk) (hk : kk ≤ 8) : Kno S m Qs E (k + 1) :=
  ⟨h.rst, h.ml, h.last, h.len, fun Q hQ j hj hne => hp.sub _ (h.tou Q hQ j hj hne), fun j h1 h2 => hp.sub _ (h.jou j h1 h2), by have := h.el; have := hp.el; omega, by have := h.ql; omega⟩

theorem Kno.ends {S m : List Int} {Qs : List (List Int)} {E : List (Int × Int)} {k : Nat} (h : Kno S m Qs E k) (hk : k ≤ 8) : 1 ≤ Qs.length ∧ Knf ⟨S, S, []⟩ Qs (Qs.length - 1) E := by
  obtain ⟨Q0, rfl⟩ := h.last
  have e : (Q0 ++ [m]).getD Q0.length [] = m := by simp
  refine ⟨by simp, ⟨Q0.length, Q0.length, by simp, by simp, by simp, by simp, ?_⟩, h.len, h.tou, h.jou, by have := h.el; omega, by have := h.ql; omega⟩
  rw [e]
  exact h.rst.way m (fun _ _ _ => rfl)

/-- Behind changes that were cut off. -/
theorem Kno.cut {S m : List Int} {Qs : List (List Int)} {E0 E : List (Int × Int)} {k kk : Nat} {B M : Int → List Int} {Nx : List Int} {A : A3} (h : Kno S m Qs E0 k) (hp : Prg S B M Nx E0 E kk) (hN : Nx.length = 18800) (hk : kk ≤ 8) (hk8 : k < 8) (hw : Way A m Nx) : Knf A (Qs ++ [Nx]) (Qs.length - 1) E := by
  have hn := h.next hp hN hk (S' := S)
  obtain ⟨Q0, hQ⟩ := h.last
  have h2 : 1 ≤ Qs.length := by rw [hQ]; simp
  have e1 : (Qs ++ [Nx]).getD (Qs.length - 1) [] = m := by rw [hQ]; simp
  have e2 : (Qs ++ [Nx]).getD Qs.length [] = Nx := by simp
  refine ⟨⟨Qs.length - 1, Qs.length, by omega, by simp; omega, by omega, by simp, ?_⟩, fun Q hQ => (List.mem_append.1 hQ).elim (h.len Q) (fun e => by simp only [List.mem_singleton] at e; subst e; exact ⟨hN, hp.by_⟩), fun Q hQ j hj hne => (List.mem_append.1 hQ).elim (fun e => hp.sub _ (h.tou Q e j hj hne)) (fun e => by simp only [List.mem_singleton] at e; subst e; exact hp.tou j hj hne), fun j h1 h2 => hp.sub _ (h.jou j h1 h2), by have := h.el; have := hp.el; omega, by have := h.ql; simp; omega⟩
  rw [e1, e2]
  exact hw

/-- What the law asks at last: only bytes that were touched are others; from sure on one state is what is there. -/
theorem Knf.says {A : A3} {Qs : List (List Int)} {sure : Nat} {E : List (Int × Int)} (h : Knf A Qs sure E) (kp : List Bool) : ∃ b nu D i j, sure ≤ i ∧ i < Qs.length ∧ sure ≤ j ∧ j < Qs.length ∧ Giv b 512 12800 D ∧ St b 512 12800 nu D (crashD A kp) ∧ ∀ S', Fin b 512 12800 D S' → S'.length = 18800 ∧ (∀ x : Nat, S'.getD x 0 ≠ 0 → x < 18800 → InE E x) ∧ ∃ r, sure ≤ r ∧ r < Qs.length ∧ ∀ x, 12800 ≤ x → x < 18800 → S'.getD x 0 = (Qs.getD r []).getD x 0 := by
  obtain ⟨i, j, hi, hi2, hj, hj2, b, nu, D, g, hst, hb, hp, hlow, hhi⟩ := h.way
  refine ⟨b, nu, D, i, j, hi, hi2, hj, hj2, g, hst kp, fun S' hf => ?_⟩
  obtain ⟨h1, h2, h3⟩ := fin_end hf hb hp hlow hhi
  have hmem : ∀ r, r < Qs.length → Qs.getD r [] ∈ Qs := fun r hr => by
    have : Qs.getD r [] = Qs[r] := by simp [hr]
    rw [this]
    exact List.getElem_mem _
  obtain ⟨r, hr1, hr2, hr⟩ : ∃ r, sure ≤ r ∧ r < Qs.length ∧ ∀ x, 12800 ≤ x → x < 18800 → S'.getD x 0 = (Qs.getD r []).getD x 0 := h3.elim (fun e => ⟨i, hi, hi2, e⟩) (fun e => ⟨j, hj, hj2, e⟩)
  refine ⟨h1, fun x hx hx2 => ?_, r, hr1, hr2, hr⟩
  by_cases h5 : x < 512
  · exact absurd (h2 x h5) hx
  · by_cases h6 : x < 12800
    · exact h.jou x (by omega) h6
    · exact h.tou _ (hmem r hr2) x (by omega) (by rw [← hr x (by omega) hx2]; exact hx)
end Go.Proofs.YtgmifbknmjdemaaGreat.Oct
