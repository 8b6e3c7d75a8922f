/- A file in memory, with the bytes that are seen and safe, and the writes that wait; a write is seen, and waits. -/
import Derived.Test.YtnfbhgahkajhnaaOnto
import Derived.Deep.RegionLaw
namespace Go.Proofs.Ytnfbhgahkajhnaa.Oct
open Go.RowKit Go.Deep

/-- Where a write's bytes may lie. -/
def Free (w : World) (X : Nat → Prop) (F : Nat) (f : Fs) (r : Wr) : Prop :=
  Lies w r.a r.p ∧ ∀ x, r.a = some x → x.block < w.heap.size ∧ X x.block ∧ x.block ≠ F ∧ f.vs.ownBlock ≠ some x.block ∧ f.vt.ownBlock ≠ some x.block ∧ f.vr.ownBlock ≠ some x.block

/-- A file that has the blocks X: S is seen, T is safe, the writes R wait. -/
structure Fil (w : World) (X : Nat → Prop) (F : Nat) (f : Fs) (S T : List Int) (R : List Wr) : Prop where
  at_ : At w F f
  xF : X F
  seen : Own w 0 f.vs S
  safe : Own w 0 f.vt T
  row : w.ownsRow 0 119 3 f.vr R.length (R.flatMap Wr.cells)
  xs : ∀ g, f.vs.ownBlock = some g → X g ∧ g ≠ F
  xt : ∀ g, f.vt.ownBlock = some g → X g ∧ g ≠ F ∧ f.vs.ownBlock ≠ some g
  xr : ∀ g, f.vr.ownBlock = some g → X g ∧ g ≠ F ∧ f.vs.ownBlock ≠ some g ∧ f.vt.ownBlock ≠ some g
  ps : ∀ r ∈ R, Free w X F f r

theorem Fil.mono {w : World} {X Y : Nat → Prop} {F : Nat} {f : Fs} {S T : List Int} {R : List Wr} (h : Fil w X F f S T R) (hy : ∀ k, k < w.heap.size → X k → Y k) : Fil w Y F f S T R :=
  ⟨h.at_, hy _ h.at_.lt h.xF, h.seen, h.safe, h.row, fun g hg => ⟨hy _ (ownsRow_lt h.seen _ hg) (h.xs g hg).1, (h.xs g hg).2⟩, fun g hg => ⟨hy _ (ownsRow_lt h.safe _ hg) (h.xt g hg).1, (h.xt g hg).2⟩,
   fun g hg => ⟨hy _ (ownsRow_lt h.row _ hg) (h.xr g hg).1, (h.xr g hg).2⟩, fun r hr => ⟨(h.ps r hr).1, fun x hx => ⟨((h.ps r hr).2 x hx).1, hy _ ((h.ps r hr).2 x hx).1 ((h.ps r hr).2 x hx).2.1, ((h.ps r hr).2 x hx).2.2⟩⟩⟩

/-- What another call changes leaves the file. -/
theorem Fil.chg {w w' : World} {X Y : Nat → Prop} {F : Nat} {f : Fs} {S T : List Int} {R : List Wr} (h : Fil w X F f S T R) (hc : Chg Y w w') (hy : ∀ k, k < w.heap.size → X k → ¬ Y k) : Fil w' X F f S T R :=
  ⟨h.at_.chg hc (hy _ h.at_.lt h.xF), h.xF, h.seen.chg hc (fun g hg => hy _ (ownsRow_lt h.seen _ hg) (h.xs g hg).1), h.safe.chg hc (fun g hg => hy _ (ownsRow_lt h.safe _ hg) (h.xt g hg).1),
   ownsRow_chg h.row hc (fun g hg => hy _ (ownsRow_lt h.row _ hg) (h.xr g hg).1), h.xs, h.xt, h.xr,
   fun r hr => ⟨(h.ps r hr).1.chg hc (fun x hx => hy _ ((h.ps r hr).2 x hx).1 ((h.ps r hr).2 x hx).2.1), fun x hx => ⟨Nat.lt_of_lt_of_le ((h.ps r hr).2 x hx).1 hc.size, ((h.ps r hr).2 x hx).2⟩⟩⟩

/-- The fields that count are others. -/
theorem Fil.fields {w w' : World} {X : Nat → Prop} {F : Nat} {f f' : Fs} {S T : List Int} {R : List Wr} (h : Fil w X F f S T R) (hc : Chg (fun k => k = F) w w') (ha : At w' F f') (h1 : f'.vs = f.vs) (h2 : f'.vt = f.vt) (h3 : f'.vr = f.vr) : Fil w' X F f' S T R := by
  obtain ⟨vs, vt, vr, a4, a5, a6, a7, a8⟩ := f'
  obtain ⟨us, ut, ur, b4, b5, b6, b7, b8⟩ := f
  simp only at h1 h2 h3
  subst h1 h2 h3
  exact ⟨ha, h.xF, h.seen.chg hc (fun g hg => (h.xs g hg).2), h.safe.chg hc (fun g hg => (h.xt g hg).2.1), ownsRow_chg h.row hc (fun g hg => (h.xr g hg).2.1), h.xs, h.xt, h.xr,
   fun r hr => ⟨(h.ps r hr).1.chg hc (fun x hx => ((h.ps r hr).2 x hx).2.2.1), fun x hx => ⟨Nat.lt_of_lt_of_le ((h.ps r hr).2 x hx).1 hc.size, ((h.ps r hr).2 x hx).2⟩⟩⟩

theorem Fil.dX {w : World} {X : Nat → Prop} {F : Nat} {f : Fs} {S T : List Int} {R : List Wr} (h : Fil w X F f S T R) (k : Nat) (hk : k = F ∨ some k = f.vs.ownBlock ∨ some k = f.vr.ownBlock) : X k := by
  rcases hk with rfl | e | e
  · exact h.xF
  · exact (h.xs k e.symm).1
  · exact (h.xr k e.symm).1

theorem info_wr : (Try.prog.info? 119).map (fun i => (i.zero, i.size, i.bytes)) = some (some (.agg #[.int .i64 0, .slice none 0 0, .bool false]), 3, 40) := by kernel_rfl

theorem Free.mono {w : World} {X Y : Nat → Prop} {F : Nat} {f : Fs} {r : Wr} (h : Free w X F f r) (hy : ∀ k, k < w.heap.size → X k → Y k) : Free w Y F f r :=
  ⟨h.1, fun x hx => ⟨(h.2 x hx).1, hy _ (h.2 x hx).1 (h.2 x hx).2.1, (h.2 x hx).2.2⟩⟩

theorem Free.chg {w w' : World} {X Y : Nat → Prop} {F : Nat} {f : Fs} {r : Wr} (h : Free w X F f r) (hc : Chg Y w w') (hy : ∀ x, r.a = some x → ¬ Y x.block) : Free w' X F f r :=
  ⟨h.1.chg hc hy, fun x hx => ⟨Nat.lt_of_lt_of_le (h.2 x hx).1 hc.size, (h.2 x hx).2⟩⟩

/-- New bytes are seen. -/
theorem Fil.step_seen {w w2 : World} {X : Nat → Prop} {F : Nat} {f : Fs} {S S' T : List Int} {R : List Wr} (h : Fil w X F f S T R) (v2 : Value) (ho : Own w2 0 v2 S') (hg : w.grownBy w2 f.vs.ownBlock) (hw : Went w f.vs v2) :
    Fil (w2.setCell ⟨F, 0, none⟩ v2) (fun k => X k ∨ w.heap.size ≤ k) F { f with vs := v2 } S' T R ∧ Chg (fun k => k = F ∨ some k = f.vs.ownBlock) w (w2.setCell ⟨F, 0, none⟩ v2) ∧ ∀ r, Free w X F f r → Free (w2.setCell ⟨F, 0, none⟩ v2) (fun k => X k ∨ w.heap.size ≤ k) F { f with vs := v2 } r := by
  have hc := Chg.of_grown hg
  have hF : ¬ (some F = f.vs.ownBlock) := fun e => (h.xs F e.symm).2 rfl
  have hA := h.at_.chg hc hF
  have hX : Chg (fun k => k = F ∨ some k = f.vs.ownBlock) w (w2.setCell ⟨F, 0, none⟩ v2) := ((hc.mono (fun i _ e => Or.inr e)) : Chg (fun k => k = F ∨ some k = f.vs.ownBlock) w w2).setCell F 0 v2 (fun _ => Or.inl rfl)
  have hs : Chg (fun k => k = F) w2 (w2.setCell ⟨F, 0, none⟩ v2) := (Chg.refl _ _).setCell F 0 v2 (fun _ => rfl)
  have hnew : ∀ g, v2.ownBlock = some g → (X g ∨ w.heap.size ≤ g) ∧ g ≠ F ∧ (g < w.heap.size → f.vs.ownBlock = some g) := by
    intro g hgg
    rcases hw with e | ⟨g', e, hle⟩
    · rw [e] at hgg
      exact ⟨Or.inl (h.xs g hgg).1, (h.xs g hgg).2, fun _ => hgg⟩
    · rw [e] at hgg
      cases hgg
      exact ⟨Or.inr hle, fun e => by have := h.at_.lt; omega, fun hlt => absurd hlt (by omega)⟩
  have hold : ∀ g, g < w.heap.size → f.vs.ownBlock ≠ some g → v2.ownBlock ≠ some g := fun g hlt hne e => hne ((hnew g e).2.2 hlt)
  have hfree : ∀ r, Free w X F f r → Free (w2.setCell ⟨F, 0, none⟩ v2) (fun k => X k ∨ w.heap.size ≤ k) F { f with vs := v2 } r := by
    intro r hr
    refine ⟨(hr.1.chg hc (fun x hx e => (hr.2 x hx).2.2.2.1 e.symm)).chg hs (fun x hx => (hr.2 x hx).2.2.1), fun x hx => ?_⟩
    obtain ⟨h1, h2, h3, h4, h5, h6⟩ := hr.2 x hx
    exact ⟨Nat.lt_of_lt_of_le h1 hX.size, Or.inl h2, h3, hold _ h1 h4, h5, h6⟩
  refine ⟨⟨hA.setvs v2, Or.inl h.xF, ho.chg hs (fun g hgg => (hnew g hgg).2.1), (h.safe.chg hc (fun g hgg e => (h.xt g hgg).2.2 e.symm)).chg hs (fun g hgg => (h.xt g hgg).2.1),
    ownsRow_chg (ownsRow_chg h.row hc (fun g hgg e => (h.xr g hgg).2.2.1 e.symm)) hs (fun g hgg => (h.xr g hgg).2.1), fun g hgg => ⟨(hnew g hgg).1, (hnew g hgg).2.1⟩, fun g hgg => ⟨Or.inl (h.xt g hgg).1, (h.xt g hgg).2.1, hold g (ownsRow_lt h.safe g hgg) (h.xt g hgg).2.2⟩,
    fun g hgg => ⟨Or.inl (h.xr g hgg).1, (h.xr g hgg).2.1, hold g (ownsRow_lt h.row g hgg) (h.xr g hgg).2.2.1, (h.xr g hgg).2.2.2⟩, fun r hr => hfree r (h.ps r hr)⟩, hX, hfree⟩

/-- One more write waits. -/
theorem Fil.step_row {w w2 : World} {X : Nat → Prop} {F : Nat} {f : Fs} {S T : List Int} {R : List Wr} (h : Fil w X F f S T R) (v2 : Value) (r : Wr) (hr : Free w X F f r) (ho : w2.ownsRow 0 119 3 v2 (R.length + 1) (R.flatMap Wr.cells ++ r.cells)) (hg : w.grownBy w2 f.vr.ownBlock)
    (hw : v2.ownBlock = f.vr.ownBlock ∨ v2.ownBlock = some w.heap.size) :
    Fil (w2.setCell ⟨F, 2, none⟩ v2) (fun k => X k ∨ w.heap.size ≤ k) F { f with vr := v2 } S T (R ++ [r]) ∧ Chg (fun k => k = F ∨ some k = f.vr.ownBlock) w (w2.setCell ⟨F, 2, none⟩ v2) := by
  have hc := Chg.of_grown hg
  have hF : ¬ (some F = f.vr.ownBlock) := fun e => (h.xr F e.symm).2.1 rfl
  have hA := h.at_.chg hc hF
  have hX : Chg (fun k => k = F ∨ some k = f.vr.ownBlock) w (w2.setCell ⟨F, 2, none⟩ v2) := ((hc.mono (fun i _ e => Or.inr e)) : Chg (fun k => k = F ∨ some k = f.vr.ownBlock) w w2).setCell F 2 v2 (fun _ => Or.inl rfl)
  have hs : Chg (fun k => k = F) w2 (w2.setCell ⟨F, 2, none⟩ v2) := (Chg.refl _ _).setCell F 2 v2 (fun _ => rfl)
  have hnew : ∀ g, v2.ownBlock = some g → (X g ∨ w.heap.size ≤ g) ∧ g ≠ F ∧ (g < w.heap.size → f.vr.ownBlock = some g) := by
    intro g hgg
    rcases hw with e | e
    · rw [e] at hgg
      exact ⟨Or.inl (h.xr g hgg).1, (h.xr g hgg).2.1, fun _ => hgg⟩
    · rw [e] at hgg
      cases hgg
      exact ⟨Or.inr (Nat.le_refl _), fun e => by have := h.at_.lt; omega, fun hlt => absurd hlt (by omega)⟩
  have hold : ∀ g, g < w.heap.size → f.vr.ownBlock ≠ some g → v2.ownBlock ≠ some g := fun g hlt hne e => hne ((hnew g e).2.2 hlt)
  have hfree : ∀ r, Free w X F f r → Free (w2.setCell ⟨F, 2, none⟩ v2) (fun k => X k ∨ w.heap.size ≤ k) F { f with vr := v2 } r := by
    intro r hr
    refine ⟨(hr.1.chg hc (fun x hx e => (hr.2 x hx).2.2.2.2.2 e.symm)).chg hs (fun x hx => (hr.2 x hx).2.2.1), fun x hx => ?_⟩
    obtain ⟨h1, h2, h3, h4, h5, h6⟩ := hr.2 x hx
    exact ⟨Nat.lt_of_lt_of_le h1 hX.size, Or.inl h2, h3, h4, h5, hold _ h1 h6⟩
  refine ⟨⟨hA.setvr v2, Or.inl h.xF, (h.seen.chg hc (fun g hgg e => (h.xr g e.symm).2.2.1 hgg)).chg hs (fun g hgg => (h.xs g hgg).2), (h.safe.chg hc (fun g hgg e => (h.xr g e.symm).2.2.2 hgg)).chg hs (fun g hgg => (h.xt g hgg).2.1),
    ?_, fun g hgg => ⟨Or.inl (h.xs g hgg).1, (h.xs g hgg).2⟩, fun g hgg => ⟨Or.inl (h.xt g hgg).1, (h.xt g hgg).2⟩, fun g hgg => ⟨(hnew g hgg).1, (hnew g hgg).2.1, ?_, ?_⟩, ?_⟩, hX⟩
  · rw [List.flatMap_append, List.length_append]
    simp only [List.flatMap_cons, List.flatMap_nil, List.append_nil, List.length_singleton]
    exact ownsRow_chg ho hs (fun g hgg => (hnew g hgg).2.1)
  · intro e
    exact (h.xr g ((hnew g hgg).2.2 (ownsRow_lt h.seen g e))).2.2.1 e
  · intro e
    exact (h.xr g ((hnew g hgg).2.2 (ownsRow_lt h.safe g e))).2.2.2 e
  · intro r' hr'
    rcases List.mem_append.1 hr' with h1 | h1
    · exact hfree r' (h.ps r' h1)
    · rw [List.mem_singleton.1 h1]
      exact hfree r hr

theorem step_append_row {P : Program} {ops : Array Oper} {o : Oper} {a : Act} {w : World} {K : Act → World → Prop} {Q : Exit → Act → World → Prop} {E : Prop} (hgd : o.guard = none) (s x : Operand) (t : TypeId)
    (ho : o.op = .call { callee := .builtin .append, args := #[s, x], argTypes := #[t, t] })
    (base : Nat) (e : TypeId) (i : TypeInfo) (z : Value) (size bytes : Nat) (ht : P.underlying t = some (.slice e)) (hi : P.info? e = some i) (hz : i.zero = some z)
    (hsize : i.size = size) (hby : i.bytes = bytes) (hzs : z.cells.size = size) (hsz : 0 < size)
    (v : Value) (n : Nat) (xs : List Value) (hs : a.eval s = v) (hown : w.ownsRow base e size v n xs)
    (ad : Addr) (m c : Nat) (news : List Value) (hx : a.eval x = .slice (some ad) m c) (hl : news.length = m * size) (hnews : ∀ j u, news[j]? = some u → w.cell? (ad.add j) = some u) (h1 : ∀ u ∈ news, u.oneCell' = true)
    (h63 : n + m ≤ maxLen) (hbytes : (n + m) * bytes ≤ 140737488355328) (hbase : base ≤ w.heap.size)
    (h : ∀ v' w', w'.ownsRow base e size v' (n + m) (xs ++ news) → w.grownBy w' v.ownBlock → (v'.ownBlock = v.ownBlock ∨ v'.ownBlock = some w.heap.size) → K (a.put o.dst v') w') : if Region.wanted o (yielded ops a.tmps) = true then Oper.wp P o a w K Q else E := by
  have hw : Region.wanted o (yielded ops a.tmps) = true := by simp [Region.wanted, hgd]
  rw [if_pos hw]
  obtain ⟨v', w', hr, h2, h3, h4, h5⟩ := run_append_own_at (P := P) w base t o.type e i z size bytes ht hi hz hsize hby hzs hsz v n xs hown ad m c news hl hnews h1 h63 hbytes hbase
  unfold Oper.wp
  simp [execOp, ho, resolve, invoke, builtin, hs, hx, hr, Result.andThen]
  exact h v' w' h2 h3 h5

theorem row_succ {w : World} {B e s n : Nat} {v : Value} {xs : List Value} (h : w.ownsRow B e s v (n + 1) xs) : ∃ g cap, v = .slice (some ⟨g, 0, none⟩) (n + 1) cap := by
  rcases h.2 with ⟨_, hn⟩ | ⟨g, cap, cur, hv, _⟩
  · omega
  · exact ⟨g, cap, hv⟩

theorem new3 (w : World) (t : TypeId) (x y z : Value) : ∀ (j : Nat) (u : Value), [x, y, z][j]? = some u → (w.alloc (.cells #[x, y, z] t)).cell? ((⟨w.heap.size, 0, none⟩ : Addr).add j) = some u := by
  obtain ⟨h0, h1, h2⟩ := box3 w t x y z
  intro j u hj
  rw [Go.WideShapes.add_plain, Nat.zero_add]
  match j, hj with
  | 0, hj => simp at hj; subst hj; exact h0
  | 1, hj => simp at hj; subst hj; exact h1
  | 2, hj => simp at hj; subst hj; exact h2
  | _ + 3, hj => simp at hj

end Go.Proofs.Ytnfbhgahkajhnaa.Oct
