/- A file is made, and looked at. -/
import Derived.Test.YtibkhgmmjhlpmaaGreatPOnto
import Derived.Deep.RegionLaw
namespace Go.Proofs.YtibkhgmmjhlpmaaGreat.Oct
open Go.RowKit Go.Deep

/-- Where a write's bytes may lie. -/
def Free (w : World) (X : Nat → Prop) (F : Nat) (f : Fs) (r : Wr) : Prop :=
  Lies w r.a r.p ∧ ∀ x, r.a = some x → x.block < w.heap.size ∧ X x.block ∧ x.block ≠ F ∧ f.vs.ownBlock ≠ some x.block ∧ f.vt.ownBlock ≠ some x.block ∧ f.vr.ownBlock ≠ some x.block

/-- A file that has the blocks X: S is seen, T is safe, the writes R wait. -/
structure Fil (w : World) (X : Nat → Prop) (F : Nat) (f : Fs) (S T : List Int) (R : List Wr) : Prop where
  at_ : At w F f
  xF : X F
  seen : Own w 0 f.vs S
  safe : Own w 0 f.vt T
  row : w.ownsRow 0 98 3 f.vr R.length (R.flatMap Wr.cells)
  xs : ∀ g, f.vs.ownBlock = some g → X g ∧ g ≠ F
  xt : ∀ g, f.vt.ownBlock = some g → X g ∧ g ≠ F ∧ f.vs.ownBlock ≠ some g
  xr : ∀ g, f.vr.ownBlock = some g → X g ∧ g ≠ F ∧ f.vs.ownBlock ≠ some g ∧ f.vt.ownBlock ≠ some g
  ps : ∀ r ∈ R, Free w X F f r

theorem Fil.mono {w : World} {X Y : Nat → Prop} {F : Nat} {f : Fs} {S T : List Int} {R : List Wr} (h : Fil w X F f S T R) (hy : ∀ k, k < w.heap.size → X k → Y k) : Fil w Y F f S T R :=
  ⟨h.at_, hy _ h.at_.lt h.xF, h.seen, h.safe, h.row, fun g hg => ⟨hy _ (ownsRow_lt h.seen _ hg) (h.xs g hg).1, (h.xs g hg).2⟩, fun g hg => ⟨hy _ (ownsRow_lt h.safe _ hg) (h.xt g hg).1, (h.xt g hg).2⟩,
   fun g hg => ⟨hy _ (ownsRow_lt h.row _ hg) (h.xr g hg).1, (h.xr g hg).2⟩, fun r hr => ⟨(h.ps r hr).1, fun x hx => ⟨((h.ps r hr).2 x hx).1, hy _ ((h.ps r hr).2 x hx).1 ((h.ps r hr).2 x hx).2.1, ((h.ps r hr).2 x hx).2.2⟩⟩⟩

/-- What another call changes leaves the file. -/
theorem Fil.chg {w w' : World} {X Y : Nat → Prop} {F : Nat} {f : Fs} {S T : List Int} {R : List Wr} (h : Fil w X F f S T R) (hc : Chg Y w w') (hy : ∀ k, k < w.heap.size → X k → ¬ Y k) : Fil w' X F f S T R :=
  ⟨h.at_.chg hc (hy _ h.at_.lt h.xF), h.xF, h.seen.chg hc (fun g hg => hy _ (ownsRow_lt h.seen _ hg) (h.xs g hg).1), h.safe.chg hc (fun g hg => hy _ (ownsRow_lt h.safe _ hg) (h.xt g hg).1),
   ownsRow_chg h.row hc (fun g hg => hy _ (ownsRow_lt h.row _ hg) (h.xr g hg).1), h.xs, h.xt, h.xr,
   fun r hr => ⟨(h.ps r hr).1.chg hc (fun x hx => hy _ ((h.ps r hr).2 x hx).1 ((h.ps r hr).2 x hx).2.1), fun x hx => ⟨Nat.lt_of_lt_of_le ((h.ps r hr).2 x hx).1 hc.size, ((h.ps r hr).2 x hx).2⟩⟩⟩

/-- The fields that count are others. -/
theorem Fil.fields {w w' : World} {X : Nat → Prop} {F : Nat} {f f' : Fs} {S T : List Int} {R : List Wr} (h : Fil w X F f S T R) (hc : Chg (fun k => k = F) w w') (ha : At w' F f') (h1 : f'.vs = f.vs) (h2 : f'.vt = f.vt) (h3 : f'.vr = f.vr) : Fil w' X F f' S T R := by
  obtain ⟨vs, vt, vr, a4, a5, a6, a7, a8⟩ := f'
  obtain ⟨us, ut, ur, b4, b5, b6, b7, b8⟩ := f
  simp only at h1 h2 h3
  subst h1 h2 h3
  exact ⟨ha, h.xF, h.seen.chg hc (fun g hg => (h.xs g hg).2), h.safe.chg hc (fun g hg => (h.xt g hg).2.1), ownsRow_chg h.row hc (fun g hg => (h.xr g hg).2.1), h.xs, h.xt, h.xr,
   fun r hr => ⟨(h.ps r hr).1.chg hc (fun x hx => ((h.ps r hr).2 x hx).2.2.1), fun x hx => ⟨Nat.lt_of_lt_of_le ((h.ps r hr).2 x hx).1 hc.size, ((h.ps r hr).2 x hx).2⟩⟩⟩

theorem Fil.dX {w : World} {X : Nat → Prop} {F : Nat} {f : Fs} {S T : List Int} {R : List Wr} (h : Fil w X F f S T R) (k : Nat) (hk : k = F ∨ some k = f.vs.ownBlock ∨ some k = f.vr.ownBlock) : X k := by
  rcases hk with rfl | e | e
  · exact h.xF
  · exact (h.xs k e.symm).1
  · exact (h.xr k e.symm).1

theorem info_wr : (Tryz.prog.info? 98).map (fun i => (i.zero, i.size, i.bytes)) = some (some (.agg #[.int .i64 0, .slice none 0 0, .bool false]), 3, 40) := by kernel_rfl

theorem Free.mono {w : World} {X Y : Nat → Prop} {F : Nat} {f : Fs} {r : Wr} (h : Free w X F f r) (hy : ∀ k, k < w.heap.size → X k → Y k) : Free w Y F f r :=
  ⟨h.1, fun x hx => ⟨(h.2 x hx).1, hy _ (h.2 x hx).1 (h.2 x hx).2.1, (h.2 x hx).2.2⟩⟩

theorem Free.chg {w w' : World} {X Y : Nat → Prop} {F : Nat} {f : Fs} {r : Wr} (h : Free w X F f r) (hc : Chg Y w w') (hy : ∀ x, r.a = some x → ¬ Y x.block) : Free w' X F f r :=
  ⟨h.1.chg hc hy, fun x hx => ⟨Nat.lt_of_lt_of_le (h.2 x hx).1 hc.size, (h.2 x hx).2⟩⟩

/-- New bytes are seen. -/
theorem Fil.step_seen {w w2 : World} {X : Nat → Prop} {F : Nat} {f : Fs} {S S' T : List Int} {R : List Wr} (h : Fil w X F f S T R) (v2 : Value) (ho : Own w2 0 v2 S') (hg : w.grownBy w2 f.vs.ownBlock) (hw : Went w f.vs v2) :
    Fil (w2.setCell ⟨F, 0, none⟩ v2) (fun k => X k ∨ w.heap.size ≤ k) F { f with vs := v2 } S' T R ∧ Chg (fun k => k = F ∨ some k = f.vs.ownBlock) w (w2.setCell ⟨F, 0, none⟩ v2) ∧ ∀ r, Free w X F f r → Free (w2.setCell ⟨F, 0, none⟩ v2) (fun k => X k ∨ w.heap.size ≤ k) F { f with vs := v2 } r := by
  have hc := Chg.of_grown hg
  have hF : ¬ (some F = f.vs.ownBlock) := fun e => (h.xs F e.symm).2 rfl
  have hA := h.at_.chg hc hF
  have hX : Chg (fun k => k = F ∨ some k = f.vs.ownBlock) w (w2.setCell ⟨F, 0, none⟩ v2) := ((hc.mono (fun i _ e => Or.inr e)) : Chg (fun k => k = F ∨ some k = f.vs.ownBlock) w w2).setCell F 0 v2 (fun _ => Or.inl rfl)
  have hs : Chg (fun k => k = F) w2 (w2.setCell ⟨F, 0, none⟩ v2) := (Chg.refl _ _).setCell F 0 v2 (fun _ => rfl)
  have hnew : ∀ g, v2.ownBlock = some g → (X g ∨ w.heap.size ≤ g) ∧ g ≠ F ∧ (g < w.heap.size → f.vs.ownBlock = some g) := by
    intro g hgg
    rcases hw with e | ⟨g', e, hle⟩
    · rw [e] at hgg
      exact ⟨Or.inl (h.xs g hgg).1, (h.xs g hgg).2, fun _ => hgg⟩
    · rw [e] at hgg
      cases hgg
      exact ⟨Or.inr hle, fun e => by have := h.at_.lt; omega, fun hlt => absurd hlt (by omega)⟩
  have hold : ∀ g, g < w.heap.size → f.vs.ownBlock ≠ some g → v2.ownBlock ≠ some g := fun g hlt hne e => hne ((hnew g e).2.2 hlt)
  have hfree : ∀ r, Free w X F f r → Free (w2.setCell ⟨F, 0, none⟩ v2) (fun k => X k ∨ w.heap.size ≤ k) F { f with vs := v2 } r := by
    intro r hr
    refine ⟨(hr.1.chg hc (fun x hx e => (hr.2 x hx).2.2.2.1 e.symm)).chg hs (fun x hx => (hr.2 x hx).2.2.1), fun x hx => ?_⟩
    obtain ⟨h1, h2, h3, h4, h5, h6⟩ := hr.2 x hx
    exact ⟨Nat.lt_of_lt_of_le h1 hX.size, Or.inl h2, h3, hold _ h1 h4, h5, h6⟩
  refine ⟨⟨hA.setvs v2, Or.inl h.xF, ho.chg hs (fun g hgg => (hnew g hgg).2.1), (h.safe.chg hc (fun g hgg e => (h.xt g hgg).2.2 e.symm)).chg hs (fun g hgg => (h.xt g hgg).2.1),
    ownsRow_chg (ownsRow_chg h.row hc (fun g hgg e => (h.xr g hgg).2.2.1 e.symm)) hs (fun g hgg => (h.xr g hgg).2.1), fun g hgg => ⟨(hnew g hgg).1, (hnew g hgg).2.1⟩, fun g hgg => ⟨Or.inl (h.xt g hgg).1, (h.xt g hgg).2.1, hold g (ownsRow_lt h.safe g hgg) (h.xt g hgg).2.2⟩,
    fun g hgg => ⟨Or.inl (h.xr g hgg).1, (h.xr g hgg).2.1, hold g (ownsRow_lt h.row g hgg) (h.xr g hgg).2.2.1, (h.xr g hgg).2.2.2⟩, fun r hr => hfree r (h.ps r hr)⟩, hX, hfree⟩

/-- One more write waits. -/
theorem Fil.step_row {w w2 : World} {X : Nat → Prop} {F : Nat} {f : Fs} {S T : List Int} {R : List Wr} (h : Fil w X F f S T R) (v2 : Value) (r : Wr) (hr : Free w X F f r) (ho : w2.ownsRow 0 98 3 v2 (R.length + 1) (R.flatMap Wr.cells ++ r.cells)) (hg : w.grownBy w2 f.vr.ownBlock)
    (hw : v2.ownBlock = f.vr.ownBlock ∨ v2.ownBlock = some w.heap.size) :
    Fil (w2.setCell ⟨F, 2, none⟩ v2) (fun k => X k ∨ w.heap.size ≤ k) F { f with vr := v2 } S T (R ++ [r]) ∧ Chg (fun k => k = F ∨ some k = f.vr.ownBlock) w (w2.setCell ⟨F, 2, none⟩ v2) := by
  have hc := Chg.of_grown hg
  have hF : ¬ (some F = f.vr.ownBlock) := fun e => (h.xr F e.symm).2.1 rfl
  have hA := h.at_.chg hc hF
  have hX : Chg (fun k => k = F ∨ some k = f.vr.ownBlock) w (w2.setCell ⟨F, 2, none⟩ v2) := ((hc.mono (fun i _ e => Or.inr e)) : Chg (fun k => k = F ∨ some k = f.vr.ownBlock) w w2).setCell F 2 v2 (fun _ => Or.inl rfl)
  have hs : Chg (fun k => k = F) w2 (w2.setCell ⟨F, 2, none⟩ v2) := (Chg.refl _ _).setCell F 2 v2 (fun _ => rfl)
  have hnew : ∀ g, v2.ownBlock = some g → (X g ∨ w.heap.size ≤ g) ∧ g ≠ F ∧ (g < w.heap.size → f.vr.ownBlock = some g) := by
    intro g hgg
    rcases hw with e | e
    · rw [e] at hgg
      exact ⟨Or.inl (h.xr g hgg).1, (h.xr g hgg).2.1, fun _ => hgg⟩
    · rw [e] at hgg
      cases hgg
      exact ⟨Or.inr (Nat.le_refl _), fun e => by have := h.at_.lt; omega, fun hlt => absurd hlt (by omega)⟩
  have hold : ∀ g, g < w.heap.size → f.vr.ownBlock ≠ some g → v2.ownBlock ≠ some g := fun g hlt hne e => hne ((hnew g e).2.2 hlt)
  have hfree : ∀ r, Free w X F f r → Free (w2.setCell ⟨F, 2, none⟩ v2) (fun k => X k ∨ w.heap.size ≤ k) F { f with vr := v2 } r := by
    intro r hr
    refine ⟨(hr.1.chg hc (fun x hx e => (hr.2 x hx).2.2.2.2.2 e.symm)).chg hs (fun x hx => (hr.2 x hx).2.2.1), fun x hx => ?_⟩
    obtain ⟨h1, h2, h3, h4, h5, h6⟩ := hr.2 x hx
    exact ⟨Nat.lt_of_lt_of_le h1 hX.size, Or.inl h2, h3, h4, h5, hold _ h1 h6⟩
  refine ⟨⟨hA.setvr v2, Or.inl h.xF, (h.seen.chg hc (fun g hgg e => (h.xr g e.symm).2.2.1 hgg)).chg hs (fun g hgg => (h.xs g hgg).2), (h.safe.chg hc (fun g hgg e => (h.xr g e.symm).2.2.2 hgg)).chg hs (fun g hgg => (h.xt g hgg).2.1),
    ?_, fun g hgg => ⟨Or.inl (h.xs g hgg).1, (h.xs g hgg).2⟩, fun g hgg => ⟨Or.inl (h.xt g hgg).1, (h.xt g hgg).2⟩, fun g hgg => ⟨(hnew g hgg).1, (hnew g hgg).2.1, ?_, ?_⟩, ?_⟩, hX⟩
  · rw [List.flatMap_append, List.length_append]
    simp only [List.flatMap_cons, List.flatMap_nil, List.append_nil, List.length_singleton]
    exact ownsRow_chg ho hs (fun g hgg => (hnew g hgg).2.1)
  · intro e
    exact (h.xr g ((hnew g hgg).2.2 (ownsRow_lt h.seen g e))).2.2.1 e
  · intro e
    exact (h.xr g ((hnew g hgg).2.2 (ownsRow_lt h.safe g e))).2.2.2 e
  · intro r' hr'
    rcases List.mem_append.1 hr' with h1 | h1
    · exact hfree r' (h.ps r' h1)
    · rw [List.mem_singleton.1 h1]
      exact hfree r hr

theorem step_append_row {P : Program} {ops : Array Oper} {o : Oper} {a : Act} {w : World} {K : Act → World → Prop} {Q : Exit → Act → World → Prop} {E : Prop} (hgd : o.guard = none) (s x : Operand) (t : TypeId)
    (ho : o.op = .call { callee := .builtin .append, args := #[s, x], argTypes := #[t, t] })
    (base : Nat) (e : TypeId) (i : TypeInfo) (z : Value) (size bytes : Nat) (ht : P.underlying t = some (.slice e)) (hi : P.info? e = some i) (hz : i.zero = some z)
    (hsize : i.size = size) (hby : i.bytes = bytes) (hzs : z.cells.size = size) (hsz : 0 < size)
    (v : Value) (n : Nat) (xs : List Value) (hs : a.eval s = v) (hown : w.ownsRow base e size v n xs)
    (ad : Addr) (m c : Nat) (news : List Value) (hx : a.eval x = .slice (some ad) m c) (hl : news.length = m * size) (hnews : ∀ j u, news[j]? = some u → w.cell? (ad.add j) = some u) (h1 : ∀ u ∈ news, u.oneCell' = true)
    (h63 : n + m ≤ maxLen) (hbytes : (n + m) * bytes ≤ 140737488355328) (hbase : base ≤ w.heap.size)
    (h : ∀ v' w', w'.ownsRow base e size v' (n + m) (xs ++ news) → w.grownBy w' v.ownBlock → (v'.ownBlock = v.ownBlock ∨ v'.ownBlock = some w.heap.size) → K (a.put o.dst v') w') : if Region.wanted o (yielded ops a.tmps) = true then Oper.wp P o a w K Q else E := by
  have hw : Region.wanted o (yielded ops a.tmps) = true := by simp [Region.wanted, hgd]
  rw [if_pos hw]
  obtain ⟨v', w', hr, h2, h3, h4, h5⟩ := run_append_own_at (P := P) w base t o.type e i z size bytes ht hi hz hsize hby hzs hsz v n xs hown ad m c news hl hnews h1 h63 hbytes hbase
  unfold Oper.wp
  simp [execOp, ho, resolve, invoke, builtin, hs, hx, hr, Result.andThen]
  exact h v' w' h2 h3 h5

theorem row_succ {w : World} {B e s n : Nat} {v : Value} {xs : List Value} (h : w.ownsRow B e s v (n + 1) xs) : ∃ g cap, v = .slice (some ⟨g, 0, none⟩) (n + 1) cap := by
  rcases h.2 with ⟨_, hn⟩ | ⟨g, cap, cur, hv, _⟩
  · omega
  · exact ⟨g, cap, hv⟩

theorem new3 (w : World) (t : TypeId) (x y z : Value) : ∀ (j : Nat) (u : Value), [x, y, z][j]? = some u → (w.alloc (.cells #[x, y, z] t)).cell? ((⟨w.heap.size, 0, none⟩ : Addr).add j) = some u := by
  obtain ⟨h0, h1, h2⟩ := box3 w t x y z
  intro j u hj
  rw [Go.WideShapes.add_plain, Nat.zero_add]
  match j, hj with
  | 0, hj => simp at hj; subst hj; exact h0
  | 1, hj => simp at hj; subst hj; exact h1
  | 2, hj => simp at hj; subst hj; exact h2
  | _ + 3, hj => simp at hj

set_option maxHeartbeats 2000000 in
set_option maxRecDepth 100000 in
theorem do_file (w : World) (X : Nat → Prop) (F : Nat) (f : Fs) (S T : List Int) (R : List Wr) (r : Wr) (h : Fil w X F f S T R) (hr : Free w X F f r) (hat : r.at_ ≤ 100000000) (hpl : r.p.length ≤ 100000000) (hll : S.length ≤ 100000000) (hrl : R.length ≤ 100000000) :
    Calls Tryz.prog 92 #[.pointer (some ⟨F, 0, none⟩), .agg r.cells.toArray] w fun e w' => e = .returned (.tuple #[]) ∧ ∃ vs vr, Fil w' (fun k => X k ∨ w.heap.size ≤ k) F { f with vs := vs, vr := vr } (laid r S) T (R ++ [r]) ∧ Chg (fun k => k = F ∨ some k = f.vs.ownBlock ∨ some k = f.vr.ownBlock) w w' := by
  obtain ⟨at_, a, p, cap, cut⟩ := r
  simp only [Wr.cells] at *
  obtain ⟨i1, hi, hz0, hz1, hz2⟩ := info_parts info_wr
  have HF := hide h
  have HFr := hide hr
  obtain ⟨w1, hw1⟩ : ∃ w1, w1 = w.alloc (.cells #[.int .i64 at_, .slice a p.length cap, .bool cut] 98) := ⟨_, rfl⟩
  have h1 : Fil w1 X F f S T R := by rw [hw1]; exact h.chg (Y := fun _ => False) ((Chg.refl _ _).alloc _) (fun _ _ _ h => h)
  have hc1 : Chg (fun _ => False) w w1 := by rw [hw1]; exact (Chg.refl _ _).alloc _
  obtain ⟨b0, b1, b2⟩ := box3 w 98 (.int .i64 at_) (.slice a p.length cap) (.bool cut)
  rw [← hw1] at b0 b1 b2
  obtain ⟨g0, _⟩ := h1.at_.cell
  have z0 := h1.at_.frozen 0
  have H1 := hide h1
  have HKF := hide h1.at_.lt
  have HC1 := hide hc1
  have HFr1 : Hid (Lies w1 a p ∧ ∀ x, a = some x → f.vs.ownBlock ≠ some x.block) := hide ⟨hr.1.chg hc1 (fun _ _ h => h), fun x hx => (hr.2 x hx).2.2.2.1⟩
  have HW1 := hide hw1
  clear h hr h1 hc1 hw1
  go_enter Tryz.func92, Tryz.ntmps92
  go_wp2_with fail
  rw [← HW1.out]
  have HNS : Hid (some w.heap.size ≠ f.vs.ownBlock ∧ some F ≠ f.vs.ownBlock) := hide ⟨fun e => by have := ownsRow_lt HF.out.seen _ e.symm; omega, fun e => (HF.out.xs _ e.symm).2 rfl⟩
  have c0 : w1.drew.cell? ⟨w.heap.size, 0, none⟩ = some (.int .i64 at_) := b0
  have c1 : w1.drew.cell? ⟨w.heap.size, 1, none⟩ = some (.slice a p.length cap) := b1
  have c2 : w1.drew.cell? ⟨w.heap.size, 2, none⟩ = some (.bool cut) := b2
  have cg : w1.drew.cell? ⟨F, 0, none⟩ = some f.vs := g0
  have HSC : Hid (∀ (w2 : World) (v : Value), (w2.cell? ⟨w.heap.size, 0, none⟩ = some (.int .i64 at_) ∧ w2.cell? ⟨w.heap.size, 1, none⟩ = some (.slice a p.length cap) ∧ w2.cell? ⟨w.heap.size, 2, none⟩ = some (.bool cut)) → (w2.setCell ⟨F, 0, none⟩ v).cell? ⟨w.heap.size, 0, none⟩ = some (.int .i64 at_) ∧ (w2.setCell ⟨F, 0, none⟩ v).cell? ⟨w.heap.size, 1, none⟩ = some (.slice a p.length cap) ∧ (w2.setCell ⟨F, 0, none⟩ v).cell? ⟨w.heap.size, 2, none⟩ = some (.bool cut)) := hide (fun w2 v h => by
    have hne := HF.out.at_.lt
    have e : ∀ o, (w2.setCell ⟨F, 0, none⟩ v).cell? ⟨w.heap.size, o, none⟩ = w2.cell? ⟨w.heap.size, o, none⟩ := fun o => World.cell?_of_block (a := ⟨w.heap.size, o, none⟩) (blk_setCell_other _ _ _ _ (by simp; omega))
    rw [e, e, e]
    exact h)
  go_region_with (go_at_call 46; refine (onto_own w1.drew 0 f.vs S ⟨at_, a, p, cap, cut⟩ H1.out.seen.drew (Nat.zero_le _) HFr1.out.1.drew HFr1.out.2 hat hpl hll).mono ?_; rintro e w2 ⟨v2, rfl, ho2, hg2, hw2⟩; have HKC := hide (And.intro (hg2.cell (a := ⟨w.heap.size, 0, none⟩) c0 HNS.out.1) (And.intro (hg2.cell (a := ⟨w.heap.size, 1, none⟩) c1 HNS.out.1) (hg2.cell (a := ⟨w.heap.size, 2, none⟩) c2 HNS.out.1))); obtain ⟨x2, cap2, rfl, _, _⟩ := ho2.sl; have HO2 := hide ho2; have HG2 := hide hg2; have HW2 := hide hw2; have cF := hg2.cell (a := ⟨F, 0, none⟩) cg HNS.out.2; have zF : w2.frozen? ⟨F, 0, none⟩ = false := (World.frozen?_of_block (a := ⟨F, 0, none⟩) (HG2.out.block F HKF.out HNS.out.2)).trans z0; clear ho2 hg2 hw2)
  all_goals
    obtain ⟨hf3, hc3, hfr3⟩ := H1.out.step_seen (w2 := w2) (.slice x2 (laid ⟨at_, a, p, cap, cut⟩ S).length cap2) HO2.out ⟨HG2.out.os, HG2.out.tape, HG2.out.output, HG2.out.size, HG2.out.block⟩ HW2.out
    have hr3 := hfr3 ⟨at_, a, p, cap, cut⟩ ⟨HFr1.out.1, fun x hx => ⟨Nat.lt_of_lt_of_le (HFr.out.2 x hx).1 HC1.out.size, (HFr.out.2 x hx).2⟩⟩
    have k3 := HSC.out w2 (.slice x2 (laid ⟨at_, a, p, cap, cut⟩ S).length cap2) HKC.out
    generalize w2.setCell ⟨F, 0, none⟩ (.slice x2 (laid ⟨at_, a, p, cap, cut⟩ S).length cap2) = w3 at *
    have d2 := hf3.at_.cell.2.2.1
    dsimp only at d2
    have y2 := hf3.at_.frozen 2
    have HF3 := hide hf3
    have HC3 := hide hc3
    have HR3 := hide hr3
    have hs1 : w1.heap.size = w.heap.size + 1 := by rw [HW1.out]; simp
    have HB3 : Hid (w.heap.size < w3.heap.size) := hide (by have h1 := hc3.size; omega)
    clear hs1
    obtain ⟨q0, q1, q2⟩ := k3
    have HCA : Hid (Chg (fun _ => False) w3 (w3.drew.alloc (.cells #[.int .i64 at_, .slice a p.length cap, .bool cut] 98))) := hide ((Chg.refl _ _).drew.alloc _)
    have HSA := hide (And.intro (HCA.out.cell q0 (fun h => h)) (And.intro (HCA.out.cell q1 (fun h => h)) (HCA.out.cell q2 (fun h => h))))
    have HF4 := hide (HF3.out.chg HCA.out (fun _ _ _ h => h))
    have HR4 := hide (HR3.out.chg HCA.out (fun _ _ h => h))
    have HS5 : Hid (∀ w5, (w3.drew.alloc (.cells #[.int .i64 at_, .slice a p.length cap, .bool cut] 98)).grownBy w5 f.vr.ownBlock → w5.cell? ⟨w.heap.size, 0, none⟩ = some (.int .i64 at_) ∧ w5.cell? ⟨w.heap.size, 1, none⟩ = some (.slice a p.length cap) ∧ w5.cell? ⟨w.heap.size, 2, none⟩ = some (.bool cut)) := hide (fun w5 h5 => by
      have hne : some w.heap.size ≠ f.vr.ownBlock := fun e => by have := ownsRow_lt HF.out.row _ e.symm; omega
      exact ⟨h5.cell (a := ⟨w.heap.size, 0, none⟩) HSA.out.1 hne, h5.cell (a := ⟨w.heap.size, 1, none⟩) HSA.out.2.1 hne, h5.cell (a := ⟨w.heap.size, 2, none⟩) HSA.out.2.2 hne⟩)
    have HSD : Hid (∀ (u : World) (v : Value), (u.cell? ⟨w.heap.size, 0, none⟩ = some (.int .i64 at_) ∧ u.cell? ⟨w.heap.size, 1, none⟩ = some (.slice a p.length cap) ∧ u.cell? ⟨w.heap.size, 2, none⟩ = some (.bool cut)) → (u.setCell ⟨F, 2, none⟩ v).cell? ⟨w.heap.size, 0, none⟩ = some (.int .i64 at_) ∧ (u.setCell ⟨F, 2, none⟩ v).cell? ⟨w.heap.size, 1, none⟩ = some (.slice a p.length cap) ∧ (u.setCell ⟨F, 2, none⟩ v).cell? ⟨w.heap.size, 2, none⟩ = some (.bool cut)) := hide (fun u v h => by
      have hne := HF.out.at_.lt
      have e : ∀ o, (u.setCell ⟨F, 2, none⟩ v).cell? ⟨w.heap.size, o, none⟩ = u.cell? ⟨w.heap.size, o, none⟩ := fun o => World.cell?_of_block (a := ⟨w.heap.size, o, none⟩) (blk_setCell_other _ _ _ _ (by simp; omega))
      rw [e, e, e]
      exact h)
    have HD4 := hide (HCA.out.cell d2 (fun h => h))
    have HY4 := hide (HF4.out.at_.frozen 2)
    have e2 : (w3.alloc (.cells #[.int .i64 at_, .slice a p.length cap, .bool cut] 98)).drew.cell? ⟨F, 2, none⟩ = some f.vr := HD4.out
    have e3 : (w3.alloc (.cells #[.int .i64 at_, .slice a p.length cap, .bool cut] 98)).cell? ⟨F, 2, none⟩ = some f.vr := HD4.out
    clear b0 b1 b2 g0 z0 c0 c1 c2 cg hf3 hc3 hr3 hfr3 HSC HKC cF zF HNS HO2 HG2 HW2 H1
    go_wp2_with fail
    go_region_law (refine step_append_row (by rfl) (.tmp 17) (.tmp 19) 61 (by rfl) 0 98 i1 (.agg #[.int .i64 0, .slice none 0 0, .bool false]) 3 40 Tryz.underlying61 hi hz0 hz1 hz2 (by rfl) (by decide) f.vr R.length (R.flatMap Wr.cells) (by rfl) HF4.out.row ⟨w3.heap.size, 0, none⟩ 1 1 [.int .i64 at_, .slice a p.length cap, .bool cut] (by rfl) (by rfl) (by exact new3 w3.drew _ _ _ _) (by simp [Value.oneCell']) (by unfold maxLen; omega) (by omega) (Nat.zero_le _) ?_; intro v5 w5 ho5 hg5 hw5; obtain ⟨g5, cap5, rfl⟩ := row_succ ho5; have HKC5 := hide (HS5.out w5 hg5); have HO5 := hide ho5; have HG5 := hide hg5; have HW5 := hide hw5; have d5 := HG5.out.cell (a := ⟨F, 2, none⟩) HD4.out (fun e => (HF.out.xr _ e.symm).2.1 rfl); have y5 : w5.frozen? ⟨F, 2, none⟩ = false := (World.frozen?_of_block (a := ⟨F, 2, none⟩) (HG5.out.block F HF4.out.at_.lt (fun e => (HF.out.xr _ e.symm).2.1 rfl))).trans HY4.out; clear ho5 hg5 hw5)
    all_goals
      obtain ⟨hf6, hc6⟩ := HF4.out.step_row _ ⟨at_, a, p, cap, cut⟩ HR4.out HO5.out HG5.out HW5.out
      go_wp2_with fail
      go_end0
      have hs1 : w1.heap.size = w.heap.size + 1 := by rw [HW1.out]; simp
      have hc13 : Chg (fun k => k = F ∨ some k = f.vs.ownBlock ∨ some k = f.vr.ownBlock) w (w3.drew.alloc (.cells #[.int .i64 at_, .slice a p.length cap, .bool cut] 98)) := ((HC1.out.mono (fun _ _ h => h.elim)).trans (HC3.out.mono (fun _ _ h => h.elim Or.inl (fun h => Or.inr (Or.inl h))))).trans (HCA.out.mono (fun _ _ h => h.elim))
      refine ⟨rfl, ⟨_, _, hf6.mono ?_⟩, hc13.andThen hc6 ?_⟩
      · intro k _ hk
        rcases hk with (h1 | h1) | h1
        · exact Or.inl h1
        · exact Or.inr (by omega)
        · have := hc13.size
          exact Or.inr (by omega)
      · intro k hk h1
        rcases h1 with h1 | h1
        · exact Or.inl h1
        · exact Or.inr (Or.inr h1)

end Go.Proofs.YtibkhgmmjhlpmaaGreat.Oct

namespace Go.Proofs.YtibkhgmmjhlpmaaGreat.Oct
open Go.RowKit Go.Deep

theorem box8 (w : World) (f : Fs) : At (w.alloc (.cells f.cells 63)) w.heap.size f := heap_alloc_new w _

set_option maxHeartbeats 1000000 in
set_option maxRecDepth 100000 in
theorem new_file (w : World) (a : Option Addr) (cap : Nat) (l : List Int) (hl : Lies w a l) (hlen : l.length ≤ 4194304) :
    Calls Tryz.prog 7 #[.slice a l.length cap] w fun e w' => ∃ F v1 v2, e = .returned (.tuple #[.pointer (some ⟨F, 0, none⟩), .int .i64 0]) ∧ Fil w' (fun k => w.heap.size ≤ k) F ⟨v1, v2, .slice none 0 0, 0, 0, 0, 0, false⟩ l l [] ∧ Below w.heap.size w w' := by
  have HL := hide hl
  have hn : ¬ ((4194304 : Int) < (l.length : Int)) := by omega
  have HN : Hid (l.length ≤ 140737488355328) := hide (by omega)
  clear hl hlen
  go_enter Tryz.func7, Tryz.ntmps7
  go_wp2_with fail
  refine (clone_any w a cap l HL.out HN.out).mono ?_
  rintro e w1 ⟨v1, rfl, ho1, hb1⟩
  have HO1 := hide ho1
  have HB1 := hide hb1
  obtain ⟨a1, c1, rfl, _, _⟩ := ho1.sl
  clear ho1 hb1
  go_wp2_with fail
  refine (clone_any w1 a cap l (HL.out.below HB1.out) HN.out).mono ?_
  rintro e w2 ⟨v2, rfl, ho2, hb2⟩
  have HO2 := hide ho2
  have HB2 := hide hb2
  obtain ⟨a2, c2, rfl, _, _⟩ := ho2.sl
  clear ho2 hb2
  go_wp2_with fail
  go_ret2
  have hb := box8 w2 ⟨.slice a1 l.length c1, .slice a2 l.length c2, .slice none 0 0, 0, 0, 0, 0, false⟩
  refine ⟨w2.heap.size, .slice a1 l.length c1, .slice a2 l.length c2, rfl, ?_, (HB1.out.trans (HB2.out.mono HB1.out.size)).alloc (Nat.le_trans HB1.out.size HB2.out.size) _⟩
  have hs1 := HB1.out.size
  have hs2 := HB2.out.size
  have o1 := HO1.out.below HB2.out
  have l1 := ownsRow_lt HO1.out
  have l2 := ownsRow_lt HO2.out
  have b1 := HO1.out.base
  have b2 := HO2.out.base
  refine ⟨hb, by omega, (o1.alloc _).mono (Nat.zero_le _), (HO2.out.alloc _).mono (Nat.zero_le _), World.ownsRow_nil _ _ _ _, fun g hg => ?_, fun g hg => ?_, fun g hg => (by cases hg), fun r hr => (by cases hr)⟩
  · have h1 := l1 g hg
    have h2 := b1 g hg
    exact ⟨h2, by omega⟩
  · have h1 := l2 g hg
    have h2 := b2 g hg
    refine ⟨by omega, by omega, fun e => ?_⟩
    have := l1 g e
    omega

theorem row_form {w : World} {B e s n : Nat} {v : Value} {xs : List Value} (h : w.ownsRow B e s v n xs) : ∃ a cap, v = .slice a n cap ∧ n ≤ cap ∧ cap ≤ maxLen ∧ (0 < n → ∃ g, a = some ⟨g, 0, none⟩ ∧ v.ownBlock = some g) := by
  rcases h.2 with ⟨rfl, rfl⟩ | ⟨g, cap, cur, rfl, _, _, h1, h2, _⟩
  · exact ⟨none, 0, rfl, Nat.le_refl _, by simp, fun h => absurd h (by omega)⟩
  · exact ⟨_, cap, rfl, h1, h2, fun _ => ⟨g, rfl, rfl⟩⟩

set_option maxHeartbeats 1000000 in
set_option maxRecDepth 100000 in
theorem waiting_file (w : World) (X : Nat → Prop) (F : Nat) (f : Fs) (S T : List Int) (R : List Wr) (h : Fil w X F f S T R) :
    Calls Tryz.prog 56 #[.pointer (some ⟨F, 0, none⟩)] w fun e w' => e = .returned (.int .i64 R.length) ∧ w' = w := by
  have h0 := h.at_.cell.2.2.1
  obtain ⟨a, c, e, _⟩ := row_form h.row
  rw [e] at h0
  clear h e
  go_enter Tryz.func56, Tryz.ntmps56
  go_wp2_with fail
  go_ret
  exact ⟨rfl, rfl⟩

end Go.Proofs.YtibkhgmmjhlpmaaGreat.Oct
