/- Meet: what two sets have in common. -/
import Derived.Test.YtgfdcgkaponlfaaMov
import Derived.Test.YtgfdcgkaponlfaaBhd
import Derived.Test.YtgfdcgkaponlfaaMtm
namespace Go.Proofs.Ytgfdcgkaponlfaa.Oct
open Go.RowKit Go.Shelf

attribute [local go_sem] Oper.semAt_some

theorem behd_sk {R : List (Int × Int)} {x : Int} {k : Nat} (h : Behd R x k) : skE R x = k := by
  have := tw_take (fun y : Int × Int => decide (y.2 ≤ x)) (0, 0) R k h.1 (fun j hj => by simpa using h.2.1 j hj) (fun hk => by simpa using h.2.2 hk)
  unfold skE
  rw [this, List.length_take]
  have := h.1
  omega

set_option maxHeartbeats 1000000 in
theorem behind_nil (w : World) (p : Option Addr) (c : Nat) (x : Int) :
    Calls Try.prog 27 #[.slice p 0 c, .int .i64 x] w fun e w' => e = .returned (.slice p 0 c) ∧ w' = w := by
  go_enter Try.func27, Try.ntmps27
  go_wp2_with fail
  go_loopw [0] (fun s wr => s = .slice p 0 c ∧ wr = w) (fun _ _ => 0)
  case atStart => exact ⟨rfl, rfl⟩
  case round =>
    obtain ⟨rfl, rfl⟩ := hrel
    go_wp2_with fail
    go_ret
    exact ⟨rfl, rfl⟩

/-- The rest, behind a place. -/
theorem behind_rest (w : World) (b off c : Nat) (T : List (Int × Int)) (k : Nat) (p : Option Addr) (x : Int) (h : LiesE w (some ⟨b, off, none⟩) T) (hb : b < w.heap.size) (hl : T.length ≤ 1000000) (hc : T.length ≤ c) (hk : k ≤ T.length) (hr : Rest p b off T k) :
    Calls Try.prog 27 #[.slice p (T.length - k) (c - k), .int .i64 x] w fun e w' => ∃ p', e = .returned (.slice p' (T.length - (k + skE (T.drop k) x)) (c - (k + skE (T.drop k) x))) ∧ Rest p' b off T (k + skE (T.drop k) x) ∧ w' = w := by
  rcases Nat.lt_or_ge k T.length with hlt | hge
  · rw [hr hlt]
    have := behind_any w b (off + k * 2) (c - k) (T.drop k) x (h.drop k hb) hb (by simp; omega) (by simp; omega)
    rw [List.length_drop] at this
    refine this.mono ?_
    rintro e w' ⟨k1, p1, rfl, hr1, hb1, rfl⟩
    have e1 := behd_sk hb1
    rw [e1]
    refine ⟨p1, by rw [Nat.sub_sub, Nat.sub_sub], fun h1 => ?_, rfl⟩
    rw [hr1 (by simp; omega), Nat.add_mul, Nat.add_assoc]
  · have e0 : T.length - k = 0 := by omega
    have e1 : skE (T.drop k) x = 0 := by rw [List.drop_of_length_le hge]; rfl
    rw [e0, e1, Nat.add_zero, e0]
    refine (behind_nil w p (c - k) x).mono ?_
    rintro e w' ⟨rfl, rfl⟩
    exact ⟨p, rfl, hr, rfl⟩

theorem keepB_own {β : Type} {B g : Nat} {w₀ : World} (hg : g < w₀.heap.size) (hB : g < B) : OwnFrom B (fun (_ : β) W => KeepB g w₀ W) := fun _ W W' row hs hgr hr => by
  refine ⟨Nat.le_trans hs.1 hgr.size, (hgr.block g (Nat.lt_of_lt_of_le hg hs.1) (fun e => ?_)).trans hs.2⟩
  have := (hr g e.symm).1
  omega

theorem boxedEx_own {β γ : Type} (B : Nat) (t : TypeId) (f : β → γ → Value) (G : β → γ → Prop) : Go.Own (fun (s : β) W => ∃ p, Boxed W B t (f s p) ∧ G s p) := fun s X Y row hs hg hrow => by
  obtain ⟨p, hb, hG⟩ := hs
  exact ⟨p, boxed_own B t (fun (_ : Unit) => f s p) () X Y row hb hg hrow, hG⟩

/-- What stays while one part is gone through. -/
structure InL (w w2 w3 W : World) (bT g Bx : Nat) (rest : Value) (x1 x2 : Int) (wr : World) (v : Value) : Prop where
  both : Boxed wr w.heap.size 22 v
  rest_ : Boxed wr w2.heap.size 26 rest
  kt : KeepB bT w3 wr
  below : Below w.heap.size w wr
  sz : w3.heap.size ≤ wr.heap.size
  others : KeepsOthers W wr
  kg : KeepB g W wr
  x : wr.heap[Bx]? = some (.cells #[.int .i64 x1, .int .i64 x2] 32 (0, 0))
  no : v.ownBlock ≠ some Bx

theorem InL.alloc {w w2 w3 W : World} {bT g Bx : Nat} {rest : Value} {x1 x2 : Int} {wr : World} {v : Value} (h : InL w w2 w3 W bT g Bx rest x1 x2 wr v) (hb : bT < w3.heap.size) (hg : g < w3.heap.size) (hW : w3.heap.size ≤ W.heap.size) (o : Obj) : InL w w2 w3 W bT g Bx rest x1 x2 (wr.alloc o) v :=
  ⟨h.both.alloc o, h.rest_.alloc o, h.kt.alloc (by omega) o, h.below.alloc h.below.size o, by have := h.sz; simp; omega, h.others.trans (KeepsOthers.alloc wr o), h.kg.alloc (by omega) o, (((Below.refl wr.heap.size wr).alloc (Nat.le_refl _) o).block Bx (Array.getElem?_eq_some_iff.1 h.x).1).trans h.x, h.no⟩

theorem InL.cells {w w2 w3 W : World} {bT g Bx : Nat} {rest : Value} {x1 x2 : Int} {wr : World} {v : Value} (h : InL w w2 w3 W bT g Bx rest x1 x2 wr v) : wr.cell? ⟨Bx, 0, none⟩ = some (.int .i64 x1) ∧ wr.cell? ⟨Bx, 1, none⟩ = some (.int .i64 x2) := by
  simp only [World.cell?, h.x]; exact ⟨rfl, rfl⟩

/-- A part is added. -/
theorem InL.added {w w2 w3 W : World} {bT g Bx : Nat} {rest : Value} {x1 x2 : Int} {wr w5 : World} {v v' : Value} {n m : Nat} {xs ys : List Value} {tmp : Obj} (h : InL w w2 w3 W bT g Bx rest x1 x2 wr v)
    (hw2 : w.heap.size < w2.heap.size) (hw3 : w2.heap.size < w3.heap.size) (hb : bT < w3.heap.size) (hb0 : w.heap.size < bT) (hg : g < w3.heap.size) (hg0 : w.heap.size < g) (hBx : w3.heap.size ≤ Bx)
    (hrow : wr.ownsRow w3.heap.size 32 2 v n xs) (ho5 : w5.ownsRow w3.heap.size 32 2 v' m ys) (hg5 : (wr.alloc tmp).grownBy w5 v.ownBlock) (hv : v'.ownBlock = v.ownBlock ∨ v'.ownBlock = some (wr.alloc tmp).heap.size) :
    Boxed w5 w.heap.size 22 v ∧ InL w w2 w3 W bT g Bx rest x1 x2 (w5.setCell ⟨w.heap.size, 0, none⟩ v') v' ∧ (w5.setCell ⟨w.heap.size, 0, none⟩ v').ownsRow w3.heap.size 32 2 v' m ys := by
  obtain ⟨k1, k2, k3, k4, k5, k6, k7⟩ := Boxed.added (n₀ := w.heap.size) (g := g) h.both (by decide) (e := 32) hrow h.sz (Nat.le_refl _) (by omega) hg (by omega) ho5 hg5
  obtain ⟨_, _, _, _, _, j6, _⟩ := Boxed.added (n₀ := w.heap.size) (g := bT) h.both (by decide) (e := 32) hrow h.sz (Nat.le_refl _) (by omega) hb (by omega) ho5 hg5
  have hlx := (Array.getElem?_eq_some_iff.1 h.x).1
  refine ⟨k1, ⟨k2, k7 _ _ _ h.rest_ (by decide) (by omega), h.kt.trans j6, h.below.trans k5, Nat.le_trans h.sz k6.1, h.others.trans k4, h.kg.trans k6, ?_, ?_⟩, k3⟩
  · rw [heap_setCell_other w5 ⟨w.heap.size, 0, none⟩ Bx v' (by show Bx ≠ w.heap.size; omega), hg5.block Bx (by simp; omega) (fun e => h.no e.symm)]
    exact (((Below.refl wr.heap.size wr).alloc (Nat.le_refl _) tmp).block Bx hlx).trans h.x
  · rcases hv with e | e
    · rw [e]; exact h.no
    · rw [e]
      intro e2
      simp at e2
      omega

/-- How far the other set is gone. -/
def meetK (T : List (Int × Int)) (pre : List (Nat × (Int × Int))) : Nat := (stS (fun x H => H.map (cutE x)) T pre).1

set_option linter.unusedSimpArgs false in
set_option maxRecDepth 100000 in
set_option maxHeartbeats 4000000 in
theorem meet_any (hS : SortSays) (w : World) (a a1 : Option Addr) (c c1 : Nat) (L M : List (Int × Int)) (h : LiesE w a L) (h1 : LiesE w a1 M) (hl : L.length ≤ 100000) (hm : M.length ≤ 100000) (hlm : L.length * M.length ≤ 1000000) :
    Calls Try.prog 12 #[.slice a L.length c, .slice a1 M.length c1] w fun e w' => ∃ v N T R, e = .returned v ∧ Normed L N ∧ Normed M T ∧ Normed (meetL T (upto N N.length)) R ∧ OwnE w' w.heap.size v R ∧ Below w.heap.size w w' := by
  refine (callsIn_wide (n := 5)).1 ?_
  refine callsIn_of_wp_marks Try.func12 rfl trivial ?_ rfl
  simp only [Try.ntmps12, List.size_toArray, List.length_cons, List.length_nil, Nat.reduceAdd, Nat.reduceSub, Array.replicate_succ, Array.replicate_zero, List.push_toArray, List.append_toArray, List.nil_append, List.cons_append]
  have hb1 : Below w.heap.size w (w.alloc (.cells #[.slice none 0 0] 22)) := (Below.refl _ w).alloc (Nat.le_refl _) _
  have bO := Boxed.new w 22 (.slice none 0 0)
  have HN := hide (norm_any hS _ a1 c1 M (h1.below hb1) (by omega))
  have HA : Hid (∀ u, Below w.heap.size w u → Calls Try.prog 21 #[.slice a L.length c] u fun e w' => ∃ Bs g a' c' N, e = .returned (.func (.func 31) #[] #[.pointer (some ⟨Bs, 0, none⟩)]) ∧ Gone u w' L Bs g a' c' N) := hide (fun u hu => all_any hS u a c L (h.below hu) (by omega))
  gi_wp2_with (first
    | (refine ⟨trivial, ?_⟩; gi_at_call 23; refine (callsIn_wide.2 HN.out).mono ?_; rintro e w2 ⟨v2, T, rfl, ho2, hn2, hb2⟩; obtain ⟨aT, cT, rfl, hlT, hTc, hTm, hTp⟩ := ho2.form; have hb2' := hb1.trans (hb2.mono (by simp)); have hbA := hb2'.alloc hb2'.size (.cells #[.slice aT T.length cT] 26))
    | (refine ⟨trivial, ?_⟩; gi_at_call 21; refine (callsIn_wide.2 (HA.out _ hbA)).mono ?_; rintro e w3 ⟨Bs, g, a', c', N, rfl, hG⟩))
  have hw12 : w.heap.size + 1 ≤ w2.heap.size := by have := hb2.size; simp at this; omega
  have hsW : w2.heap.size + 1 ≤ w3.heap.size := by have := hG.below.size; simp at this; omega
  have hgs : w2.heap.size + 1 ≤ g ∧ g < w3.heap.size := by have := hG.gs; simp at this; exact this
  have hb3 : Below w.heap.size w w3 := hbA.trans (hG.below.mono (by simp; omega))
  have bO3 : Boxed w3 w.heap.size 22 (.slice none 0 0) := (hG.below.block _ (by simp; omega)).trans (Boxed.alloc (show Boxed w2 w.heap.size 22 (.slice none 0 0) from (hb2.block _ (by simp)).trans bO) _)
  have bR3 : Boxed w3 w2.heap.size 26 (.slice aT T.length cT) := (hG.below.block _ (by simp)).trans (Boxed.new w2 26 (.slice aT T.length cT))
  obtain ⟨bT, offT, hR0, hLT3, hbT, hbT2, hbT0⟩ : ∃ bT offT, Rest aT bT offT T 0 ∧ LiesE w3 (some ⟨bT, offT, none⟩) T ∧ bT < w3.heap.size ∧ bT ≠ w2.heap.size ∧ w.heap.size < bT := by
    have hb23 : Below w2.heap.size w2 w3 := ((Below.refl _ w2).alloc (Nat.le_refl _) _).trans (hG.below.mono (by simp))
    rcases hlT.below hb23 with hnil | ⟨b, off, rfl, hlt, hc⟩
    · exact ⟨g, 0, fun h => absurd h (by rw [hnil]; simp), Or.inl hnil, hgs.2, by omega, by omega⟩
    · have := hTp _ rfl
      simp at this
      exact ⟨b, off, fun _ => by simp, Or.inr ⟨b, off, rfl, hlt, hc⟩, hlt, by omega, by omega⟩
  have hNl := hG.norm.len
  have hTl := hn2.len
  clear HN HA bO hb1 ho2 hlT hTp hb2' hbA
  refine wpIn_rangeFunc_ownH rfl (by omega) (gf := 31) (lb := #[.pointer (some ⟨Bs, 0, none⟩)]) rfl trivial (enters_of Try.func31 (by kernel_rfl) rfl)
    (all_stops Fence.wide 4 trivial rfl (by omega) Bs g c' a' N (by omega) w3 hG.bs.2 hgs.2 hG.box hG.lies) KeepB.trans (fun W l o o' hl ho h1 h2 => KeepB.of_below (belowK_b (Nat.le_refl _) W l o o' hl ho h1 h2) hgs.2) (Below.refl _ _) (fun _ => rfl)
    (fun (pre : List (Nat × (Int × Int))) W => ((∃ v, Boxed W w.heap.size 22 v ∧ W.ownsRow w3.heap.size 32 2 v (meetL T pre).length ((meetL T pre).flatMap encE) ∧ True) ∧ (∃ p, Boxed W w2.heap.size 26 (.slice p (T.length - meetK T pre) (cT - meetK T pre)) ∧ Rest p bT offT T (meetK T pre))) ∧ (KeepB bT w3 W ∧ (Below w.heap.size w W ∧ w3.heap.size ≤ W.heap.size)))
    (fun _ _ _ => False)
    (OwnFrom.and (OwnFrom.and (Own.from (holdsRow_own w3.heap.size w.heap.size 22 32 2 (fun (pre : List (Nat × (Int × Int))) => (meetL T pre).length) (fun pre => (meetL T pre).flatMap encE) (fun _ _ => True)) _) (Own.from (boxedEx_own w2.heap.size 26 (fun (pre : List (Nat × (Int × Int))) p => .slice p (T.length - meetK T pre) (cT - meetK T pre)) (fun pre p => Rest p bT offT T (meetK T pre))) _)) (OwnFrom.and (keepB_own (by omega) (by omega)) (OwnFrom.and (ownFrom_below (Nat.le_refl _) (by omega)) (fun _ _ _ _ hs hg _ => Nat.le_trans hs hg.size))))
    (fun _ _ _ _ _ hs _ _ => hs)
    ⟨⟨⟨_, bO3, World.ownsRow_nil _ _ _ _, trivial⟩, aT, bR3, hR0⟩, KeepB.refl _ _, hb3, Nat.le_refl _⟩
    (fun x a' W => ∃ Bx, w3.heap.size ≤ Bx ∧ W.heap[Bx]? = some (.cells #[.int .i64 x.2.1, .int .i64 x.2.2] 32 (0, 0)) ∧ (∀ v, Boxed W w.heap.size 22 v → v.ownBlock ≠ some Bx) ∧ a' = { tmps := #[.slice a L.length c, .slice a1 M.length c1, undef, undef, .slice none 0 0, .pointer (some ⟨w.heap.size, 0, none⟩), .pointer (some ⟨w2.heap.size, 0, none⟩), undef, .pointer (some ⟨Bx, 0, none⟩), undef, undef, .slice a1 M.length c1, .slice aT T.length cT, .slice a L.length c, .func (.func 31) #[] #[.pointer (some ⟨Bs, 0, none⟩)], .int .i64 x.1, .agg #[.int .i64 x.2.1, .int .i64 x.2.2], undef, undef, undef, undef, undef, undef, undef, undef, undef, undef, undef, undef, undef, undef, undef, undef, undef, undef, undef, undef, undef, undef, undef, undef, undef, undef, undef, undef, undef, undef, undef, undef], defers := [] })
    (fun x a' _ X Y row hs hg hr => by
      obtain ⟨Bx, h1, h2, hv, h3⟩ := hs
      have hlt := (Array.getElem?_eq_some_iff.1 h2).1
      refine ⟨Bx, h1, (hg.block Bx hlt (fun e => ?_)).trans h2, fun v hb => hv v ((hg.block w.heap.size (by omega) (fun e => ?_)).symm.trans hb), h3⟩
      · obtain ⟨o, ho, hc⟩ := (hr Bx e.symm).2
        rw [h2] at ho
        cases ho
        cases hc
      · have := (hr w.heap.size e.symm).1
        omega)
    ?assign ?body ?done ?stop
  case stop =>
    rintro D c pre W _ _ h _
    exact h.elim
  case assign =>
    rintro l pre x W K ⟨⟨⟨v, bO1, hrow, _⟩, p, bR1, hRest⟩, hKB, hB1, hs1⟩ hK
    obtain ⟨xi, x1, x2⟩ := x
    dsimp only [encP] at *
    gi_wp2
    refine hK _ _ ((KeepsOthers.alloc _ _).from _) ((KeepB.refl g W).alloc (by omega) _) ⟨⟨⟨v, bO1.alloc _, hrow.alloc _, trivial⟩, p, bR1.alloc _, hRest⟩, hKB.alloc (by omega) _, hB1.alloc hB1.size _, by simp; omega⟩ ⟨W.heap.size, hs1, World.alloc_heap_new W _, fun v' hb e => ?_, rfl⟩
    have e2 : Boxed W w.heap.size 22 v' := (((Below.refl W.heap.size W).alloc (Nat.le_refl _) _).block w.heap.size (by omega)).symm.trans hb
    have e3 : v' = v := by
      have := e2.symm.trans bO1
      simpa using this
    subst e3
    have := (World.ownsRow.lt hrow _ e).2
    omega
  case done =>
    rintro D ys W hD rfl ⟨⟨⟨v, bO1, hrow, _⟩, p, bR1, hRest⟩, hKB, hB1, hs1⟩ hK
    have cO := bO1.cell
    obtain ⟨M0, hM0⟩ : ∃ M0, M0 = meetL T (upto N N.length) := ⟨_, rfl⟩
    rw [← hM0] at hrow
    have hMl : M0.length ≤ 1000000 := by
      rw [hM0]
      refine Nat.le_trans (meetL_len T _) ?_
      rw [upto_length]
      exact Nat.le_trans (Nat.mul_le_mul hNl hTl) hlm
    have hoE : OwnE W w3.heap.size v M0 := hrow
    obtain ⟨a7, c7, rfl, hl7, _, _, _⟩ := hoE.form
    have HN := hide (norm_any hS W a7 c7 M0 hl7 hMl)
    have HM0 := hide hM0
    clear hrow hl7 hoE hM0
    gi_wp2_with (refine ⟨trivial, ?_⟩; gi_at_call 23; refine (callsIn_wide.2 HN.out).mono ?_; rintro e w8 ⟨v8, R, rfl, ho8, hn8, hb8⟩)
    have hDl : D < W.heap.size := (Array.getElem?_eq_some_iff.1 hK).1
    have hK8 : w8.heap[D]? = some (.deferred (some [])) := (hb8.block D hDl).trans hK
    refine ⟨by simp, .inl ⟨_, _, rfl, run_takeDeferred hK8, ?_⟩⟩
    refine ⟨_, results_tmp rfl _ _ _, v8, N, T, R, rfl, hG.norm, hn2, ?_, ownsRow_putObj (ho8.mono (by omega)) _ hK8 rfl, (hB1.trans (hb8.mono hB1.size)).trans (belowK_b (w := w) (Nat.le_refl _) w8 D _ _ (by omega) hK8 rfl rfl)⟩
    rw [← HM0.out]
    exact hn8
  case body =>
    rintro l pre x a' W hl ⟨r, hr⟩ ⟨⟨⟨v, bO1, hrow, _⟩, p, bR1, hRest⟩, hKB, hB1, hs1⟩ ⟨Bx, hBx, bX, hNB, rfl⟩ hlt
    obtain ⟨xi, x1, x2⟩ := x
    dsimp only at bX ⊢
    have hNv := hNB v bO1
    have cO := bO1.cell
    have cR := bR1.cell
    have fR := bR1.frozen
    obtain ⟨cX0, cX1⟩ : W.cell? ⟨Bx, 0, none⟩ = some (.int .i64 x1) ∧ W.cell? ⟨Bx, 1, none⟩ = some (.int .i64 x2) := by simp only [World.cell?, bX]; exact ⟨rfl, rfl⟩
    have hk := stS_le (fun x H => H.map (cutE x)) T pre.length pre rfl
    have hLW : LiesE W (some ⟨bT, offT, none⟩) T := by
      rcases hLT3 with hn | ⟨b', o', e, hlt', hc⟩
      · exact Or.inl hn
      · cases e
        refine Or.inr ⟨bT, offT, rfl, by omega, fun q hq => ?_⟩
        have := hc q hq
        simp only [World.cell?, hKB.2]
        simpa only [World.cell?] using this
    have HBh := hide (behind_rest W bT offT cT T (meetK T pre) p x1 hLW (by omega) (by omega) hTc hk hRest)
    obtain ⟨k', hk'⟩ : ∃ k', k' = meetK T pre + skE (T.drop (meetK T pre)) x1 := ⟨_, rfl⟩
    rw [← hk'] at HBh
    have HK' := hide hk'
    have hk'l : k' ≤ T.length := by rw [hk']; exact sk_le T _ _ hk
    clear hk'
    gi_wp2_with (refine ⟨trivial, ?_⟩; gi_at_call 27; refine (callsIn_wide.2 HBh.out).mono ?_; rintro e W' ⟨p', rfl, hRest', hW'⟩; have hW2 := hW'.symm; subst hW2; clear hW')
    have hsW0 : w3.heap.size ≤ W.heap.size := hs1
    have hgg := grownBy_setCell' W w2.heap.size (.slice p' (T.length - k') (cT - k'))
    have hI1 : InL w w2 w3 W bT g Bx (.slice p' (T.length - k') (cT - k')) x1 x2 (W.setCell ⟨w2.heap.size, 0, none⟩ (.slice p' (T.length - k') (cT - k'))) v :=
      ⟨bO1.kept hgg (by simp; omega), bR1.set _, hKB.trans ⟨hgg.size, hgg.block bT (by omega) (by simp; omega)⟩, hB1.setCell (p := ⟨w2.heap.size, 0, none⟩) (by show w.heap.size ≤ w2.heap.size; omega) _, Nat.le_trans hs1 hgg.size, KeepsOthers.setCell _ _ _, ⟨hgg.size, hgg.block g (by omega) (by simp; omega)⟩, (hgg.block Bx (Array.getElem?_eq_some_iff.1 bX).1 (by simp; omega)).trans bX, hNv⟩
    have hrow1 := hrow.kept hgg (Or.inr (fun e => by have := (World.ownsRow.lt hrow _ e).1; omega))
    have hKx : meetK T (pre ++ [(xi, (x1, x2))]) = k' := by rw [HK'.out]; unfold meetK; rw [stS_snoc]; rfl
    have hLx : meetL T (pre ++ [(xi, (x1, x2))]) = meetL T pre ++ (hitE (T.drop k') (x1, x2)).map (cutE (x1, x2)) := by rw [HK'.out]; unfold meetL meetK; rw [stS_snoc]; rfl
    have hout := meetL_len T pre
    have hpre : pre.length * T.length ≤ 1000000 := Nat.le_trans (Nat.mul_le_mul (Nat.le_of_lt (Nat.lt_of_lt_of_le hlt hNl)) hTl) hlm
    obtain ⟨out, ho⟩ : ∃ out, out = meetL T pre := ⟨_, rfl⟩
    rw [← ho] at hrow1 hLx hout
    have HFin : Hid (∀ (q : Nat) (v : Value) (wr : World), q ≤ T.length - k' → (∀ j, j < q → ((T.drop k').getD j (0, 0)).1 < x2) → (q < T.length - k' → ¬ ((T.drop k').getD q (0, 0)).1 < x2) → InL w w2 w3 W bT g Bx (.slice p' (T.length - k') (cT - k')) x1 x2 wr v →
        wr.ownsRow w3.heap.size 32 2 v (out.length + q) ((out ++ ((T.drop k').take q).map (cutE (x1, x2))).flatMap encE) →
        (KeepsFrom w3.heap.size W wr ∧ KeepB g W wr ∧ ((∃ v, Boxed wr w.heap.size 22 v ∧ wr.ownsRow w3.heap.size 32 2 v (meetL T (pre ++ [(xi, (x1, x2))])).length ((meetL T (pre ++ [(xi, (x1, x2))])).flatMap encE) ∧ True) ∧ (∃ p, Boxed wr w2.heap.size 26 (.slice p (T.length - meetK T (pre ++ [(xi, (x1, x2))])) (cT - meetK T (pre ++ [(xi, (x1, x2))]))) ∧ Rest p bT offT T (meetK T (pre ++ [(xi, (x1, x2))])))) ∧ (KeepB bT w3 wr ∧ (Below w.heap.size w wr ∧ w3.heap.size ≤ wr.heap.size)))) := hide (fun q v wr hq hall hst hI hro => by
      have e : hitE (T.drop k') (x1, x2) = (T.drop k').take q := tw_take (fun y : Int × Int => decide (y.1 < x2)) (0, 0) (T.drop k') q (by simp; omega) (fun j hj => by simpa using hall j hj) (fun hh => by simpa using hst (by simpa using hh))
      rw [hKx, hLx, e]
      refine ⟨hI.others.from _, hI.kg, ⟨⟨v, hI.both, ?_, trivial⟩, p', hI.rest_, hRest'⟩, hI.kt, hI.below, hI.sz⟩
      have : (out ++ ((T.drop k').take q).map (cutE (x1, x2))).length = out.length + q := by simp; omega
      rw [this]
      exact hro)
    have HI1 := hide hI1
    have HR1 := hide hrow1
    have HLT := hide hLT3
    clear hI1 hrow1 hgg bO1 bR1 hrow hKB hB1 hs1 bX hNB hNv cO cR fR cX0 cX1 hLW HBh hRest hKx hLx ho HK' hk
    obtain ⟨n, hn⟩ : ∃ n, n = T.length - k' := ⟨_, rfl⟩
    gi_loopw [23] (fun i wr => ∃ (q : Nat) (v : Value), q ≤ T.length - k' ∧ i = .int .i64 q ∧ (∀ j, j < q → ((T.drop k').getD j (0, 0)).1 < x2) ∧ InL w w2 w3 W bT g Bx (.slice p' (T.length - k') (cT - k')) x1 x2 wr v ∧
        wr.ownsRow w3.heap.size 32 2 v (out.length + q) ((out ++ ((T.drop k').take q).map (cutE (x1, x2))).flatMap encE)) (fun i _ => (T.length - k') - (intOf i).toNat)
    case atStart => exact ⟨0, v, by omega, rfl, fun j hj => absurd hj (by omega), HI1.out, by simpa using HR1.out⟩
    case round =>
      obtain ⟨q, v, hq, rfl, hall, hI, hro⟩ := hrel
      have HAll := hide hall
      have HI := hide hI
      have HRo := hide hro
      have hwrs := hI.sz
      clear hall hI hro
      by_cases hlt2 : q < T.length - k'
      · have hpe := hRest' (by omega)
        rcases HLT.out with hnil | ⟨b', o', e, hlt', hc⟩
        · rw [hnil] at hlt2; simp at hlt2
        cases e
        subst hpe
        obtain ⟨q0, q1⟩ := hc (k' + q) (by omega)
        have r0 : wr.cell? ⟨bT, offT + k' * 2 + q * 2, none⟩ = some (.int .i64 (T.getD (k' + q) (0, 0)).1) := by
          rw [show offT + k' * 2 + q * 2 = offT + (k' + q) * 2 by omega]
          simp only [World.cell?, HI.out.kt.2]
          simpa only [World.cell?] using q0
        have r1 : wr.cell? ⟨bT, offT + k' * 2 + q * 2 + 1, none⟩ = some (.int .i64 (T.getD (k' + q) (0, 0)).2) := by
          rw [show offT + k' * 2 + q * 2 + 1 = offT + (k' + q) * 2 + 1 by omega]
          simp only [World.cell?, HI.out.kt.2]
          simpa only [World.cell?] using q1
        have hDq : (T.drop k').getD q (0, 0) = T.getD (k' + q) (0, 0) := by simp [List.getD_eq_getElem?_getD]
        have HTk : Hid ((T.drop k').take (q + 1) = (T.drop k').take q ++ [T.getD (k' + q) (0, 0)]) := hide (by rw [← hDq]; exact take_step (T.drop k') q (by simp; omega))
        have HAl2 : Hid ((T.getD (k' + q) (0, 0)).1 < x2 → ∀ j, j < q + 1 → ((T.drop k').getD j (0, 0)).1 < x2) := hide (fun hy j hj => by
          rcases Nat.lt_or_ge j q with h5 | h5
          · exact HAll.out j h5
          · obtain rfl : j = q := by omega
            rw [hDq]; exact hy)
        have HStp : Hid (¬ (T.getD (k' + q) (0, 0)).1 < x2 → q < T.length - k' → ¬ ((T.drop k').getD q (0, 0)).1 < x2) := hide (fun hy _ => by rw [hDq]; exact hy)
        obtain ⟨y, hy⟩ : ∃ y, y = T.getD (k' + q) (0, 0) := ⟨_, rfl⟩
        rw [← hy] at r0 r1 HTk HAl2 HStp
        obtain ⟨y1, y2⟩ := y
        dsimp only at r0 r1 HAl2 HStp
        clear hc q0 q1 hy hDq
        obtain ⟨cX0, cX1⟩ := HI.out.cells
        have cO := HI.out.both.cell
        have hxlt := (Array.getElem?_eq_some_iff.1 HI.out.x).1
        have hqi : (q : Int) < ((T.length - k' : Nat) : Int) := by omega
        have hqi0 : (0 : Int) ≤ (q : Int) := by omega
        have hwl : w.heap.size < wr.heap.size := by omega
        obtain ⟨i1, hi, hz0, hz1, hz2⟩ := info_parts info_E
        by_cases hy12 : y1 < x2
        · have hge : decide (x2 ≤ y1) = false := by simp; omega
          obtain ⟨z1, hz1'⟩ : ∃ z, max x1 y1 = z := ⟨_, rfl⟩
          obtain ⟨z2, hz2'⟩ : ∃ z, min x2 y2 = z := ⟨_, rfl⟩
          have hcut : cutE (x1, x2) (y1, y2) = (z1, z2) := by unfold cutE; dsimp only; rw [hz1', hz2']
          have HRw : Hid ((out ++ ((T.drop k').take (q + 1)).map (cutE (x1, x2))).flatMap encE = (out ++ ((T.drop k').take q).map (cutE (x1, x2))).flatMap encE ++ [.int .i64 z1, .int .i64 z2]) := hide (by
            rw [HTk.out, List.map_append, List.map_singleton, hcut, ← List.append_assoc, List.flatMap_append]
            rfl)
          have HT : Hid (∀ v5 w5, w5.ownsRow w3.heap.size 32 2 v5 (out.length + q + 1) ((out ++ ((T.drop k').take q).map (cutE (x1, x2))).flatMap encE ++ [.int .i64 z1, .int .i64 z2]) → ((wr.alloc (.cells #[.int .i64 y1, .int .i64 y2] 32)).alloc (.cells #[.int .i64 z1, .int .i64 z2] 32)).grownBy w5 v.ownBlock → (v5.ownBlock = v.ownBlock ∨ v5.ownBlock = some ((wr.alloc (.cells #[.int .i64 y1, .int .i64 y2] 32)).alloc (.cells #[.int .i64 z1, .int .i64 z2] 32)).heap.size) →
              Boxed w5 w.heap.size 22 v ∧ InL w w2 w3 W bT g Bx (.slice (some ⟨bT, offT + k' * 2, none⟩) (T.length - k') (cT - k')) x1 x2 (w5.setCell ⟨w.heap.size, 0, none⟩ v5) v5 ∧ (w5.setCell ⟨w.heap.size, 0, none⟩ v5).ownsRow w3.heap.size 32 2 v5 (out.length + q + 1) ((out ++ ((T.drop k').take q).map (cutE (x1, x2))).flatMap encE ++ [.int .i64 z1, .int .i64 z2])) :=
            hide (fun v5 w5 h5 h6 h7 => (HI.out.alloc (by omega) hgs.2 hsW0 (.cells #[.int .i64 y1, .int .i64 y2] 32)).added (by omega) (by omega) (by omega) hbT0 hgs.2 (by omega) hBx (HRo.out.alloc (.cells #[.int .i64 y1, .int .i64 y2] 32)) h5 h6 h7)
          clear hcut
          gi_wp2_with (gi_at_builtin; refine wpListIn_append_own_at _ rfl (.tmp 32) (.tmp 44) 22 rfl w3.heap.size 32 i1 (.agg #[.int .i64 0, .int .i64 0]) 2 16 Try.underlying22 hi hz0 hz1 hz2 rfl (by decide) v (out.length + q) ((out ++ ((T.drop k').take q).map (cutE (x1, x2))).flatMap encE) rfl ((HRo.out.alloc (.cells #[.int .i64 y1, .int .i64 y2] 32)).alloc _) ⟨wr.heap.size + 1, 0, none⟩ 1 1 [.int .i64 z1, .int .i64 z2] rfl rfl (by have := new2 (wr.alloc (.cells #[.int .i64 y1, .int .i64 y2] 32)) 32 (.int .i64 z1) (.int .i64 z2); rw [World.size_alloc] at this; exact this) (by simp [Value.oneCell']) (by unfold maxLen; omega) (by omega) (by simp; omega) ?_; intro v5 w5 ho5 hg5 _ hv5; obtain ⟨g5, cap5, rfl⟩ := ownsRow_succ ho5; obtain ⟨b1, hI5, hr5⟩ := HT.out _ w5 ho5 hg5 hv5; have HI5 := hide hI5; have HR5 := hide hr5; have c1 := b1.cell; have f1 := b1.frozen; clear ho5 hg5 b1 hv5 hI5 hr5)
          refine ⟨⟨q + 1, _, by omega, by go_num, HAl2.out hy12, HI5.out, ?_⟩, ?_⟩
          · rw [HRw.out]
            exact HR5.out
          · simp [intOf]; omega
        · have hge : decide (x2 ≤ y1) = true := by simp; omega
          have HI2 := hide (HI.out.alloc (by omega) hgs.2 hsW0 (.cells #[.int .i64 y1, .int .i64 y2] 32))
          have HR2 := hide (HRo.out.alloc (.cells #[.int .i64 y1, .int .i64 y2] 32))
          gi_wp2_with fail
          have hfin := HFin.out q v _ hq HAll.out (HStp.out hy12) HI2.out HR2.out
          refine ⟨hfin.1, hfin.2.1, ⟨?_, hfin.2.2.1.2⟩, hfin.2.2.2⟩
          obtain ⟨v9, h8, h9, _⟩ := hfin.2.2.1.1
          first | exact ⟨v9, h8, h9⟩ | exact ⟨v9, h8, h9, trivial⟩
      · obtain rfl : q = T.length - k' := by omega
        gi_wp2_with fail
        have hfin := HFin.out _ v _ (Nat.le_refl _) HAll.out (fun h => absurd h (by omega)) HI.out HRo.out
        refine ⟨hfin.1, hfin.2.1, ⟨?_, hfin.2.2.1.2⟩, hfin.2.2.2⟩
        obtain ⟨v9, h8, h9, _⟩ := hfin.2.2.1.1
        first | exact ⟨v9, h8, h9⟩ | exact ⟨v9, h8, h9, trivial⟩
end Go.Proofs.Ytgfdcgkaponlfaa.Oct
