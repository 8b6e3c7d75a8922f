/- Minus: what the first of two sets has alone. -/
import Derived.Test.YtjpdfchdgphdoaaGreatDoorPMet
namespace Go.Proofs.YtjpdfchdgphdoaaGreatDoor.Oct
open Go.RowKit Go.Shelf

attribute [local go_sem] Oper.semAt_some

/-- The gaps ahead of parts; where the last one ends. -/
def gapP : Int → List (Int × Int) → List (Int × Int)
  | _, [] => []
  | f, y :: ys => (f, y.1) :: gapP y.2 ys
def gapEnd : Int → List (Int × Int) → Int
  | f, [] => f
  | _, y :: ys => gapEnd y.2 ys

theorem gapP_snoc : ∀ (H : List (Int × Int)) (f : Int) (y : Int × Int), gapP f (H ++ [y]) = gapP f H ++ [(gapEnd f H, y.1)]
  | [], f, y => rfl
  | z :: H, f, y => by simp [gapP, gapEnd, gapP_snoc H z.2 y]

theorem gapEnd_snoc : ∀ (H : List (Int × Int)) (f : Int) (y : Int × Int), gapEnd f (H ++ [y]) = y.2
  | [], f, y => rfl
  | z :: H, f, y => by simp [gapEnd, gapEnd_snoc H z.2 y]

theorem gapE_eq (x : Int × Int) : ∀ (H : List (Int × Int)) (f : Int), gapE x f H = gapP f H ++ [(gapEnd f H, x.2)]
  | [], f => rfl
  | z :: H, f => by simp [gapE, gapP, gapEnd, gapE_eq x H z.2]

theorem gapP_len : ∀ (H : List (Int × Int)) (f : Int), (gapP f H).length = H.length
  | [], f => rfl
  | z :: H, f => by simp [gapP, gapP_len H z.2]

/-- How far the other set is gone. -/
def aloneK (T : List (Int × Int)) (pre : List (Nat × (Int × Int))) : Nat := (stS (fun x H => gapE x x.1 H) T pre).1

set_option linter.unusedSimpArgs false in
set_option maxRecDepth 100000 in
set_option maxHeartbeats 4000000 in
theorem minus_any (hS : SortSays) (w : World) (a a1 : Option Addr) (c c1 : Nat) (L M : List (Int × Int)) (h : LiesE w a L) (h1 : LiesE w a1 M) (hl : L.length ≤ 100000) (hm : M.length ≤ 100000) (hlm : L.length * (M.length + 1) ≤ 1000000) :
    Calls Tryz.prog 47 #[.slice a L.length c, .slice a1 M.length c1] w fun e w' => ∃ v N T R, e = .returned v ∧ Normed L N ∧ Normed M T ∧ Normed (aloneL T (upto N N.length)) R ∧ OwnE w' w.heap.size v R ∧ Below w.heap.size w w' := by
  refine (callsIn_wide (n := 5)).1 ?_
  refine callsIn_of_wp_marks Tryz.func47 rfl trivial ?_ rfl
  simp only [Tryz.ntmps47, List.size_toArray, List.length_cons, List.length_nil, Nat.reduceAdd, Nat.reduceSub, Array.replicate_succ, Array.replicate_zero, List.push_toArray, List.append_toArray, List.nil_append, List.cons_append]
  have hb1 : Below w.heap.size w (w.alloc (.cells #[.slice none 0 0] 40)) := (Below.refl _ w).alloc (Nat.le_refl _) _
  have bO := Boxed.new w 40 (.slice none 0 0)
  have HN := hide (norm_any hS _ a1 c1 M (h1.below hb1) (by omega))
  have HA : Hid (∀ u, Below w.heap.size w u → Calls Tryz.prog 65 #[.slice a L.length c] u fun e w' => ∃ Bs g a' c' N, e = .returned (.func (.func 95) #[] #[.pointer (some ⟨Bs, 0, none⟩)]) ∧ Gone u w' L Bs g a' c' N) := hide (fun u hu => all_any hS u a c L (h.below hu) (by omega))
  gi_wp2_with (first
    | (refine ⟨trivial, ?_⟩; gi_at_call 46; refine (callsIn_wide.2 HN.out).mono ?_; rintro e w2 ⟨v2, T, rfl, ho2, hn2, hb2⟩; obtain ⟨aT, cT, rfl, hlT, hTc, hTm, hTp⟩ := ho2.form; have hb2' := hb1.trans (hb2.mono (by simp)); have hbA := hb2'.alloc hb2'.size (.cells #[.slice aT T.length cT] 55))
    | (refine ⟨trivial, ?_⟩; gi_at_call 65; refine (callsIn_wide.2 (HA.out _ hbA)).mono ?_; rintro e w3 ⟨Bs, g, a', c', N, rfl, hG⟩))
  have hw12 : w.heap.size + 1 ≤ w2.heap.size := by have := hb2.size; simp at this; omega
  have hsW : w2.heap.size + 1 ≤ w3.heap.size := by have := hG.below.size; simp at this; omega
  have hgs : w2.heap.size + 1 ≤ g ∧ g < w3.heap.size := by have := hG.gs; simp at this; exact this
  have hb3 : Below w.heap.size w w3 := hbA.trans (hG.below.mono (by simp; omega))
  have bO3 : Boxed w3 w.heap.size 40 (.slice none 0 0) := (hG.below.block _ (by simp; omega)).trans (Boxed.alloc (show Boxed w2 w.heap.size 40 (.slice none 0 0) from (hb2.block _ (by simp)).trans bO) _)
  have bR3 : Boxed w3 w2.heap.size 55 (.slice aT T.length cT) := (hG.below.block _ (by simp)).trans (Boxed.new w2 55 (.slice aT T.length cT))
  obtain ⟨bT, offT, hR0, hLT3, hbT, hbT2, hbT0⟩ : ∃ bT offT, Rest aT bT offT T 0 ∧ LiesE w3 (some ⟨bT, offT, none⟩) T ∧ bT < w3.heap.size ∧ bT ≠ w2.heap.size ∧ w.heap.size < bT := by
    have hb23 : Below w2.heap.size w2 w3 := ((Below.refl _ w2).alloc (Nat.le_refl _) _).trans (hG.below.mono (by simp))
    rcases hlT.below hb23 with hnil | ⟨b, off, rfl, hlt, hc⟩
    · exact ⟨g, 0, fun h => absurd h (by rw [hnil]; simp), Or.inl hnil, hgs.2, by omega, by omega⟩
    · have := hTp _ rfl
      simp at this
      exact ⟨b, off, fun _ => by simp, Or.inr ⟨b, off, rfl, hlt, hc⟩, hlt, by omega, by omega⟩
  have hNl := hG.norm.len
  have hTl := hn2.len
  clear HN HA bO hb1 ho2 hlT hTp hb2' hbA
  refine wpIn_rangeFunc_ownH rfl (by omega) (gf := 95) (lb := #[.pointer (some ⟨Bs, 0, none⟩)]) rfl trivial (enters_of Tryz.func95 (by kernel_rfl) rfl)
    (all_stops Fence.wide 4 trivial rfl (by omega) Bs g c' a' N (by omega) w3 hG.bs.2 hgs.2 hG.box hG.lies) KeepB.trans (fun W l o o' hl ho h1 h2 => KeepB.of_below (belowK_b (Nat.le_refl _) W l o o' hl ho h1 h2) hgs.2) (Below.refl _ _) (fun _ => rfl)
    (fun (pre : List (Nat × (Int × Int))) W => ((∃ v, Boxed W w.heap.size 40 v ∧ W.ownsRow w3.heap.size 24 2 v (aloneL T pre).length ((aloneL T pre).flatMap encE) ∧ True) ∧ (∃ p, Boxed W w2.heap.size 55 (.slice p (T.length - aloneK T pre) (cT - aloneK T pre)) ∧ Rest p bT offT T (aloneK T pre))) ∧ (KeepB bT w3 W ∧ (Below w.heap.size w W ∧ w3.heap.size ≤ W.heap.size)))
    (fun _ _ _ => False)
    (OwnFrom.and (OwnFrom.and (Own.from (holdsRow_own w3.heap.size w.heap.size 40 24 2 (fun (pre : List (Nat × (Int × Int))) => (aloneL T pre).length) (fun pre => (aloneL T pre).flatMap encE) (fun _ _ => True)) _) (Own.from (boxedEx_own w2.heap.size 55 (fun (pre : List (Nat × (Int × Int))) p => .slice p (T.length - aloneK T pre) (cT - aloneK T pre)) (fun pre p => Rest p bT offT T (aloneK T pre))) _)) (OwnFrom.and (keepB_own (by omega) (by omega)) (OwnFrom.and (ownFrom_below (Nat.le_refl _) (by omega)) (fun _ _ _ _ hs hg _ => Nat.le_trans hs hg.size))))
    (fun _ _ _ _ _ hs _ _ => hs)
    ⟨⟨⟨_, bO3, World.ownsRow_nil _ _ _ _, trivial⟩, aT, bR3, hR0⟩, KeepB.refl _ _, hb3, Nat.le_refl _⟩
    (fun x a' W => ∃ Bx, w3.heap.size ≤ Bx ∧ W.heap[Bx]? = some (.cells #[.int .i64 x.2.1, .int .i64 x.2.2] 24 (0, 0)) ∧ (∀ v, Boxed W w.heap.size 40 v → v.ownBlock ≠ some Bx) ∧ a' = { tmps := #[.slice a L.length c, .slice a1 M.length c1, undef, undef, .slice none 0 0, .pointer (some ⟨w.heap.size, 0, none⟩), .pointer (some ⟨w2.heap.size, 0, none⟩), undef, .pointer (some ⟨Bx, 0, none⟩), undef, undef, undef, .slice a1 M.length c1, .slice aT T.length cT, .slice a L.length c, .func (.func 95) #[] #[.pointer (some ⟨Bs, 0, none⟩)], .int .i64 x.1, .agg #[.int .i64 x.2.1, .int .i64 x.2.2], undef, undef, undef, undef, undef, undef, undef, undef, undef, undef, undef, undef, undef, undef, undef, undef, undef, undef, undef, undef, undef, undef, undef, undef, undef, undef, undef, undef, undef, undef, undef, undef, undef, undef, undef, undef], defers := [] })
    (fun x a' _ X Y row hs hg hr => by
      obtain ⟨Bx, h1, h2, hv, h3⟩ := hs
      have hlt := (Array.getElem?_eq_some_iff.1 h2).1
      refine ⟨Bx, h1, (hg.block Bx hlt (fun e => ?_)).trans h2, fun v hb => hv v ((hg.block w.heap.size (by omega) (fun e => ?_)).symm.trans hb), h3⟩
      · obtain ⟨o, ho, hc⟩ := (hr Bx e.symm).2
        rw [h2] at ho
        cases ho
        cases hc
      · have := (hr w.heap.size e.symm).1
        omega)
    ?assign ?body ?done ?stop
  case stop =>
    rintro D c pre W _ _ h _
    exact h.elim
  case assign =>
    rintro l pre x W K ⟨⟨⟨v, bO1, hrow, _⟩, p, bR1, hRest⟩, hKB, hB1, hs1⟩ hK
    obtain ⟨xi, x1, x2⟩ := x
    dsimp only [encP] at *
    gi_wp2
    refine hK _ _ ((KeepsOthers.alloc _ _).from _) ((KeepB.refl g W).alloc (by omega) _) ⟨⟨⟨v, bO1.alloc _, hrow.alloc _, trivial⟩, p, bR1.alloc _, hRest⟩, hKB.alloc (by omega) _, hB1.alloc hB1.size _, by simp; omega⟩ ⟨W.heap.size, hs1, World.alloc_heap_new W _, fun v' hb e => ?_, rfl⟩
    have e2 : Boxed W w.heap.size 40 v' := (((Below.refl W.heap.size W).alloc (Nat.le_refl _) _).block w.heap.size (by omega)).symm.trans hb
    have e3 : v' = v := by
      have := e2.symm.trans bO1
      simpa using this
    subst e3
    have := (World.ownsRow.lt hrow _ e).2
    omega
  case done =>
    rintro D ys W hD rfl ⟨⟨⟨v, bO1, hrow, _⟩, p, bR1, hRest⟩, hKB, hB1, hs1⟩ hK
    have cO := bO1.cell
    obtain ⟨M0, hM0⟩ : ∃ M0, M0 = aloneL T (upto N N.length) := ⟨_, rfl⟩
    rw [← hM0] at hrow
    have hMl : M0.length ≤ 1000000 := by
      rw [hM0]
      refine Nat.le_trans (aloneL_len T _) ?_
      rw [upto_length]
      exact Nat.le_trans (Nat.mul_le_mul hNl (Nat.succ_le_succ hTl)) hlm
    have hoE : OwnE W w3.heap.size v M0 := hrow
    obtain ⟨a7, c7, rfl, hl7, _, _, _⟩ := hoE.form
    have HN := hide (norm_any hS W a7 c7 M0 hl7 hMl)
    have HM0 := hide hM0
    clear hrow hl7 hoE hM0
    gi_wp2_with (refine ⟨trivial, ?_⟩; gi_at_call 46; refine (callsIn_wide.2 HN.out).mono ?_; rintro e w8 ⟨v8, R, rfl, ho8, hn8, hb8⟩)
    have hDl : D < W.heap.size := (Array.getElem?_eq_some_iff.1 hK).1
    have hK8 : w8.heap[D]? = some (.deferred (some [])) := (hb8.block D hDl).trans hK
    refine ⟨by simp, .inl ⟨_, _, rfl, run_takeDeferred hK8, ?_⟩⟩
    refine ⟨_, results_tmp rfl _ _ _, v8, N, T, R, rfl, hG.norm, hn2, ?_, ownsRow_putObj (ho8.mono (by omega)) _ hK8 rfl, (hB1.trans (hb8.mono hB1.size)).trans (belowK_b (w := w) (Nat.le_refl _) w8 D _ _ (by omega) hK8 rfl rfl)⟩
    rw [← HM0.out]
    exact hn8
  case body =>
    rintro l pre x a' W hl ⟨r, hr⟩ ⟨⟨⟨v, bO1, hrow, _⟩, p, bR1, hRest⟩, hKB, hB1, hs1⟩ ⟨Bx, hBx, bX, hNB, rfl⟩ hlt
    obtain ⟨xi, x1, x2⟩ := x
    dsimp only at bX ⊢
    have hNv := hNB v bO1
    have cO := bO1.cell
    have cR := bR1.cell
    have fR := bR1.frozen
    obtain ⟨cX0, cX1⟩ : W.cell? ⟨Bx, 0, none⟩ = some (.int .i64 x1) ∧ W.cell? ⟨Bx, 1, none⟩ = some (.int .i64 x2) := by simp only [World.cell?, bX]; exact ⟨rfl, rfl⟩
    have hk := stS_le (fun x H => gapE x x.1 H) T pre.length pre rfl
    have hLW : LiesE W (some ⟨bT, offT, none⟩) T := by
      rcases hLT3 with hn | ⟨b', o', e, hlt', hc⟩
      · exact Or.inl hn
      · cases e
        refine Or.inr ⟨bT, offT, rfl, by omega, fun q hq => ?_⟩
        have := hc q hq
        simp only [World.cell?, hKB.2]
        simpa only [World.cell?] using this
    have HBh := hide (behind_rest W bT offT cT T (aloneK T pre) p x1 hLW (by omega) (by omega) hTc hk hRest)
    obtain ⟨k', hk'⟩ : ∃ k', k' = aloneK T pre + skE (T.drop (aloneK T pre)) x1 := ⟨_, rfl⟩
    rw [← hk'] at HBh
    have HK' := hide hk'
    have hk'l : k' ≤ T.length := by rw [hk']; exact sk_le T _ _ hk
    clear hk'
    gi_wp2_with (refine ⟨trivial, ?_⟩; gi_at_call 66; refine (callsIn_wide.2 HBh.out).mono ?_; rintro e W' ⟨p', rfl, hRest', hW'⟩; have hW2 := hW'.symm; subst hW2; clear hW')
    have hsW0 : w3.heap.size ≤ W.heap.size := hs1
    have hgg := grownBy_setCell' W w2.heap.size (.slice p' (T.length - k') (cT - k'))
    have hI1 : InL w w2 w3 W bT g Bx (.slice p' (T.length - k') (cT - k')) x1 x2 (W.setCell ⟨w2.heap.size, 0, none⟩ (.slice p' (T.length - k') (cT - k'))) v :=
      ⟨bO1.kept hgg (by simp; omega), bR1.set _, hKB.trans ⟨hgg.size, hgg.block bT (by omega) (by simp; omega)⟩, hB1.setCell (p := ⟨w2.heap.size, 0, none⟩) (by show w.heap.size ≤ w2.heap.size; omega) _, Nat.le_trans hs1 hgg.size, KeepsOthers.setCell _ _ _, ⟨hgg.size, hgg.block g (by omega) (by simp; omega)⟩, (hgg.block Bx (Array.getElem?_eq_some_iff.1 bX).1 (by simp; omega)).trans bX, hNv⟩
    have hrow1 := hrow.kept hgg (Or.inr (fun e => by have := (World.ownsRow.lt hrow _ e).1; omega))
    have hKx : aloneK T (pre ++ [(xi, (x1, x2))]) = k' := by rw [HK'.out]; unfold aloneK; rw [stS_snoc]; rfl
    have hLx : aloneL T (pre ++ [(xi, (x1, x2))]) = aloneL T pre ++ gapE (x1, x2) x1 (hitE (T.drop k') (x1, x2)) := by rw [HK'.out]; unfold aloneL aloneK; rw [stS_snoc]; rfl
    have hout := aloneL_len T pre
    have hpre : pre.length * (T.length + 1) ≤ 1000000 := Nat.le_trans (Nat.mul_le_mul (Nat.le_of_lt (Nat.lt_of_lt_of_le hlt hNl)) (Nat.succ_le_succ hTl)) hlm
    obtain ⟨out, ho⟩ : ∃ out, out = aloneL T pre := ⟨_, rfl⟩
    rw [← ho] at hrow1 hLx hout
    have HFin : Hid (∀ (q : Nat) (v : Value) (wr : World), q ≤ T.length - k' → (∀ j, j < q → ((T.drop k').getD j (0, 0)).1 < x2) → (q < T.length - k' → ¬ ((T.drop k').getD q (0, 0)).1 < x2) → InL w w2 w3 W bT g Bx (.slice p' (T.length - k') (cT - k')) x1 x2 wr v →
        wr.ownsRow w3.heap.size 24 2 v (out.length + q + 1) (((out ++ gapP x1 ((T.drop k').take q)).flatMap encE) ++ [.int .i64 (gapEnd x1 ((T.drop k').take q)), .int .i64 x2]) →
        (KeepsFrom w3.heap.size W wr ∧ KeepB g W wr ∧ ((∃ v, Boxed wr w.heap.size 40 v ∧ wr.ownsRow w3.heap.size 24 2 v (aloneL T (pre ++ [(xi, (x1, x2))])).length ((aloneL T (pre ++ [(xi, (x1, x2))])).flatMap encE) ∧ True) ∧ (∃ p, Boxed wr w2.heap.size 55 (.slice p (T.length - aloneK T (pre ++ [(xi, (x1, x2))])) (cT - aloneK T (pre ++ [(xi, (x1, x2))]))) ∧ Rest p bT offT T (aloneK T (pre ++ [(xi, (x1, x2))])))) ∧ (KeepB bT w3 wr ∧ (Below w.heap.size w wr ∧ w3.heap.size ≤ wr.heap.size)))) := hide (fun q v wr hq hall hst hI hro => by
      have e : hitE (T.drop k') (x1, x2) = (T.drop k').take q := tw_take (fun y : Int × Int => decide (y.1 < x2)) (0, 0) (T.drop k') q (by simp; omega) (fun j hj => by simpa using hall j hj) (fun hh => by simpa using hst (by simpa using hh))
      rw [hKx, hLx, e, gapE_eq]
      refine ⟨hI.others.from _, hI.kg, ⟨⟨v, hI.both, ?_, trivial⟩, p', hI.rest_, hRest'⟩, hI.kt, hI.below, hI.sz⟩
      have e2 : (out ++ (gapP x1 ((T.drop k').take q) ++ [(gapEnd x1 ((T.drop k').take q), x2)])).length = out.length + q + 1 := by simp [gapP_len]; omega
      have e3 : (out ++ (gapP x1 ((T.drop k').take q) ++ [(gapEnd x1 ((T.drop k').take q), x2)])).flatMap encE = ((out ++ gapP x1 ((T.drop k').take q)).flatMap encE) ++ [.int .i64 (gapEnd x1 ((T.drop k').take q)), .int .i64 x2] := by
        rw [← List.append_assoc, List.flatMap_append]
        rfl
      dsimp only
      rw [e2, e3]
      exact hro)
    have HI1 := hide hI1
    have HR1 := hide hrow1
    have HLT := hide hLT3
    obtain ⟨i1, hi, hz0, hz1, hz2⟩ := info_parts info_E
    clear hI1 hrow1 hgg bO1 bR1 hrow hKB hB1 hs1 bX hNB hNv cO cR fR cX0 cX1 hLW HBh hRest hKx hLx ho HK' hk
    gi_loopw [9, 26] (fun f i wr => ∃ (q : Nat) (v : Value), q ≤ T.length - k' ∧ i = .int .i64 q ∧ f = .int .i64 (gapEnd x1 ((T.drop k').take q)) ∧ (∀ j, j < q → ((T.drop k').getD j (0, 0)).1 < x2) ∧ InL w w2 w3 W bT g Bx (.slice p' (T.length - k') (cT - k')) x1 x2 wr v ∧
        wr.ownsRow w3.heap.size 24 2 v (out.length + q) ((out ++ gapP x1 ((T.drop k').take q)).flatMap encE)) (fun _ i _ => (T.length - k') - (intOf i).toNat)
    case atStart => exact ⟨0, v, by omega, rfl, rfl, fun j hj => absurd hj (by omega), HI1.out, by simpa [gapP] using HR1.out⟩
    case round =>
      obtain ⟨q, v, hq, rfl, rfl, hall, hI, hro⟩ := hrel
      have HAll := hide hall
      have HI := hide hI
      have HRo := hide hro
      have hwrs := hI.sz
      have hwl : w.heap.size < wr.heap.size := by omega
      obtain ⟨cX0, cX1⟩ := HI.out.cells
      have cO := HI.out.both.cell
      have hxlt := (Array.getElem?_eq_some_iff.1 HI.out.x).1
      clear hall hI hro
      obtain ⟨f0, hf0⟩ : ∃ f0, f0 = gapEnd x1 ((T.drop k').take q) := ⟨_, rfl⟩
      have HF0 := hide hf0
      rw [← hf0]
      clear hf0
      by_cases hlt2 : q < T.length - k'
      · have hpe := hRest' (by omega)
        rcases HLT.out with hnil | ⟨b', o', e, hlt', hc⟩
        · rw [hnil] at hlt2; simp at hlt2
        cases e
        subst hpe
        obtain ⟨q0, q1⟩ := hc (k' + q) (by omega)
        have r0 : wr.cell? ⟨bT, offT + k' * 2 + q * 2, none⟩ = some (.int .i64 (T.getD (k' + q) (0, 0)).1) := by
          rw [show offT + k' * 2 + q * 2 = offT + (k' + q) * 2 by omega]
          simp only [World.cell?, HI.out.kt.2]
          simpa only [World.cell?] using q0
        have r1 : wr.cell? ⟨bT, offT + k' * 2 + q * 2 + 1, none⟩ = some (.int .i64 (T.getD (k' + q) (0, 0)).2) := by
          rw [show offT + k' * 2 + q * 2 + 1 = offT + (k' + q) * 2 + 1 by omega]
          simp only [World.cell?, HI.out.kt.2]
          simpa only [World.cell?] using q1
        have hDq : (T.drop k').getD q (0, 0) = T.getD (k' + q) (0, 0) := by simp [List.getD_eq_getElem?_getD]
        have HTk : Hid ((T.drop k').take (q + 1) = (T.drop k').take q ++ [T.getD (k' + q) (0, 0)]) := hide (by rw [← hDq]; exact take_step (T.drop k') q (by simp; omega))
        have HAl2 : Hid ((T.getD (k' + q) (0, 0)).1 < x2 → ∀ j, j < q + 1 → ((T.drop k').getD j (0, 0)).1 < x2) := hide (fun hy j hj => by
          rcases Nat.lt_or_ge j q with h5 | h5
          · exact HAll.out j h5
          · obtain rfl : j = q := by omega
            rw [hDq]; exact hy)
        have HStp : Hid (¬ (T.getD (k' + q) (0, 0)).1 < x2 → q < T.length - k' → ¬ ((T.drop k').getD q (0, 0)).1 < x2) := hide (fun hy _ => by rw [hDq]; exact hy)
        obtain ⟨y, hy⟩ : ∃ y, y = T.getD (k' + q) (0, 0) := ⟨_, rfl⟩
        rw [← hy] at r0 r1 HTk HAl2 HStp
        obtain ⟨y1, y2⟩ := y
        dsimp only at r0 r1 HAl2 HStp
        clear hc q0 q1 hy hDq
        have hqi : (q : Int) < ((T.length - k' : Nat) : Int) := by omega
        have hqi0 : (0 : Int) ≤ (q : Int) := by omega
        by_cases hy12 : y1 < x2
        · have hge : decide (x2 ≤ y1) = false := by simp; omega
          have HRw : Hid ((out ++ gapP x1 ((T.drop k').take (q + 1))).flatMap encE = ((out ++ gapP x1 ((T.drop k').take q)).flatMap encE) ++ [.int .i64 f0, .int .i64 y1]) := hide (by
            rw [HTk.out, gapP_snoc, ← HF0.out, ← List.append_assoc, List.flatMap_append]
            rfl)
          have HEn : Hid (gapEnd x1 ((T.drop k').take (q + 1)) = y2) := hide (by rw [HTk.out, gapEnd_snoc])
          have hby := new2 wr 24 (.int .i64 y1) (.int .i64 y2)
          have HT : Hid (∀ v5 w5, w5.ownsRow w3.heap.size 24 2 v5 (out.length + q + 1) (((out ++ gapP x1 ((T.drop k').take q)).flatMap encE) ++ [.int .i64 f0, .int .i64 y1]) → ((wr.alloc (.cells #[.int .i64 y1, .int .i64 y2] 24)).alloc (.cells #[.int .i64 f0, .int .i64 y1] 24)).grownBy w5 v.ownBlock → (v5.ownBlock = v.ownBlock ∨ v5.ownBlock = some ((wr.alloc (.cells #[.int .i64 y1, .int .i64 y2] 24)).alloc (.cells #[.int .i64 f0, .int .i64 y1] 24)).heap.size) →
              Boxed w5 w.heap.size 40 v ∧ InL w w2 w3 W bT g Bx (.slice (some ⟨bT, offT + k' * 2, none⟩) (T.length - k') (cT - k')) x1 x2 (w5.setCell ⟨w.heap.size, 0, none⟩ v5) v5 ∧ (w5.setCell ⟨w.heap.size, 0, none⟩ v5).ownsRow w3.heap.size 24 2 v5 (out.length + q + 1) (((out ++ gapP x1 ((T.drop k').take q)).flatMap encE) ++ [.int .i64 f0, .int .i64 y1])) :=
            hide (fun v5 w5 h5 h6 h7 => (HI.out.alloc (by omega) hgs.2 hsW0 (.cells #[.int .i64 y1, .int .i64 y2] 24)).added (by omega) (by omega) (by omega) hbT0 hgs.2 (by omega) hBx (HRo.out.alloc (.cells #[.int .i64 y1, .int .i64 y2] 24)) h5 h6 h7)
          have HYc : Hid (∀ w5, ((wr.alloc (.cells #[.int .i64 y1, .int .i64 y2] 24)).alloc (.cells #[.int .i64 f0, .int .i64 y1] 24)).grownBy w5 v.ownBlock → (w5.cell? ⟨wr.heap.size, 0, none⟩ = some (.int .i64 y1) ∧ w5.cell? ⟨wr.heap.size, 1, none⟩ = some (.int .i64 y2))) := hide (fun w5 hg5 => by
            have hnb : some wr.heap.size ≠ v.ownBlock := fun e => by have := (World.ownsRow.lt HRo.out _ e.symm).2; omega
            have h9 : w5.heap[wr.heap.size]? = some (.cells #[.int .i64 y1, .int .i64 y2] 24) := (hg5.block wr.heap.size (by simp; omega) hnb).trans (heap_alloc2_old wr _ _)
            simp only [World.cell?, h9]
            exact ⟨rfl, rfl⟩)
          clear hby
          gi_wp2_with (gi_at_builtin; refine wpListIn_append_own_at _ rfl (.tmp 35) (.tmp 40) 40 rfl w3.heap.size 24 i1 (.agg #[.int .i64 0, .int .i64 0]) 2 16 Tryz.underlying40 hi hz0 hz1 hz2 rfl (by decide) v (out.length + q) ((out ++ gapP x1 ((T.drop k').take q)).flatMap encE) rfl ((HRo.out.alloc (.cells #[.int .i64 y1, .int .i64 y2] 24)).alloc _) ⟨wr.heap.size + 1, 0, none⟩ 1 1 [.int .i64 f0, .int .i64 y1] rfl rfl (by have := new2 (wr.alloc (.cells #[.int .i64 y1, .int .i64 y2] 24)) 24 (.int .i64 f0) (.int .i64 y1); rw [World.size_alloc] at this; exact this) (by simp [Value.oneCell']) (by unfold maxLen; omega) (by omega) (by simp; omega) ?_; intro v5 w5 ho5 hg5 _ hv5; obtain ⟨g5, cap5, rfl⟩ := ownsRow_succ ho5; obtain ⟨b1, hI5, hr5⟩ := HT.out _ w5 ho5 hg5 hv5; have HI5 := hide hI5; have HR5 := hide hr5; have c1 := b1.cell; have f1 := b1.frozen; obtain ⟨k0, k1⟩ := HYc.out w5 hg5; clear ho5 hg5 b1 hv5 hI5 hr5)
          refine ⟨⟨q + 1, _, by omega, by go_num, by rw [HEn.out], HAl2.out hy12, HI5.out, ?_⟩, ?_⟩
          · rw [HRw.out]
            exact HR5.out
          · simp [intOf]; omega
        · have hge : decide (x2 ≤ y1) = true := by simp; omega
          have HT : Hid (∀ v5 w5, w5.ownsRow w3.heap.size 24 2 v5 (out.length + q + 1) (((out ++ gapP x1 ((T.drop k').take q)).flatMap encE) ++ [.int .i64 f0, .int .i64 x2]) → ((wr.alloc (.cells #[.int .i64 y1, .int .i64 y2] 24)).alloc (.cells #[.int .i64 f0, .int .i64 x2] 24)).grownBy w5 v.ownBlock → (v5.ownBlock = v.ownBlock ∨ v5.ownBlock = some ((wr.alloc (.cells #[.int .i64 y1, .int .i64 y2] 24)).alloc (.cells #[.int .i64 f0, .int .i64 x2] 24)).heap.size) →
              Boxed w5 w.heap.size 40 v ∧ InL w w2 w3 W bT g Bx (.slice (some ⟨bT, offT + k' * 2, none⟩) (T.length - k') (cT - k')) x1 x2 (w5.setCell ⟨w.heap.size, 0, none⟩ v5) v5 ∧ (w5.setCell ⟨w.heap.size, 0, none⟩ v5).ownsRow w3.heap.size 24 2 v5 (out.length + q + 1) (((out ++ gapP x1 ((T.drop k').take q)).flatMap encE) ++ [.int .i64 f0, .int .i64 x2])) :=
            hide (fun v5 w5 h5 h6 h7 => (HI.out.alloc (by omega) hgs.2 hsW0 (.cells #[.int .i64 y1, .int .i64 y2] 24)).added (by omega) (by omega) (by omega) hbT0 hgs.2 (by omega) hBx (HRo.out.alloc (.cells #[.int .i64 y1, .int .i64 y2] 24)) h5 h6 h7)
          gi_wp2_with (gi_at_builtin; refine wpListIn_append_own_at _ rfl (.tmp 45) (.tmp 50) 40 rfl w3.heap.size 24 i1 (.agg #[.int .i64 0, .int .i64 0]) 2 16 Tryz.underlying40 hi hz0 hz1 hz2 rfl (by decide) v (out.length + q) ((out ++ gapP x1 ((T.drop k').take q)).flatMap encE) rfl ((HRo.out.alloc (.cells #[.int .i64 y1, .int .i64 y2] 24)).alloc _) ⟨wr.heap.size + 1, 0, none⟩ 1 1 [.int .i64 f0, .int .i64 x2] rfl rfl (by have := new2 (wr.alloc (.cells #[.int .i64 y1, .int .i64 y2] 24)) 24 (.int .i64 f0) (.int .i64 x2); rw [World.size_alloc] at this; exact this) (by simp [Value.oneCell']) (by unfold maxLen; omega) (by omega) (by simp; omega) ?_; intro v5 w5 ho5 hg5 _ hv5; obtain ⟨g5, cap5, rfl⟩ := ownsRow_succ ho5; obtain ⟨b1, hI5, hr5⟩ := HT.out _ w5 ho5 hg5 hv5; have HI5 := hide hI5; have HR5 := hide hr5; have c1 := b1.cell; have f1 := b1.frozen; clear ho5 hg5 b1 hv5 hI5 hr5)
          have hfin := HFin.out q _ _ hq HAll.out (HStp.out hy12) HI5.out (by rw [← HF0.out]; exact HR5.out)
          refine ⟨hfin.1, hfin.2.1, ⟨?_, hfin.2.2.1.2⟩, hfin.2.2.2⟩
          obtain ⟨v9, h8, h9, _⟩ := hfin.2.2.1.1
          first | exact ⟨v9, h8, h9⟩ | exact ⟨v9, h8, h9, trivial⟩
      · have hqe : q = T.length - k' := by omega
        have HT : Hid (∀ v5 w5, w5.ownsRow w3.heap.size 24 2 v5 (out.length + q + 1) (((out ++ gapP x1 ((T.drop k').take q)).flatMap encE) ++ [.int .i64 f0, .int .i64 x2]) → (wr.alloc (.cells #[.int .i64 f0, .int .i64 x2] 24)).grownBy w5 v.ownBlock → (v5.ownBlock = v.ownBlock ∨ v5.ownBlock = some (wr.alloc (.cells #[.int .i64 f0, .int .i64 x2] 24)).heap.size) →
            Boxed w5 w.heap.size 40 v ∧ InL w w2 w3 W bT g Bx (.slice p' (T.length - k') (cT - k')) x1 x2 (w5.setCell ⟨w.heap.size, 0, none⟩ v5) v5 ∧ (w5.setCell ⟨w.heap.size, 0, none⟩ v5).ownsRow w3.heap.size 24 2 v5 (out.length + q + 1) (((out ++ gapP x1 ((T.drop k').take q)).flatMap encE) ++ [.int .i64 f0, .int .i64 x2])) :=
          hide (fun v5 w5 h5 h6 h7 => HI.out.added (by omega) (by omega) (by omega) hbT0 hgs.2 (by omega) hBx HRo.out h5 h6 h7)
        have hqn : ¬ (q : Int) < ((T.length - k' : Nat) : Int) := by omega
        clear hqe
        gi_wp2_with (gi_at_builtin; refine wpListIn_append_own_at _ rfl (.tmp 45) (.tmp 50) 40 rfl w3.heap.size 24 i1 (.agg #[.int .i64 0, .int .i64 0]) 2 16 Tryz.underlying40 hi hz0 hz1 hz2 rfl (by decide) v (out.length + q) ((out ++ gapP x1 ((T.drop k').take q)).flatMap encE) rfl (HRo.out.alloc _) ⟨wr.heap.size, 0, none⟩ 1 1 [.int .i64 f0, .int .i64 x2] rfl rfl (new2 wr 24 (.int .i64 f0) (.int .i64 x2)) (by simp [Value.oneCell']) (by unfold maxLen; omega) (by omega) (by simp; omega) ?_; intro v5 w5 ho5 hg5 _ hv5; obtain ⟨g5, cap5, rfl⟩ := ownsRow_succ ho5; obtain ⟨b1, hI5, hr5⟩ := HT.out _ w5 ho5 hg5 hv5; have HI5 := hide hI5; have HR5 := hide hr5; have c1 := b1.cell; have f1 := b1.frozen; clear ho5 hg5 b1 hv5 hI5 hr5)
        have hfin := HFin.out q _ _ hq HAll.out (fun h => absurd h hlt2) HI5.out (by rw [← HF0.out]; exact HR5.out)
        refine ⟨hfin.1, hfin.2.1, ⟨?_, hfin.2.2.1.2⟩, hfin.2.2.2⟩
        obtain ⟨v9, h8, h9, _⟩ := hfin.2.2.1.1
        first | exact ⟨v9, h8, h9⟩ | exact ⟨v9, h8, h9, trivial⟩

end Go.Proofs.YtjpdfchdgphdoaaGreatDoor.Oct
