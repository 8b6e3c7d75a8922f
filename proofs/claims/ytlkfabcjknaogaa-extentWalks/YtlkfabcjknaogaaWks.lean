/- For all parts and every number the statement ExtentWalks answers true and changes nothing that was there: the parts of the one form are gone through, numbered, as the document says; also from a beginning that was left. No condition (the statement itself lets go more than 30 parts, or far ones). -/
import Derived.Test.YtlkfabcjknaogaaRows
import Derived.Test.YtlkfabcjknaogaaJnd
import Derived.Test.YtlkfabcjknaogaaLgh
import Derived.Test.YtlkfabcjknaogaaNrr
import Derived.Test.YtlkfabcjknaogaaOpe
import Derived.Test.YtlkfabcjknaogaaRbl
import Derived.Test.YtlkfabcjknaogaaTak
import Derived.Test.YtlkfabcjknaogaaSrt
namespace Go.Proofs.Ytlkfabcjknaogaa.Oct
open Go.RowKit Go.Shelf Go.ChangeShapes Go.WideShapes Go.ChangeAt

attribute [local go_sem] Oper.semAt_some

theorem chg_set {X : Nat → Prop} {w A : World} {B : Nat} (h : Chg X w A) (hx : X B) (v : Value) : Chg X w (A.setCell ⟨B, 0, none⟩ v) :=
  ⟨h.os, h.tape, h.output, Nat.le_trans h.size (grownBy_setCell' A B v).size, fun k hk hn => ((grownBy_setCell' A B v).block k (Nat.lt_of_lt_of_le hk h.size) (fun e => by cases e; exact hn hx)).trans (h.block k hk hn)⟩
/-- What changes but a row above leaves all that changed. -/
theorem chg_row {X : Nat → Prop} {w A B : World} {row : Option Nat} (h : Chg X w A) (hg : A.grownBy B row) (hr : ∀ r, row = some r → w.heap.size ≤ r) : Chg X w B :=
  ⟨hg.os.trans h.os, hg.tape.trans h.tape, hg.output.trans h.output, Nat.le_trans h.size hg.size, fun k hk hx => (hg.block k (Nat.lt_of_lt_of_le hk h.size) (fun e => by have := hr k e.symm; omega)).trans (h.block k hk hx)⟩

set_option linter.unusedSimpArgs false in
set_option maxRecDepth 100000 in
set_option maxHeartbeats 8000000 in
theorem walks_walk (hS : SortSays) (w : World) (a : Option Addr) (c : Nat) (L : List (Int × Int)) (h : LiesE w a L) (sp : Int) :
    Calls Try.prog 3 #[.slice a L.length c, .int .i64 sp] w fun e w' => e = .returned (.bool true) ∧ Below w.heap.size w w' := by
  have HJ := fun u => hide (joined_any hS u)
  refine (callsIn_wide (n := 5)).1 ?_
  refine callsIn_of_wp_marks Try.func3 rfl trivial ?_ rfl
  simp only [Try.ntmps3, List.size_toArray, List.length_cons, List.length_nil, Nat.reduceAdd, Nat.reduceSub, Array.replicate_succ, Array.replicate_zero, List.push_toArray, List.append_toArray, List.nil_append, List.cons_append]
  have hb2 : Below w.heap.size w ((w.alloc (.cells #[.int .i64 sp] 3)).alloc (.cells #[.bool false] 4)) := ((Below.refl _ w).alloc (Nat.le_refl _) _).alloc (by simp) _
  have bS := (Boxed.new w 3 (.int .i64 sp)).alloc (.cells #[.bool false] 4)
  have bR := Boxed.new (w.alloc (.cells #[.int .i64 sp] 3)) 4 (.bool false)
  rw [World.size_alloc] at bR
  gi_wp2_with fail
  refine ⟨trivial, ?_⟩
  gi_at_call 4
  refine (callsIn_wide.2 (HJ _).out).mono ?_
  rintro e w3 ⟨rfl, hb3⟩
  have hsW : w.heap.size + 2 ≤ w3.heap.size := by have := hb3.size; simp at this; omega
  have bS3 : Boxed w3 w.heap.size 3 (.int .i64 sp) := (hb3.block _ (by simp; omega)).trans bS
  have bR3 : Boxed w3 (w.heap.size + 1) 4 (.bool false) := (hb3.block _ (by simp)).trans bR
  have hB3 : Below w.heap.size w w3 := hb2.trans (hb3.mono (by simp; omega))
  have HLi := hide (light_says w3 a c L (h.below hB3))
  clear bS bR hb3 hb2
  gi_wp2_with fail
  refine ⟨trivial, ?_⟩
  gi_at_call 5
  refine (callsIn_wide.2 HLi.out).mono ?_
  rintro e w4 (⟨rfl, h4⟩ | ⟨rfl, h4, hl30, hfar⟩)
  · subst h4
    gi_wp2_with fail
    refine ⟨trivial, ?_⟩
    gi_at_call 4
    refine (callsIn_wide.2 (HJ _).out).mono ?_
    rintro e w5 ⟨rfl, hb5⟩
    have bR5 : Boxed w5 (w.heap.size + 1) 4 (.bool false) := (hb5.block _ (by omega)).trans bR3
    have hB5 := hB3.trans (hb5.mono hB3.size)
    have c5 := bR5.cell
    have f5 := bR5.frozen
    have bR6 := bR5.set (.bool true)
    have hB6 := hB5.setCell (p := ⟨w.heap.size + 1, 0, none⟩) (by simp) (.bool true)
    clear bR5 bR3 hb5 HLi
    gi_wp2_with fail
    exact ⟨_, ret_bool rfl _ _ _ _ rfl bR6, rfl, hB6⟩
  subst h4
  have HN := hide (refnorm_any w4 a c L (h.below hB3) (by omega))
  gi_wp2_with fail
  refine ⟨trivial, ?_⟩
  gi_at_call 6
  refine (callsIn_wide.2 HN.out).mono ?_
  rintro e w5 ⟨v5, M, rfl, hO5, hRf, hM2, hb5⟩
  obtain ⟨av, cv, rfl, hlM, hMc, hcm, hav⟩ := hO5.form
  have hs5 := hb5.size
  have hB5 : Below w.heap.size w w5 := hB3.trans (hb5.mono hB3.size)
  have bS5 : Boxed w5 w.heap.size 3 (.int .i64 sp) := (hb5.block _ (by omega)).trans bS3
  have bR5 : Boxed w5 (w.heap.size + 1) 4 (.bool false) := (hb5.block _ (by omega)).trans bR3
  have bS6 := bS5.alloc (.cells #[.slice av M.length cv] 22)
  have cS6 := bS6.cell
  have fS6 := bS6.frozen
  clear bS5 HLi HN
  gi_wp2_with fail
  obtain ⟨st, hst⟩ : ∃ st, wrap64 ((IntKind.u64.wrap sp).tmod 8) = st := ⟨_, rfl⟩
  rw [hst]
  have bS7 := bS6.set (.int .i64 st)
  have hg7 := grownBy_setCell' (w5.alloc (.cells #[.slice av M.length cv] 22)) w.heap.size (.int .i64 st)
  have bR7 : Boxed _ (w.heap.size + 1) 4 (.bool false) := (bR5.alloc (.cells #[.slice av M.length cv] 22)).kept hg7 (by simp)
  have bW7 : Boxed _ w5.heap.size 22 (.slice av M.length cv) := (Boxed.new w5 22 (.slice av M.length cv)).kept hg7 (by simp; omega)
  have hO7 : OwnE _ w4.heap.size (.slice av M.length cv) M := World.ownsRow.kept (World.ownsRow.alloc hO5 (.cells #[.slice av M.length cv] 22)) hg7 (by
    cases hq : (Value.slice av M.length cv).ownBlock with
    | none => exact Or.inl rfl
    | some q =>
      right
      intro e
      have h1 := (World.ownsRow.lt hO5 q hq).1
      simp at e
      omega)
  have hB7 := (hB5.alloc (o := .cells #[.slice av M.length cv] 22) hB5.size).setCell (p := ⟨w.heap.size, 0, none⟩) (by simp) (.int .i64 st)
  have hsz7 : ((w5.alloc (.cells #[.slice av M.length cv] 22)).setCell ⟨w.heap.size, 0, none⟩ (.int .i64 st)).heap.size = w5.heap.size + 1 := by simp
  generalize (w5.alloc (.cells #[.slice av M.length cv] 22)).setCell ⟨w.heap.size, 0, none⟩ (.int .i64 st) = w6 at *
  clear hg7 bS6 cS6 fS6 bR5 hst hlM hav
  have HA := hide (all_any hS w6 a c L (h.below hB7) (by omega))
  refine ⟨trivial, ?_⟩
  gi_at_call 7
  refine (callsIn_wide.2 HA.out).mono ?_
  rintro e w7 ⟨Bs, g, a', c', N, rfl, hG⟩
  have hNM : N = M := hRf.same hG.norm
  subst hNM
  have hs7 := hG.below.size
  have hgs := hG.gs
  have hbs := hG.bs
  obtain ⟨s23, hs23⟩ : ∃ s, IntKind.u64.wrap sp = s := ⟨_, rfl⟩
  obtain ⟨s24, hs24⟩ : ∃ s, s23.tmod 8 = s := ⟨_, rfl⟩
  have hNl : N.length ≤ 2000 := hM2
  have hbS1 : Boxed (w7.alloc (.cells #[.int .i64 0] 3)) w.heap.size 3 (.int .i64 st) := Boxed.alloc ((hG.below.block _ (by omega)).trans bS7) _
  have hbR1 : Boxed (w7.alloc (.cells #[.int .i64 0] 3)) (w.heap.size + 1) 4 (.bool false) := Boxed.alloc ((hG.below.block _ (by omega)).trans bR7) _
  have hbW1 : Boxed (w7.alloc (.cells #[.int .i64 0] 3)) w5.heap.size 22 (.slice av N.length cv) := Boxed.alloc ((hG.below.block _ (by omega)).trans bW7) _
  have hO1 : OwnE (w7.alloc (.cells #[.int .i64 0] 3)) w4.heap.size (.slice av N.length cv) N := (hO7.below hG.below).below ((Below.refl _ _).alloc (Nat.le_refl _) _)
  have hOne : ∀ q, (Value.slice av N.length cv).ownBlock = some q → q < w7.heap.size := fun q hq => (World.ownsRow.lt (hO7.below hG.below) q hq).2
  have hbn1 : Boxed (w7.alloc (.cells #[.int .i64 0] 3)) w7.heap.size 3 (.int .i64 ((([] : List (Nat × (Int × Int))).length : Nat) : Int)) := Boxed.new w7 3 (.int .i64 0)
  have hB1 : Below w.heap.size w (w7.alloc (.cells #[.int .i64 0] 3)) := (hB7.trans (hG.below.mono hB7.size)).alloc (Nat.le_trans hB7.size hG.below.size) _
  have hbA : Below w7.heap.size w7 (w7.alloc (.cells #[.int .i64 0] 3)) := (Below.refl _ _).alloc (Nat.le_refl _) _
  have hBs1 : Bs < (w7.alloc (.cells #[.int .i64 0] 3)).heap.size ∧ (w7.alloc (.cells #[.int .i64 0] 3)).cell? ⟨Bs, 0, none⟩ = some (.slice a' N.length c') := ⟨Nat.lt_of_lt_of_le hbs.2 hbA.size, (hbA.cell (p := ⟨Bs, 0, none⟩) hbs.2).trans hG.box⟩
  have hgl1 : g < (w7.alloc (.cells #[.int .i64 0] 3)).heap.size := Nat.lt_of_lt_of_le hgs.2 hbA.size
  have hLg1 : LiesG (w7.alloc (.cells #[.int .i64 0] 3)) a' g N := hG.lies.keep (KeepB.of_below hbA hgs.2)
  have hs8 : (w7.alloc (.cells #[.int .i64 0] 3)).heap.size = w7.heap.size + 1 := by simp
  rw [hs23, hs24]
  gi_wp2_with fail
  generalize w7.alloc (.cells #[.int .i64 0] 3) = w8 at *
  clear bS7 bR7 bW7 hO7 hO5 HA hbA hs23 hs24
  refine wpIn_rangeFunc_ownH rfl (by omega) (gf := 14) (lb := #[.pointer (some ⟨Bs, 0, none⟩)]) rfl trivial (enters_of Try.func14 (by kernel_rfl) rfl)
    (all_stops Fence.wide 4 trivial rfl (by omega) Bs g c' a' N (by omega) w8 hBs1.1 hgl1 hBs1.2 hLg1) KeepB.trans (fun W l o o' hl ho h1 h2 => KeepB.of_below (belowK_b (Nat.le_refl _) W l o o' hl ho h1 h2) hgl1) (Below.refl _ _) (fun _ => rfl)
    (fun (pre : List (Nat × (Int × Int))) W => Boxed W w7.heap.size 3 (.int .i64 (pre.length : Int)) ∧ Chg (fun k => k = w7.heap.size) w8 W)
    (fun cd pre W => (cd = .exit 0 ∧ True ∧ (∃ n, Boxed W w7.heap.size 3 (.int .i64 n)) ∧ Chg (fun k => k = w7.heap.size) w8 W) ∨ (cd = .ret ∧ ¬ ∃ k, k ≤ N.length ∧ pre = upto N k))
    (fun s A B row hs hg hr => ⟨hs.1.kept hg (fun e => by
        obtain ⟨o, ho, hc⟩ := (hr _ e.symm).2
        rw [show A.heap[w7.heap.size]? = _ from hs.1] at ho
        cases ho
        cases hc), chg_row hs.2 hg (fun r e => (hr r e).1)⟩)
    (fun cd s A B row hs hg hr => by
      rcases hs with ⟨h1, h2, ⟨n, h3⟩, h4⟩ | h1
      · refine Or.inl ⟨h1, h2, ⟨n, h3.kept hg (fun e => ?_)⟩, chg_row h4 hg (fun r e => (hr r e).1)⟩
        obtain ⟨o, ho, hc⟩ := (hr _ e.symm).2
        rw [show A.heap[w7.heap.size]? = _ from h3] at ho
        cases ho
        cases hc
      · exact Or.inr h1)
    ⟨hbn1, Chg.refl _ _⟩
    (fun x af W => ∃ Bx, w8.heap.size ≤ Bx ∧ W.heap[Bx]? = some (.cells #[.int .i64 x.2.1, .int .i64 x.2.2] 32 (0, 0)) ∧ af = { tmps := #[.slice a L.length c, .int .i64 sp, undef, .pointer (some ⟨w.heap.size, 0, none⟩), .pointer (some ⟨w.heap.size + 1, 0, none⟩), .pointer (some ⟨w5.heap.size, 0, none⟩), .func (.func 14) #[] #[.pointer (some ⟨Bs, 0, none⟩)], .pointer (some ⟨w7.heap.size, 0, none⟩), .int .i64 x.1, .pointer (some ⟨Bx, 0, none⟩), undef, undef, .bool true, .bool false, .bool false, .slice a L.length c, .bool true, .bool false, .bool false, undef, .slice a L.length c, .slice av N.length cv, .int .i64 sp, .int .u64 s23, .int .u64 s24, .int .i64 st, .slice a L.length c, .func (.func 14) #[] #[.pointer (some ⟨Bs, 0, none⟩)], .func (.func 14) #[] #[.pointer (some ⟨Bs, 0, none⟩)], .int .i64 x.1, .agg #[.int .i64 x.2.1, .int .i64 x.2.2], undef, undef, undef, undef, undef, undef, undef, undef, undef, undef, undef, undef, undef, undef, undef, undef, undef, undef, undef, undef, undef, undef, undef, undef, undef, undef, undef, undef, undef, undef, undef, undef, undef, undef, undef, undef, undef, undef, undef, undef, undef, undef, undef, undef, undef, undef, undef, undef, undef, undef, undef], defers := [] })
    (fun x af _ X Y row hs hg hr => by
      obtain ⟨Bx, h1, h2, h3⟩ := hs
      refine ⟨Bx, h1, (hg.block Bx (Array.getElem?_eq_some_iff.1 h2).1 (fun e => ?_)).trans h2, h3⟩
      obtain ⟨o, ho, hc⟩ := (hr Bx e.symm).2
      rw [h2] at ho
      cases ho
      cases hc)
    ?assign1 ?body1 ?done1 ?stop1
  case assign1 =>
    rintro l pre x W K ⟨hb1, hc1⟩ hK
    obtain ⟨xi, x1, x2⟩ := x
    dsimp only [encP] at *
    gi_wp2
    exact hK _ _ ((KeepsOthers.alloc _ _).from _) ((KeepB.refl g W).alloc (Nat.lt_of_lt_of_le hgl1 hc1.size) _) ⟨hb1.alloc _, hc1.alloc _⟩ ⟨W.heap.size, hc1.size, World.alloc_heap_new W _, rfl⟩
  case body1 =>
    rintro l pre x af W hl ⟨r, hr⟩ ⟨hb1, hc1⟩ ⟨Bx, hBx, bX, rfl⟩ hlt
    obtain ⟨xi, x1, x2⟩ := x
    dsimp only at bX ⊢
    have hbn := hb1.cell
    have hbf := hb1.frozen
    have bSt : Boxed W w.heap.size 3 (.int .i64 st) := (hc1.block _ hbS1.lt (by omega)).trans hbS1
    have bRs : Boxed W (w.heap.size + 1) 4 (.bool false) := (hc1.block _ hbR1.lt (by omega)).trans hbR1
    have bWt : Boxed W w5.heap.size 22 (.slice av N.length cv) := (hc1.block _ hbW1.lt (by omega)).trans hbW1
    have cSt := bSt.cell
    have cRs := bRs.cell
    have fRs := bRs.frozen
    have cWt := bWt.cell
    have hOw : OwnE W w4.heap.size (.slice av N.length cv) N := ownsRow_chg hO1 hc1 (fun q hq e => by
      have h1 := (World.ownsRow.lt hO1 q hq)
      have h2 := hOne q hq
      omega)
    obtain ⟨cX0, cX1⟩ : W.cell? ⟨Bx, 0, none⟩ = some (.int .i64 x1) ∧ W.cell? ⟨Bx, 1, none⟩ = some (.int .i64 x2) := by simp only [World.cell?, bX]; exact ⟨rfl, rfl⟩
    have hpl : pre.length ≤ 2000 := by omega
    obtain ⟨av2, cv2, hav, hlW, _, _, _⟩ := hOw.form
    simp only [Value.slice.injEq, true_and] at hav
    obtain ⟨rfl, rfl⟩ := hav
    rcases hlW with hnil | ⟨bw, ow, rfl, hbw, hcw⟩
    · rw [hnil] at hlt
      simp at hlt
    obtain ⟨cY0, cY1⟩ := hcw pre.length hlt
    obtain ⟨y, hy⟩ : ∃ y, N.getD pre.length (0, 0) = y := ⟨_, rfl⟩
    obtain ⟨y1, y2⟩ := y
    rw [hy] at cY0 cY1
    dsimp only at cY0 cY1
    have HY := hide hy
    have HHlt := hide hlt
    clear hcw hOw hy
    have hno : (xi ≠ pre.length ∨ (x1, x2) ≠ (y1, y2)) → ¬ ∃ k, k ≤ N.length ∧ pre ++ [(xi, (x1, x2))] = upto N k := by
      rintro hne ⟨k, hk, he⟩
      have hlk : k = pre.length + 1 := by have := congrArg List.length he; rw [upto_length] at this; simpa using this.symm
      subst hlk
      rw [upto_succ] at he
      have := (List.append_inj' he rfl).2
      simp only [List.cons.injEq, and_true, Prod.mk.injEq] at this
      have h2 := HY.out
      rcases hne with h | h
      · exact h this.1
      · apply h
        rw [← h2]
        exact this.2
    have HNo : Hid ((xi ≠ pre.length ∨ (x1, x2) ≠ (y1, y2)) → ∀ k, k ≤ N.length → ¬ pre ++ [(xi, (x1, x2))] = upto N k) := hide (fun hq k hk he => hno hq ⟨k, hk, he⟩)
    clear hno
    by_cases hst : st ≤ (pre.length : Int)
    · have hd0 : decide (st ≤ (pre.length : Int)) = true := by simpa using hst
      refine wpIn_block ?_
      gi_wp2
      exact ⟨(KeepsOthers.refl W).from _, Or.inl ⟨rfl, trivial, ⟨_, hb1⟩, hc1⟩⟩
    have hd0 : decide (st ≤ (pre.length : Int)) = false := by simpa using hst
    by_cases hxi : xi = pre.length
    rotate_left
    · refine wpIn_block ?_
      gi_wp2
      have hne0 : ((xi : Int) != (pre.length : Int)) = true := by simp; omega
      have hH : (fun u => u.cell? ⟨w7.heap.size, 0, none⟩ = some (.int .i64 (pre.length : Int)) ∧ u.cell? ⟨w5.heap.size, 0, none⟩ = some (.slice (some ⟨bw, ow, none⟩) N.length cv) ∧ u.cell? ⟨Bx, 0, none⟩ = some (.int .i64 x1) ∧ u.cell? ⟨Bx, 1, none⟩ = some (.int .i64 x2) ∧ u.cell? ⟨bw, ow + pre.length * 2, none⟩ = some (.int .i64 y1) ∧ u.cell? ⟨bw, ow + pre.length * 2 + 1, none⟩ = some (.int .i64 y2)) W.drew := ⟨hbn, cWt, cX0, cX1, cY0, cY1⟩
      refine region_round (fun u => u.cell? ⟨w7.heap.size, 0, none⟩ = some (.int .i64 (pre.length : Int)) ∧ u.cell? ⟨w5.heap.size, 0, none⟩ = some (.slice (some ⟨bw, ow, none⟩) N.length cv) ∧ u.cell? ⟨Bx, 0, none⟩ = some (.int .i64 x1) ∧ u.cell? ⟨Bx, 1, none⟩ = some (.int .i64 x2) ∧ u.cell? ⟨bw, ow + pre.length * 2, none⟩ = some (.int .i64 y1) ∧ u.cell? ⟨bw, ow + pre.length * 2 + 1, none⟩ = some (.int .i64 y2)) (by kernel_rfl) (by kernel_rfl) ?_
      refine any_take 0 (some 34) (.int .i64 (xi : Int)) rfl rfl (by kernel_rfl) (by kernel_rfl) (by kernel_rfl) (fun _ _ _ h => h) (by rfl) hH ?_ ?_
      · intro w hSw
        obtain ⟨q0, q1, q2, q3, q4, q5⟩ := hSw
        go_simp
      simp only [Act.put, List.setIfInBounds_toArray, List.set_cons_zero, List.set_cons_succ]
      refine any_take 1 (some 35) (.int .i64 (pre.length : Int)) rfl rfl (by kernel_rfl) (by kernel_rfl) (by kernel_rfl) (fun _ _ _ h => h) (by rfl) hH ?_ ?_
      · intro w hSw
        obtain ⟨q0, q1, q2, q3, q4, q5⟩ := hSw
        go_simp
      simp only [Act.put, List.setIfInBounds_toArray, List.set_cons_zero, List.set_cons_succ]
      refine any_take 2 (some 36) (.bool true) rfl rfl (by kernel_rfl) (by kernel_rfl) (by kernel_rfl) (fun _ _ _ h => h) (by rfl) hH ?_ ?_
      · intro w hSw
        obtain ⟨q0, q1, q2, q3, q4, q5⟩ := hSw
        go_simp
      simp only [Act.put, List.setIfInBounds_toArray, List.set_cons_zero, List.set_cons_succ]
      refine any_take 3 (some 37) (.bool true) rfl rfl (by kernel_rfl) (by kernel_rfl) (by kernel_rfl) (fun _ _ _ h => h) (by rfl) hH ?_ ?_
      · intro w hSw
        obtain ⟨q0, q1, q2, q3, q4, q5⟩ := hSw
        go_simp
      simp only [Act.put, List.setIfInBounds_toArray, List.set_cons_zero, List.set_cons_succ]
      refine any_skip 4 (some 38) rfl rfl (by kernel_rfl) (by kernel_rfl) (by kernel_rfl) (fun _ _ _ h => h) (by rfl) hH ?_
      simp only [Act.put, List.setIfInBounds_toArray, List.set_cons_zero, List.set_cons_succ]
      refine any_skip 5 (some 39) rfl rfl (by kernel_rfl) (by kernel_rfl) (by kernel_rfl) (fun _ _ _ h => h) (by rfl) hH ?_
      simp only [Act.put, List.setIfInBounds_toArray, List.set_cons_zero, List.set_cons_succ]
      refine any_skip 6 (some 40) rfl rfl (by kernel_rfl) (by kernel_rfl) (by kernel_rfl) (fun _ _ _ h => h) (by rfl) hH ?_
      simp only [Act.put, List.setIfInBounds_toArray, List.set_cons_zero, List.set_cons_succ]
      refine any_skip 7 (some 41) rfl rfl (by kernel_rfl) (by kernel_rfl) (by kernel_rfl) (fun _ _ _ h => h) (by rfl) hH ?_
      simp only [Act.put, List.setIfInBounds_toArray, List.set_cons_zero, List.set_cons_succ]
      refine any_take 8 (some 42) (.bool true) rfl rfl (by kernel_rfl) (by kernel_rfl) (by kernel_rfl) (fun _ _ _ h => h) (by rfl) hH ?_ ?_
      · intro w hSw
        obtain ⟨q0, q1, q2, q3, q4, q5⟩ := hSw
        go_simp
      simp only [Act.put, List.setIfInBounds_toArray, List.set_cons_zero, List.set_cons_succ]
      refine any_take 9 (some 43) (.bool true) rfl rfl (by kernel_rfl) (by kernel_rfl) (by kernel_rfl) (fun _ _ _ h => h) (by rfl) hH ?_ ?_
      · intro w hSw
        obtain ⟨q0, q1, q2, q3, q4, q5⟩ := hSw
        go_simp
      simp only [Act.put, List.setIfInBounds_toArray, List.set_cons_zero, List.set_cons_succ]
      refine any_skip 10 (some 44) rfl rfl (by kernel_rfl) (by kernel_rfl) (by kernel_rfl) (fun _ _ _ h => h) (by rfl) hH ?_
      simp only [Act.put, List.setIfInBounds_toArray, List.set_cons_zero, List.set_cons_succ]
      refine any_skip 11 (some 45) rfl rfl (by kernel_rfl) (by kernel_rfl) (by kernel_rfl) (fun _ _ _ h => h) (by rfl) hH ?_
      simp only [Act.put, List.setIfInBounds_toArray, List.set_cons_zero, List.set_cons_succ]
      refine any_skip 12 (some 46) rfl rfl (by kernel_rfl) (by kernel_rfl) (by kernel_rfl) (fun _ _ _ h => h) (by rfl) hH ?_
      simp only [Act.put, List.setIfInBounds_toArray, List.set_cons_zero, List.set_cons_succ]
      refine any_skip 13 (some 47) rfl rfl (by kernel_rfl) (by kernel_rfl) (by kernel_rfl) (fun _ _ _ h => h) (by rfl) hH ?_
      simp only [Act.put, List.setIfInBounds_toArray, List.set_cons_zero, List.set_cons_succ]
      refine any_skip 14 (some 48) rfl rfl (by kernel_rfl) (by kernel_rfl) (by kernel_rfl) (fun _ _ _ h => h) (by rfl) hH ?_
      simp only [Act.put, List.setIfInBounds_toArray, List.set_cons_zero, List.set_cons_succ]
      refine any_skip 15 (some 49) rfl rfl (by kernel_rfl) (by kernel_rfl) (by kernel_rfl) (fun _ _ _ h => h) (by rfl) hH ?_
      simp only [Act.put, List.setIfInBounds_toArray, List.set_cons_zero, List.set_cons_succ]
      refine any_take 16 (some 50) (.bool true) rfl rfl (by kernel_rfl) (by kernel_rfl) (by kernel_rfl) (fun _ _ _ h => h) (by rfl) hH ?_ ?_
      · intro w hSw
        obtain ⟨q0, q1, q2, q3, q4, q5⟩ := hSw
        go_simp
      simp only [Act.put, List.setIfInBounds_toArray, List.set_cons_zero, List.set_cons_succ]
      refine wpAnyH_done (by kernel_rfl) ?_ _
      apply_assumption
      gi_wp2
      refine ⟨(KeepsOthers.trans (KeepsOthers.drew W) (KeepsOthers.setCell _ _ _)).from _, ?_⟩
      first
        | exact Or.inr ⟨rfl, HNo.out (Or.inl hxi)⟩
        | exact Or.inr ⟨rfl, fun ⟨k, hk, he⟩ => HNo.out (Or.inl hxi) k hk he⟩
        | exact ⟨rfl, HNo.out (Or.inl hxi)⟩
        | exact ⟨rfl, fun ⟨k, hk, he⟩ => HNo.out (Or.inl hxi) k hk he⟩
    subst hxi
    have hne0 : ((pre.length : Int) != (pre.length : Int)) = false := by simp
    have hge0 : decide ((N.length : Int) ≤ (pre.length : Int)) = false := by simp; omega
    have hge1 : ¬ N.length ≤ pre.length := by omega
    have hge2 : decide (N.length ≤ pre.length) = false := by simp; omega
    have hgx := fun u op p q => guard_E u op p q #[.int .i64 x1, .int .i64 x2] #[.int .i64 y1, .int .i64 y2]
    have hix : (pre.length : Int) < (N.length : Int) := by omega
    have hH : (fun u => u.cell? ⟨w7.heap.size, 0, none⟩ = some (.int .i64 (pre.length : Int)) ∧ u.cell? ⟨w5.heap.size, 0, none⟩ = some (.slice (some ⟨bw, ow, none⟩) N.length cv) ∧ u.cell? ⟨Bx, 0, none⟩ = some (.int .i64 x1) ∧ u.cell? ⟨Bx, 1, none⟩ = some (.int .i64 x2) ∧ u.cell? ⟨bw, ow + pre.length * 2, none⟩ = some (.int .i64 y1) ∧ u.cell? ⟨bw, ow + pre.length * 2 + 1, none⟩ = some (.int .i64 y2)) W.drew := ⟨hbn, cWt, cX0, cX1, cY0, cY1⟩
    by_cases hxy : (x1, x2) = (y1, y2)
    · refine wpIn_block ?_
      gi_wp2
      have hqq := fun u : World => neq_E u (x1, x2) (y1, y2) true (by simpa using hxy)
      simp only [Bool.not_true] at hqq
      refine region_round (fun u => u.cell? ⟨w7.heap.size, 0, none⟩ = some (.int .i64 (pre.length : Int)) ∧ u.cell? ⟨w5.heap.size, 0, none⟩ = some (.slice (some ⟨bw, ow, none⟩) N.length cv) ∧ u.cell? ⟨Bx, 0, none⟩ = some (.int .i64 x1) ∧ u.cell? ⟨Bx, 1, none⟩ = some (.int .i64 x2) ∧ u.cell? ⟨bw, ow + pre.length * 2, none⟩ = some (.int .i64 y1) ∧ u.cell? ⟨bw, ow + pre.length * 2 + 1, none⟩ = some (.int .i64 y2)) (by kernel_rfl) (by kernel_rfl) ?_
      refine any_take 0 (some 34) (.int .i64 (pre.length : Int)) rfl rfl (by kernel_rfl) (by kernel_rfl) (by kernel_rfl) (fun _ _ _ h => h) (by rfl) hH ?_ ?_
      · intro w hSw
        obtain ⟨q0, q1, q2, q3, q4, q5⟩ := hSw
        go_simp
      simp only [Act.put, List.setIfInBounds_toArray, List.set_cons_zero, List.set_cons_succ]
      refine any_take 1 (some 35) (.int .i64 (pre.length : Int)) rfl rfl (by kernel_rfl) (by kernel_rfl) (by kernel_rfl) (fun _ _ _ h => h) (by rfl) hH ?_ ?_
      · intro w hSw
        obtain ⟨q0, q1, q2, q3, q4, q5⟩ := hSw
        go_simp
      simp only [Act.put, List.setIfInBounds_toArray, List.set_cons_zero, List.set_cons_succ]
      refine any_take 2 (some 36) (.bool false) rfl rfl (by kernel_rfl) (by kernel_rfl) (by kernel_rfl) (fun _ _ _ h => h) (by rfl) hH ?_ ?_
      · intro w hSw
        obtain ⟨q0, q1, q2, q3, q4, q5⟩ := hSw
        go_simp
      simp only [Act.put, List.setIfInBounds_toArray, List.set_cons_zero, List.set_cons_succ]
      refine any_take 3 (some 37) (.bool false) rfl rfl (by kernel_rfl) (by kernel_rfl) (by kernel_rfl) (fun _ _ _ h => h) (by rfl) hH ?_ ?_
      · intro w hSw
        obtain ⟨q0, q1, q2, q3, q4, q5⟩ := hSw
        go_simp
      simp only [Act.put, List.setIfInBounds_toArray, List.set_cons_zero, List.set_cons_succ]
      refine any_take 4 (some 38) (.int .i64 (pre.length : Int)) rfl rfl (by kernel_rfl) (by kernel_rfl) (by kernel_rfl) (fun _ _ _ h => h) (by rfl) hH ?_ ?_
      · intro w hSw
        obtain ⟨q0, q1, q2, q3, q4, q5⟩ := hSw
        go_simp
      simp only [Act.put, List.setIfInBounds_toArray, List.set_cons_zero, List.set_cons_succ]
      refine any_take 5 (some 39) (.slice (some ⟨bw, ow, none⟩) N.length cv) rfl rfl (by kernel_rfl) (by kernel_rfl) (by kernel_rfl) (fun _ _ _ h => h) (by rfl) hH ?_ ?_
      · intro w hSw
        obtain ⟨q0, q1, q2, q3, q4, q5⟩ := hSw
        go_simp
      simp only [Act.put, List.setIfInBounds_toArray, List.set_cons_zero, List.set_cons_succ]
      refine any_take 6 (some 40) (.int .i64 (N.length : Int)) rfl rfl (by kernel_rfl) (by kernel_rfl) (by kernel_rfl) (fun _ _ _ h => h) (by rfl) hH ?_ ?_
      · intro w hSw
        obtain ⟨q0, q1, q2, q3, q4, q5⟩ := hSw
        go_simp
      simp only [Act.put, List.setIfInBounds_toArray, List.set_cons_zero, List.set_cons_succ]
      refine any_take 7 (some 41) (.bool false) rfl rfl (by kernel_rfl) (by kernel_rfl) (by kernel_rfl) (fun _ _ _ h => h) (by rfl) hH ?_ ?_
      · intro w hSw
        obtain ⟨q0, q1, q2, q3, q4, q5⟩ := hSw
        go_simp
      simp only [Act.put, List.setIfInBounds_toArray, List.set_cons_zero, List.set_cons_succ]
      refine any_take 8 (some 42) (.bool false) rfl rfl (by kernel_rfl) (by kernel_rfl) (by kernel_rfl) (fun _ _ _ h => h) (by rfl) hH ?_ ?_
      · intro w hSw
        obtain ⟨q0, q1, q2, q3, q4, q5⟩ := hSw
        go_simp
      simp only [Act.put, List.setIfInBounds_toArray, List.set_cons_zero, List.set_cons_succ]
      refine any_take 9 (some 43) (.bool false) rfl rfl (by kernel_rfl) (by kernel_rfl) (by kernel_rfl) (fun _ _ _ h => h) (by rfl) hH ?_ ?_
      · intro w hSw
        obtain ⟨q0, q1, q2, q3, q4, q5⟩ := hSw
        go_simp
      simp only [Act.put, List.setIfInBounds_toArray, List.set_cons_zero, List.set_cons_succ]
      refine any_take 10 (some 44) (.agg #[.int .i64 x1, .int .i64 x2]) rfl rfl (by kernel_rfl) (by kernel_rfl) (by kernel_rfl) (fun _ _ _ h => h) (by rfl) hH ?_ ?_
      · intro w hSw
        obtain ⟨q0, q1, q2, q3, q4, q5⟩ := hSw
        go_simp
      simp only [Act.put, List.setIfInBounds_toArray, List.set_cons_zero, List.set_cons_succ]
      refine any_take 11 (some 45) (.slice (some ⟨bw, ow, none⟩) N.length cv) rfl rfl (by kernel_rfl) (by kernel_rfl) (by kernel_rfl) (fun _ _ _ h => h) (by rfl) hH ?_ ?_
      · intro w hSw
        obtain ⟨q0, q1, q2, q3, q4, q5⟩ := hSw
        go_simp
      simp only [Act.put, List.setIfInBounds_toArray, List.set_cons_zero, List.set_cons_succ]
      refine any_take 12 (some 46) (.int .i64 (pre.length : Int)) rfl rfl (by kernel_rfl) (by kernel_rfl) (by kernel_rfl) (fun _ _ _ h => h) (by rfl) hH ?_ ?_
      · intro w hSw
        obtain ⟨q0, q1, q2, q3, q4, q5⟩ := hSw
        go_simp
      simp only [Act.put, List.setIfInBounds_toArray, List.set_cons_zero, List.set_cons_succ]
      refine any_take 13 (some 47) (.pointer (some ⟨bw, ow + pre.length * 2, none⟩)) rfl rfl (by kernel_rfl) (by kernel_rfl) (by kernel_rfl) (fun _ _ _ h => h) (by rfl) hH ?_ ?_
      · intro w hSw
        obtain ⟨q0, q1, q2, q3, q4, q5⟩ := hSw
        go_simp
      simp only [Act.put, List.setIfInBounds_toArray, List.set_cons_zero, List.set_cons_succ]
      refine any_take 14 (some 48) (.agg #[.int .i64 y1, .int .i64 y2]) rfl rfl (by kernel_rfl) (by kernel_rfl) (by kernel_rfl) (fun _ _ _ h => h) (by rfl) hH ?_ ?_
      · intro w hSw
        obtain ⟨q0, q1, q2, q3, q4, q5⟩ := hSw
        go_simp
      simp only [Act.put, List.setIfInBounds_toArray, List.set_cons_zero, List.set_cons_succ]
      refine any_take 15 (some 49) (.bool false) rfl rfl (by kernel_rfl) (by kernel_rfl) (by kernel_rfl) (fun _ _ _ h => h) (by rfl) hH ?_ ?_
      · intro w hSw
        obtain ⟨q0, q1, q2, q3, q4, q5⟩ := hSw
        go_simp
      simp only [Act.put, List.setIfInBounds_toArray, List.set_cons_zero, List.set_cons_succ]
      refine any_take 16 (some 50) (.bool false) rfl rfl (by kernel_rfl) (by kernel_rfl) (by kernel_rfl) (fun _ _ _ h => h) (by rfl) hH ?_ ?_
      · intro w hSw
        obtain ⟨q0, q1, q2, q3, q4, q5⟩ := hSw
        go_simp
      simp only [Act.put, List.setIfInBounds_toArray, List.set_cons_zero, List.set_cons_succ]
      refine wpAnyH_done (by kernel_rfl) ?_ _
      apply_assumption
      gi_wp2
      refine ⟨(KeepsOthers.trans (KeepsOthers.drew W) (KeepsOthers.setCell _ _ _)).from _, ⟨(grownBy_setCell' W.drew w7.heap.size _).size, (grownBy_setCell' W.drew w7.heap.size _).block g (Nat.lt_of_lt_of_le hgl1 hc1.size) (by simp; omega)⟩, ?_, chg_set hc1.drew rfl _⟩
      have hb9 := hb1.set (.int .i64 ((pre.length : Int) + 1))
      have hb10 : Boxed (W.setCell ⟨w7.heap.size, 0, none⟩ (.int .i64 ((pre.length : Int) + 1))).drew w7.heap.size 3 (.int .i64 ((pre.length : Int) + 1)) := hb9
      simpa using hb10
    · refine wpIn_block ?_
      gi_wp2
      have hqq := fun u : World => neq_E u (x1, x2) (y1, y2) false (by simpa using hxy)
      simp only [Bool.not_false] at hqq
      refine region_round (fun u => u.cell? ⟨w7.heap.size, 0, none⟩ = some (.int .i64 (pre.length : Int)) ∧ u.cell? ⟨w5.heap.size, 0, none⟩ = some (.slice (some ⟨bw, ow, none⟩) N.length cv) ∧ u.cell? ⟨Bx, 0, none⟩ = some (.int .i64 x1) ∧ u.cell? ⟨Bx, 1, none⟩ = some (.int .i64 x2) ∧ u.cell? ⟨bw, ow + pre.length * 2, none⟩ = some (.int .i64 y1) ∧ u.cell? ⟨bw, ow + pre.length * 2 + 1, none⟩ = some (.int .i64 y2)) (by kernel_rfl) (by kernel_rfl) ?_
      refine any_take 0 (some 34) (.int .i64 (pre.length : Int)) rfl rfl (by kernel_rfl) (by kernel_rfl) (by kernel_rfl) (fun _ _ _ h => h) (by rfl) hH ?_ ?_
      · intro w hSw
        obtain ⟨q0, q1, q2, q3, q4, q5⟩ := hSw
        go_simp
      simp only [Act.put, List.setIfInBounds_toArray, List.set_cons_zero, List.set_cons_succ]
      refine any_take 1 (some 35) (.int .i64 (pre.length : Int)) rfl rfl (by kernel_rfl) (by kernel_rfl) (by kernel_rfl) (fun _ _ _ h => h) (by rfl) hH ?_ ?_
      · intro w hSw
        obtain ⟨q0, q1, q2, q3, q4, q5⟩ := hSw
        go_simp
      simp only [Act.put, List.setIfInBounds_toArray, List.set_cons_zero, List.set_cons_succ]
      refine any_take 2 (some 36) (.bool false) rfl rfl (by kernel_rfl) (by kernel_rfl) (by kernel_rfl) (fun _ _ _ h => h) (by rfl) hH ?_ ?_
      · intro w hSw
        obtain ⟨q0, q1, q2, q3, q4, q5⟩ := hSw
        go_simp
      simp only [Act.put, List.setIfInBounds_toArray, List.set_cons_zero, List.set_cons_succ]
      refine any_take 3 (some 37) (.bool false) rfl rfl (by kernel_rfl) (by kernel_rfl) (by kernel_rfl) (fun _ _ _ h => h) (by rfl) hH ?_ ?_
      · intro w hSw
        obtain ⟨q0, q1, q2, q3, q4, q5⟩ := hSw
        go_simp
      simp only [Act.put, List.setIfInBounds_toArray, List.set_cons_zero, List.set_cons_succ]
      refine any_take 4 (some 38) (.int .i64 (pre.length : Int)) rfl rfl (by kernel_rfl) (by kernel_rfl) (by kernel_rfl) (fun _ _ _ h => h) (by rfl) hH ?_ ?_
      · intro w hSw
        obtain ⟨q0, q1, q2, q3, q4, q5⟩ := hSw
        go_simp
      simp only [Act.put, List.setIfInBounds_toArray, List.set_cons_zero, List.set_cons_succ]
      refine any_take 5 (some 39) (.slice (some ⟨bw, ow, none⟩) N.length cv) rfl rfl (by kernel_rfl) (by kernel_rfl) (by kernel_rfl) (fun _ _ _ h => h) (by rfl) hH ?_ ?_
      · intro w hSw
        obtain ⟨q0, q1, q2, q3, q4, q5⟩ := hSw
        go_simp
      simp only [Act.put, List.setIfInBounds_toArray, List.set_cons_zero, List.set_cons_succ]
      refine any_take 6 (some 40) (.int .i64 (N.length : Int)) rfl rfl (by kernel_rfl) (by kernel_rfl) (by kernel_rfl) (fun _ _ _ h => h) (by rfl) hH ?_ ?_
      · intro w hSw
        obtain ⟨q0, q1, q2, q3, q4, q5⟩ := hSw
        go_simp
      simp only [Act.put, List.setIfInBounds_toArray, List.set_cons_zero, List.set_cons_succ]
      refine any_take 7 (some 41) (.bool false) rfl rfl (by kernel_rfl) (by kernel_rfl) (by kernel_rfl) (fun _ _ _ h => h) (by rfl) hH ?_ ?_
      · intro w hSw
        obtain ⟨q0, q1, q2, q3, q4, q5⟩ := hSw
        go_simp
      simp only [Act.put, List.setIfInBounds_toArray, List.set_cons_zero, List.set_cons_succ]
      refine any_take 8 (some 42) (.bool false) rfl rfl (by kernel_rfl) (by kernel_rfl) (by kernel_rfl) (fun _ _ _ h => h) (by rfl) hH ?_ ?_
      · intro w hSw
        obtain ⟨q0, q1, q2, q3, q4, q5⟩ := hSw
        go_simp
      simp only [Act.put, List.setIfInBounds_toArray, List.set_cons_zero, List.set_cons_succ]
      refine any_take 9 (some 43) (.bool false) rfl rfl (by kernel_rfl) (by kernel_rfl) (by kernel_rfl) (fun _ _ _ h => h) (by rfl) hH ?_ ?_
      · intro w hSw
        obtain ⟨q0, q1, q2, q3, q4, q5⟩ := hSw
        go_simp
      simp only [Act.put, List.setIfInBounds_toArray, List.set_cons_zero, List.set_cons_succ]
      refine any_take 10 (some 44) (.agg #[.int .i64 x1, .int .i64 x2]) rfl rfl (by kernel_rfl) (by kernel_rfl) (by kernel_rfl) (fun _ _ _ h => h) (by rfl) hH ?_ ?_
      · intro w hSw
        obtain ⟨q0, q1, q2, q3, q4, q5⟩ := hSw
        go_simp
      simp only [Act.put, List.setIfInBounds_toArray, List.set_cons_zero, List.set_cons_succ]
      refine any_take 11 (some 45) (.slice (some ⟨bw, ow, none⟩) N.length cv) rfl rfl (by kernel_rfl) (by kernel_rfl) (by kernel_rfl) (fun _ _ _ h => h) (by rfl) hH ?_ ?_
      · intro w hSw
        obtain ⟨q0, q1, q2, q3, q4, q5⟩ := hSw
        go_simp
      simp only [Act.put, List.setIfInBounds_toArray, List.set_cons_zero, List.set_cons_succ]
      refine any_take 12 (some 46) (.int .i64 (pre.length : Int)) rfl rfl (by kernel_rfl) (by kernel_rfl) (by kernel_rfl) (fun _ _ _ h => h) (by rfl) hH ?_ ?_
      · intro w hSw
        obtain ⟨q0, q1, q2, q3, q4, q5⟩ := hSw
        go_simp
      simp only [Act.put, List.setIfInBounds_toArray, List.set_cons_zero, List.set_cons_succ]
      refine any_take 13 (some 47) (.pointer (some ⟨bw, ow + pre.length * 2, none⟩)) rfl rfl (by kernel_rfl) (by kernel_rfl) (by kernel_rfl) (fun _ _ _ h => h) (by rfl) hH ?_ ?_
      · intro w hSw
        obtain ⟨q0, q1, q2, q3, q4, q5⟩ := hSw
        go_simp
      simp only [Act.put, List.setIfInBounds_toArray, List.set_cons_zero, List.set_cons_succ]
      refine any_take 14 (some 48) (.agg #[.int .i64 y1, .int .i64 y2]) rfl rfl (by kernel_rfl) (by kernel_rfl) (by kernel_rfl) (fun _ _ _ h => h) (by rfl) hH ?_ ?_
      · intro w hSw
        obtain ⟨q0, q1, q2, q3, q4, q5⟩ := hSw
        go_simp
      simp only [Act.put, List.setIfInBounds_toArray, List.set_cons_zero, List.set_cons_succ]
      refine any_take 15 (some 49) (.bool true) rfl rfl (by kernel_rfl) (by kernel_rfl) (by kernel_rfl) (fun _ _ _ h => h) (by rfl) hH ?_ ?_
      · intro w hSw
        obtain ⟨q0, q1, q2, q3, q4, q5⟩ := hSw
        go_simp
      simp only [Act.put, List.setIfInBounds_toArray, List.set_cons_zero, List.set_cons_succ]
      refine any_take 16 (some 50) (.bool true) rfl rfl (by kernel_rfl) (by kernel_rfl) (by kernel_rfl) (fun _ _ _ h => h) (by rfl) hH ?_ ?_
      · intro w hSw
        obtain ⟨q0, q1, q2, q3, q4, q5⟩ := hSw
        go_simp
      simp only [Act.put, List.setIfInBounds_toArray, List.set_cons_zero, List.set_cons_succ]
      refine wpAnyH_done (by kernel_rfl) ?_ _
      apply_assumption
      gi_wp2
      refine ⟨(KeepsOthers.trans (KeepsOthers.drew W) (KeepsOthers.setCell _ _ _)).from _, ?_⟩
      first
        | exact Or.inr ⟨rfl, HNo.out (Or.inr hxy)⟩
        | exact Or.inr ⟨rfl, fun ⟨k, hk, he⟩ => HNo.out (Or.inr hxy) k hk he⟩
        | exact ⟨rfl, HNo.out (Or.inr hxy)⟩
        | exact ⟨rfl, fun ⟨k, hk, he⟩ => HNo.out (Or.inr hxy) k hk he⟩
  case done1 =>
    rintro D ys W hD rfl ⟨hb1, hc1⟩ hK
    have hbc := hb1.cell
    have hbf := hb1.frozen
    have hc9 := chg_set hc1 rfl (.int .i64 0)
    have hbn2 : Boxed (W.setCell ⟨w7.heap.size, 0, none⟩ (.int .i64 0)) w7.heap.size 3 (.int .i64 ((([] : List (Nat × (Int × Int))).length : Nat) : Int)) := hb1.set (.int .i64 0)
    have hK9 : (W.setCell ⟨w7.heap.size, 0, none⟩ (.int .i64 0)).heap[D]? = some (.deferred (some [])) := ((grownBy_setCell' W w7.heap.size (.int .i64 0)).block D (Array.getElem?_eq_some_iff.1 hK).1 (by simp; omega)).trans hK
    gi_wp2_with fail
    generalize W.setCell ⟨w7.heap.size, 0, none⟩ (.int .i64 0) = w9 at *
    clear hb1 hc1 hbc hbf
    have hs9 := hc9.size
    have hbS2 : Boxed w9 w.heap.size 3 (.int .i64 st) := (hc9.block _ hbS1.lt (by omega)).trans hbS1
    have hbR2 : Boxed w9 (w.heap.size + 1) 4 (.bool false) := (hc9.block _ hbR1.lt (by omega)).trans hbR1
    have hbW2 : Boxed w9 w5.heap.size 22 (.slice av N.length cv) := (hc9.block _ hbW1.lt (by omega)).trans hbW1
    have hO2 : OwnE w9 w4.heap.size (.slice av N.length cv) N := ownsRow_chg hO1 hc9 (fun q hq e => by have := hOne q hq; omega)
    have hgl2 : g < w9.heap.size := by omega
    have hLg2 : LiesG w9 a' g N := hLg1.keep ⟨hs9, hc9.block g hgl1 (by omega)⟩
    have hBs2 : Bs < w9.heap.size ∧ w9.cell? ⟨Bs, 0, none⟩ = some (.slice a' N.length c') := ⟨by omega, hc9.cell hBs1.2 (by omega)⟩
    have hB2 : Below w.heap.size w w9 := hB1.trans (hc9.below _ hB1.size (fun i hi => by omega))
    refine wpIn_rangeFunc_ownH rfl (by omega) (gf := 14) (lb := #[.pointer (some ⟨Bs, 0, none⟩)]) rfl trivial (enters_of Try.func14 (by kernel_rfl) rfl)
      (all_stops Fence.wide 4 trivial rfl (by omega) Bs g c' a' N (by omega) w9 hBs2.1 hgl2 hBs2.2 hLg2) KeepB.trans (fun W l o o' hl ho h1 h2 => KeepB.of_below (belowK_b (Nat.le_refl _) W l o o' hl ho h1 h2) hgl2) (Below.refl _ _) (fun _ => rfl)
      (fun (pre : List (Nat × (Int × Int))) W => Boxed W w7.heap.size 3 (.int .i64 (pre.length : Int)) ∧ Chg (fun k => k = w7.heap.size) w9 W)
      (fun cd pre W => (cd = .exit 0 ∧ False ∧ (∃ n, Boxed W w7.heap.size 3 (.int .i64 n)) ∧ Chg (fun k => k = w7.heap.size) w9 W) ∨ (cd = .ret ∧ ¬ ∃ k, k ≤ N.length ∧ pre = upto N k))
      (fun s A B row hs hg hr => ⟨hs.1.kept hg (fun e => by
          obtain ⟨o, ho, hc⟩ := (hr _ e.symm).2
          rw [show A.heap[w7.heap.size]? = _ from hs.1] at ho
          cases ho
          cases hc), chg_row hs.2 hg (fun r e => (hr r e).1)⟩)
      (fun cd s A B row hs hg hr => by
        rcases hs with ⟨h1, h2, ⟨n, h3⟩, h4⟩ | h1
        · refine Or.inl ⟨h1, h2, ⟨n, h3.kept hg (fun e => ?_)⟩, chg_row h4 hg (fun r e => (hr r e).1)⟩
          obtain ⟨o, ho, hc⟩ := (hr _ e.symm).2
          rw [show A.heap[w7.heap.size]? = _ from h3] at ho
          cases ho
          cases hc
        · exact Or.inr h1)
      ⟨hbn2, Chg.refl _ _⟩
      (fun x af W => ∃ Bx, w9.heap.size ≤ Bx ∧ W.heap[Bx]? = some (.cells #[.int .i64 x.2.1, .int .i64 x.2.2] 32 (0, 0)) ∧ af = { tmps := #[.slice a L.length c, .int .i64 sp, undef, .pointer (some ⟨w.heap.size, 0, none⟩), .pointer (some ⟨w.heap.size + 1, 0, none⟩), .pointer (some ⟨w5.heap.size, 0, none⟩), .func (.func 14) #[] #[.pointer (some ⟨Bs, 0, none⟩)], .pointer (some ⟨w7.heap.size, 0, none⟩), undef, undef, .int .i64 x.1, .pointer (some ⟨Bx, 0, none⟩), .bool true, .bool false, .bool false, .slice a L.length c, .bool true, .bool false, .bool false, undef, .slice a L.length c, .slice av N.length cv, .int .i64 sp, .int .u64 s23, .int .u64 s24, .int .i64 st, .slice a L.length c, .func (.func 14) #[] #[.pointer (some ⟨Bs, 0, none⟩)], .func (.func 14) #[] #[.pointer (some ⟨Bs, 0, none⟩)], undef, undef, undef, undef, undef, undef, undef, undef, undef, undef, undef, undef, undef, undef, undef, undef, undef, undef, undef, undef, undef, undef, undef, undef, .func (.func 14) #[] #[.pointer (some ⟨Bs, 0, none⟩)], .int .i64 x.1, .agg #[.int .i64 x.2.1, .int .i64 x.2.2], undef, undef, undef, undef, undef, undef, undef, undef, undef, undef, undef, undef, undef, undef, undef, undef, undef, undef, undef, undef, undef, undef, undef, undef, undef, undef], defers := [] })
      (fun x af _ X Y row hs hg hr => by
        obtain ⟨Bx, h1, h2, h3⟩ := hs
        refine ⟨Bx, h1, (hg.block Bx (Array.getElem?_eq_some_iff.1 h2).1 (fun e => ?_)).trans h2, h3⟩
        obtain ⟨o, ho, hc⟩ := (hr Bx e.symm).2
        rw [h2] at ho
        cases ho
        cases hc)
      ?assign2 ?body2 ?done2 ?stop2
    case assign2 =>
      rintro l pre x W K ⟨hb1, hc1⟩ hK
      obtain ⟨xi, x1, x2⟩ := x
      dsimp only [encP] at *
      gi_wp2
      exact hK _ _ ((KeepsOthers.alloc _ _).from _) ((KeepB.refl g W).alloc (Nat.lt_of_lt_of_le hgl2 hc1.size) _) ⟨hb1.alloc _, hc1.alloc _⟩ ⟨W.heap.size, hc1.size, World.alloc_heap_new W _, rfl⟩
    case body2 =>
      rintro l pre x af W hl ⟨r, hr⟩ ⟨hb1, hc1⟩ ⟨Bx, hBx, bX, rfl⟩ hlt
      obtain ⟨xi, x1, x2⟩ := x
      dsimp only at bX ⊢
      have hbn := hb1.cell
      have hbf := hb1.frozen
      have bSt : Boxed W w.heap.size 3 (.int .i64 st) := (hc1.block _ hbS2.lt (by omega)).trans hbS2
      have bRs : Boxed W (w.heap.size + 1) 4 (.bool false) := (hc1.block _ hbR2.lt (by omega)).trans hbR2
      have bWt : Boxed W w5.heap.size 22 (.slice av N.length cv) := (hc1.block _ hbW2.lt (by omega)).trans hbW2
      have cSt := bSt.cell
      have cRs := bRs.cell
      have fRs := bRs.frozen
      have cWt := bWt.cell
      have hOw : OwnE W w4.heap.size (.slice av N.length cv) N := ownsRow_chg hO2 hc1 (fun q hq e => by
        have h1 := (World.ownsRow.lt hO2 q hq)
        have h2 := hOne q hq
        omega)
      obtain ⟨cX0, cX1⟩ : W.cell? ⟨Bx, 0, none⟩ = some (.int .i64 x1) ∧ W.cell? ⟨Bx, 1, none⟩ = some (.int .i64 x2) := by simp only [World.cell?, bX]; exact ⟨rfl, rfl⟩
      have hpl : pre.length ≤ 2000 := by omega
      obtain ⟨av2, cv2, hav, hlW, _, _, _⟩ := hOw.form
      simp only [Value.slice.injEq, true_and] at hav
      obtain ⟨rfl, rfl⟩ := hav
      rcases hlW with hnil | ⟨bw, ow, rfl, hbw, hcw⟩
      · rw [hnil] at hlt
        simp at hlt
      obtain ⟨cY0, cY1⟩ := hcw pre.length hlt
      obtain ⟨y, hy⟩ : ∃ y, N.getD pre.length (0, 0) = y := ⟨_, rfl⟩
      obtain ⟨y1, y2⟩ := y
      rw [hy] at cY0 cY1
      dsimp only at cY0 cY1
      have HY := hide hy
      have HHlt := hide hlt
      clear hcw hOw hy
      have hno : (xi ≠ pre.length ∨ (x1, x2) ≠ (y1, y2)) → ¬ ∃ k, k ≤ N.length ∧ pre ++ [(xi, (x1, x2))] = upto N k := by
        rintro hne ⟨k, hk, he⟩
        have hlk : k = pre.length + 1 := by have := congrArg List.length he; rw [upto_length] at this; simpa using this.symm
        subst hlk
        rw [upto_succ] at he
        have := (List.append_inj' he rfl).2
        simp only [List.cons.injEq, and_true, Prod.mk.injEq] at this
        have h2 := HY.out
        rcases hne with h | h
        · exact h this.1
        · apply h
          rw [← h2]
          exact this.2
      have HNo : Hid ((xi ≠ pre.length ∨ (x1, x2) ≠ (y1, y2)) → ∀ k, k ≤ N.length → ¬ pre ++ [(xi, (x1, x2))] = upto N k) := hide (fun hq k hk he => hno hq ⟨k, hk, he⟩)
      clear hno
      by_cases hxi : xi = pre.length
      rotate_left
      · refine wpIn_block ?_
        gi_wp2
        have hne0 : ((xi : Int) != (pre.length : Int)) = true := by simp; omega
        have hH : (fun u => u.cell? ⟨w7.heap.size, 0, none⟩ = some (.int .i64 (pre.length : Int)) ∧ u.cell? ⟨w5.heap.size, 0, none⟩ = some (.slice (some ⟨bw, ow, none⟩) N.length cv) ∧ u.cell? ⟨Bx, 0, none⟩ = some (.int .i64 x1) ∧ u.cell? ⟨Bx, 1, none⟩ = some (.int .i64 x2) ∧ u.cell? ⟨bw, ow + pre.length * 2, none⟩ = some (.int .i64 y1) ∧ u.cell? ⟨bw, ow + pre.length * 2 + 1, none⟩ = some (.int .i64 y2)) W.drew := ⟨hbn, cWt, cX0, cX1, cY0, cY1⟩
        refine region_round (fun u => u.cell? ⟨w7.heap.size, 0, none⟩ = some (.int .i64 (pre.length : Int)) ∧ u.cell? ⟨w5.heap.size, 0, none⟩ = some (.slice (some ⟨bw, ow, none⟩) N.length cv) ∧ u.cell? ⟨Bx, 0, none⟩ = some (.int .i64 x1) ∧ u.cell? ⟨Bx, 1, none⟩ = some (.int .i64 x2) ∧ u.cell? ⟨bw, ow + pre.length * 2, none⟩ = some (.int .i64 y1) ∧ u.cell? ⟨bw, ow + pre.length * 2 + 1, none⟩ = some (.int .i64 y2)) (by kernel_rfl) (by kernel_rfl) ?_
        refine any_take 0 (some 56) (.int .i64 (xi : Int)) rfl rfl (by kernel_rfl) (by kernel_rfl) (by kernel_rfl) (fun _ _ _ h => h) (by rfl) hH ?_ ?_
        · intro w hSw
          obtain ⟨q0, q1, q2, q3, q4, q5⟩ := hSw
          go_simp
        simp only [Act.put, List.setIfInBounds_toArray, List.set_cons_zero, List.set_cons_succ]
        refine any_take 1 (some 57) (.int .i64 (pre.length : Int)) rfl rfl (by kernel_rfl) (by kernel_rfl) (by kernel_rfl) (fun _ _ _ h => h) (by rfl) hH ?_ ?_
        · intro w hSw
          obtain ⟨q0, q1, q2, q3, q4, q5⟩ := hSw
          go_simp
        simp only [Act.put, List.setIfInBounds_toArray, List.set_cons_zero, List.set_cons_succ]
        refine any_take 2 (some 58) (.bool true) rfl rfl (by kernel_rfl) (by kernel_rfl) (by kernel_rfl) (fun _ _ _ h => h) (by rfl) hH ?_ ?_
        · intro w hSw
          obtain ⟨q0, q1, q2, q3, q4, q5⟩ := hSw
          go_simp
        simp only [Act.put, List.setIfInBounds_toArray, List.set_cons_zero, List.set_cons_succ]
        refine any_take 3 (some 59) (.bool true) rfl rfl (by kernel_rfl) (by kernel_rfl) (by kernel_rfl) (fun _ _ _ h => h) (by rfl) hH ?_ ?_
        · intro w hSw
          obtain ⟨q0, q1, q2, q3, q4, q5⟩ := hSw
          go_simp
        simp only [Act.put, List.setIfInBounds_toArray, List.set_cons_zero, List.set_cons_succ]
        refine any_skip 4 (some 60) rfl rfl (by kernel_rfl) (by kernel_rfl) (by kernel_rfl) (fun _ _ _ h => h) (by rfl) hH ?_
        simp only [Act.put, List.setIfInBounds_toArray, List.set_cons_zero, List.set_cons_succ]
        refine any_skip 5 (some 61) rfl rfl (by kernel_rfl) (by kernel_rfl) (by kernel_rfl) (fun _ _ _ h => h) (by rfl) hH ?_
        simp only [Act.put, List.setIfInBounds_toArray, List.set_cons_zero, List.set_cons_succ]
        refine any_skip 6 (some 62) rfl rfl (by kernel_rfl) (by kernel_rfl) (by kernel_rfl) (fun _ _ _ h => h) (by rfl) hH ?_
        simp only [Act.put, List.setIfInBounds_toArray, List.set_cons_zero, List.set_cons_succ]
        refine any_skip 7 (some 63) rfl rfl (by kernel_rfl) (by kernel_rfl) (by kernel_rfl) (fun _ _ _ h => h) (by rfl) hH ?_
        simp only [Act.put, List.setIfInBounds_toArray, List.set_cons_zero, List.set_cons_succ]
        refine any_take 8 (some 64) (.bool true) rfl rfl (by kernel_rfl) (by kernel_rfl) (by kernel_rfl) (fun _ _ _ h => h) (by rfl) hH ?_ ?_
        · intro w hSw
          obtain ⟨q0, q1, q2, q3, q4, q5⟩ := hSw
          go_simp
        simp only [Act.put, List.setIfInBounds_toArray, List.set_cons_zero, List.set_cons_succ]
        refine any_take 9 (some 65) (.bool true) rfl rfl (by kernel_rfl) (by kernel_rfl) (by kernel_rfl) (fun _ _ _ h => h) (by rfl) hH ?_ ?_
        · intro w hSw
          obtain ⟨q0, q1, q2, q3, q4, q5⟩ := hSw
          go_simp
        simp only [Act.put, List.setIfInBounds_toArray, List.set_cons_zero, List.set_cons_succ]
        refine any_skip 10 (some 66) rfl rfl (by kernel_rfl) (by kernel_rfl) (by kernel_rfl) (fun _ _ _ h => h) (by rfl) hH ?_
        simp only [Act.put, List.setIfInBounds_toArray, List.set_cons_zero, List.set_cons_succ]
        refine any_skip 11 (some 67) rfl rfl (by kernel_rfl) (by kernel_rfl) (by kernel_rfl) (fun _ _ _ h => h) (by rfl) hH ?_
        simp only [Act.put, List.setIfInBounds_toArray, List.set_cons_zero, List.set_cons_succ]
        refine any_skip 12 (some 68) rfl rfl (by kernel_rfl) (by kernel_rfl) (by kernel_rfl) (fun _ _ _ h => h) (by rfl) hH ?_
        simp only [Act.put, List.setIfInBounds_toArray, List.set_cons_zero, List.set_cons_succ]
        refine any_skip 13 (some 69) rfl rfl (by kernel_rfl) (by kernel_rfl) (by kernel_rfl) (fun _ _ _ h => h) (by rfl) hH ?_
        simp only [Act.put, List.setIfInBounds_toArray, List.set_cons_zero, List.set_cons_succ]
        refine any_skip 14 (some 70) rfl rfl (by kernel_rfl) (by kernel_rfl) (by kernel_rfl) (fun _ _ _ h => h) (by rfl) hH ?_
        simp only [Act.put, List.setIfInBounds_toArray, List.set_cons_zero, List.set_cons_succ]
        refine any_skip 15 (some 71) rfl rfl (by kernel_rfl) (by kernel_rfl) (by kernel_rfl) (fun _ _ _ h => h) (by rfl) hH ?_
        simp only [Act.put, List.setIfInBounds_toArray, List.set_cons_zero, List.set_cons_succ]
        refine any_take 16 (some 72) (.bool true) rfl rfl (by kernel_rfl) (by kernel_rfl) (by kernel_rfl) (fun _ _ _ h => h) (by rfl) hH ?_ ?_
        · intro w hSw
          obtain ⟨q0, q1, q2, q3, q4, q5⟩ := hSw
          go_simp
        simp only [Act.put, List.setIfInBounds_toArray, List.set_cons_zero, List.set_cons_succ]
        refine wpAnyH_done (by kernel_rfl) ?_ _
        apply_assumption
        gi_wp2
        refine ⟨(KeepsOthers.trans (KeepsOthers.drew W) (KeepsOthers.setCell _ _ _)).from _, ?_⟩
        first
          | exact Or.inr ⟨rfl, HNo.out (Or.inl hxi)⟩
          | exact Or.inr ⟨rfl, fun ⟨k, hk, he⟩ => HNo.out (Or.inl hxi) k hk he⟩
          | exact ⟨rfl, HNo.out (Or.inl hxi)⟩
          | exact ⟨rfl, fun ⟨k, hk, he⟩ => HNo.out (Or.inl hxi) k hk he⟩
      subst hxi
      have hne0 : ((pre.length : Int) != (pre.length : Int)) = false := by simp
      have hge0 : decide ((N.length : Int) ≤ (pre.length : Int)) = false := by simp; omega
      have hge1 : ¬ N.length ≤ pre.length := by omega
      have hge2 : decide (N.length ≤ pre.length) = false := by simp; omega
      have hgx := fun u op p q => guard_E u op p q #[.int .i64 x1, .int .i64 x2] #[.int .i64 y1, .int .i64 y2]
      have hix : (pre.length : Int) < (N.length : Int) := by omega
      have hH : (fun u => u.cell? ⟨w7.heap.size, 0, none⟩ = some (.int .i64 (pre.length : Int)) ∧ u.cell? ⟨w5.heap.size, 0, none⟩ = some (.slice (some ⟨bw, ow, none⟩) N.length cv) ∧ u.cell? ⟨Bx, 0, none⟩ = some (.int .i64 x1) ∧ u.cell? ⟨Bx, 1, none⟩ = some (.int .i64 x2) ∧ u.cell? ⟨bw, ow + pre.length * 2, none⟩ = some (.int .i64 y1) ∧ u.cell? ⟨bw, ow + pre.length * 2 + 1, none⟩ = some (.int .i64 y2)) W.drew := ⟨hbn, cWt, cX0, cX1, cY0, cY1⟩
      by_cases hxy : (x1, x2) = (y1, y2)
      · refine wpIn_block ?_
        gi_wp2
        have hqq := fun u : World => neq_E u (x1, x2) (y1, y2) true (by simpa using hxy)
        simp only [Bool.not_true] at hqq
        refine region_round (fun u => u.cell? ⟨w7.heap.size, 0, none⟩ = some (.int .i64 (pre.length : Int)) ∧ u.cell? ⟨w5.heap.size, 0, none⟩ = some (.slice (some ⟨bw, ow, none⟩) N.length cv) ∧ u.cell? ⟨Bx, 0, none⟩ = some (.int .i64 x1) ∧ u.cell? ⟨Bx, 1, none⟩ = some (.int .i64 x2) ∧ u.cell? ⟨bw, ow + pre.length * 2, none⟩ = some (.int .i64 y1) ∧ u.cell? ⟨bw, ow + pre.length * 2 + 1, none⟩ = some (.int .i64 y2)) (by kernel_rfl) (by kernel_rfl) ?_
        refine any_take 0 (some 56) (.int .i64 (pre.length : Int)) rfl rfl (by kernel_rfl) (by kernel_rfl) (by kernel_rfl) (fun _ _ _ h => h) (by rfl) hH ?_ ?_
        · intro w hSw
          obtain ⟨q0, q1, q2, q3, q4, q5⟩ := hSw
          go_simp
        simp only [Act.put, List.setIfInBounds_toArray, List.set_cons_zero, List.set_cons_succ]
        refine any_take 1 (some 57) (.int .i64 (pre.length : Int)) rfl rfl (by kernel_rfl) (by kernel_rfl) (by kernel_rfl) (fun _ _ _ h => h) (by rfl) hH ?_ ?_
        · intro w hSw
          obtain ⟨q0, q1, q2, q3, q4, q5⟩ := hSw
          go_simp
        simp only [Act.put, List.setIfInBounds_toArray, List.set_cons_zero, List.set_cons_succ]
        refine any_take 2 (some 58) (.bool false) rfl rfl (by kernel_rfl) (by kernel_rfl) (by kernel_rfl) (fun _ _ _ h => h) (by rfl) hH ?_ ?_
        · intro w hSw
          obtain ⟨q0, q1, q2, q3, q4, q5⟩ := hSw
          go_simp
        simp only [Act.put, List.setIfInBounds_toArray, List.set_cons_zero, List.set_cons_succ]
        refine any_take 3 (some 59) (.bool false) rfl rfl (by kernel_rfl) (by kernel_rfl) (by kernel_rfl) (fun _ _ _ h => h) (by rfl) hH ?_ ?_
        · intro w hSw
          obtain ⟨q0, q1, q2, q3, q4, q5⟩ := hSw
          go_simp
        simp only [Act.put, List.setIfInBounds_toArray, List.set_cons_zero, List.set_cons_succ]
        refine any_take 4 (some 60) (.int .i64 (pre.length : Int)) rfl rfl (by kernel_rfl) (by kernel_rfl) (by kernel_rfl) (fun _ _ _ h => h) (by rfl) hH ?_ ?_
        · intro w hSw
          obtain ⟨q0, q1, q2, q3, q4, q5⟩ := hSw
          go_simp
        simp only [Act.put, List.setIfInBounds_toArray, List.set_cons_zero, List.set_cons_succ]
        refine any_take 5 (some 61) (.slice (some ⟨bw, ow, none⟩) N.length cv) rfl rfl (by kernel_rfl) (by kernel_rfl) (by kernel_rfl) (fun _ _ _ h => h) (by rfl) hH ?_ ?_
        · intro w hSw
          obtain ⟨q0, q1, q2, q3, q4, q5⟩ := hSw
          go_simp
        simp only [Act.put, List.setIfInBounds_toArray, List.set_cons_zero, List.set_cons_succ]
        refine any_take 6 (some 62) (.int .i64 (N.length : Int)) rfl rfl (by kernel_rfl) (by kernel_rfl) (by kernel_rfl) (fun _ _ _ h => h) (by rfl) hH ?_ ?_
        · intro w hSw
          obtain ⟨q0, q1, q2, q3, q4, q5⟩ := hSw
          go_simp
        simp only [Act.put, List.setIfInBounds_toArray, List.set_cons_zero, List.set_cons_succ]
        refine any_take 7 (some 63) (.bool false) rfl rfl (by kernel_rfl) (by kernel_rfl) (by kernel_rfl) (fun _ _ _ h => h) (by rfl) hH ?_ ?_
        · intro w hSw
          obtain ⟨q0, q1, q2, q3, q4, q5⟩ := hSw
          go_simp
        simp only [Act.put, List.setIfInBounds_toArray, List.set_cons_zero, List.set_cons_succ]
        refine any_take 8 (some 64) (.bool false) rfl rfl (by kernel_rfl) (by kernel_rfl) (by kernel_rfl) (fun _ _ _ h => h) (by rfl) hH ?_ ?_
        · intro w hSw
          obtain ⟨q0, q1, q2, q3, q4, q5⟩ := hSw
          go_simp
        simp only [Act.put, List.setIfInBounds_toArray, List.set_cons_zero, List.set_cons_succ]
        refine any_take 9 (some 65) (.bool false) rfl rfl (by kernel_rfl) (by kernel_rfl) (by kernel_rfl) (fun _ _ _ h => h) (by rfl) hH ?_ ?_
        · intro w hSw
          obtain ⟨q0, q1, q2, q3, q4, q5⟩ := hSw
          go_simp
        simp only [Act.put, List.setIfInBounds_toArray, List.set_cons_zero, List.set_cons_succ]
        refine any_take 10 (some 66) (.agg #[.int .i64 x1, .int .i64 x2]) rfl rfl (by kernel_rfl) (by kernel_rfl) (by kernel_rfl) (fun _ _ _ h => h) (by rfl) hH ?_ ?_
        · intro w hSw
          obtain ⟨q0, q1, q2, q3, q4, q5⟩ := hSw
          go_simp
        simp only [Act.put, List.setIfInBounds_toArray, List.set_cons_zero, List.set_cons_succ]
        refine any_take 11 (some 67) (.slice (some ⟨bw, ow, none⟩) N.length cv) rfl rfl (by kernel_rfl) (by kernel_rfl) (by kernel_rfl) (fun _ _ _ h => h) (by rfl) hH ?_ ?_
        · intro w hSw
          obtain ⟨q0, q1, q2, q3, q4, q5⟩ := hSw
          go_simp
        simp only [Act.put, List.setIfInBounds_toArray, List.set_cons_zero, List.set_cons_succ]
        refine any_take 12 (some 68) (.int .i64 (pre.length : Int)) rfl rfl (by kernel_rfl) (by kernel_rfl) (by kernel_rfl) (fun _ _ _ h => h) (by rfl) hH ?_ ?_
        · intro w hSw
          obtain ⟨q0, q1, q2, q3, q4, q5⟩ := hSw
          go_simp
        simp only [Act.put, List.setIfInBounds_toArray, List.set_cons_zero, List.set_cons_succ]
        refine any_take 13 (some 69) (.pointer (some ⟨bw, ow + pre.length * 2, none⟩)) rfl rfl (by kernel_rfl) (by kernel_rfl) (by kernel_rfl) (fun _ _ _ h => h) (by rfl) hH ?_ ?_
        · intro w hSw
          obtain ⟨q0, q1, q2, q3, q4, q5⟩ := hSw
          go_simp
        simp only [Act.put, List.setIfInBounds_toArray, List.set_cons_zero, List.set_cons_succ]
        refine any_take 14 (some 70) (.agg #[.int .i64 y1, .int .i64 y2]) rfl rfl (by kernel_rfl) (by kernel_rfl) (by kernel_rfl) (fun _ _ _ h => h) (by rfl) hH ?_ ?_
        · intro w hSw
          obtain ⟨q0, q1, q2, q3, q4, q5⟩ := hSw
          go_simp
        simp only [Act.put, List.setIfInBounds_toArray, List.set_cons_zero, List.set_cons_succ]
        refine any_take 15 (some 71) (.bool false) rfl rfl (by kernel_rfl) (by kernel_rfl) (by kernel_rfl) (fun _ _ _ h => h) (by rfl) hH ?_ ?_
        · intro w hSw
          obtain ⟨q0, q1, q2, q3, q4, q5⟩ := hSw
          go_simp
        simp only [Act.put, List.setIfInBounds_toArray, List.set_cons_zero, List.set_cons_succ]
        refine any_take 16 (some 72) (.bool false) rfl rfl (by kernel_rfl) (by kernel_rfl) (by kernel_rfl) (fun _ _ _ h => h) (by rfl) hH ?_ ?_
        · intro w hSw
          obtain ⟨q0, q1, q2, q3, q4, q5⟩ := hSw
          go_simp
        simp only [Act.put, List.setIfInBounds_toArray, List.set_cons_zero, List.set_cons_succ]
        refine wpAnyH_done (by kernel_rfl) ?_ _
        apply_assumption
        gi_wp2
        refine ⟨(KeepsOthers.trans (KeepsOthers.drew W) (KeepsOthers.setCell _ _ _)).from _, ⟨(grownBy_setCell' W.drew w7.heap.size _).size, (grownBy_setCell' W.drew w7.heap.size _).block g (Nat.lt_of_lt_of_le hgl2 hc1.size) (by simp; omega)⟩, ?_, chg_set hc1.drew rfl _⟩
        have hb9 := hb1.set (.int .i64 ((pre.length : Int) + 1))
        have hb10 : Boxed (W.setCell ⟨w7.heap.size, 0, none⟩ (.int .i64 ((pre.length : Int) + 1))).drew w7.heap.size 3 (.int .i64 ((pre.length : Int) + 1)) := hb9
        simpa using hb10
      · refine wpIn_block ?_
        gi_wp2
        have hqq := fun u : World => neq_E u (x1, x2) (y1, y2) false (by simpa using hxy)
        simp only [Bool.not_false] at hqq
        refine region_round (fun u => u.cell? ⟨w7.heap.size, 0, none⟩ = some (.int .i64 (pre.length : Int)) ∧ u.cell? ⟨w5.heap.size, 0, none⟩ = some (.slice (some ⟨bw, ow, none⟩) N.length cv) ∧ u.cell? ⟨Bx, 0, none⟩ = some (.int .i64 x1) ∧ u.cell? ⟨Bx, 1, none⟩ = some (.int .i64 x2) ∧ u.cell? ⟨bw, ow + pre.length * 2, none⟩ = some (.int .i64 y1) ∧ u.cell? ⟨bw, ow + pre.length * 2 + 1, none⟩ = some (.int .i64 y2)) (by kernel_rfl) (by kernel_rfl) ?_
        refine any_take 0 (some 56) (.int .i64 (pre.length : Int)) rfl rfl (by kernel_rfl) (by kernel_rfl) (by kernel_rfl) (fun _ _ _ h => h) (by rfl) hH ?_ ?_
        · intro w hSw
          obtain ⟨q0, q1, q2, q3, q4, q5⟩ := hSw
          go_simp
        simp only [Act.put, List.setIfInBounds_toArray, List.set_cons_zero, List.set_cons_succ]
        refine any_take 1 (some 57) (.int .i64 (pre.length : Int)) rfl rfl (by kernel_rfl) (by kernel_rfl) (by kernel_rfl) (fun _ _ _ h => h) (by rfl) hH ?_ ?_
        · intro w hSw
          obtain ⟨q0, q1, q2, q3, q4, q5⟩ := hSw
          go_simp
        simp only [Act.put, List.setIfInBounds_toArray, List.set_cons_zero, List.set_cons_succ]
        refine any_take 2 (some 58) (.bool false) rfl rfl (by kernel_rfl) (by kernel_rfl) (by kernel_rfl) (fun _ _ _ h => h) (by rfl) hH ?_ ?_
        · intro w hSw
          obtain ⟨q0, q1, q2, q3, q4, q5⟩ := hSw
          go_simp
        simp only [Act.put, List.setIfInBounds_toArray, List.set_cons_zero, List.set_cons_succ]
        refine any_take 3 (some 59) (.bool false) rfl rfl (by kernel_rfl) (by kernel_rfl) (by kernel_rfl) (fun _ _ _ h => h) (by rfl) hH ?_ ?_
        · intro w hSw
          obtain ⟨q0, q1, q2, q3, q4, q5⟩ := hSw
          go_simp
        simp only [Act.put, List.setIfInBounds_toArray, List.set_cons_zero, List.set_cons_succ]
        refine any_take 4 (some 60) (.int .i64 (pre.length : Int)) rfl rfl (by kernel_rfl) (by kernel_rfl) (by kernel_rfl) (fun _ _ _ h => h) (by rfl) hH ?_ ?_
        · intro w hSw
          obtain ⟨q0, q1, q2, q3, q4, q5⟩ := hSw
          go_simp
        simp only [Act.put, List.setIfInBounds_toArray, List.set_cons_zero, List.set_cons_succ]
        refine any_take 5 (some 61) (.slice (some ⟨bw, ow, none⟩) N.length cv) rfl rfl (by kernel_rfl) (by kernel_rfl) (by kernel_rfl) (fun _ _ _ h => h) (by rfl) hH ?_ ?_
        · intro w hSw
          obtain ⟨q0, q1, q2, q3, q4, q5⟩ := hSw
          go_simp
        simp only [Act.put, List.setIfInBounds_toArray, List.set_cons_zero, List.set_cons_succ]
        refine any_take 6 (some 62) (.int .i64 (N.length : Int)) rfl rfl (by kernel_rfl) (by kernel_rfl) (by kernel_rfl) (fun _ _ _ h => h) (by rfl) hH ?_ ?_
        · intro w hSw
          obtain ⟨q0, q1, q2, q3, q4, q5⟩ := hSw
          go_simp
        simp only [Act.put, List.setIfInBounds_toArray, List.set_cons_zero, List.set_cons_succ]
        refine any_take 7 (some 63) (.bool false) rfl rfl (by kernel_rfl) (by kernel_rfl) (by kernel_rfl) (fun _ _ _ h => h) (by rfl) hH ?_ ?_
        · intro w hSw
          obtain ⟨q0, q1, q2, q3, q4, q5⟩ := hSw
          go_simp
        simp only [Act.put, List.setIfInBounds_toArray, List.set_cons_zero, List.set_cons_succ]
        refine any_take 8 (some 64) (.bool false) rfl rfl (by kernel_rfl) (by kernel_rfl) (by kernel_rfl) (fun _ _ _ h => h) (by rfl) hH ?_ ?_
        · intro w hSw
          obtain ⟨q0, q1, q2, q3, q4, q5⟩ := hSw
          go_simp
        simp only [Act.put, List.setIfInBounds_toArray, List.set_cons_zero, List.set_cons_succ]
        refine any_take 9 (some 65) (.bool false) rfl rfl (by kernel_rfl) (by kernel_rfl) (by kernel_rfl) (fun _ _ _ h => h) (by rfl) hH ?_ ?_
        · intro w hSw
          obtain ⟨q0, q1, q2, q3, q4, q5⟩ := hSw
          go_simp
        simp only [Act.put, List.setIfInBounds_toArray, List.set_cons_zero, List.set_cons_succ]
        refine any_take 10 (some 66) (.agg #[.int .i64 x1, .int .i64 x2]) rfl rfl (by kernel_rfl) (by kernel_rfl) (by kernel_rfl) (fun _ _ _ h => h) (by rfl) hH ?_ ?_
        · intro w hSw
          obtain ⟨q0, q1, q2, q3, q4, q5⟩ := hSw
          go_simp
        simp only [Act.put, List.setIfInBounds_toArray, List.set_cons_zero, List.set_cons_succ]
        refine any_take 11 (some 67) (.slice (some ⟨bw, ow, none⟩) N.length cv) rfl rfl (by kernel_rfl) (by kernel_rfl) (by kernel_rfl) (fun _ _ _ h => h) (by rfl) hH ?_ ?_
        · intro w hSw
          obtain ⟨q0, q1, q2, q3, q4, q5⟩ := hSw
          go_simp
        simp only [Act.put, List.setIfInBounds_toArray, List.set_cons_zero, List.set_cons_succ]
        refine any_take 12 (some 68) (.int .i64 (pre.length : Int)) rfl rfl (by kernel_rfl) (by kernel_rfl) (by kernel_rfl) (fun _ _ _ h => h) (by rfl) hH ?_ ?_
        · intro w hSw
          obtain ⟨q0, q1, q2, q3, q4, q5⟩ := hSw
          go_simp
        simp only [Act.put, List.setIfInBounds_toArray, List.set_cons_zero, List.set_cons_succ]
        refine any_take 13 (some 69) (.pointer (some ⟨bw, ow + pre.length * 2, none⟩)) rfl rfl (by kernel_rfl) (by kernel_rfl) (by kernel_rfl) (fun _ _ _ h => h) (by rfl) hH ?_ ?_
        · intro w hSw
          obtain ⟨q0, q1, q2, q3, q4, q5⟩ := hSw
          go_simp
        simp only [Act.put, List.setIfInBounds_toArray, List.set_cons_zero, List.set_cons_succ]
        refine any_take 14 (some 70) (.agg #[.int .i64 y1, .int .i64 y2]) rfl rfl (by kernel_rfl) (by kernel_rfl) (by kernel_rfl) (fun _ _ _ h => h) (by rfl) hH ?_ ?_
        · intro w hSw
          obtain ⟨q0, q1, q2, q3, q4, q5⟩ := hSw
          go_simp
        simp only [Act.put, List.setIfInBounds_toArray, List.set_cons_zero, List.set_cons_succ]
        refine any_take 15 (some 71) (.bool true) rfl rfl (by kernel_rfl) (by kernel_rfl) (by kernel_rfl) (fun _ _ _ h => h) (by rfl) hH ?_ ?_
        · intro w hSw
          obtain ⟨q0, q1, q2, q3, q4, q5⟩ := hSw
          go_simp
        simp only [Act.put, List.setIfInBounds_toArray, List.set_cons_zero, List.set_cons_succ]
        refine any_take 16 (some 72) (.bool true) rfl rfl (by kernel_rfl) (by kernel_rfl) (by kernel_rfl) (fun _ _ _ h => h) (by rfl) hH ?_ ?_
        · intro w hSw
          obtain ⟨q0, q1, q2, q3, q4, q5⟩ := hSw
          go_simp
        simp only [Act.put, List.setIfInBounds_toArray, List.set_cons_zero, List.set_cons_succ]
        refine wpAnyH_done (by kernel_rfl) ?_ _
        apply_assumption
        gi_wp2
        refine ⟨(KeepsOthers.trans (KeepsOthers.drew W) (KeepsOthers.setCell _ _ _)).from _, ?_⟩
        first
          | exact Or.inr ⟨rfl, HNo.out (Or.inr hxy)⟩
          | exact Or.inr ⟨rfl, fun ⟨k, hk, he⟩ => HNo.out (Or.inr hxy) k hk he⟩
          | exact ⟨rfl, HNo.out (Or.inr hxy)⟩
          | exact ⟨rfl, fun ⟨k, hk, he⟩ => HNo.out (Or.inr hxy) k hk he⟩
    case done2 =>
      rintro D2 ys W2 hD2 rfl ⟨hb2, hc2⟩ hK2
      have hDl2 : D2 < W2.heap.size := (Array.getElem?_eq_some_iff.1 hK2).1
      have hK1 : W2.heap[D]? = some (.deferred (some [])) := (hc2.block D (Array.getElem?_eq_some_iff.1 hK9).1 (by omega)).trans hK9
      have bR9 : Boxed W2 (w.heap.size + 1) 4 (.bool false) := (hc2.block _ hbR2.lt (by omega)).trans hbR2
      have bW9 : Boxed W2 w5.heap.size 22 (.slice av N.length cv) := (hc2.block _ hbW2.lt (by omega)).trans hbW2
      have hB9 : Below w.heap.size w W2 := hB2.trans (hc2.below _ hB2.size (fun i hi => by omega))
      rw [upto_length] at hb2
      gi_wp2_with fail
      refine ⟨trivial, ?_⟩
      gi_at_call 4
      refine (callsIn_wide.2 (HJ _).out).mono ?_
      rintro e w10 ⟨rfl, hb10⟩
      have b10 : Boxed w10 w7.heap.size 3 (.int .i64 (N.length : Int)) := (hb10.block _ hb2.lt).trans hb2
      have bR10 : Boxed w10 (w.heap.size + 1) 4 (.bool false) := (hb10.block _ bR9.lt).trans bR9
      have bW10 : Boxed w10 w5.heap.size 22 (.slice av N.length cv) := (hb10.block _ bW9.lt).trans bW9
      have hK10 : w10.heap[D]? = some (.deferred (some [])) := (hb10.block _ (Array.getElem?_eq_some_iff.1 hK1).1).trans hK1
      have hK20 : w10.heap[D2]? = some (.deferred (some [])) := (hb10.block _ hDl2).trans hK2
      have hB10 : Below w.heap.size w w10 := hB9.trans (hb10.mono hB9.size)
      have e1 := b10.cell
      have e2 := bR10.cell
      have e3 := bR10.frozen
      have e4 := bW10.cell
      have hnn : ((N.length : Int) == (N.length : Int)) = true := by simp
      have hD12 : D ≠ D2 := by have := (Array.getElem?_eq_some_iff.1 hK9).1; omega
      have bR11 := bR10.set (.bool true)
      have hB11 := hB10.setCell (p := ⟨w.heap.size + 1, 0, none⟩) (by simp) (.bool true)
      have hgr := grownBy_setCell' w10 (w.heap.size + 1) (.bool true)
      have hK11 : (w10.setCell ⟨w.heap.size + 1, 0, none⟩ (.bool true)).heap[D]? = some (.deferred (some [])) := (hgr.block D (Array.getElem?_eq_some_iff.1 hK10).1 (by simp; omega)).trans hK10
      have hK21 : (w10.setCell ⟨w.heap.size + 1, 0, none⟩ (.bool true)).heap[D2]? = some (.deferred (some [])) := (hgr.block D2 (Array.getElem?_eq_some_iff.1 hK20).1 (by simp; omega)).trans hK20
      clear b10 bR10 bW10 hb10 hB10 hgr
      gi_wp2_with fail
      generalize w10.setCell ⟨w.heap.size + 1, 0, none⟩ (.bool true) = w11 at *
      refine ⟨by simp, .inl ⟨_, _, rfl, run_takeDeferred hK21, ?_⟩⟩
      have hP : ∀ (o : Obj) (k : Nat), k ≠ D2 → (w11.putObj D2 o).heap[k]? = w11.heap[k]? := fun o k hk => by
        simp only [World.putObj]
        rw [Array.getElem?_setIfInBounds_ne (by omega)]
      have hK12 : (w11.putObj D2 (.deferred none)).heap[D]? = some (.deferred (some [])) := (hP _ D hD12).trans hK11
      refine ⟨by simp, .inl ⟨_, _, rfl, run_takeDeferred hK12, ?_⟩⟩
      have hP2 : ∀ (u : World) (o : Obj) (k : Nat), k ≠ D → (u.putObj D o).heap[k]? = u.heap[k]? := fun u o k hk => by
        simp only [World.putObj]
        rw [Array.getElem?_setIfInBounds_ne (by omega)]
      have bR13 : Boxed ((w11.putObj D2 (.deferred none)).putObj D (.deferred none)) (w.heap.size + 1) 4 (.bool true) := (hP2 _ _ _ (by omega)).trans ((hP _ _ (by omega)).trans bR11)
      exact ⟨_, ret_bool rfl _ _ _ _ rfl bR13, rfl, (hB11.trans (belowK_b (w := w) (Nat.le_refl _) w11 D2 _ _ (by omega) hK21 rfl rfl)).trans (belowK_b (w := w) (Nat.le_refl _) _ D _ _ (by omega) hK12 rfl rfl)⟩
    case stop2 =>
      rintro D2 cd pre W2 hD2 hsp hix hK2
      rcases hix with ⟨_, h2, _⟩ | ⟨rfl, hno⟩
      · exact h2.elim
      · exact absurd hsp hno
  case stop1 =>
    rintro D cd pre W hD hsp hix hK
    rcases hix with ⟨rfl, _, ⟨n, hb1⟩, hc1⟩ | ⟨rfl, hno⟩
    rotate_left
    · exact absurd hsp hno
    have hbc := hb1.cell
    have hbf := hb1.frozen
    have hc9 := chg_set hc1 rfl (.int .i64 0)
    have hbn2 : Boxed (W.setCell ⟨w7.heap.size, 0, none⟩ (.int .i64 0)) w7.heap.size 3 (.int .i64 ((([] : List (Nat × (Int × Int))).length : Nat) : Int)) := hb1.set (.int .i64 0)
    have hK9 : (W.setCell ⟨w7.heap.size, 0, none⟩ (.int .i64 0)).heap[D]? = some (.deferred (some [])) := ((grownBy_setCell' W w7.heap.size (.int .i64 0)).block D (Array.getElem?_eq_some_iff.1 hK).1 (by simp; omega)).trans hK
    gi_wp2_with fail
    generalize W.setCell ⟨w7.heap.size, 0, none⟩ (.int .i64 0) = w9 at *
    clear hb1 hc1 hbc hbf
    have hs9 := hc9.size
    have hbS2 : Boxed w9 w.heap.size 3 (.int .i64 st) := (hc9.block _ hbS1.lt (by omega)).trans hbS1
    have hbR2 : Boxed w9 (w.heap.size + 1) 4 (.bool false) := (hc9.block _ hbR1.lt (by omega)).trans hbR1
    have hbW2 : Boxed w9 w5.heap.size 22 (.slice av N.length cv) := (hc9.block _ hbW1.lt (by omega)).trans hbW1
    have hO2 : OwnE w9 w4.heap.size (.slice av N.length cv) N := ownsRow_chg hO1 hc9 (fun q hq e => by have := hOne q hq; omega)
    have hgl2 : g < w9.heap.size := by omega
    have hLg2 : LiesG w9 a' g N := hLg1.keep ⟨hs9, hc9.block g hgl1 (by omega)⟩
    have hBs2 : Bs < w9.heap.size ∧ w9.cell? ⟨Bs, 0, none⟩ = some (.slice a' N.length c') := ⟨by omega, hc9.cell hBs1.2 (by omega)⟩
    have hB2 : Below w.heap.size w w9 := hB1.trans (hc9.below _ hB1.size (fun i hi => by omega))
    refine wpIn_rangeFunc_ownH rfl (by omega) (gf := 14) (lb := #[.pointer (some ⟨Bs, 0, none⟩)]) rfl trivial (enters_of Try.func14 (by kernel_rfl) rfl)
      (all_stops Fence.wide 4 trivial rfl (by omega) Bs g c' a' N (by omega) w9 hBs2.1 hgl2 hBs2.2 hLg2) KeepB.trans (fun W l o o' hl ho h1 h2 => KeepB.of_below (belowK_b (Nat.le_refl _) W l o o' hl ho h1 h2) hgl2) (Below.refl _ _) (fun _ => rfl)
      (fun (pre : List (Nat × (Int × Int))) W => Boxed W w7.heap.size 3 (.int .i64 (pre.length : Int)) ∧ Chg (fun k => k = w7.heap.size) w9 W)
      (fun cd pre W => (cd = .exit 0 ∧ False ∧ (∃ n, Boxed W w7.heap.size 3 (.int .i64 n)) ∧ Chg (fun k => k = w7.heap.size) w9 W) ∨ (cd = .ret ∧ ¬ ∃ k, k ≤ N.length ∧ pre = upto N k))
      (fun s A B row hs hg hr => ⟨hs.1.kept hg (fun e => by
          obtain ⟨o, ho, hc⟩ := (hr _ e.symm).2
          rw [show A.heap[w7.heap.size]? = _ from hs.1] at ho
          cases ho
          cases hc), chg_row hs.2 hg (fun r e => (hr r e).1)⟩)
      (fun cd s A B row hs hg hr => by
        rcases hs with ⟨h1, h2, ⟨n, h3⟩, h4⟩ | h1
        · refine Or.inl ⟨h1, h2, ⟨n, h3.kept hg (fun e => ?_)⟩, chg_row h4 hg (fun r e => (hr r e).1)⟩
          obtain ⟨o, ho, hc⟩ := (hr _ e.symm).2
          rw [show A.heap[w7.heap.size]? = _ from h3] at ho
          cases ho
          cases hc
        · exact Or.inr h1)
      ⟨hbn2, Chg.refl _ _⟩
      (fun x af W => ∃ Bx, w9.heap.size ≤ Bx ∧ W.heap[Bx]? = some (.cells #[.int .i64 x.2.1, .int .i64 x.2.2] 32 (0, 0)) ∧ af = { tmps := #[.slice a L.length c, .int .i64 sp, undef, .pointer (some ⟨w.heap.size, 0, none⟩), .pointer (some ⟨w.heap.size + 1, 0, none⟩), .pointer (some ⟨w5.heap.size, 0, none⟩), .func (.func 14) #[] #[.pointer (some ⟨Bs, 0, none⟩)], .pointer (some ⟨w7.heap.size, 0, none⟩), undef, undef, .int .i64 x.1, .pointer (some ⟨Bx, 0, none⟩), .bool true, .bool false, .bool false, .slice a L.length c, .bool true, .bool false, .bool false, undef, .slice a L.length c, .slice av N.length cv, .int .i64 sp, .int .u64 s23, .int .u64 s24, .int .i64 st, .slice a L.length c, .func (.func 14) #[] #[.pointer (some ⟨Bs, 0, none⟩)], .func (.func 14) #[] #[.pointer (some ⟨Bs, 0, none⟩)], undef, undef, undef, undef, undef, undef, undef, undef, undef, undef, undef, undef, undef, undef, undef, undef, undef, undef, undef, undef, undef, undef, undef, undef, .func (.func 14) #[] #[.pointer (some ⟨Bs, 0, none⟩)], .int .i64 x.1, .agg #[.int .i64 x.2.1, .int .i64 x.2.2], undef, undef, undef, undef, undef, undef, undef, undef, undef, undef, undef, undef, undef, undef, undef, undef, undef, undef, undef, undef, undef, undef, undef, undef, undef, undef], defers := [] })
      (fun x af _ X Y row hs hg hr => by
        obtain ⟨Bx, h1, h2, h3⟩ := hs
        refine ⟨Bx, h1, (hg.block Bx (Array.getElem?_eq_some_iff.1 h2).1 (fun e => ?_)).trans h2, h3⟩
        obtain ⟨o, ho, hc⟩ := (hr Bx e.symm).2
        rw [h2] at ho
        cases ho
        cases hc)
      ?assign3 ?body3 ?done3 ?stop3
    case assign3 =>
      rintro l pre x W K ⟨hb1, hc1⟩ hK
      obtain ⟨xi, x1, x2⟩ := x
      dsimp only [encP] at *
      gi_wp2
      exact hK _ _ ((KeepsOthers.alloc _ _).from _) ((KeepB.refl g W).alloc (Nat.lt_of_lt_of_le hgl2 hc1.size) _) ⟨hb1.alloc _, hc1.alloc _⟩ ⟨W.heap.size, hc1.size, World.alloc_heap_new W _, rfl⟩
    case body3 =>
      rintro l pre x af W hl ⟨r, hr⟩ ⟨hb1, hc1⟩ ⟨Bx, hBx, bX, rfl⟩ hlt
      obtain ⟨xi, x1, x2⟩ := x
      dsimp only at bX ⊢
      have hbn := hb1.cell
      have hbf := hb1.frozen
      have bSt : Boxed W w.heap.size 3 (.int .i64 st) := (hc1.block _ hbS2.lt (by omega)).trans hbS2
      have bRs : Boxed W (w.heap.size + 1) 4 (.bool false) := (hc1.block _ hbR2.lt (by omega)).trans hbR2
      have bWt : Boxed W w5.heap.size 22 (.slice av N.length cv) := (hc1.block _ hbW2.lt (by omega)).trans hbW2
      have cSt := bSt.cell
      have cRs := bRs.cell
      have fRs := bRs.frozen
      have cWt := bWt.cell
      have hOw : OwnE W w4.heap.size (.slice av N.length cv) N := ownsRow_chg hO2 hc1 (fun q hq e => by
        have h1 := (World.ownsRow.lt hO2 q hq)
        have h2 := hOne q hq
        omega)
      obtain ⟨cX0, cX1⟩ : W.cell? ⟨Bx, 0, none⟩ = some (.int .i64 x1) ∧ W.cell? ⟨Bx, 1, none⟩ = some (.int .i64 x2) := by simp only [World.cell?, bX]; exact ⟨rfl, rfl⟩
      have hpl : pre.length ≤ 2000 := by omega
      obtain ⟨av2, cv2, hav, hlW, _, _, _⟩ := hOw.form
      simp only [Value.slice.injEq, true_and] at hav
      obtain ⟨rfl, rfl⟩ := hav
      rcases hlW with hnil | ⟨bw, ow, rfl, hbw, hcw⟩
      · rw [hnil] at hlt
        simp at hlt
      obtain ⟨cY0, cY1⟩ := hcw pre.length hlt
      obtain ⟨y, hy⟩ : ∃ y, N.getD pre.length (0, 0) = y := ⟨_, rfl⟩
      obtain ⟨y1, y2⟩ := y
      rw [hy] at cY0 cY1
      dsimp only at cY0 cY1
      have HY := hide hy
      have HHlt := hide hlt
      clear hcw hOw hy
      have hno : (xi ≠ pre.length ∨ (x1, x2) ≠ (y1, y2)) → ¬ ∃ k, k ≤ N.length ∧ pre ++ [(xi, (x1, x2))] = upto N k := by
        rintro hne ⟨k, hk, he⟩
        have hlk : k = pre.length + 1 := by have := congrArg List.length he; rw [upto_length] at this; simpa using this.symm
        subst hlk
        rw [upto_succ] at he
        have := (List.append_inj' he rfl).2
        simp only [List.cons.injEq, and_true, Prod.mk.injEq] at this
        have h2 := HY.out
        rcases hne with h | h
        · exact h this.1
        · apply h
          rw [← h2]
          exact this.2
      have HNo : Hid ((xi ≠ pre.length ∨ (x1, x2) ≠ (y1, y2)) → ∀ k, k ≤ N.length → ¬ pre ++ [(xi, (x1, x2))] = upto N k) := hide (fun hq k hk he => hno hq ⟨k, hk, he⟩)
      clear hno
      by_cases hxi : xi = pre.length
      rotate_left
      · refine wpIn_block ?_
        gi_wp2
        have hne0 : ((xi : Int) != (pre.length : Int)) = true := by simp; omega
        have hH : (fun u => u.cell? ⟨w7.heap.size, 0, none⟩ = some (.int .i64 (pre.length : Int)) ∧ u.cell? ⟨w5.heap.size, 0, none⟩ = some (.slice (some ⟨bw, ow, none⟩) N.length cv) ∧ u.cell? ⟨Bx, 0, none⟩ = some (.int .i64 x1) ∧ u.cell? ⟨Bx, 1, none⟩ = some (.int .i64 x2) ∧ u.cell? ⟨bw, ow + pre.length * 2, none⟩ = some (.int .i64 y1) ∧ u.cell? ⟨bw, ow + pre.length * 2 + 1, none⟩ = some (.int .i64 y2)) W.drew := ⟨hbn, cWt, cX0, cX1, cY0, cY1⟩
        refine region_round (fun u => u.cell? ⟨w7.heap.size, 0, none⟩ = some (.int .i64 (pre.length : Int)) ∧ u.cell? ⟨w5.heap.size, 0, none⟩ = some (.slice (some ⟨bw, ow, none⟩) N.length cv) ∧ u.cell? ⟨Bx, 0, none⟩ = some (.int .i64 x1) ∧ u.cell? ⟨Bx, 1, none⟩ = some (.int .i64 x2) ∧ u.cell? ⟨bw, ow + pre.length * 2, none⟩ = some (.int .i64 y1) ∧ u.cell? ⟨bw, ow + pre.length * 2 + 1, none⟩ = some (.int .i64 y2)) (by kernel_rfl) (by kernel_rfl) ?_
        refine any_take 0 (some 56) (.int .i64 (xi : Int)) rfl rfl (by kernel_rfl) (by kernel_rfl) (by kernel_rfl) (fun _ _ _ h => h) (by rfl) hH ?_ ?_
        · intro w hSw
          obtain ⟨q0, q1, q2, q3, q4, q5⟩ := hSw
          go_simp
        simp only [Act.put, List.setIfInBounds_toArray, List.set_cons_zero, List.set_cons_succ]
        refine any_take 1 (some 57) (.int .i64 (pre.length : Int)) rfl rfl (by kernel_rfl) (by kernel_rfl) (by kernel_rfl) (fun _ _ _ h => h) (by rfl) hH ?_ ?_
        · intro w hSw
          obtain ⟨q0, q1, q2, q3, q4, q5⟩ := hSw
          go_simp
        simp only [Act.put, List.setIfInBounds_toArray, List.set_cons_zero, List.set_cons_succ]
        refine any_take 2 (some 58) (.bool true) rfl rfl (by kernel_rfl) (by kernel_rfl) (by kernel_rfl) (fun _ _ _ h => h) (by rfl) hH ?_ ?_
        · intro w hSw
          obtain ⟨q0, q1, q2, q3, q4, q5⟩ := hSw
          go_simp
        simp only [Act.put, List.setIfInBounds_toArray, List.set_cons_zero, List.set_cons_succ]
        refine any_take 3 (some 59) (.bool true) rfl rfl (by kernel_rfl) (by kernel_rfl) (by kernel_rfl) (fun _ _ _ h => h) (by rfl) hH ?_ ?_
        · intro w hSw
          obtain ⟨q0, q1, q2, q3, q4, q5⟩ := hSw
          go_simp
        simp only [Act.put, List.setIfInBounds_toArray, List.set_cons_zero, List.set_cons_succ]
        refine any_skip 4 (some 60) rfl rfl (by kernel_rfl) (by kernel_rfl) (by kernel_rfl) (fun _ _ _ h => h) (by rfl) hH ?_
        simp only [Act.put, List.setIfInBounds_toArray, List.set_cons_zero, List.set_cons_succ]
        refine any_skip 5 (some 61) rfl rfl (by kernel_rfl) (by kernel_rfl) (by kernel_rfl) (fun _ _ _ h => h) (by rfl) hH ?_
        simp only [Act.put, List.setIfInBounds_toArray, List.set_cons_zero, List.set_cons_succ]
        refine any_skip 6 (some 62) rfl rfl (by kernel_rfl) (by kernel_rfl) (by kernel_rfl) (fun _ _ _ h => h) (by rfl) hH ?_
        simp only [Act.put, List.setIfInBounds_toArray, List.set_cons_zero, List.set_cons_succ]
        refine any_skip 7 (some 63) rfl rfl (by kernel_rfl) (by kernel_rfl) (by kernel_rfl) (fun _ _ _ h => h) (by rfl) hH ?_
        simp only [Act.put, List.setIfInBounds_toArray, List.set_cons_zero, List.set_cons_succ]
        refine any_take 8 (some 64) (.bool true) rfl rfl (by kernel_rfl) (by kernel_rfl) (by kernel_rfl) (fun _ _ _ h => h) (by rfl) hH ?_ ?_
        · intro w hSw
          obtain ⟨q0, q1, q2, q3, q4, q5⟩ := hSw
          go_simp
        simp only [Act.put, List.setIfInBounds_toArray, List.set_cons_zero, List.set_cons_succ]
        refine any_take 9 (some 65) (.bool true) rfl rfl (by kernel_rfl) (by kernel_rfl) (by kernel_rfl) (fun _ _ _ h => h) (by rfl) hH ?_ ?_
        · intro w hSw
          obtain ⟨q0, q1, q2, q3, q4, q5⟩ := hSw
          go_simp
        simp only [Act.put, List.setIfInBounds_toArray, List.set_cons_zero, List.set_cons_succ]
        refine any_skip 10 (some 66) rfl rfl (by kernel_rfl) (by kernel_rfl) (by kernel_rfl) (fun _ _ _ h => h) (by rfl) hH ?_
        simp only [Act.put, List.setIfInBounds_toArray, List.set_cons_zero, List.set_cons_succ]
        refine any_skip 11 (some 67) rfl rfl (by kernel_rfl) (by kernel_rfl) (by kernel_rfl) (fun _ _ _ h => h) (by rfl) hH ?_
        simp only [Act.put, List.setIfInBounds_toArray, List.set_cons_zero, List.set_cons_succ]
        refine any_skip 12 (some 68) rfl rfl (by kernel_rfl) (by kernel_rfl) (by kernel_rfl) (fun _ _ _ h => h) (by rfl) hH ?_
        simp only [Act.put, List.setIfInBounds_toArray, List.set_cons_zero, List.set_cons_succ]
        refine any_skip 13 (some 69) rfl rfl (by kernel_rfl) (by kernel_rfl) (by kernel_rfl) (fun _ _ _ h => h) (by rfl) hH ?_
        simp only [Act.put, List.setIfInBounds_toArray, List.set_cons_zero, List.set_cons_succ]
        refine any_skip 14 (some 70) rfl rfl (by kernel_rfl) (by kernel_rfl) (by kernel_rfl) (fun _ _ _ h => h) (by rfl) hH ?_
        simp only [Act.put, List.setIfInBounds_toArray, List.set_cons_zero, List.set_cons_succ]
        refine any_skip 15 (some 71) rfl rfl (by kernel_rfl) (by kernel_rfl) (by kernel_rfl) (fun _ _ _ h => h) (by rfl) hH ?_
        simp only [Act.put, List.setIfInBounds_toArray, List.set_cons_zero, List.set_cons_succ]
        refine any_take 16 (some 72) (.bool true) rfl rfl (by kernel_rfl) (by kernel_rfl) (by kernel_rfl) (fun _ _ _ h => h) (by rfl) hH ?_ ?_
        · intro w hSw
          obtain ⟨q0, q1, q2, q3, q4, q5⟩ := hSw
          go_simp
        simp only [Act.put, List.setIfInBounds_toArray, List.set_cons_zero, List.set_cons_succ]
        refine wpAnyH_done (by kernel_rfl) ?_ _
        apply_assumption
        gi_wp2
        refine ⟨(KeepsOthers.trans (KeepsOthers.drew W) (KeepsOthers.setCell _ _ _)).from _, ?_⟩
        first
          | exact Or.inr ⟨rfl, HNo.out (Or.inl hxi)⟩
          | exact Or.inr ⟨rfl, fun ⟨k, hk, he⟩ => HNo.out (Or.inl hxi) k hk he⟩
          | exact ⟨rfl, HNo.out (Or.inl hxi)⟩
          | exact ⟨rfl, fun ⟨k, hk, he⟩ => HNo.out (Or.inl hxi) k hk he⟩
      subst hxi
      have hne0 : ((pre.length : Int) != (pre.length : Int)) = false := by simp
      have hge0 : decide ((N.length : Int) ≤ (pre.length : Int)) = false := by simp; omega
      have hge1 : ¬ N.length ≤ pre.length := by omega
      have hge2 : decide (N.length ≤ pre.length) = false := by simp; omega
      have hgx := fun u op p q => guard_E u op p q #[.int .i64 x1, .int .i64 x2] #[.int .i64 y1, .int .i64 y2]
      have hix : (pre.length : Int) < (N.length : Int) := by omega
      have hH : (fun u => u.cell? ⟨w7.heap.size, 0, none⟩ = some (.int .i64 (pre.length : Int)) ∧ u.cell? ⟨w5.heap.size, 0, none⟩ = some (.slice (some ⟨bw, ow, none⟩) N.length cv) ∧ u.cell? ⟨Bx, 0, none⟩ = some (.int .i64 x1) ∧ u.cell? ⟨Bx, 1, none⟩ = some (.int .i64 x2) ∧ u.cell? ⟨bw, ow + pre.length * 2, none⟩ = some (.int .i64 y1) ∧ u.cell? ⟨bw, ow + pre.length * 2 + 1, none⟩ = some (.int .i64 y2)) W.drew := ⟨hbn, cWt, cX0, cX1, cY0, cY1⟩
      by_cases hxy : (x1, x2) = (y1, y2)
      · refine wpIn_block ?_
        gi_wp2
        have hqq := fun u : World => neq_E u (x1, x2) (y1, y2) true (by simpa using hxy)
        simp only [Bool.not_true] at hqq
        refine region_round (fun u => u.cell? ⟨w7.heap.size, 0, none⟩ = some (.int .i64 (pre.length : Int)) ∧ u.cell? ⟨w5.heap.size, 0, none⟩ = some (.slice (some ⟨bw, ow, none⟩) N.length cv) ∧ u.cell? ⟨Bx, 0, none⟩ = some (.int .i64 x1) ∧ u.cell? ⟨Bx, 1, none⟩ = some (.int .i64 x2) ∧ u.cell? ⟨bw, ow + pre.length * 2, none⟩ = some (.int .i64 y1) ∧ u.cell? ⟨bw, ow + pre.length * 2 + 1, none⟩ = some (.int .i64 y2)) (by kernel_rfl) (by kernel_rfl) ?_
        refine any_take 0 (some 56) (.int .i64 (pre.length : Int)) rfl rfl (by kernel_rfl) (by kernel_rfl) (by kernel_rfl) (fun _ _ _ h => h) (by rfl) hH ?_ ?_
        · intro w hSw
          obtain ⟨q0, q1, q2, q3, q4, q5⟩ := hSw
          go_simp
        simp only [Act.put, List.setIfInBounds_toArray, List.set_cons_zero, List.set_cons_succ]
        refine any_take 1 (some 57) (.int .i64 (pre.length : Int)) rfl rfl (by kernel_rfl) (by kernel_rfl) (by kernel_rfl) (fun _ _ _ h => h) (by rfl) hH ?_ ?_
        · intro w hSw
          obtain ⟨q0, q1, q2, q3, q4, q5⟩ := hSw
          go_simp
        simp only [Act.put, List.setIfInBounds_toArray, List.set_cons_zero, List.set_cons_succ]
        refine any_take 2 (some 58) (.bool false) rfl rfl (by kernel_rfl) (by kernel_rfl) (by kernel_rfl) (fun _ _ _ h => h) (by rfl) hH ?_ ?_
        · intro w hSw
          obtain ⟨q0, q1, q2, q3, q4, q5⟩ := hSw
          go_simp
        simp only [Act.put, List.setIfInBounds_toArray, List.set_cons_zero, List.set_cons_succ]
        refine any_take 3 (some 59) (.bool false) rfl rfl (by kernel_rfl) (by kernel_rfl) (by kernel_rfl) (fun _ _ _ h => h) (by rfl) hH ?_ ?_
        · intro w hSw
          obtain ⟨q0, q1, q2, q3, q4, q5⟩ := hSw
          go_simp
        simp only [Act.put, List.setIfInBounds_toArray, List.set_cons_zero, List.set_cons_succ]
        refine any_take 4 (some 60) (.int .i64 (pre.length : Int)) rfl rfl (by kernel_rfl) (by kernel_rfl) (by kernel_rfl) (fun _ _ _ h => h) (by rfl) hH ?_ ?_
        · intro w hSw
          obtain ⟨q0, q1, q2, q3, q4, q5⟩ := hSw
          go_simp
        simp only [Act.put, List.setIfInBounds_toArray, List.set_cons_zero, List.set_cons_succ]
        refine any_take 5 (some 61) (.slice (some ⟨bw, ow, none⟩) N.length cv) rfl rfl (by kernel_rfl) (by kernel_rfl) (by kernel_rfl) (fun _ _ _ h => h) (by rfl) hH ?_ ?_
        · intro w hSw
          obtain ⟨q0, q1, q2, q3, q4, q5⟩ := hSw
          go_simp
        simp only [Act.put, List.setIfInBounds_toArray, List.set_cons_zero, List.set_cons_succ]
        refine any_take 6 (some 62) (.int .i64 (N.length : Int)) rfl rfl (by kernel_rfl) (by kernel_rfl) (by kernel_rfl) (fun _ _ _ h => h) (by rfl) hH ?_ ?_
        · intro w hSw
          obtain ⟨q0, q1, q2, q3, q4, q5⟩ := hSw
          go_simp
        simp only [Act.put, List.setIfInBounds_toArray, List.set_cons_zero, List.set_cons_succ]
        refine any_take 7 (some 63) (.bool false) rfl rfl (by kernel_rfl) (by kernel_rfl) (by kernel_rfl) (fun _ _ _ h => h) (by rfl) hH ?_ ?_
        · intro w hSw
          obtain ⟨q0, q1, q2, q3, q4, q5⟩ := hSw
          go_simp
        simp only [Act.put, List.setIfInBounds_toArray, List.set_cons_zero, List.set_cons_succ]
        refine any_take 8 (some 64) (.bool false) rfl rfl (by kernel_rfl) (by kernel_rfl) (by kernel_rfl) (fun _ _ _ h => h) (by rfl) hH ?_ ?_
        · intro w hSw
          obtain ⟨q0, q1, q2, q3, q4, q5⟩ := hSw
          go_simp
        simp only [Act.put, List.setIfInBounds_toArray, List.set_cons_zero, List.set_cons_succ]
        refine any_take 9 (some 65) (.bool false) rfl rfl (by kernel_rfl) (by kernel_rfl) (by kernel_rfl) (fun _ _ _ h => h) (by rfl) hH ?_ ?_
        · intro w hSw
          obtain ⟨q0, q1, q2, q3, q4, q5⟩ := hSw
          go_simp
        simp only [Act.put, List.setIfInBounds_toArray, List.set_cons_zero, List.set_cons_succ]
        refine any_take 10 (some 66) (.agg #[.int .i64 x1, .int .i64 x2]) rfl rfl (by kernel_rfl) (by kernel_rfl) (by kernel_rfl) (fun _ _ _ h => h) (by rfl) hH ?_ ?_
        · intro w hSw
          obtain ⟨q0, q1, q2, q3, q4, q5⟩ := hSw
          go_simp
        simp only [Act.put, List.setIfInBounds_toArray, List.set_cons_zero, List.set_cons_succ]
        refine any_take 11 (some 67) (.slice (some ⟨bw, ow, none⟩) N.length cv) rfl rfl (by kernel_rfl) (by kernel_rfl) (by kernel_rfl) (fun _ _ _ h => h) (by rfl) hH ?_ ?_
        · intro w hSw
          obtain ⟨q0, q1, q2, q3, q4, q5⟩ := hSw
          go_simp
        simp only [Act.put, List.setIfInBounds_toArray, List.set_cons_zero, List.set_cons_succ]
        refine any_take 12 (some 68) (.int .i64 (pre.length : Int)) rfl rfl (by kernel_rfl) (by kernel_rfl) (by kernel_rfl) (fun _ _ _ h => h) (by rfl) hH ?_ ?_
        · intro w hSw
          obtain ⟨q0, q1, q2, q3, q4, q5⟩ := hSw
          go_simp
        simp only [Act.put, List.setIfInBounds_toArray, List.set_cons_zero, List.set_cons_succ]
        refine any_take 13 (some 69) (.pointer (some ⟨bw, ow + pre.length * 2, none⟩)) rfl rfl (by kernel_rfl) (by kernel_rfl) (by kernel_rfl) (fun _ _ _ h => h) (by rfl) hH ?_ ?_
        · intro w hSw
          obtain ⟨q0, q1, q2, q3, q4, q5⟩ := hSw
          go_simp
        simp only [Act.put, List.setIfInBounds_toArray, List.set_cons_zero, List.set_cons_succ]
        refine any_take 14 (some 70) (.agg #[.int .i64 y1, .int .i64 y2]) rfl rfl (by kernel_rfl) (by kernel_rfl) (by kernel_rfl) (fun _ _ _ h => h) (by rfl) hH ?_ ?_
        · intro w hSw
          obtain ⟨q0, q1, q2, q3, q4, q5⟩ := hSw
          go_simp
        simp only [Act.put, List.setIfInBounds_toArray, List.set_cons_zero, List.set_cons_succ]
        refine any_take 15 (some 71) (.bool false) rfl rfl (by kernel_rfl) (by kernel_rfl) (by kernel_rfl) (fun _ _ _ h => h) (by rfl) hH ?_ ?_
        · intro w hSw
          obtain ⟨q0, q1, q2, q3, q4, q5⟩ := hSw
          go_simp
        simp only [Act.put, List.setIfInBounds_toArray, List.set_cons_zero, List.set_cons_succ]
        refine any_take 16 (some 72) (.bool false) rfl rfl (by kernel_rfl) (by kernel_rfl) (by kernel_rfl) (fun _ _ _ h => h) (by rfl) hH ?_ ?_
        · intro w hSw
          obtain ⟨q0, q1, q2, q3, q4, q5⟩ := hSw
          go_simp
        simp only [Act.put, List.setIfInBounds_toArray, List.set_cons_zero, List.set_cons_succ]
        refine wpAnyH_done (by kernel_rfl) ?_ _
        apply_assumption
        gi_wp2
        refine ⟨(KeepsOthers.trans (KeepsOthers.drew W) (KeepsOthers.setCell _ _ _)).from _, ⟨(grownBy_setCell' W.drew w7.heap.size _).size, (grownBy_setCell' W.drew w7.heap.size _).block g (Nat.lt_of_lt_of_le hgl2 hc1.size) (by simp; omega)⟩, ?_, chg_set hc1.drew rfl _⟩
        have hb9 := hb1.set (.int .i64 ((pre.length : Int) + 1))
        have hb10 : Boxed (W.setCell ⟨w7.heap.size, 0, none⟩ (.int .i64 ((pre.length : Int) + 1))).drew w7.heap.size 3 (.int .i64 ((pre.length : Int) + 1)) := hb9
        simpa using hb10
      · refine wpIn_block ?_
        gi_wp2
        have hqq := fun u : World => neq_E u (x1, x2) (y1, y2) false (by simpa using hxy)
        simp only [Bool.not_false] at hqq
        refine region_round (fun u => u.cell? ⟨w7.heap.size, 0, none⟩ = some (.int .i64 (pre.length : Int)) ∧ u.cell? ⟨w5.heap.size, 0, none⟩ = some (.slice (some ⟨bw, ow, none⟩) N.length cv) ∧ u.cell? ⟨Bx, 0, none⟩ = some (.int .i64 x1) ∧ u.cell? ⟨Bx, 1, none⟩ = some (.int .i64 x2) ∧ u.cell? ⟨bw, ow + pre.length * 2, none⟩ = some (.int .i64 y1) ∧ u.cell? ⟨bw, ow + pre.length * 2 + 1, none⟩ = some (.int .i64 y2)) (by kernel_rfl) (by kernel_rfl) ?_
        refine any_take 0 (some 56) (.int .i64 (pre.length : Int)) rfl rfl (by kernel_rfl) (by kernel_rfl) (by kernel_rfl) (fun _ _ _ h => h) (by rfl) hH ?_ ?_
        · intro w hSw
          obtain ⟨q0, q1, q2, q3, q4, q5⟩ := hSw
          go_simp
        simp only [Act.put, List.setIfInBounds_toArray, List.set_cons_zero, List.set_cons_succ]
        refine any_take 1 (some 57) (.int .i64 (pre.length : Int)) rfl rfl (by kernel_rfl) (by kernel_rfl) (by kernel_rfl) (fun _ _ _ h => h) (by rfl) hH ?_ ?_
        · intro w hSw
          obtain ⟨q0, q1, q2, q3, q4, q5⟩ := hSw
          go_simp
        simp only [Act.put, List.setIfInBounds_toArray, List.set_cons_zero, List.set_cons_succ]
        refine any_take 2 (some 58) (.bool false) rfl rfl (by kernel_rfl) (by kernel_rfl) (by kernel_rfl) (fun _ _ _ h => h) (by rfl) hH ?_ ?_
        · intro w hSw
          obtain ⟨q0, q1, q2, q3, q4, q5⟩ := hSw
          go_simp
        simp only [Act.put, List.setIfInBounds_toArray, List.set_cons_zero, List.set_cons_succ]
        refine any_take 3 (some 59) (.bool false) rfl rfl (by kernel_rfl) (by kernel_rfl) (by kernel_rfl) (fun _ _ _ h => h) (by rfl) hH ?_ ?_
        · intro w hSw
          obtain ⟨q0, q1, q2, q3, q4, q5⟩ := hSw
          go_simp
        simp only [Act.put, List.setIfInBounds_toArray, List.set_cons_zero, List.set_cons_succ]
        refine any_take 4 (some 60) (.int .i64 (pre.length : Int)) rfl rfl (by kernel_rfl) (by kernel_rfl) (by kernel_rfl) (fun _ _ _ h => h) (by rfl) hH ?_ ?_
        · intro w hSw
          obtain ⟨q0, q1, q2, q3, q4, q5⟩ := hSw
          go_simp
        simp only [Act.put, List.setIfInBounds_toArray, List.set_cons_zero, List.set_cons_succ]
        refine any_take 5 (some 61) (.slice (some ⟨bw, ow, none⟩) N.length cv) rfl rfl (by kernel_rfl) (by kernel_rfl) (by kernel_rfl) (fun _ _ _ h => h) (by rfl) hH ?_ ?_
        · intro w hSw
          obtain ⟨q0, q1, q2, q3, q4, q5⟩ := hSw
          go_simp
        simp only [Act.put, List.setIfInBounds_toArray, List.set_cons_zero, List.set_cons_succ]
        refine any_take 6 (some 62) (.int .i64 (N.length : Int)) rfl rfl (by kernel_rfl) (by kernel_rfl) (by kernel_rfl) (fun _ _ _ h => h) (by rfl) hH ?_ ?_
        · intro w hSw
          obtain ⟨q0, q1, q2, q3, q4, q5⟩ := hSw
          go_simp
        simp only [Act.put, List.setIfInBounds_toArray, List.set_cons_zero, List.set_cons_succ]
        refine any_take 7 (some 63) (.bool false) rfl rfl (by kernel_rfl) (by kernel_rfl) (by kernel_rfl) (fun _ _ _ h => h) (by rfl) hH ?_ ?_
        · intro w hSw
          obtain ⟨q0, q1, q2, q3, q4, q5⟩ := hSw
          go_simp
        simp only [Act.put, List.setIfInBounds_toArray, List.set_cons_zero, List.set_cons_succ]
        refine any_take 8 (some 64) (.bool false) rfl rfl (by kernel_rfl) (by kernel_rfl) (by kernel_rfl) (fun _ _ _ h => h) (by rfl) hH ?_ ?_
        · intro w hSw
          obtain ⟨q0, q1, q2, q3, q4, q5⟩ := hSw
          go_simp
        simp only [Act.put, List.setIfInBounds_toArray, List.set_cons_zero, List.set_cons_succ]
        refine any_take 9 (some 65) (.bool false) rfl rfl (by kernel_rfl) (by kernel_rfl) (by kernel_rfl) (fun _ _ _ h => h) (by rfl) hH ?_ ?_
        · intro w hSw
          obtain ⟨q0, q1, q2, q3, q4, q5⟩ := hSw
          go_simp
        simp only [Act.put, List.setIfInBounds_toArray, List.set_cons_zero, List.set_cons_succ]
        refine any_take 10 (some 66) (.agg #[.int .i64 x1, .int .i64 x2]) rfl rfl (by kernel_rfl) (by kernel_rfl) (by kernel_rfl) (fun _ _ _ h => h) (by rfl) hH ?_ ?_
        · intro w hSw
          obtain ⟨q0, q1, q2, q3, q4, q5⟩ := hSw
          go_simp
        simp only [Act.put, List.setIfInBounds_toArray, List.set_cons_zero, List.set_cons_succ]
        refine any_take 11 (some 67) (.slice (some ⟨bw, ow, none⟩) N.length cv) rfl rfl (by kernel_rfl) (by kernel_rfl) (by kernel_rfl) (fun _ _ _ h => h) (by rfl) hH ?_ ?_
        · intro w hSw
          obtain ⟨q0, q1, q2, q3, q4, q5⟩ := hSw
          go_simp
        simp only [Act.put, List.setIfInBounds_toArray, List.set_cons_zero, List.set_cons_succ]
        refine any_take 12 (some 68) (.int .i64 (pre.length : Int)) rfl rfl (by kernel_rfl) (by kernel_rfl) (by kernel_rfl) (fun _ _ _ h => h) (by rfl) hH ?_ ?_
        · intro w hSw
          obtain ⟨q0, q1, q2, q3, q4, q5⟩ := hSw
          go_simp
        simp only [Act.put, List.setIfInBounds_toArray, List.set_cons_zero, List.set_cons_succ]
        refine any_take 13 (some 69) (.pointer (some ⟨bw, ow + pre.length * 2, none⟩)) rfl rfl (by kernel_rfl) (by kernel_rfl) (by kernel_rfl) (fun _ _ _ h => h) (by rfl) hH ?_ ?_
        · intro w hSw
          obtain ⟨q0, q1, q2, q3, q4, q5⟩ := hSw
          go_simp
        simp only [Act.put, List.setIfInBounds_toArray, List.set_cons_zero, List.set_cons_succ]
        refine any_take 14 (some 70) (.agg #[.int .i64 y1, .int .i64 y2]) rfl rfl (by kernel_rfl) (by kernel_rfl) (by kernel_rfl) (fun _ _ _ h => h) (by rfl) hH ?_ ?_
        · intro w hSw
          obtain ⟨q0, q1, q2, q3, q4, q5⟩ := hSw
          go_simp
        simp only [Act.put, List.setIfInBounds_toArray, List.set_cons_zero, List.set_cons_succ]
        refine any_take 15 (some 71) (.bool true) rfl rfl (by kernel_rfl) (by kernel_rfl) (by kernel_rfl) (fun _ _ _ h => h) (by rfl) hH ?_ ?_
        · intro w hSw
          obtain ⟨q0, q1, q2, q3, q4, q5⟩ := hSw
          go_simp
        simp only [Act.put, List.setIfInBounds_toArray, List.set_cons_zero, List.set_cons_succ]
        refine any_take 16 (some 72) (.bool true) rfl rfl (by kernel_rfl) (by kernel_rfl) (by kernel_rfl) (fun _ _ _ h => h) (by rfl) hH ?_ ?_
        · intro w hSw
          obtain ⟨q0, q1, q2, q3, q4, q5⟩ := hSw
          go_simp
        simp only [Act.put, List.setIfInBounds_toArray, List.set_cons_zero, List.set_cons_succ]
        refine wpAnyH_done (by kernel_rfl) ?_ _
        apply_assumption
        gi_wp2
        refine ⟨(KeepsOthers.trans (KeepsOthers.drew W) (KeepsOthers.setCell _ _ _)).from _, ?_⟩
        first
          | exact Or.inr ⟨rfl, HNo.out (Or.inr hxy)⟩
          | exact Or.inr ⟨rfl, fun ⟨k, hk, he⟩ => HNo.out (Or.inr hxy) k hk he⟩
          | exact ⟨rfl, HNo.out (Or.inr hxy)⟩
          | exact ⟨rfl, fun ⟨k, hk, he⟩ => HNo.out (Or.inr hxy) k hk he⟩
    case done3 =>
      rintro D2 ys W2 hD2 rfl ⟨hb2, hc2⟩ hK2
      have hDl2 : D2 < W2.heap.size := (Array.getElem?_eq_some_iff.1 hK2).1
      have hK1 : W2.heap[D]? = some (.deferred (some [])) := (hc2.block D (Array.getElem?_eq_some_iff.1 hK9).1 (by omega)).trans hK9
      have bR9 : Boxed W2 (w.heap.size + 1) 4 (.bool false) := (hc2.block _ hbR2.lt (by omega)).trans hbR2
      have bW9 : Boxed W2 w5.heap.size 22 (.slice av N.length cv) := (hc2.block _ hbW2.lt (by omega)).trans hbW2
      have hB9 : Below w.heap.size w W2 := hB2.trans (hc2.below _ hB2.size (fun i hi => by omega))
      rw [upto_length] at hb2
      gi_wp2_with fail
      refine ⟨trivial, ?_⟩
      gi_at_call 4
      refine (callsIn_wide.2 (HJ _).out).mono ?_
      rintro e w10 ⟨rfl, hb10⟩
      have b10 : Boxed w10 w7.heap.size 3 (.int .i64 (N.length : Int)) := (hb10.block _ hb2.lt).trans hb2
      have bR10 : Boxed w10 (w.heap.size + 1) 4 (.bool false) := (hb10.block _ bR9.lt).trans bR9
      have bW10 : Boxed w10 w5.heap.size 22 (.slice av N.length cv) := (hb10.block _ bW9.lt).trans bW9
      have hK10 : w10.heap[D]? = some (.deferred (some [])) := (hb10.block _ (Array.getElem?_eq_some_iff.1 hK1).1).trans hK1
      have hK20 : w10.heap[D2]? = some (.deferred (some [])) := (hb10.block _ hDl2).trans hK2
      have hB10 : Below w.heap.size w w10 := hB9.trans (hb10.mono hB9.size)
      have e1 := b10.cell
      have e2 := bR10.cell
      have e3 := bR10.frozen
      have e4 := bW10.cell
      have hnn : ((N.length : Int) == (N.length : Int)) = true := by simp
      have hD12 : D ≠ D2 := by have := (Array.getElem?_eq_some_iff.1 hK9).1; omega
      have bR11 := bR10.set (.bool true)
      have hB11 := hB10.setCell (p := ⟨w.heap.size + 1, 0, none⟩) (by simp) (.bool true)
      have hgr := grownBy_setCell' w10 (w.heap.size + 1) (.bool true)
      have hK11 : (w10.setCell ⟨w.heap.size + 1, 0, none⟩ (.bool true)).heap[D]? = some (.deferred (some [])) := (hgr.block D (Array.getElem?_eq_some_iff.1 hK10).1 (by simp; omega)).trans hK10
      have hK21 : (w10.setCell ⟨w.heap.size + 1, 0, none⟩ (.bool true)).heap[D2]? = some (.deferred (some [])) := (hgr.block D2 (Array.getElem?_eq_some_iff.1 hK20).1 (by simp; omega)).trans hK20
      clear b10 bR10 bW10 hb10 hB10 hgr
      gi_wp2_with fail
      generalize w10.setCell ⟨w.heap.size + 1, 0, none⟩ (.bool true) = w11 at *
      refine ⟨by simp, .inl ⟨_, _, rfl, run_takeDeferred hK21, ?_⟩⟩
      have hP : ∀ (o : Obj) (k : Nat), k ≠ D2 → (w11.putObj D2 o).heap[k]? = w11.heap[k]? := fun o k hk => by
        simp only [World.putObj]
        rw [Array.getElem?_setIfInBounds_ne (by omega)]
      have hK12 : (w11.putObj D2 (.deferred none)).heap[D]? = some (.deferred (some [])) := (hP _ D hD12).trans hK11
      refine ⟨by simp, .inl ⟨_, _, rfl, run_takeDeferred hK12, ?_⟩⟩
      have hP2 : ∀ (u : World) (o : Obj) (k : Nat), k ≠ D → (u.putObj D o).heap[k]? = u.heap[k]? := fun u o k hk => by
        simp only [World.putObj]
        rw [Array.getElem?_setIfInBounds_ne (by omega)]
      have bR13 : Boxed ((w11.putObj D2 (.deferred none)).putObj D (.deferred none)) (w.heap.size + 1) 4 (.bool true) := (hP2 _ _ _ (by omega)).trans ((hP _ _ (by omega)).trans bR11)
      exact ⟨_, ret_bool rfl _ _ _ _ rfl bR13, rfl, (hB11.trans (belowK_b (w := w) (Nat.le_refl _) w11 D2 _ _ (by omega) hK21 rfl rfl)).trans (belowK_b (w := w) (Nat.le_refl _) _ D _ _ (by omega) hK12 rfl rfl)⟩
    case stop3 =>
      rintro D2 cd pre W2 hD2 hsp hix hK2
      rcases hix with ⟨_, h2, _⟩ | ⟨rfl, hno⟩
      · exact h2.elim
      · exact absurd hsp hno

set_option maxRecDepth 100000 in
theorem extentWalks_lifted (os : Os) (started : os.Started) (H : Type) (enc : TypeId × Value → H) :
    ReturnsInHanded {} Try.checked os 3 .any (Rows.extentWalksSpec.pre6 enc Try.prog Try.f3 Rows.extentWalksRow.domain false) (Rows.extentWalksSpec.post enc Try.prog Try.f3 false true false false) := by
  refine returnsInHanded_of_change (C := Try.checked) own started (by kernel_rfl) Try.func3
    (ChangeSpec.witness6 (enc := enc) (C := Try.checked) false ⟨#[], #[.slice none 0 0, .int .i64 0], []⟩ 8 (by kernel_rfl) (by kernel_rfl) (by kernel_rfl) (by kernel_rfl)) ?_
  intro W base args ds gs before hval0 hW _ _
  have hval : ∀ (j : Nat) t v, Try.f3.params[j]? = some t → args[j]? = some v → Value.okWide Try.prog W .any base t v := hval0
  have hW' := hW
  obtain ⟨p, q, hA0, hV, rfl, hfz, hnd⟩ := hW
  have hA : DataW.TrodAll enc Try.prog W 0 (fun _ => true) true Try.f3.params.toList args.toList ds p := hA0
  rw [Try.params3] at hA hval
  obtain ⟨v0, vs0, d0, ds0, p0, q0, hargs0, rfl, rfl, h0, r0⟩ := trodAll_cons hA
  obtain ⟨v1, vs1, d1, ds1, p1, q1, hargs1, rfl, rfl, h1, r1⟩ := trodAll_cons r0
  obtain ⟨rfl, rfl, rfl⟩ := trodAll_nil r1
  subst hargs1
  obtain rfl : args = #[v0, v1] := by cases args; simp_all
  obtain ⟨rfl, rfl⟩ := trodVars_none hV
  simp only [List.append_nil] at hW'
  have hlt0 : ∀ x ∈ p0, x.block < W.heap.size := fun x hx => by simpa using hW'.lt x (by simp [hx])
  obtain ⟨a0, cap0, l0, rfl, hn0, hl0⟩ := open_exts (hval 0 22 v0 rfl rfl) h0
  obtain ⟨x1, rfl, rfl, rfl, w1⟩ := open_int Try.underlying3 (hval 1 3 v1 rfl rfl) h1
  clear hA0
  refine (walks_walk sort_says W a0 cap0 l0 hl0 x1).mono fun e W' ⟨he, hb⟩ => ?_
  subst he
  refine ⟨_, rfl, _, _, _, [], (p0 ++ ([] ++ [])), [], hW', ?_, ?_, rfl, hb.frame _, fun h => by cases h⟩
  · exact trodAll_cons_mk (shut_bool Try.underlying4 _) trodAll_mk0
  · exact trodAll_cons_mk (Below.trod laidOut (by kernel_rfl) (of_decide_eq_true (by kernel_rfl)) h0 hb hlt0) (trodAll_cons_mk (shut_int Try.underlying3 w1) (trodAll_mk0))

theorem extentWalks_holds : Rows.ExtentWalksSaid :=
  OpenClaim.holds_of_wide 3 Try.f3 rfl rfl rfl rfl rfl rfl rfl ⟨rfl, rfl, rfl, rfl, rfl⟩ rfl rfl rfl rfl rfl (by kernel_rfl) Try.func3 (by kernel_rfl)
    (of_decide_eq_true (by kernel_rfl)) (by unfold Func.isWrapper; first | (rw [if_pos (by decide +kernel)]; kernel_rfl) | (rw [if_neg (by decide +kernel)]; exact ⟨rfl, rfl⟩))
    (fun os started H enc _ => extentWalks_lifted os started H enc)
end Go.Proofs.Ytlkfabcjknaogaa.Oct
