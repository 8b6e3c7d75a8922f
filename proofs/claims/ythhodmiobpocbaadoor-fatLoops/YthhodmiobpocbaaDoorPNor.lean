/- Norm: the one form of parts. -/
import Derived.Test.YthhodmiobpocbaaDoorPRis
namespace Go.Proofs.YthhodmiobpocbaaDoor.Oct
open Go.RowKit Go.Sort

/-- The one form of parts; its numbers are theirs. -/
structure Normed (L N : List (Int × Int)) : Prop where
  form : Form N
  set : ∀ x, InE N x ↔ InE L x
  len : N.length ≤ L.length
  fst : ∀ p ∈ N, ∃ q ∈ L, p.1 = q.1
  snd : ∀ p ∈ N, ∃ q ∈ L, p.2 = q.2

theorem Rise.set {L D : List (Int × Int)} (h : Rise L D) (x : Int) : InE D x ↔ InE L x := by
  constructor
  · rintro ⟨p, hp, hx⟩
    exact ⟨p, ((h.mem p).1 hp).1, hx⟩
  · rintro ⟨p, hp, hx⟩
    exact ⟨p, (h.mem p).2 ⟨hp, by omega⟩, hx⟩

theorem Made.normed {L D N : List (Int × Int)} (hr : Rise L D) (h : Made D N) : Normed L N :=
  ⟨h.form, fun x => (h.set x).trans (hr.set x), Nat.le_trans h.len hr.len, fun p hp => by obtain ⟨q, hq, e⟩ := h.fst p hp; exact ⟨q, ((hr.mem q).1 hq).1, e⟩, fun p hp => by obtain ⟨q, hq, e⟩ := h.snd p hp; exact ⟨q, ((hr.mem q).1 hq).1, e⟩⟩

theorem take_step (D : List (Int × Int)) (k : Nat) (hk : k < D.length) : D.take (k + 1) = D.take k ++ [D.getD k (0, 0)] := by
  have e : D.getD k (0, 0) = D[k] := by simp [hk]
  rw [List.take_succ_eq_append_getElem hk, e]

theorem rise_step {L D : List (Int × Int)} (hr : Rise L D) {k : Nat} (hk : k < D.length) {O : List (Int × Int)} (h : Made (D.take k) O) : Made (D.take (k + 1)) (nstep O (D.getD k (0, 0))) := by
  have e : D.getD k (0, 0) = D[k] := by simp [hk]
  rw [take_step D k hk]
  refine h.step _ (by rw [e]; exact hr.fill _ (List.getElem_mem _)) (fun q hq => ?_)
  rw [e]
  obtain ⟨i, hi, rfl⟩ := List.getElem_of_mem hq
  simp at hi
  rw [List.getElem_take]
  exact List.pairwise_iff_getElem.1 hr.sort i k (by omega) hk (by omega)

theorem setE (O : List (Int × Int)) (n : Nat) (x1 x2 : Int) (hn : n < O.length) (h1 : x1 = (O.getD n (0, 0)).1) : (O.flatMap encE).set (n * 2 + 1) (.int .i64 x2) = (O.set n (x1, x2)).flatMap encE := by
  induction O generalizing n with
  | nil => simp at hn
  | cons p O ih =>
    cases n with
    | zero =>
      simp at h1
      subst h1
      simp [encE]
    | succ n =>
      simp only [List.flatMap_cons, List.set_cons_succ]
      rw [show (n + 1) * 2 + 1 = (encE p).length + (n * 2 + 1) by simp [encE]; omega, List.set_append_right _ _ (by omega), Nat.add_sub_cancel_left]
      rw [ih n (by simpa using hn) (by simpa using h1)]

theorem OwnE.mono {w : World} {B B' : Nat} {v : Value} {L : List (Int × Int)} (h : OwnE w B v L) (hb : B' ≤ B) : OwnE w B' v L := by
  refine ⟨h.1, ?_⟩
  rcases h.2 with h1 | ⟨g, cap, cur, h1, hg, hr⟩
  · exact Or.inl h1
  · exact Or.inr ⟨g, cap, cur, h1, Nat.le_trans hb hg, hr⟩

theorem below_ahead {B : Nat} {a w : World} (h : RowKit.Below B a w) (n : Nat) : RowKit.Below B a (w.drewN n) := ⟨h.os, h.tape, h.output, h.size, h.block⟩

set_option maxHeartbeats 4000000 in
set_option maxRecDepth 100000 in
theorem norm_any (hS : SortSays) (w : World) (a : Option Addr) (c : Nat) (L : List (Int × Int)) (h : LiesE w a L) (hl : L.length ≤ 1000000) :
    Calls Tryd.prog 45 #[.slice a L.length c] w fun e w' => ∃ v N, e = .returned v ∧ OwnE w' w.heap.size v N ∧ Normed L N ∧ RowKit.Below w.heap.size w w' := by
  have HR := hide (rising_any hS w a c L h hl)
  obtain ⟨i1, hi, hz0, hz1, hz2⟩ := info_parts info_E
  clear hS h
  go_enter Tryd.func45, Tryd.ntmps45
  go_wp2_with fail
  refine HR.out.mono ?_
  rintro e w1 ⟨v1, D, rfl, ho1, hr1, hb1⟩
  obtain ⟨a1, c1, rfl, hl1, hlc, hcm, _⟩ := ho1.form
  have HL1 := hide hl1
  have HRi := hide hr1
  have HB1 := hide hb1
  have hdl : D.length ≤ 1000000 := Nat.le_trans hr1.len hl
  clear ho1 hr1 hb1 hl1 HR
  go_wp2_with fail
  go_loopw [3, 10] (fun v i wr => ∃ (k : Nat) (O : List (Int × Int)), k ≤ D.length ∧ i = .int .i64 k ∧ Made (D.take k) O ∧ OwnE wr w1.heap.size v O ∧ RowKit.Below w1.heap.size w1 wr) (fun _ i _ => D.length - (intOf i).toNat)
  case atStart => exact ⟨0, [], by omega, by simp, by simpa using Made.nil, OwnE.nil _ _, RowKit.Below.refl _ _⟩
  case round =>
    obtain ⟨k, O, hk, rfl, hmd, ho, hbel⟩ := hrel
    have HO := hide ho
    have HBel := hide hbel
    have HM := hide hmd
    have hsz := hbel.size
    clear ho hbel hmd
    by_cases hlt : k < D.length
    · rcases HL1.out with hnil | ⟨b, off, ha, hb, hc⟩
      · rw [hnil] at hlt; simp at hlt
      subst ha
      obtain ⟨q0, q1⟩ := hc k hlt
      have r0 := (HBel.out.cell (p := ⟨b, off + k * 2, none⟩) hb).trans q0
      have r1 := (HBel.out.cell (p := ⟨b, off + k * 2 + 1, none⟩) hb).trans q1
      have hk0 : (0 : Int) ≤ (k : Int) := by omega
      have hk1 : (k : Int) < (D.length : Int) := by omega
      have HSt := hide (rise_step HRi.out hlt HM.out)
      have hOl : O.length ≤ k := by have := HM.out.len; simp at this; omega
      obtain ⟨x, hx⟩ : ∃ x, x = D.getD k (0, 0) := ⟨_, rfl⟩
      rw [← hx] at r0 r1 HSt
      obtain ⟨x1, x2⟩ := x
      dsimp only at r0 r1
      clear hc q0 q1 hx
      obtain ⟨ao, co, hvo, _, hoc, hom, _⟩ := HO.out.form
      subst hvo
      by_cases hO0 : O = []
      · subst hO0
        have HSt2 : Hid (Made (D.take (k + 1)) ([] ++ [(x1, x2)])) := hide (by have := HSt.out; unfold nstep at this; rw [if_pos (Or.inl rfl)] at this; exact this)
        clear HSt
        obtain ⟨d0, d1⟩ := box2e wr 73 (.int .i64 x1) (.int .i64 x2)
        have hA1 : RowKit.Below w1.heap.size w1 (wr.alloc (.cells #[.int .i64 x1, .int .i64 x2] 73)) := HBel.out.alloc HBel.out.size _
        have HA1 := hide hA1
        have hA2 : OwnE (wr.alloc (.cells #[.int .i64 x1, .int .i64 x2] 73)) w1.heap.size (.slice ao 0 co) ([] : List (Int × Int)) := World.ownsRow.alloc HO.out _
        have HA2 := hide hA2
        have HAs : Hid ((wr.alloc (.cells #[.int .i64 x1, .int .i64 x2] 73)).heap.size = wr.heap.size + 1) := hide (by simp)
        clear hA1 hA2
        have hm1 : decide ((0 : Int) - 1 < 0) = true := by decide
        simp only [List.length_nil]
        go_wp2_with fail
        go_quiet (fail)
        generalize hW : (wr.alloc (.cells #[.int .i64 x1, .int .i64 x2] 73)).drewN nq = W2
        have f0 : W2.cell? ⟨wr.heap.size, 0, none⟩ = some (.int .i64 x1) := by rw [← hW]; exact d0
        have f1 : W2.cell? ⟨wr.heap.size, 1, none⟩ = some (.int .i64 x2) := by rw [← hW]; exact d1
        have ho2 : OwnE W2 w1.heap.size (.slice ao 0 co) ([] : List (Int × Int)) := by rw [← hW]; exact HA2.out
        have hb2 : RowKit.Below w1.heap.size w1 W2 := by rw [← hW]; exact below_ahead HA1.out _
        have HO3 := hide (World.ownsRow.alloc ho2 (.cells #[.int .i64 x1, .int .i64 x2] 73))
        have HB3 := hide (hb2.alloc hb2.size (.cells #[.int .i64 x1, .int .i64 x2] 73))
        have HN3 := hide (new2 W2 73 (.int .i64 x1) (.int .i64 x2))
        clear hW ho2 hb2 d0 d1 r0 r1
        go_wp2_with (at_builtin; refine wpList_append_own_at _ rfl (.tmp 29) (.tmp 31) 70 rfl w1.heap.size 73 i1 (.agg #[.int .i64 0, .int .i64 0]) 2 16 Tryd.underlying70 hi hz0 hz1 hz2 rfl (by decide) (.slice ao 0 co) 0 (([] : List (Int × Int)).flatMap encE) rfl HO3.out ⟨W2.heap.size, 0, none⟩ 1 1 [.int .i64 x1, .int .i64 x2] rfl rfl HN3.out (by simp [Value.oneCell']) (by unfold maxLen; omega) (by omega) HB3.out.size ?_; intro v5 w5 ho5 hg5 _ hw5; have HO5 := hide ho5; have HG5 := hide hg5; clear ho5 hg5 hw5)
        have ho6 : OwnE w5 w1.heap.size v5 (([] : List (Int × Int)) ++ [(x1, x2)]) := by
          unfold OwnE
          rw [List.flatMap_append, List.length_append]
          exact HO5.out
        have hb6 := HB3.out.grown HG5.out HB3.out.size (fun q hq => (World.ownsRow.lt HO3.out q hq).1)
        refine ⟨⟨k + 1, _, by omega, by go_num, HSt2.out, ho6, hb6⟩, ?_⟩
        simp [intOf]; omega
      · obtain ⟨n, hn⟩ : ∃ n, O.length = n + 1 := ⟨O.length - 1, by have := List.length_pos_iff.2 hO0; omega⟩
        rcases row_form2 HO.out with ⟨_, hnil⟩ | ⟨g, cap, hv, hg1, hg2⟩
        · exact absurd hnil hO0
        simp at hv
        obtain ⟨rfl, rfl⟩ := hv
        obtain ⟨l, hle⟩ : ∃ l, l = O.getD n (0, 0) := ⟨_, rfl⟩
        have hne : nstep O (x1, x2) = if l.2 < x1 then O ++ [(x1, x2)] else O.set n (l.1, max l.2 x2) := by
          unfold nstep
          rw [show O.length - 1 = n by omega, ← hle]
          by_cases h : l.2 < x1
          · rw [if_pos (Or.inr h), if_pos h]
          · rw [if_neg (by simp [hO0, h]), if_neg h]
        rw [hne] at HSt
        have HLe := hide hle
        have HHn := hide hn
        have hcl := (OwnE.cells (World.ownsRow.alloc HO.out (.cells #[.int .i64 x1, .int .i64 x2] 73)) n (by omega)).2
        rw [← hle] at hcl
        obtain ⟨l1, l2⟩ := l
        dsimp only at hcl HSt
        rw [hn] at hOl hoc ⊢
        have hn0 : ¬ ((n : Int) < 0) := by omega
        have hn0' : (0 : Int) ≤ (n : Int) := by omega
        have hn1 : (n : Int) < ((n + 1 : Nat) : Int) := by omega
        have hdn : decide ((n : Int) < 0) = false := by simp
        clear hle hne hn hO0
        obtain ⟨d0, d1⟩ := box2e wr 73 (.int .i64 x1) (.int .i64 x2)
        have hA1 : RowKit.Below w1.heap.size w1 (wr.alloc (.cells #[.int .i64 x1, .int .i64 x2] 73)) := HBel.out.alloc HBel.out.size _
        have HA1 := hide hA1
        have hA2 : (wr.alloc (.cells #[.int .i64 x1, .int .i64 x2] 73)).ownsRow w1.heap.size 73 2 (.slice (some ⟨g, 0, none⟩) (n + 1) co) (n + 1) (O.flatMap encE) := by rw [← HHn.out]; exact World.ownsRow.alloc HO.out _
        have HA2 := hide hA2
        have HAs : Hid ((wr.alloc (.cells #[.int .i64 x1, .int .i64 x2] 73)).heap.size = wr.heap.size + 1) := hide (by simp)
        clear hA1 hA2
        by_cases hlx : l2 < x1
        · have HSt2 : Hid (Made (D.take (k + 1)) (O ++ [(x1, x2)])) := hide (by have := HSt.out; rw [if_pos hlx] at this; exact this)
          clear HSt
          go_wp2_with fail
          go_quiet (fail)
          generalize hW : (wr.alloc (.cells #[.int .i64 x1, .int .i64 x2] 73)).drewN nq = W2
          have f0 : W2.cell? ⟨wr.heap.size, 0, none⟩ = some (.int .i64 x1) := by rw [← hW]; exact d0
          have f1 : W2.cell? ⟨wr.heap.size, 1, none⟩ = some (.int .i64 x2) := by rw [← hW]; exact d1
          have ho2 : W2.ownsRow w1.heap.size 73 2 (.slice (some ⟨g, 0, none⟩) (n + 1) co) (n + 1) (O.flatMap encE) := by rw [← hW]; exact HA2.out
          have hb2 : RowKit.Below w1.heap.size w1 W2 := by rw [← hW]; exact below_ahead HA1.out _
          have HO3 := hide (World.ownsRow.alloc ho2 (.cells #[.int .i64 x1, .int .i64 x2] 73))
          have HB3 := hide (hb2.alloc hb2.size (.cells #[.int .i64 x1, .int .i64 x2] 73))
          have HN3 := hide (new2 W2 73 (.int .i64 x1) (.int .i64 x2))
          clear hW ho2 hb2 d0 d1 r0 r1 hcl
          go_wp2_with (at_builtin; refine wpList_append_own_at _ rfl (.tmp 29) (.tmp 31) 70 rfl w1.heap.size 73 i1 (.agg #[.int .i64 0, .int .i64 0]) 2 16 Tryd.underlying70 hi hz0 hz1 hz2 rfl (by decide) (.slice (some ⟨g, 0, none⟩) (n + 1) co) (n + 1) (O.flatMap encE) rfl HO3.out ⟨W2.heap.size, 0, none⟩ 1 1 [.int .i64 x1, .int .i64 x2] rfl rfl HN3.out (by simp [Value.oneCell']) (by unfold maxLen; omega) (by omega) HB3.out.size ?_; intro v5 w5 ho5 hg5 _ hw5; have HO5 := hide ho5; have HG5 := hide hg5; clear ho5 hg5 hw5)
          have ho6 : OwnE w5 w1.heap.size v5 (O ++ [(x1, x2)]) := by
            unfold OwnE
            rw [List.flatMap_append, List.length_append, HHn.out]
            exact HO5.out
          have hb6 := HB3.out.grown HG5.out HB3.out.size (fun q hq => (World.ownsRow.lt HO3.out q hq).1)
          refine ⟨⟨k + 1, _, by omega, by go_num, HSt2.out, ho6, hb6⟩, ?_⟩
          simp [intOf]; omega
        · have hdx : decide (l2 < x1) = false := by simpa using hlx
          have HSt2 : Hid (Made (D.take (k + 1)) (O.set n (l1, max l2 x2))) := hide (by have := HSt.out; rw [if_neg hlx] at this; exact this)
          clear HSt
          go_wp2_with fail
          go_quiet (fail)
          generalize hW : (wr.alloc (.cells #[.int .i64 x1, .int .i64 x2] 73)).drewN nq = W2
          have f1 : W2.cell? ⟨wr.heap.size, 1, none⟩ = some (.int .i64 x2) := by rw [← hW]; exact d1
          have fl : W2.cell? ⟨g, n * 2 + 1, none⟩ = some (.int .i64 l2) := by rw [← hW]; exact hcl
          have ho2 : W2.ownsRow w1.heap.size 73 2 (.slice (some ⟨g, 0, none⟩) (n + 1) co) (n + 1) (O.flatMap encE) := by rw [← hW]; exact HA2.out
          have hb2 : RowKit.Below w1.heap.size w1 W2 := by rw [← hW]; exact below_ahead HA1.out _
          have fz := World.ownsRow.frozenAt ho2 (n * 2 + 1)
          obtain ⟨hst1, hst2⟩ := World.ownsRow.stored (w := W2.drew) ho2 (n * 2 + 1) (.int .i64 (max l2 x2))
          have HO6 : Hid (OwnE (W2.drew.setCell ⟨g, n * 2 + 1, none⟩ (.int .i64 (max l2 x2))) w1.heap.size (.slice (some ⟨g, 0, none⟩) (n + 1) co) (O.set n (l1, max l2 x2))) := hide (by
            unfold OwnE
            rw [← setE O n l1 (max l2 x2) (by have := HHn.out; omega) (by rw [← HLe.out]), List.length_set, HHn.out]
            exact hst1)
          have HB6 : Hid (RowKit.Below w1.heap.size w1 (W2.drew.setCell ⟨g, n * 2 + 1, none⟩ (.int .i64 (max l2 x2)))) := hide (hb2.drew.grown hst2 hb2.size (fun q hq => by simp at hq; omega))
          have e1 : W2.drew.cell? ⟨wr.heap.size, 1, none⟩ = some (.int .i64 x2) := f1
          have e2 : W2.drew.cell? ⟨g, n * 2 + 1, none⟩ = some (.int .i64 l2) := fl
          have e3 : W2.drew.frozen? ⟨g, n * 2 + 1, none⟩ = false := fz
          clear hW ho2 hb2 d0 d1 r0 r1 hcl hst1 hst2
          go_wp2_with fail
          go_region
          all_goals
            go_wp2_with fail
            refine ⟨⟨k + 1, O.set n (l1, max l2 x2), by omega, by go_num, HSt2.out, HO6.out, HB6.out⟩, ?_⟩
            simp [intOf]; omega
    · obtain rfl : k = D.length := by omega
      go_wp2_with fail
      go_ret
      have hm := HM.out
      rw [List.take_length] at hm
      refine ⟨_, O, rfl, OwnE.mono HO.out HB1.out.size, hm.normed HRi.out, HB1.out.trans (HBel.out.mono HB1.out.size)⟩

end Go.Proofs.YthhodmiobpocbaaDoor.Oct
