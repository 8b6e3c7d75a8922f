/- Same: are two lists of parts the same? (as Sam, on less) -/
import Derived.Test.YtcbbaoiefdbcpaaDoorPExmExv
import Derived.Test.YtcbbaoiefdbcpaaDoorChecked
import Derived.WalkKit
import Derived.Deep.RegionHeld3
import Derived.BigQuiet
import Derived.Laws.StructEq
namespace Go.Proofs.YtcbbaoiefdbcpaaDoor.Oct
open Go.RowKit Go.Sort

/-- What the sort is asked for, of a row of the call's own. -/
def SortSays : Prop := (∀ (w : World) (B g cap : Nat) (L : List (Int × Int)), OwnE w B (.slice (some ⟨g, 0, none⟩) L.length cap) L → L.length ≤ 1000000 →
    Calls Tryd.prog 67 #[.slice (some ⟨g, 0, none⟩) L.length cap, .func (.func 68) #[] #[]] w fun e w' => e = .returned (.tuple #[]) ∧ ∃ D, OwnE w' B (.slice (some ⟨g, 0, none⟩) L.length cap) D ∧ D.Perm L ∧ D.Pairwise (fun p q => p.1 ≤ q.1) ∧ w.grownBy w' (some g)) ∧
  ∀ w : World, Calls Tryd.prog 67 #[.slice none 0 0, .func (.func 68) #[] #[]] w fun e w' => e = .returned (.tuple #[]) ∧ w' = w

theorem info_E : (Tryd.prog.info? 72).map (fun i => (i.zero, i.size, i.bytes)) = some (some (.agg #[.int .i64 0, .int .i64 0]), 2, 16) := by kernel_rfl

theorem box2e (w : World) (t : TypeId) (x y : Value) : (w.alloc (.cells #[x, y] t)).cell? ⟨w.heap.size, 0, none⟩ = some x ∧ (w.alloc (.cells #[x, y] t)).cell? ⟨w.heap.size, 1, none⟩ = some y := by
  have h : (w.alloc (.cells #[x, y] t)).heap[w.heap.size]? = some (.cells #[x, y] t) := heap_alloc_new w _
  simp only [World.cell?, h]
  exact ⟨rfl, rfl⟩

theorem new2 (w : World) (t : TypeId) (x y : Value) : ∀ (j : Nat) (u : Value), [x, y][j]? = some u → (w.alloc (.cells #[x, y] t)).cell? ((⟨w.heap.size, 0, none⟩ : Addr).add j) = some u := by
  obtain ⟨h0, h1⟩ := box2e w t x y
  intro j u hj
  rw [Go.WideShapes.add_plain, Nat.zero_add]
  match j, hj with
  | 0, hj => simp at hj; subst hj; exact h0
  | 1, hj => simp at hj; subst hj; exact h1
  | _ + 2, hj => simp at hj

/-- Parts that have a byte, of the first so many. -/
def filled (L : List (Int × Int)) (k : Nat) : List (Int × Int) := (L.take k).filter (fun p => decide (p.1 < p.2))

theorem filled_step (L : List (Int × Int)) (k : Nat) (hk : k < L.length) : filled L (k + 1) = if (L.getD k (0, 0)).1 < (L.getD k (0, 0)).2 then filled L k ++ [L.getD k (0, 0)] else filled L k := by
  have e : L.getD k (0, 0) = L[k] := by simp [hk]
  unfold filled
  rw [List.take_succ_eq_append_getElem hk, List.filter_append, e]
  split
  · rename_i h
    simp [h]
  · rename_i h
    simp [h]

theorem filled_le (L : List (Int × Int)) (k : Nat) : (filled L k).length ≤ k := by
  unfold filled
  refine Nat.le_trans (List.length_filter_le _ _) ?_
  simp
  omega

theorem row_form2 {w : World} {B : Nat} {v : Value} {L : List (Int × Int)} (h : OwnE w B v L) : (v = .slice none 0 0 ∧ L = []) ∨ ∃ g cap, v = .slice (some ⟨g, 0, none⟩) L.length cap ∧ B ≤ g ∧ g < w.heap.size := by
  rcases h.2 with ⟨rfl, hn⟩ | ⟨g, cap, cur, rfl, hb, hh, _⟩
  · exact Or.inl ⟨rfl, List.length_eq_zero_iff.1 hn⟩
  · exact Or.inr ⟨g, cap, rfl, hb, (Array.getElem?_eq_some_iff.1 hh).1⟩

/-- Parts that rise, none of them empty. -/
structure Rise (L D : List (Int × Int)) : Prop where
  sort : D.Pairwise (fun p q => p.1 ≤ q.1)
  fill : ∀ p ∈ D, p.1 < p.2
  mem : ∀ p, p ∈ D ↔ p ∈ L ∧ p.1 < p.2
  len : D.length ≤ L.length

set_option maxHeartbeats 2000000 in
set_option maxRecDepth 100000 in
theorem rising_any (hS : SortSays) (w : World) (a : Option Addr) (c : Nat) (L : List (Int × Int)) (h : LiesE w a L) (hl : L.length ≤ 1000000) :
    Calls Tryd.prog 58 #[.slice a L.length c] w fun e w' => ∃ v D, e = .returned v ∧ OwnE w' w.heap.size v D ∧ Rise L D ∧ RowKit.Below w.heap.size w w' := by
  have HS := hide hS
  have HL := hide h
  obtain ⟨i1, hi, hz0, hz1, hz2⟩ := info_parts info_E
  clear hS h
  go_enter Tryd.func58, Tryd.ntmps58
  go_wp2_with fail
  go_loopw [3, 8] (fun v i wr => ∃ k : Nat, k ≤ L.length ∧ i = .int .i64 k ∧ OwnE wr w.heap.size v (filled L k) ∧ RowKit.Below w.heap.size w wr) (fun _ i _ => L.length - (intOf i).toNat)
  case atStart => exact ⟨0, by omega, by simp, OwnE.nil _ _, RowKit.Below.refl _ _⟩
  case round =>
    obtain ⟨k, hk, rfl, ho, hbel⟩ := hrel
    have HO := hide ho
    have HBel := hide hbel
    have hsz := hbel.size
    clear ho hbel
    by_cases hlt : k < L.length
    · rcases HL.out with hnil | ⟨b, off, ha, hb, hc⟩
      · rw [hnil] at hlt; simp at hlt
      subst ha
      obtain ⟨q0, q1⟩ := hc k hlt
      have r0 := (HBel.out.cell (p := ⟨b, off + k * 2, none⟩) hb).trans q0
      have r1 := (HBel.out.cell (p := ⟨b, off + k * 2 + 1, none⟩) hb).trans q1
      have hk0 : (0 : Int) ≤ (k : Int) := by omega
      have hk1 : (k : Int) < (L.length : Int) := by omega
      have HSt := hide (filled_step L k hlt)
      have hfl := filled_le L k
      obtain ⟨x, hx⟩ : ∃ x, x = L.getD k (0, 0) := ⟨_, rfl⟩
      rw [← hx] at r0 r1 HSt
      obtain ⟨x1, x2⟩ := x
      dsimp only at r0 r1 HSt
      obtain ⟨fl, hfle⟩ : ∃ fl, fl = filled L k := ⟨_, rfl⟩
      rw [← hfle] at HO HSt hfl
      clear hc q0 q1 hx hfle
      by_cases hxx : x1 < x2
      · have HSt2 : Hid (filled L (k + 1) = fl ++ [(x1, x2)]) := hide (by rw [HSt.out, if_pos hxx])
        clear HSt
        have hO3 : OwnE ((wr.alloc (.cells #[.int .i64 x1, .int .i64 x2] 72)).alloc (.cells #[.int .i64 x1, .int .i64 x2] 72)) w.heap.size u3 fl := World.ownsRow.alloc (World.ownsRow.alloc HO.out _) _
        have hb3 : RowKit.Below w.heap.size w ((wr.alloc (.cells #[.int .i64 x1, .int .i64 x2] 72)).alloc (.cells #[.int .i64 x1, .int .i64 x2] 72)) := (HBel.out.alloc HBel.out.size _).alloc (HBel.out.alloc HBel.out.size _).size _
        have HN3 := hide (new2 (wr.alloc (.cells #[.int .i64 x1, .int .i64 x2] 72)) 72 (.int .i64 x1) (.int .i64 x2))
        have hs3 : (wr.alloc (.cells #[.int .i64 x1, .int .i64 x2] 72)).heap.size = wr.heap.size + 1 := by simp
        rw [hs3] at HN3
        have HO3 := hide hO3
        have HB3 := hide hb3
        clear hO3 hb3 hs3
        go_wp2_with (at_builtin; refine wpList_append_own_at _ rfl (.tmp 17) (.tmp 19) 47 rfl w.heap.size 72 i1 (.agg #[.int .i64 0, .int .i64 0]) 2 16 Tryd.underlying47 hi hz0 hz1 hz2 rfl (by decide) u3 fl.length (fl.flatMap encE) rfl HO3.out ⟨wr.heap.size + 1, 0, none⟩ 1 1 [.int .i64 x1, .int .i64 x2] rfl rfl HN3.out (by simp [Value.oneCell']) (by unfold maxLen; omega) (by omega) HB3.out.size ?_; intro v5 w5 ho5 hg5 _ hw5; have HO5 := hide ho5; have HG5 := hide hg5; clear ho5 hg5 hw5)
        have ho6 : OwnE w5 w.heap.size v5 (fl ++ [(x1, x2)]) := by
          unfold OwnE
          rw [List.flatMap_append, List.length_append]
          exact HO5.out
        have hb6 := HB3.out.grown HG5.out HB3.out.size (fun q hq => (World.ownsRow.lt HO3.out q hq).1)
        refine ⟨⟨k + 1, by omega, by go_num, by rw [HSt2.out]; exact ho6, hb6⟩, ?_⟩
        simp [intOf]; omega
      · have HSt2 : Hid (filled L (k + 1) = fl) := hide (by rw [HSt.out, if_neg hxx])
        clear HSt
        go_wp2_with fail
        refine ⟨⟨k + 1, by omega, by go_num, by rw [HSt2.out]; exact World.ownsRow.alloc HO.out _, HBel.out.alloc HBel.out.size _⟩, ?_⟩
        simp [intOf]; omega
    · obtain rfl : k = L.length := by omega
      have hfin : ∀ D : List (Int × Int), D.Perm (filled L L.length) → D.Pairwise (fun p q => p.1 ≤ q.1) → Rise L D := by
        intro D hp hs
        have hm : ∀ p, p ∈ D ↔ p ∈ L ∧ p.1 < p.2 := fun p => by
          rw [hp.mem_iff]
          simp [filled]
        exact ⟨hs, fun p hpD => ((hm p).1 hpD).2, hm, by rw [hp.length_eq]; exact filled_le L _⟩
      have HFin := hide hfin
      have hfl := filled_le L L.length
      clear hfin
      obtain ⟨fl, hfle⟩ : ∃ fl, fl = filled L L.length := ⟨_, rfl⟩
      rw [← hfle] at HO HFin hfl
      clear hfle
      rcases row_form2 HO.out with ⟨rfl, hn⟩ | ⟨g, cap, rfl, hg1, hg2⟩
      · go_wp2_with fail
        refine (HS.out.2 wr).mono ?_
        rintro e w5 ⟨rfl, rfl⟩
        go_wp2_with fail
        go_ret
        subst hn
        exact ⟨_, [], rfl, HO.out, HFin.out [] (List.Perm.refl _) List.Pairwise.nil, HBel.out⟩
      · have HC := hide (HS.out.1 wr w.heap.size g cap fl HO.out (by omega))
        go_wp2_with fail
        refine HC.out.mono ?_
        rintro e w5 ⟨rfl, D, hoD, hpD, hsD, hgD⟩
        have HOD := hide hoD
        have HPD := hide (And.intro hpD hsD)
        have HB5 := hide (HBel.out.grown hgD HBel.out.size (fun q hq => by simp at hq; omega))
        clear hoD hpD hsD hgD
        go_wp2_with fail
        go_ret
        exact ⟨_, D, rfl, HOD.out, HFin.out D HPD.out.1 HPD.out.2, HB5.out⟩

end Go.Proofs.YtcbbaoiefdbcpaaDoor.Oct

namespace Go.Proofs.YtcbbaoiefdbcpaaDoor.Oct
open Go.RowKit Go.Sort

/-- The one form of parts; its numbers are theirs. -/
structure Normed (L N : List (Int × Int)) : Prop where
  form : Form N
  set : ∀ x, InE N x ↔ InE L x
  len : N.length ≤ L.length
  fst : ∀ p ∈ N, ∃ q ∈ L, p.1 = q.1
  snd : ∀ p ∈ N, ∃ q ∈ L, p.2 = q.2

theorem Rise.set {L D : List (Int × Int)} (h : Rise L D) (x : Int) : InE D x ↔ InE L x := by
  constructor
  · rintro ⟨p, hp, hx⟩
    exact ⟨p, ((h.mem p).1 hp).1, hx⟩
  · rintro ⟨p, hp, hx⟩
    exact ⟨p, (h.mem p).2 ⟨hp, by omega⟩, hx⟩

theorem Made.normed {L D N : List (Int × Int)} (hr : Rise L D) (h : Made D N) : Normed L N :=
  ⟨h.form, fun x => (h.set x).trans (hr.set x), Nat.le_trans h.len hr.len, fun p hp => by obtain ⟨q, hq, e⟩ := h.fst p hp; exact ⟨q, ((hr.mem q).1 hq).1, e⟩, fun p hp => by obtain ⟨q, hq, e⟩ := h.snd p hp; exact ⟨q, ((hr.mem q).1 hq).1, e⟩⟩

theorem take_step (D : List (Int × Int)) (k : Nat) (hk : k < D.length) : D.take (k + 1) = D.take k ++ [D.getD k (0, 0)] := by
  have e : D.getD k (0, 0) = D[k] := by simp [hk]
  rw [List.take_succ_eq_append_getElem hk, e]

theorem rise_step {L D : List (Int × Int)} (hr : Rise L D) {k : Nat} (hk : k < D.length) {O : List (Int × Int)} (h : Made (D.take k) O) : Made (D.take (k + 1)) (nstep O (D.getD k (0, 0))) := by
  have e : D.getD k (0, 0) = D[k] := by simp [hk]
  rw [take_step D k hk]
  refine h.step _ (by rw [e]; exact hr.fill _ (List.getElem_mem _)) (fun q hq => ?_)
  rw [e]
  obtain ⟨i, hi, rfl⟩ := List.getElem_of_mem hq
  simp at hi
  rw [List.getElem_take]
  exact List.pairwise_iff_getElem.1 hr.sort i k (by omega) hk (by omega)

theorem setE (O : List (Int × Int)) (n : Nat) (x1 x2 : Int) (hn : n < O.length) (h1 : x1 = (O.getD n (0, 0)).1) : (O.flatMap encE).set (n * 2 + 1) (.int .i64 x2) = (O.set n (x1, x2)).flatMap encE := by
  induction O generalizing n with
  | nil => simp at hn
  | cons p O ih =>
    cases n with
    | zero =>
      simp at h1
      subst h1
      simp [encE]
    | succ n =>
      simp only [List.flatMap_cons, List.set_cons_succ]
      rw [show (n + 1) * 2 + 1 = (encE p).length + (n * 2 + 1) by simp [encE]; omega, List.set_append_right _ _ (by omega), Nat.add_sub_cancel_left]
      rw [ih n (by simpa using hn) (by simpa using h1)]

theorem OwnE.mono {w : World} {B B' : Nat} {v : Value} {L : List (Int × Int)} (h : OwnE w B v L) (hb : B' ≤ B) : OwnE w B' v L := by
  refine ⟨h.1, ?_⟩
  rcases h.2 with h1 | ⟨g, cap, cur, h1, hg, hr⟩
  · exact Or.inl h1
  · exact Or.inr ⟨g, cap, cur, h1, Nat.le_trans hb hg, hr⟩

theorem below_ahead {B : Nat} {a w : World} (h : RowKit.Below B a w) (n : Nat) : RowKit.Below B a (w.drewN n) := ⟨h.os, h.tape, h.output, h.size, h.block⟩

set_option maxHeartbeats 4000000 in
set_option maxRecDepth 100000 in
theorem norm_any (hS : SortSays) (w : World) (a : Option Addr) (c : Nat) (L : List (Int × Int)) (h : LiesE w a L) (hl : L.length ≤ 1000000) :
    Calls Tryd.prog 44 #[.slice a L.length c] w fun e w' => ∃ v N, e = .returned v ∧ OwnE w' w.heap.size v N ∧ Normed L N ∧ RowKit.Below w.heap.size w w' := by
  have HR := hide (rising_any hS w a c L h hl)
  obtain ⟨i1, hi, hz0, hz1, hz2⟩ := info_parts info_E
  clear hS h
  go_enter Tryd.func44, Tryd.ntmps44
  go_wp2_with fail
  refine HR.out.mono ?_
  rintro e w1 ⟨v1, D, rfl, ho1, hr1, hb1⟩
  obtain ⟨a1, c1, rfl, hl1, hlc, hcm, _⟩ := ho1.form
  have HL1 := hide hl1
  have HRi := hide hr1
  have HB1 := hide hb1
  have hdl : D.length ≤ 1000000 := Nat.le_trans hr1.len hl
  clear ho1 hr1 hb1 hl1 HR
  go_wp2_with fail
  go_loopw [3, 10] (fun v i wr => ∃ (k : Nat) (O : List (Int × Int)), k ≤ D.length ∧ i = .int .i64 k ∧ Made (D.take k) O ∧ OwnE wr w1.heap.size v O ∧ RowKit.Below w1.heap.size w1 wr) (fun _ i _ => D.length - (intOf i).toNat)
  case atStart => exact ⟨0, [], by omega, by simp, by simpa using Made.nil, OwnE.nil _ _, RowKit.Below.refl _ _⟩
  case round =>
    obtain ⟨k, O, hk, rfl, hmd, ho, hbel⟩ := hrel
    have HO := hide ho
    have HBel := hide hbel
    have HM := hide hmd
    have hsz := hbel.size
    clear ho hbel hmd
    by_cases hlt : k < D.length
    · rcases HL1.out with hnil | ⟨b, off, ha, hb, hc⟩
      · rw [hnil] at hlt; simp at hlt
      subst ha
      obtain ⟨q0, q1⟩ := hc k hlt
      have r0 := (HBel.out.cell (p := ⟨b, off + k * 2, none⟩) hb).trans q0
      have r1 := (HBel.out.cell (p := ⟨b, off + k * 2 + 1, none⟩) hb).trans q1
      have hk0 : (0 : Int) ≤ (k : Int) := by omega
      have hk1 : (k : Int) < (D.length : Int) := by omega
      have HSt := hide (rise_step HRi.out hlt HM.out)
      have hOl : O.length ≤ k := by have := HM.out.len; simp at this; omega
      obtain ⟨x, hx⟩ : ∃ x, x = D.getD k (0, 0) := ⟨_, rfl⟩
      rw [← hx] at r0 r1 HSt
      obtain ⟨x1, x2⟩ := x
      dsimp only at r0 r1
      clear hc q0 q1 hx
      obtain ⟨ao, co, hvo, _, hoc, hom, _⟩ := HO.out.form
      subst hvo
      by_cases hO0 : O = []
      · subst hO0
        have HSt2 : Hid (Made (D.take (k + 1)) ([] ++ [(x1, x2)])) := hide (by have := HSt.out; unfold nstep at this; rw [if_pos (Or.inl rfl)] at this; exact this)
        clear HSt
        obtain ⟨d0, d1⟩ := box2e wr 72 (.int .i64 x1) (.int .i64 x2)
        have hA1 : RowKit.Below w1.heap.size w1 (wr.alloc (.cells #[.int .i64 x1, .int .i64 x2] 72)) := HBel.out.alloc HBel.out.size _
        have HA1 := hide hA1
        have hA2 : OwnE (wr.alloc (.cells #[.int .i64 x1, .int .i64 x2] 72)) w1.heap.size (.slice ao 0 co) ([] : List (Int × Int)) := World.ownsRow.alloc HO.out _
        have HA2 := hide hA2
        have HAs : Hid ((wr.alloc (.cells #[.int .i64 x1, .int .i64 x2] 72)).heap.size = wr.heap.size + 1) := hide (by simp)
        clear hA1 hA2
        have hm1 : decide ((0 : Int) - 1 < 0) = true := by decide
        simp only [List.length_nil]
        go_wp2_with fail
        go_quiet (fail)
        generalize hW : (wr.alloc (.cells #[.int .i64 x1, .int .i64 x2] 72)).drewN nq = W2
        have f0 : W2.cell? ⟨wr.heap.size, 0, none⟩ = some (.int .i64 x1) := by rw [← hW]; exact d0
        have f1 : W2.cell? ⟨wr.heap.size, 1, none⟩ = some (.int .i64 x2) := by rw [← hW]; exact d1
        have ho2 : OwnE W2 w1.heap.size (.slice ao 0 co) ([] : List (Int × Int)) := by rw [← hW]; exact HA2.out
        have hb2 : RowKit.Below w1.heap.size w1 W2 := by rw [← hW]; exact below_ahead HA1.out _
        have HO3 := hide (World.ownsRow.alloc ho2 (.cells #[.int .i64 x1, .int .i64 x2] 72))
        have HB3 := hide (hb2.alloc hb2.size (.cells #[.int .i64 x1, .int .i64 x2] 72))
        have HN3 := hide (new2 W2 72 (.int .i64 x1) (.int .i64 x2))
        clear hW ho2 hb2 d0 d1 r0 r1
        go_wp2_with (at_builtin; refine wpList_append_own_at _ rfl (.tmp 29) (.tmp 31) 69 rfl w1.heap.size 72 i1 (.agg #[.int .i64 0, .int .i64 0]) 2 16 Tryd.underlying69 hi hz0 hz1 hz2 rfl (by decide) (.slice ao 0 co) 0 (([] : List (Int × Int)).flatMap encE) rfl HO3.out ⟨W2.heap.size, 0, none⟩ 1 1 [.int .i64 x1, .int .i64 x2] rfl rfl HN3.out (by simp [Value.oneCell']) (by unfold maxLen; omega) (by omega) HB3.out.size ?_; intro v5 w5 ho5 hg5 _ hw5; have HO5 := hide ho5; have HG5 := hide hg5; clear ho5 hg5 hw5)
        have ho6 : OwnE w5 w1.heap.size v5 (([] : List (Int × Int)) ++ [(x1, x2)]) := by
          unfold OwnE
          rw [List.flatMap_append, List.length_append]
          exact HO5.out
        have hb6 := HB3.out.grown HG5.out HB3.out.size (fun q hq => (World.ownsRow.lt HO3.out q hq).1)
        refine ⟨⟨k + 1, _, by omega, by go_num, HSt2.out, ho6, hb6⟩, ?_⟩
        simp [intOf]; omega
      · obtain ⟨n, hn⟩ : ∃ n, O.length = n + 1 := ⟨O.length - 1, by have := List.length_pos_iff.2 hO0; omega⟩
        rcases row_form2 HO.out with ⟨_, hnil⟩ | ⟨g, cap, hv, hg1, hg2⟩
        · exact absurd hnil hO0
        simp at hv
        obtain ⟨rfl, rfl⟩ := hv
        obtain ⟨l, hle⟩ : ∃ l, l = O.getD n (0, 0) := ⟨_, rfl⟩
        have hne : nstep O (x1, x2) = if l.2 < x1 then O ++ [(x1, x2)] else O.set n (l.1, max l.2 x2) := by
          unfold nstep
          rw [show O.length - 1 = n by omega, ← hle]
          by_cases h : l.2 < x1
          · rw [if_pos (Or.inr h), if_pos h]
          · rw [if_neg (by simp [hO0, h]), if_neg h]
        rw [hne] at HSt
        have HLe := hide hle
        have HHn := hide hn
        have hcl := (OwnE.cells (World.ownsRow.alloc HO.out (.cells #[.int .i64 x1, .int .i64 x2] 72)) n (by omega)).2
        rw [← hle] at hcl
        obtain ⟨l1, l2⟩ := l
        dsimp only at hcl HSt
        rw [hn] at hOl hoc ⊢
        have hn0 : ¬ ((n : Int) < 0) := by omega
        have hn0' : (0 : Int) ≤ (n : Int) := by omega
        have hn1 : (n : Int) < ((n + 1 : Nat) : Int) := by omega
        have hdn : decide ((n : Int) < 0) = false := by simp
        clear hle hne hn hO0
        obtain ⟨d0, d1⟩ := box2e wr 72 (.int .i64 x1) (.int .i64 x2)
        have hA1 : RowKit.Below w1.heap.size w1 (wr.alloc (.cells #[.int .i64 x1, .int .i64 x2] 72)) := HBel.out.alloc HBel.out.size _
        have HA1 := hide hA1
        have hA2 : (wr.alloc (.cells #[.int .i64 x1, .int .i64 x2] 72)).ownsRow w1.heap.size 72 2 (.slice (some ⟨g, 0, none⟩) (n + 1) co) (n + 1) (O.flatMap encE) := by rw [← HHn.out]; exact World.ownsRow.alloc HO.out _
        have HA2 := hide hA2
        have HAs : Hid ((wr.alloc (.cells #[.int .i64 x1, .int .i64 x2] 72)).heap.size = wr.heap.size + 1) := hide (by simp)
        clear hA1 hA2
        by_cases hlx : l2 < x1
        · have HSt2 : Hid (Made (D.take (k + 1)) (O ++ [(x1, x2)])) := hide (by have := HSt.out; rw [if_pos hlx] at this; exact this)
          clear HSt
          go_wp2_with fail
          go_quiet (fail)
          generalize hW : (wr.alloc (.cells #[.int .i64 x1, .int .i64 x2] 72)).drewN nq = W2
          have f0 : W2.cell? ⟨wr.heap.size, 0, none⟩ = some (.int .i64 x1) := by rw [← hW]; exact d0
          have f1 : W2.cell? ⟨wr.heap.size, 1, none⟩ = some (.int .i64 x2) := by rw [← hW]; exact d1
          have ho2 : W2.ownsRow w1.heap.size 72 2 (.slice (some ⟨g, 0, none⟩) (n + 1) co) (n + 1) (O.flatMap encE) := by rw [← hW]; exact HA2.out
          have hb2 : RowKit.Below w1.heap.size w1 W2 := by rw [← hW]; exact below_ahead HA1.out _
          have HO3 := hide (World.ownsRow.alloc ho2 (.cells #[.int .i64 x1, .int .i64 x2] 72))
          have HB3 := hide (hb2.alloc hb2.size (.cells #[.int .i64 x1, .int .i64 x2] 72))
          have HN3 := hide (new2 W2 72 (.int .i64 x1) (.int .i64 x2))
          clear hW ho2 hb2 d0 d1 r0 r1 hcl
          go_wp2_with (at_builtin; refine wpList_append_own_at _ rfl (.tmp 29) (.tmp 31) 69 rfl w1.heap.size 72 i1 (.agg #[.int .i64 0, .int .i64 0]) 2 16 Tryd.underlying69 hi hz0 hz1 hz2 rfl (by decide) (.slice (some ⟨g, 0, none⟩) (n + 1) co) (n + 1) (O.flatMap encE) rfl HO3.out ⟨W2.heap.size, 0, none⟩ 1 1 [.int .i64 x1, .int .i64 x2] rfl rfl HN3.out (by simp [Value.oneCell']) (by unfold maxLen; omega) (by omega) HB3.out.size ?_; intro v5 w5 ho5 hg5 _ hw5; have HO5 := hide ho5; have HG5 := hide hg5; clear ho5 hg5 hw5)
          have ho6 : OwnE w5 w1.heap.size v5 (O ++ [(x1, x2)]) := by
            unfold OwnE
            rw [List.flatMap_append, List.length_append, HHn.out]
            exact HO5.out
          have hb6 := HB3.out.grown HG5.out HB3.out.size (fun q hq => (World.ownsRow.lt HO3.out q hq).1)
          refine ⟨⟨k + 1, _, by omega, by go_num, HSt2.out, ho6, hb6⟩, ?_⟩
          simp [intOf]; omega
        · have hdx : decide (l2 < x1) = false := by simpa using hlx
          have HSt2 : Hid (Made (D.take (k + 1)) (O.set n (l1, max l2 x2))) := hide (by have := HSt.out; rw [if_neg hlx] at this; exact this)
          clear HSt
          go_wp2_with fail
          go_quiet (fail)
          generalize hW : (wr.alloc (.cells #[.int .i64 x1, .int .i64 x2] 72)).drewN nq = W2
          have f1 : W2.cell? ⟨wr.heap.size, 1, none⟩ = some (.int .i64 x2) := by rw [← hW]; exact d1
          have fl : W2.cell? ⟨g, n * 2 + 1, none⟩ = some (.int .i64 l2) := by rw [← hW]; exact hcl
          have ho2 : W2.ownsRow w1.heap.size 72 2 (.slice (some ⟨g, 0, none⟩) (n + 1) co) (n + 1) (O.flatMap encE) := by rw [← hW]; exact HA2.out
          have hb2 : RowKit.Below w1.heap.size w1 W2 := by rw [← hW]; exact below_ahead HA1.out _
          have fz := World.ownsRow.frozenAt ho2 (n * 2 + 1)
          obtain ⟨hst1, hst2⟩ := World.ownsRow.stored (w := W2.drew) ho2 (n * 2 + 1) (.int .i64 (max l2 x2))
          have HO6 : Hid (OwnE (W2.drew.setCell ⟨g, n * 2 + 1, none⟩ (.int .i64 (max l2 x2))) w1.heap.size (.slice (some ⟨g, 0, none⟩) (n + 1) co) (O.set n (l1, max l2 x2))) := hide (by
            unfold OwnE
            rw [← setE O n l1 (max l2 x2) (by have := HHn.out; omega) (by rw [← HLe.out]), List.length_set, HHn.out]
            exact hst1)
          have HB6 : Hid (RowKit.Below w1.heap.size w1 (W2.drew.setCell ⟨g, n * 2 + 1, none⟩ (.int .i64 (max l2 x2)))) := hide (hb2.drew.grown hst2 hb2.size (fun q hq => by simp at hq; omega))
          have e1 : W2.drew.cell? ⟨wr.heap.size, 1, none⟩ = some (.int .i64 x2) := f1
          have e2 : W2.drew.cell? ⟨g, n * 2 + 1, none⟩ = some (.int .i64 l2) := fl
          have e3 : W2.drew.frozen? ⟨g, n * 2 + 1, none⟩ = false := fz
          clear hW ho2 hb2 d0 d1 r0 r1 hcl hst1 hst2
          go_wp2_with fail
          go_region
          all_goals
            go_wp2_with fail
            refine ⟨⟨k + 1, O.set n (l1, max l2 x2), by omega, by go_num, HSt2.out, HO6.out, HB6.out⟩, ?_⟩
            simp [intOf]; omega
    · obtain rfl : k = D.length := by omega
      go_wp2_with fail
      go_ret
      have hm := HM.out
      rw [List.take_length] at hm
      refine ⟨_, O, rfl, OwnE.mono HO.out HB1.out.size, hm.normed HRi.out, HB1.out.trans (HBel.out.mono HB1.out.size)⟩

end Go.Proofs.YtcbbaoiefdbcpaaDoor.Oct

namespace Go.Proofs.YtcbbaoiefdbcpaaDoor.Oct
open Go.RowKit

theorem eqf_E (w : World) (x1 x2 y1 y2 : Int) : (Op.equalIn 10000 72 (.agg #[.int .i64 x1, .int .i64 x2]) (.agg #[.int .i64 y1, .int .i64 y2])).run Tryd.prog w = .ok (decide ((x1, x2) = (y1, y2))) w := by
  rw [run_equalIn_agg w 9999 72 _ _ (by kernel_rfl) (by kernel_rfl)]
  have hf : (Tryd.prog.fieldsOf 72).toList.map (fun f => (f.name, f.type, f.offset)) = [("From", 2, 0), ("To", 2, 1)] := by kernel_rfl
  obtain ⟨fs, hfs⟩ : ∃ fs, fs = (Tryd.prog.fieldsOf 72).toList := ⟨_, rfl⟩
  rw [← hfs] at hf ⊢
  clear hfs
  have hl : fs.length = 2 := by simpa using congrArg List.length hf
  obtain ⟨f, g, rfl⟩ : ∃ f g, fs = [f, g] := by match fs, hl with | [f, g], _ => exact ⟨f, g, rfl⟩
  simp only [List.map_cons, List.map_nil, List.cons.injEq, Prod.mk.injEq, and_true] at hf
  obtain ⟨⟨f1, f2, f3⟩, g1, g2, g3⟩ := hf
  have hpx : ∀ (i : Nat) (x y : Int), i = 0 ∨ i = 1 → (part 2 #[.int .i64 x, .int .i64 y] i).run Tryd.prog w = .ok (.int .i64 (if i = 0 then x else y)) w := by
    rintro i x y (rfl | rfl)
    · go_simp
    · go_simp
  simp only [Op.eqFields, f1, f2, f3, g1, g2, g3, Sem.run_bind, Sem.run_ite]
  simp [hpx, run_equalIn_int, Tryd.underlying2, Result.andThen]
  by_cases h1 : x1 = y1 <;> by_cases h2 : x2 = y2 <;> simp [h1, h2]

theorem neq_E (w : World) (x y : Int × Int) (b : Bool) (hb : decide (x = y) = b) : (binOp .neq 72 (.agg #[.int .i64 x.1, .int .i64 x.2]) (.agg #[.int .i64 y.1, .int .i64 y.2])).run Tryd.prog w = .ok (.bool (!b)) w := by
  rw [run_neq_struct, eqf_E, ← hb]
  rfl

theorem guard_E (w : World) (op : BinOp) (p q : Operand) (xs ys : Array Value) : (eqGuard op 72 p q (.agg xs) (.agg ys)).run Tryd.prog w = .ok () w := run_eqGuard_agg w op _ _ _ _ _ (by kernel_rfl)

set_option maxHeartbeats 2000000 in
set_option maxRecDepth 100000 in
theorem same_any (w : World) (a b : Option Addr) (ca cb : Nat) (A B : List (Int × Int)) (hA : LiesE w a A) (hB : LiesE w b B) (hl : A.length ≤ 8796093022208) :
    Calls Tryd.prog 11 #[.slice a A.length ca, .slice b B.length cb] w fun e w' => e = .returned (.bool (decide (A = B))) ∧ Below w.heap.size w w' := by
  by_cases hlen : A.length = B.length
  case neg =>
    have hne : ¬ (A = B) := fun e => hlen (by rw [e])
    have hd : decide (A = B) = false := by simpa using hne
    rw [hd]
    have hi : ¬ ((A.length : Int) = (B.length : Int)) := by omega
    clear hne hd hA hB
    go_enter Tryd.func11, Tryd.ntmps11
    go_wp2_with fail
    go_ret
    exact ⟨rfl, Below.refl _ _⟩
  case pos =>
    obtain ⟨n, hn⟩ : ∃ n, A.length = n := ⟨_, rfl⟩
    have HnB : Hid (B.length = n) := hide (by omega)
    have HnA := hide hn
    rw [HnB.out, hn]
    have hnl : n ≤ 8796093022208 := by omega
    clear hlen hl hn
    go_enter Tryd.func11, Tryd.ntmps11
    go_wp2_with fail
    go_loopw [5] (fun i wr => ∃ k : Nat, k ≤ n ∧ i = .int .i64 k ∧ (∀ j, j < k → A.getD j (0, 0) = B.getD j (0, 0)) ∧ Below w.heap.size w wr) (fun i _ => n - (intOf i).toNat)
    case atStart => exact ⟨0, by omega, by simp, fun j hj => absurd hj (by omega), Below.refl _ _⟩
    case round =>
      obtain ⟨k, hk, rfl, heq, hbel⟩ := hrel
      have HE := hide heq
      have HB := hide hbel
      by_cases hlt : k < n
      · rcases hA.below hbel with hnil | ⟨ba, oa, rfl, hba, hca⟩
        · have := HnA.out
          rw [hnil] at this
          simp at this
          omega
        rcases hB.below hbel with hnil | ⟨bb, ob, rfl, hbb, hcb⟩
        · have := HnB.out
          rw [hnil] at this
          simp at this
          omega
        obtain ⟨p0, p1⟩ := hca k (by rw [HnA.out]; exact hlt)
        obtain ⟨q0, q1⟩ := hcb k (by rw [HnB.out]; exact hlt)
        have hk0 : (0 : Int) ≤ (k : Int) := by omega
        have hk1 : (k : Int) < (n : Int) := by omega
        obtain ⟨x, hx⟩ : ∃ x, x = A.getD k (0, 0) := ⟨_, rfl⟩
        obtain ⟨y, hy⟩ : ∃ y, y = B.getD k (0, 0) := ⟨_, rfl⟩
        rw [← hx] at p0 p1
        rw [← hy] at q0 q1
        obtain ⟨x1, x2⟩ := x
        obtain ⟨y1, y2⟩ := y
        dsimp only at p0 p1 q0 q1
        have HX := hide hx
        have HY := hide hy
        have hgd := fun (u : World) (p q : Operand) => guard_E u .neq p q #[.int .i64 x1, .int .i64 x2] #[.int .i64 y1, .int .i64 y2]
        clear hx hy hca hcb heq hbel hA hB
        by_cases hxy : (x1, x2) = (y1, y2)
        · have hq := fun u : World => neq_E u (x1, x2) (y1, y2) true (by simpa using hxy)
          dsimp only [Bool.not_true] at hq
          go_wp2_with fail
          go_quiet (fail)
          go_wp2_with fail
          go_roundw
          case rel =>
            refine ⟨k + 1, by omega, by go_num, fun j hj => ?_, below_ahead HB.out _⟩
            by_cases e : j = k
            · rw [e, ← HX.out, ← HY.out]; exact hxy
            · exact HE.out j (by omega)
          case measure => simp [intOf]; omega
        · have hq := fun u : World => neq_E u (x1, x2) (y1, y2) false (by simpa using hxy)
          dsimp only [Bool.not_false] at hq
          have HN : Hid (decide (A = B) = false) := hide (by
            simp only [decide_eq_false_iff_not]
            intro e
            subst e
            exact hxy (HX.out.trans HY.out.symm))
          go_wp2_with fail
          go_quiet (fail)
          go_wp2_with fail
          go_ret
          rw [HN.out]
          exact ⟨rfl, below_ahead HB.out _⟩
      · obtain rfl : k = n := by omega
        have HY : Hid (decide (A = B) = true) := hide (by
          simp only [decide_eq_true_eq]
          apply List.ext_getElem (by rw [HnA.out, HnB.out])
          intro j h1 h2
          have := heq j (by rw [← HnA.out]; exact h1)
          simpa [h1, h2] using this)
        clear heq hA hB
        go_wp2_with fail
        go_ret
        rw [HY.out]
        exact ⟨rfl, HB.out⟩

end Go.Proofs.YtcbbaoiefdbcpaaDoor.Oct
