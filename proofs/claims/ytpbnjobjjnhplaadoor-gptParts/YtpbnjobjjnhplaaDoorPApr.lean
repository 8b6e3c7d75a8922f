/- Apart: have no two parts a byte in common? -/
import Derived.Test.YtpbnjobjjnhplaaDoorPSrt
import Derived.Test.YtpbnjobjjnhplaaDoorPJnr
namespace Go.Proofs.YtpbnjobjjnhplaaDoor.Oct
open Go.RowKit Go.Sort

structure RiseP (L D : List (Int × Int)) : Prop where
  perm : D.Perm (filled L L.length)
  sort : D.Pairwise (fun p q => p.1 ≤ q.1)

set_option maxHeartbeats 2000000 in
set_option maxRecDepth 100000 in
theorem rising_perm (hS : SortSays) (w : World) (a : Option Addr) (c : Nat) (L : List (Int × Int)) (h : LiesE w a L) (hl : L.length ≤ 1000000) :
    Calls Tryd.prog 48 #[.slice a L.length c] w fun e w' => ∃ v D, e = .returned v ∧ OwnE w' w.heap.size v D ∧ RiseP L D ∧ RowKit.Below w.heap.size w w' := by
  have HS := hide hS
  have HL := hide h
  obtain ⟨i1, hi, hz0, hz1, hz2⟩ := info_parts info_E
  clear hS h
  go_enter Tryd.func48, Tryd.ntmps48
  go_wp2_with fail
  go_loopw [3, 8] (fun v i wr => ∃ k : Nat, k ≤ L.length ∧ i = .int .i64 k ∧ OwnE wr w.heap.size v (filled L k) ∧ RowKit.Below w.heap.size w wr) (fun _ i _ => L.length - (intOf i).toNat)
  case atStart => exact ⟨0, by omega, by simp, OwnE.nil _ _, RowKit.Below.refl _ _⟩
  case round =>
    obtain ⟨k, hk, rfl, ho, hbel⟩ := hrel
    have HO := hide ho
    have HBel := hide hbel
    have hsz := hbel.size
    clear ho hbel
    by_cases hlt : k < L.length
    · rcases HL.out with hnil | ⟨b, off, ha, hb, hc⟩
      · rw [hnil] at hlt; simp at hlt
      subst ha
      obtain ⟨q0, q1⟩ := hc k hlt
      have r0 := (HBel.out.cell (p := ⟨b, off + k * 2, none⟩) hb).trans q0
      have r1 := (HBel.out.cell (p := ⟨b, off + k * 2 + 1, none⟩) hb).trans q1
      have hk0 : (0 : Int) ≤ (k : Int) := by omega
      have hk1 : (k : Int) < (L.length : Int) := by omega
      have HSt := hide (filled_step L k hlt)
      have hfl := filled_le L k
      obtain ⟨x, hx⟩ : ∃ x, x = L.getD k (0, 0) := ⟨_, rfl⟩
      rw [← hx] at r0 r1 HSt
      obtain ⟨x1, x2⟩ := x
      dsimp only at r0 r1 HSt
      obtain ⟨fl, hfle⟩ : ∃ fl, fl = filled L k := ⟨_, rfl⟩
      rw [← hfle] at HO HSt hfl
      clear hc q0 q1 hx hfle
      by_cases hxx : x1 < x2
      · have HSt2 : Hid (filled L (k + 1) = fl ++ [(x1, x2)]) := hide (by rw [HSt.out, if_pos hxx])
        clear HSt
        have hO3 : OwnE ((wr.alloc (.cells #[.int .i64 x1, .int .i64 x2] 59)).alloc (.cells #[.int .i64 x1, .int .i64 x2] 59)) w.heap.size u3 fl := World.ownsRow.alloc (World.ownsRow.alloc HO.out _) _
        have hb3 : RowKit.Below w.heap.size w ((wr.alloc (.cells #[.int .i64 x1, .int .i64 x2] 59)).alloc (.cells #[.int .i64 x1, .int .i64 x2] 59)) := (HBel.out.alloc HBel.out.size _).alloc (HBel.out.alloc HBel.out.size _).size _
        have HN3 := hide (new2 (wr.alloc (.cells #[.int .i64 x1, .int .i64 x2] 59)) 59 (.int .i64 x1) (.int .i64 x2))
        have hs3 : (wr.alloc (.cells #[.int .i64 x1, .int .i64 x2] 59)).heap.size = wr.heap.size + 1 := by simp
        rw [hs3] at HN3
        have HO3 := hide hO3
        have HB3 := hide hb3
        clear hO3 hb3 hs3
        go_wp2_with (at_builtin; refine wpList_append_own_at _ rfl (.tmp 17) (.tmp 19) 52 rfl w.heap.size 59 i1 (.agg #[.int .i64 0, .int .i64 0]) 2 16 Tryd.underlying52 hi hz0 hz1 hz2 rfl (by decide) u3 fl.length (fl.flatMap encE) rfl HO3.out ⟨wr.heap.size + 1, 0, none⟩ 1 1 [.int .i64 x1, .int .i64 x2] rfl rfl HN3.out (by simp [Value.oneCell']) (by unfold maxLen; omega) (by omega) HB3.out.size ?_; intro v5 w5 ho5 hg5 _ hw5; have HO5 := hide ho5; have HG5 := hide hg5; clear ho5 hg5 hw5)
        have ho6 : OwnE w5 w.heap.size v5 (fl ++ [(x1, x2)]) := by
          unfold OwnE
          rw [List.flatMap_append, List.length_append]
          exact HO5.out
        have hb6 := HB3.out.grown HG5.out HB3.out.size (fun q hq => (World.ownsRow.lt HO3.out q hq).1)
        refine ⟨⟨k + 1, by omega, by go_num, by rw [HSt2.out]; exact ho6, hb6⟩, ?_⟩
        simp [intOf]; omega
      · have HSt2 : Hid (filled L (k + 1) = fl) := hide (by rw [HSt.out, if_neg hxx])
        clear HSt
        go_wp2_with fail
        refine ⟨⟨k + 1, by omega, by go_num, by rw [HSt2.out]; exact World.ownsRow.alloc HO.out _, HBel.out.alloc HBel.out.size _⟩, ?_⟩
        simp [intOf]; omega
    · obtain rfl : k = L.length := by omega
      have hfin : ∀ D : List (Int × Int), D.Perm (filled L L.length) → D.Pairwise (fun p q => p.1 ≤ q.1) → RiseP L D := by
        intro D hp hs
        exact ⟨hp, hs⟩
      have HFin := hide hfin
      have hfl := filled_le L L.length
      clear hfin
      obtain ⟨fl, hfle⟩ : ∃ fl, fl = filled L L.length := ⟨_, rfl⟩
      rw [← hfle] at HO HFin hfl
      clear hfle
      rcases row_form2 HO.out with ⟨rfl, hn⟩ | ⟨g, cap, rfl, hg1, hg2⟩
      · go_wp2_with fail
        refine (HS.out.2 wr).mono ?_
        rintro e w5 ⟨rfl, rfl⟩
        go_wp2_with fail
        go_ret
        subst hn
        exact ⟨_, [], rfl, HO.out, HFin.out [] (List.Perm.refl _) List.Pairwise.nil, HBel.out⟩
      · have HC := hide (HS.out.1 wr w.heap.size g cap fl HO.out (by omega))
        go_wp2_with fail
        refine HC.out.mono ?_
        rintro e w5 ⟨rfl, D, hoD, hpD, hsD, hgD⟩
        have HOD := hide hoD
        have HPD := hide (And.intro hpD hsD)
        have HB5 := hide (HBel.out.grown hgD HBel.out.size (fun q hq => by simp at hq; omega))
        clear hoD hpD hsD hgD
        go_wp2_with fail
        go_ret
        exact ⟨_, D, rfl, HOD.out, HFin.out D HPD.out.1 HPD.out.2, HB5.out⟩


/-- No byte in common. -/
def Off (p q : Int × Int) : Prop := p.1 < p.2 → q.1 < q.2 → p.2 ≤ q.1 ∨ q.2 ≤ p.1

theorem Off.symm {p q : Int × Int} (h : Off p q) : Off q p := fun h1 h2 => (h h2 h1).symm

theorem filled_all (L : List (Int × Int)) : filled L L.length = L.filter (fun p => decide (p.1 < p.2)) := by simp [filled]

theorem RiseP.fill {L D : List (Int × Int)} (h : RiseP L D) : ∀ p ∈ D, p.1 < p.2 := fun p hp => by
  have := h.perm.mem_iff.1 hp
  rw [filled_all] at this
  simpa using (List.mem_filter.1 this).2

theorem RiseP.off {L D : List (Int × Int)} (h : RiseP L D) : D.Pairwise Off ↔ L.Pairwise Off := by
  rw [h.perm.pairwise_iff (fun {_ _} h => Off.symm h), filled_all, List.pairwise_filter]
  constructor
  · intro h
    refine h.imp fun {p q} h1 h2 h3 => h1 (by simpa using h2) (by simpa using h3) h2 h3
  · intro h
    exact h.imp fun {p q} h1 _ _ => h1

theorem RiseP.next {L D : List (Int × Int)} (h : RiseP L D) : (∀ j, j + 1 < D.length → (D.getD j (0, 0)).2 ≤ (D.getD (j + 1) (0, 0)).1) ↔ L.Pairwise Off := by
  rw [← h.off]
  constructor
  · intro ha
    have hle : ∀ (d i : Nat), i + d + 1 < D.length → (D.getD i (0, 0)).2 ≤ (D.getD (i + d + 1) (0, 0)).1 := by
      intro d
      induction d with
      | zero => intro i hi; exact ha i hi
      | succ d ih =>
        intro i hi
        have h1 := ih i (by omega)
        have h2 := h.fill _ (getD_mem D (i + d + 1) (by omega))
        have h3 := ha (i + d + 1) (by omega)
        rw [show i + (d + 1) + 1 = i + d + 1 + 1 by omega]
        omega
    refine List.pairwise_iff_getElem.2 fun i j hi hj hij _ _ => Or.inl ?_
    have := hle (j - i - 1) i (by omega)
    rw [show i + (j - i - 1) + 1 = j by omega] at this
    simpa [hi, hj] using this
  · intro hp j hj
    have h1 := List.pairwise_iff_getElem.1 hp j (j + 1) (by omega) hj (by omega)
    have h2 := List.pairwise_iff_getElem.1 h.sort j (j + 1) (by omega) hj (by omega)
    have h3 := h.fill _ (List.getElem_mem (l := D) (n := j) (by omega))
    have h4 := h.fill _ (List.getElem_mem (l := D) (n := j + 1) hj)
    have h5 := h1 h3 h4
    have e1 : D.getD j (0, 0) = D[j] := by simp [show j < D.length by omega]
    have e2 : D.getD (j + 1) (0, 0) = D[j + 1] := by simp [hj]
    rw [e1, e2]
    omega

set_option maxHeartbeats 2000000 in
set_option maxRecDepth 100000 in
theorem apart_any (hS : SortSays) (w : World) (a : Option Addr) (c : Nat) (L : List (Int × Int)) (h : LiesE w a L) (hl : L.length ≤ 1000000) :
    Calls Tryd.prog 28 #[.slice a L.length c] w fun e w' => ∃ b, e = .returned (.bool b) ∧ (b = true ↔ L.Pairwise Off) ∧ RowKit.Below w.heap.size w w' := by
  have HR := hide (rising_perm hS w a c L h hl)
  clear hS h
  go_enter Tryd.func28, Tryd.ntmps28
  go_wp2_with fail
  refine HR.out.mono ?_
  rintro e w1 ⟨v1, D, rfl, ho1, hr1, hb1⟩
  obtain ⟨a1, c1, hv1, hl1, _, _, _⟩ := ho1.form
  subst hv1
  have HL1 := hide hl1
  have HN := hide hr1.next
  have HB1 := hide hb1
  have hdl : D.length ≤ 1000000 := by rw [hr1.perm.length_eq]; exact Nat.le_trans (filled_le L _) hl
  clear ho1 hr1 hb1 hl1 HR
  go_wp2_with fail
  go_loopw [4] (fun i wr => ∃ k : Nat, (k = 0 ∨ k < D.length) ∧ i = .int .i64 ((k + 1 : Nat) : Int) ∧ (∀ j, j < k → (D.getD j (0, 0)).2 ≤ (D.getD (j + 1) (0, 0)).1) ∧ RowKit.Below w1.heap.size w1 wr) (fun i _ => D.length + 1 - (intOf i).toNat)
  case atStart => exact ⟨0, Or.inl rfl, by simp, fun j hj => absurd hj (by omega), RowKit.Below.refl _ _⟩
  case round =>
    obtain ⟨k, hk, rfl, hall, hbel⟩ := hrel
    have HBel := hide hbel
    have HAll := hide hall
    clear hbel hall
    by_cases hlt : k + 1 < D.length
    · rcases HL1.out with hnil | ⟨b, off, ha, hb, hc⟩
      · rw [hnil] at hlt; simp at hlt
      subst ha
      obtain ⟨_, q1⟩ := hc k (by omega)
      obtain ⟨q0, _⟩ := hc (k + 1) hlt
      have r0 := (HBel.out.cell (p := ⟨b, off + (k + 1) * 2, none⟩) hb).trans q0
      have r1 := (HBel.out.cell (p := ⟨b, off + k * 2 + 1, none⟩) hb).trans q1
      have hk0 : (0 : Int) ≤ ((k + 1 : Nat) : Int) := by omega
      have hk1 : ((k + 1 : Nat) : Int) < (D.length : Int) := by omega
      have hk2 : (0 : Int) ≤ (k : Int) := by omega
      have hk3 : (k : Int) < (D.length : Int) := by omega
      have hwk : IntKind.i64.wrap (((k + 1 : Nat) : Int) - 1) = (k : Int) := by rw [IntKind.wrap_i64]; omega
      obtain ⟨x, hx⟩ : ∃ x, x = (D.getD (k + 1) (0, 0)).1 := ⟨_, rfl⟩
      obtain ⟨y, hy⟩ : ∃ y, y = (D.getD k (0, 0)).2 := ⟨_, rfl⟩
      rw [← hx] at r0
      rw [← hy] at r1
      have HX := hide hx
      have HY := hide hy
      clear hc q0 q1 hx hy
      by_cases hxy : x < y
      · have HF : Hid (¬ L.Pairwise Off) := hide (fun hp => by
          have := HN.out.2 hp k hlt
          rw [← HX.out, ← HY.out] at this
          omega)
        go_wp2_with fail
        go_quiet (fail)
        go_wp2_with fail
        go_ret
        exact ⟨false, rfl, ⟨fun h => (by cases h), fun h => absurd h HF.out⟩, HB1.out.trans ((below_ahead HBel.out _).mono HB1.out.size)⟩
      · have HA2 : Hid (∀ j, j < k + 1 → (D.getD j (0, 0)).2 ≤ (D.getD (j + 1) (0, 0)).1) := hide (fun j hj => by
          rcases Nat.lt_or_ge j k with h | h
          · exact HAll.out j h
          · obtain rfl : j = k := by omega
            rw [← HX.out, ← HY.out]
            omega)
        have hdx : decide (x < y) = false := by simpa using hxy
        go_wp2_with fail
        go_quiet (fail)
        go_wp2_with fail
        refine ⟨⟨k + 1, Or.inr hlt, by go_num, HA2.out, below_ahead HBel.out _⟩, ?_⟩
        simp [intOf]; omega
    · have HT : Hid (L.Pairwise Off) := hide (HN.out.1 (fun j hj => HAll.out j (by omega)))
      have hke : ¬ (((k + 1 : Nat) : Int) < (D.length : Int)) := by omega
      go_wp2_with fail
      go_ret
      exact Or.inr ⟨rfl, HT.out, HB1.out.trans (HBel.out.mono HB1.out.size)⟩

end Go.Proofs.YtpbnjobjjnhplaaDoor.Oct
