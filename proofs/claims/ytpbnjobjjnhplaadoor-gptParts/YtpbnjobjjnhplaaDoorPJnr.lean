/- joined, by the reference: parts that rise, those that touch together. -/
import Derived.Test.YtpbnjobjjnhplaaDoorPNor
namespace Go.Proofs.YtpbnjobjjnhplaaDoor.Oct
open Go.RowKit Go.Sort

/-- Parts that rise, each with a byte; none reaches into the next. -/
structure Steps2 (D : List (Int × Int)) : Prop where
  fill : ∀ p ∈ D, p.1 < p.2
  sort : D.Pairwise (fun p q => p.2 ≤ q.1)

theorem getD_mem (D : List (Int × Int)) (k : Nat) (hk : k < D.length) : D.getD k (0, 0) ∈ D := by
  have e : D.getD k (0, 0) = D[k] := by simp [hk]
  rw [e]
  exact List.getElem_mem hk

theorem Steps2.ahead {D : List (Int × Int)} (h : Steps2 D) {k : Nat} (hk : k < D.length) : ∀ q ∈ D.take k, q.2 ≤ (D.getD k (0, 0)).1 := by
  intro q hq
  have e : D.getD k (0, 0) = D[k] := by simp [hk]
  rw [e]
  obtain ⟨i, hi, rfl⟩ := List.getElem_of_mem hq
  simp at hi
  rw [List.getElem_take]
  exact List.pairwise_iff_getElem.1 h.sort i k (by omega) hk (by omega)

theorem Steps2.step {D : List (Int × Int)} (h : Steps2 D) {k : Nat} (hk : k < D.length) {O : List (Int × Int)} (hm : Made (D.take k) O) : Made (D.take (k + 1)) (nstep O (D.getD k (0, 0))) := by
  rw [take_step D k hk]
  refine hm.step _ (h.fill _ (getD_mem D k hk)) (fun q hq => ?_)
  have h1 := h.ahead hk q hq
  have h2 := h.fill q (List.mem_of_mem_take hq)
  omega

/-- Its step is that of the one form. -/
theorem Steps2.nstep {D : List (Int × Int)} (h : Steps2 D) {k : Nat} (hk : k < D.length) {O : List (Int × Int)} (hm : Made (D.take k) O) {n : Nat} (hn : O.length = n + 1) :
    nstep O (D.getD k (0, 0)) = if (O.getD n (0, 0)).2 = (D.getD k (0, 0)).1 then O.set n ((O.getD n (0, 0)).1, (D.getD k (0, 0)).2) else O ++ [D.getD k (0, 0)] := by
  obtain ⟨q, hq, e⟩ := hm.snd _ (getD_mem O n (by omega))
  have h1 := h.ahead hk q hq
  have h3 := h.fill _ (getD_mem D k hk)
  unfold Oct.nstep
  rw [show O.length - 1 = n by omega]
  by_cases h2 : (O.getD n (0, 0)).2 = (D.getD k (0, 0)).1
  · rw [if_neg (by rintro (h4 | h4); · rw [h4] at hn; simp at hn
                   · omega), if_pos h2, show max (O.getD n (0, 0)).2 (D.getD k (0, 0)).2 = (D.getD k (0, 0)).2 by omega]
  · rw [if_pos (Or.inr (by omega)), if_neg h2]

set_option maxHeartbeats 4000000 in
set_option maxRecDepth 100000 in
theorem refjoined_any (w : World) (a : Option Addr) (c : Nat) (D : List (Int × Int)) (h : LiesE w a D) (hd : Steps2 D) (hl : D.length ≤ 1000000) :
    Calls Tryd.prog 67 #[.slice a D.length c] w fun e w' => ∃ v N, e = .returned v ∧ OwnE w' w.heap.size v N ∧ Made D N ∧ RowKit.Below w.heap.size w w' := by
  obtain ⟨i1, hi, hz0, hz1, hz2⟩ := info_parts info_E
  have HL1 := hide h
  have HD := hide hd
  clear h hd
  go_enter Tryd.func67, Tryd.ntmps67
  go_wp2_with fail
  go_loopw [3, 4] (fun v i wr => ∃ (k : Nat) (O : List (Int × Int)), k ≤ D.length ∧ i = .int .i64 k ∧ Made (D.take k) O ∧ OwnE wr w.heap.size v O ∧ RowKit.Below w.heap.size w wr) (fun _ i _ => D.length - (intOf i).toNat)
  case atStart => exact ⟨0, [], by omega, by simp, by simpa using Made.nil, OwnE.nil _ _, RowKit.Below.refl _ _⟩
  case round =>
    obtain ⟨k, O, hk, rfl, hmd, ho, hbel⟩ := hrel
    have HO := hide ho
    have HBel := hide hbel
    have HM := hide hmd
    have hsz := hbel.size
    clear ho hbel hmd
    by_cases hlt : k < D.length
    · rcases HL1.out with hnil | ⟨b, off, ha, hb, hc⟩
      · rw [hnil] at hlt; simp at hlt
      subst ha
      obtain ⟨q0, q1⟩ := hc k hlt
      have r0 := (HBel.out.cell (p := ⟨b, off + k * 2, none⟩) hb).trans q0
      have r1 := (HBel.out.cell (p := ⟨b, off + k * 2 + 1, none⟩) hb).trans q1
      have hk0 : (0 : Int) ≤ (k : Int) := by omega
      have hk1 : (k : Int) < (D.length : Int) := by omega
      have HSt := hide (HD.out.step hlt HM.out)
      have hOl : O.length ≤ k := by have := HM.out.len; simp at this; omega
      have HNs := hide (fun n hn => HD.out.nstep (n := n) hlt HM.out hn)
      obtain ⟨x, hx⟩ : ∃ x, x = D.getD k (0, 0) := ⟨_, rfl⟩
      rw [← hx] at r0 r1 HSt HNs
      obtain ⟨x1, x2⟩ := x
      dsimp only at r0 r1 HNs
      clear hc q0 q1 hx
      obtain ⟨ao, co, hvo, _, hoc, hom, _⟩ := HO.out.form
      subst hvo
      by_cases hO0 : O = []
      · subst hO0
        have HSt2 : Hid (Made (D.take (k + 1)) ([] ++ [(x1, x2)])) := hide (by have := HSt.out; unfold Oct.nstep at this; rw [if_pos (Or.inl rfl)] at this; exact this)
        clear HSt HNs
        simp only [List.length_nil]
        go_wp2_with fail
        go_quiet (fail)
        generalize hW : wr.drewN nq = W2
        have f0 : W2.cell? ⟨b, off + k * 2, none⟩ = some (.int .i64 x1) := by rw [← hW]; exact r0
        have f1 : W2.cell? ⟨b, off + k * 2 + 1, none⟩ = some (.int .i64 x2) := by rw [← hW]; exact r1
        have ho2 : OwnE W2 w.heap.size (.slice ao 0 co) ([] : List (Int × Int)) := by rw [← hW]; exact HO.out
        have hb2 : RowKit.Below w.heap.size w W2 := by rw [← hW]; exact below_ahead HBel.out _
        have HO3 := hide (World.ownsRow.alloc ho2 (.cells #[.int .i64 x1, .int .i64 x2] 59))
        have HB3 := hide (hb2.alloc hb2.size (.cells #[.int .i64 x1, .int .i64 x2] 59))
        have HN3 := hide (new2 W2 59 (.int .i64 x1) (.int .i64 x2))
        clear hW ho2 hb2 r0 r1
        go_wp2_with (at_builtin; refine wpList_append_own_at _ rfl (.tmp 40) (.tmp 45) 52 rfl w.heap.size 59 i1 (.agg #[.int .i64 0, .int .i64 0]) 2 16 Tryd.underlying52 hi hz0 hz1 hz2 rfl (by decide) (.slice ao 0 co) 0 (([] : List (Int × Int)).flatMap encE) rfl HO3.out ⟨W2.heap.size, 0, none⟩ 1 1 [.int .i64 x1, .int .i64 x2] rfl rfl HN3.out (by simp [Value.oneCell']) (by unfold maxLen; omega) (by omega) HB3.out.size ?_; intro v5 w5 ho5 hg5 _ hw5; have HO5 := hide ho5; have HG5 := hide hg5; clear ho5 hg5 hw5)
        have ho6 : OwnE w5 w.heap.size v5 (([] : List (Int × Int)) ++ [(x1, x2)]) := by
          unfold OwnE
          rw [List.flatMap_append, List.length_append]
          exact HO5.out
        have hb6 := HB3.out.grown HG5.out HB3.out.size (fun q hq => (World.ownsRow.lt HO3.out q hq).1)
        refine ⟨⟨k + 1, _, by omega, by go_num, HSt2.out, ho6, hb6⟩, ?_⟩
        simp [intOf]; omega
      · obtain ⟨n, hn⟩ : ∃ n, O.length = n + 1 := ⟨O.length - 1, by have := List.length_pos_iff.2 hO0; omega⟩
        rcases row_form2 HO.out with ⟨_, hnil⟩ | ⟨g, cap, hv, hg1, hg2⟩
        · exact absurd hnil hO0
        simp at hv
        obtain ⟨rfl, rfl⟩ := hv
        have hne := HNs.out n hn
        have hcl := (OwnE.cells HO.out n (by omega)).2
        obtain ⟨l, hle⟩ : ∃ l, l = O.getD n (0, 0) := ⟨_, rfl⟩
        rw [← hle] at hne hcl
        rw [hne] at HSt
        have HLe := hide hle
        have HHn := hide hn
        obtain ⟨l1, l2⟩ := l
        dsimp only at hcl HSt
        rw [hn] at hOl hoc ⊢
        have hA2 : wr.ownsRow w.heap.size 59 2 (.slice (some ⟨g, 0, none⟩) (n + 1) co) (n + 1) (O.flatMap encE) := by rw [← HHn.out]; exact HO.out
        have HA2 := hide hA2
        have hn0 : ¬ (((n + 1 : Nat) : Int) ≤ 0) := by omega
        have hn0' : (0 : Int) ≤ (n : Int) := by omega
        have hn1 : (n : Int) < ((n + 1 : Nat) : Int) := by omega
        have hdn : decide ((0 : Int) < ((n + 1 : Nat) : Int)) = true := by simp
        have hwn : IntKind.i64.wrap (((n + 1 : Nat) : Int) - 1) = (n : Int) := by rw [IntKind.wrap_i64]; omega
        clear hle hne hn hO0 hA2 HNs
        by_cases hlx : l2 = x1
        · subst hlx
          have HSt2 : Hid (Made (D.take (k + 1)) (O.set n (l1, x2))) := hide (by have := HSt.out; rw [if_pos rfl] at this; exact this)
          clear HSt
          go_wp2_with fail
          go_quiet (fail)
          generalize hW : wr.drewN nq = W2
          have f1 : W2.cell? ⟨b, off + k * 2 + 1, none⟩ = some (.int .i64 x2) := by rw [← hW]; exact r1
          have fl : W2.cell? ⟨g, n * 2 + 1, none⟩ = some (.int .i64 l2) := by rw [← hW]; exact hcl
          have ho2 : W2.ownsRow w.heap.size 59 2 (.slice (some ⟨g, 0, none⟩) (n + 1) co) (n + 1) (O.flatMap encE) := by rw [← hW]; exact HA2.out
          have hb2 : RowKit.Below w.heap.size w W2 := by rw [← hW]; exact below_ahead HBel.out _
          have fz := World.ownsRow.frozenAt ho2 (n * 2 + 1)
          obtain ⟨hst1, hst2⟩ := World.ownsRow.stored (w := W2) ho2 (n * 2 + 1) (.int .i64 x2)
          have HO6 : Hid (OwnE (W2.setCell ⟨g, n * 2 + 1, none⟩ (.int .i64 x2)) w.heap.size (.slice (some ⟨g, 0, none⟩) (n + 1) co) (O.set n (l1, x2))) := hide (by
            unfold OwnE
            rw [← setE O n l1 x2 (by have := HHn.out; omega) (by rw [← HLe.out]), List.length_set, HHn.out]
            exact hst1)
          have HB6 : Hid (RowKit.Below w.heap.size w (W2.setCell ⟨g, n * 2 + 1, none⟩ (.int .i64 x2))) := hide (hb2.grown hst2 hb2.size (fun q hq => by simp at hq; omega))
          clear hW ho2 hb2 r0 r1 hcl hst1 hst2
          go_wp2_with fail
          refine ⟨⟨k + 1, O.set n (l1, x2), by omega, by go_num, HSt2.out, HO6.out, HB6.out⟩, ?_⟩
          simp [intOf]; omega
        · have HSt2 : Hid (Made (D.take (k + 1)) (O ++ [(x1, x2)])) := hide (by have := HSt.out; rw [if_neg hlx] at this; exact this)
          clear HSt
          go_wp2_with fail
          go_quiet (fail)
          generalize hW : wr.drewN nq = W2
          have f0 : W2.cell? ⟨b, off + k * 2, none⟩ = some (.int .i64 x1) := by rw [← hW]; exact r0
          have f1 : W2.cell? ⟨b, off + k * 2 + 1, none⟩ = some (.int .i64 x2) := by rw [← hW]; exact r1
          have ho2 : W2.ownsRow w.heap.size 59 2 (.slice (some ⟨g, 0, none⟩) (n + 1) co) (n + 1) (O.flatMap encE) := by rw [← hW]; exact HA2.out
          have hb2 : RowKit.Below w.heap.size w W2 := by rw [← hW]; exact below_ahead HBel.out _
          have HO3 := hide (World.ownsRow.alloc ho2 (.cells #[.int .i64 x1, .int .i64 x2] 59))
          have HB3 := hide (hb2.alloc hb2.size (.cells #[.int .i64 x1, .int .i64 x2] 59))
          have HN3 := hide (new2 W2 59 (.int .i64 x1) (.int .i64 x2))
          clear hW ho2 hb2 r0 r1 hcl
          go_wp2_with (at_builtin; refine wpList_append_own_at _ rfl (.tmp 40) (.tmp 45) 52 rfl w.heap.size 59 i1 (.agg #[.int .i64 0, .int .i64 0]) 2 16 Tryd.underlying52 hi hz0 hz1 hz2 rfl (by decide) (.slice (some ⟨g, 0, none⟩) (n + 1) co) (n + 1) (O.flatMap encE) rfl HO3.out ⟨W2.heap.size, 0, none⟩ 1 1 [.int .i64 x1, .int .i64 x2] rfl rfl HN3.out (by simp [Value.oneCell']) (by unfold maxLen; omega) (by omega) HB3.out.size ?_; intro v5 w5 ho5 hg5 _ hw5; have HO5 := hide ho5; have HG5 := hide hg5; clear ho5 hg5 hw5)
          have ho6 : OwnE w5 w.heap.size v5 (O ++ [(x1, x2)]) := by
            unfold OwnE
            rw [List.flatMap_append, List.length_append, HHn.out]
            exact HO5.out
          have hb6 := HB3.out.grown HG5.out HB3.out.size (fun q hq => (World.ownsRow.lt HO3.out q hq).1)
          refine ⟨⟨k + 1, _, by omega, by go_num, HSt2.out, ho6, hb6⟩, ?_⟩
          simp [intOf]; omega
    · obtain rfl : k = D.length := by omega
      go_wp2_with fail
      go_ret
      have hm := HM.out
      rw [List.take_length] at hm
      exact ⟨_, O, rfl, HO.out, hm, HBel.out⟩

end Go.Proofs.YtpbnjobjjnhplaaDoor.Oct
