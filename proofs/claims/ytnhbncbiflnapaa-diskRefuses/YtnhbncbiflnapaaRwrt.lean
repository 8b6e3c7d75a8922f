/- The reference's write. -/
import Derived.Test.YtnhbncbiflnapaaRput
namespace Go.Proofs.Ytnhbncbiflnapaa.Oct
open Go.RowKit Go.Deep

set_option maxHeartbeats 2000000 in
set_option maxRecDepth 100000 in
theorem rput (w : World) (Y Z : Nat → Prop) (M : Nat) (m : Rf) (s : List Int) (R : List RW) (n : Nat) (h : Ref w Y Z M m s R n) (hn : n ≤ 1000000) (at_ : Int) (hat : -9223372036854775808 ≤ at_ ∧ at_ ≤ 9223372036854775807) (a : Option Addr) (cap : Nat) (p : List Int) (hp : Sl w a cap p) (hpl : p.length ≤ 1500) (hpa : Apart Z M m.vr a p) :
    Calls Try.prog 31 #[.pointer (some ⟨M, 0, none⟩), .int .i64 at_, .slice a p.length cap] w fun e w' => ToldN e ∧ RDid w w' Y Z M (n + 1) := by
  have HR := hide h
  have HP := hide (And.intro hp hpa)
  have hcap := hp.le
  have hcm := hp.max
  clear h hp hpa
  go_enter Try.func31, Try.ntmps31
  go_wp2_with fail
  refine (rask w Y Z M m s R n HR.out hn).mono ?_
  rintro e w1 ⟨rfl, hr1, hc1⟩
  have HR1 := hide hr1
  have hp1 : Sl w1 a cap p := HP.out.1.chg0 hc1 (fun hl x hx e => (HP.out.2 hl x hx).2.1 e)
  have HP1 := hide hp1
  have HC1 : Hid (Chg Y w w1) := hide (hc1.mono (fun i _ e => by subst e; exact HR.out.yM))
  have HD1 : Hid (RDid w w1 Y Z M (n + 1)) := hide ⟨_, s, R, HR1.out.mono (fun _ h => Or.inl h) (fun _ h => Or.inl h), HC1.out⟩
  clear hr1 hc1 hp1
  by_cases hok : 0 ≤ at_ ∧ at_ + (p.length : Int) ≤ 4194304
  · obtain ⟨t, rfl⟩ : ∃ t : Nat, at_ = t := ⟨at_.toNat, by omega⟩
    have g1 : ¬ ((t : Int) < 0) := by omega
    have g2 : ¬ ((4194304 : Int) < (t : Int)) := by omega
    have g3 : ¬ ((4194304 : Int) - (t : Int) < (p.length : Int)) := by omega
    have htp : t + p.length ≤ 4194304 := by omega
    have hwr := HR.out.wr
    have hops := HR.out.ops
    have hrl := HR.out.rl
    have d3 := HR1.out.at_.cell.2.2.2.1
    have z3 := HR1.out.at_.frozen 3
    dsimp only at d3
    have hw : wrap64 (m.wrote + 1) = m.wrote + 1 := by unfold wrap64; omega
    have ha2 := HR1.out.at_.setwrote (m.wrote + 1)
    have hc2 : Chg (fun k => k = M) w1 (w1.setCell ⟨M, 3, none⟩ (.int .i64 (m.wrote + 1))) := (Chg.refl _ _).setCell M 3 _ (fun _ => rfl)
    have hr2 := HR1.out.fields (n' := n + 1) hc2 ha2 rfl rfl (Nat.le_refl _) (by simp; omega) (by simp; omega)
    have hp2 : Sl (w1.setCell ⟨M, 3, none⟩ (.int .i64 (m.wrote + 1))) a cap p := HP1.out.chg0 hc2 (fun hl x hx e => (HP.out.2 hl x hx).2.1 e)
    obtain ⟨m2, hm2⟩ : ∃ m2 : Rf, m2 = { m with ops := m.ops + 1, wrote := m.wrote + 1 } := ⟨_, rfl⟩
    have hr2' : Ref (w1.setCell ⟨M, 3, none⟩ (.int .i64 (m.wrote + 1))) Y Z M m2 s R (n + 1) := by rw [hm2]; exact hr2
    have HI : Hid (∃ (k : Nat) (ps : List RW) (vr : Value), k ≤ p.length ∧ Value.int .i64 0 = .int .i64 k ∧ Ref (w1.setCell ⟨M, 3, none⟩ (.int .i64 (m.wrote + 1))) (fun q => Y q ∨ (w.heap.size ≤ q ∧ q < (w1.setCell ⟨M, 3, none⟩ (.int .i64 (m.wrote + 1))).heap.size)) Z M { m2 with vr := vr } s (R ++ ps) (n + 1) ∧ ps.length ≤ k ∧ Apart Z M vr a p ∧ Sl (w1.setCell ⟨M, 3, none⟩ (.int .i64 (m.wrote + 1))) a cap p ∧ Chg Y w (w1.setCell ⟨M, 3, none⟩ (.int .i64 (m.wrote + 1)))) :=
      hide ⟨0, [], m2.vr, by omega, by simp, by rw [List.append_nil]; exact hr2'.mono (fun _ h => Or.inl h) (fun _ h => h), by simp, by rw [hm2]; exact HP.out.2, hp2, HC1.out.andThen hc2 (fun i _ e => by subst e; exact HR.out.yM)⟩
    clear hr2 ha2 hc2 hok hr2' hp2 hm2
    go_wp2_with fail
    go_loopw [8] (fun i wr => ∃ (k : Nat) (ps : List RW) (vr : Value), k ≤ p.length ∧ i = .int .i64 k ∧ Ref wr (fun q => Y q ∨ (w.heap.size ≤ q ∧ q < wr.heap.size)) Z M { m2 with vr := vr } s (R ++ ps) (n + 1) ∧ ps.length ≤ k ∧ Apart Z M vr a p ∧ Sl wr a cap p ∧ Chg Y w wr) (fun i _ => p.length - (intOf i).toNat)
    case atStart => exact HI.out
    case round =>
      obtain ⟨k, ps, vr, hk, rfl, href, hps, hap, hsl, hchg⟩ := hrel
      clear HI
      have HRef := hide href
      have HAp := hide hap
      have HSl := hide hsl
      have HChg := hide hchg
      clear href hap hsl hchg
      by_cases hlt : k < p.length
      · have hk1 : (k : Int) < (p.length : Int) := by omega
        have d1 := HRef.out.at_.cell.2.1
        have z1 := HRef.out.at_.frozen 1
        dsimp only at d1
        have hpne : p ≠ [] := fun e => by rw [e] at hlt; simp at hlt
        obtain ⟨i1, hi, hz0, hz1, hz2⟩ := info_parts info_rw
        rcases HSl.out.lies with h0 | ⟨bp, op, hap, hbp, hcp⟩
        · exact absurd h0 hpne
        subst hap
        clear hcp
        have HPush : Hid (∀ (j : Nat), 0 < j → k + j ≤ p.length → ∀ (W3 : World), W3 = wr.drew.alloc (.cells #[.bool false, .int .i64 ((t : Int) + (k : Int)), .slice (some ⟨bp, op + k, none⟩) j (cap - k)] 68) → ∀ (w5 : World) (v5 : Value), w5.ownsRow 0 68 3 v5 ((R ++ ps).length + 1) ((R ++ ps).flatMap RW.cells ++ [.bool false, .int .i64 ((t : Int) + (k : Int)), .slice (some ⟨bp, op + k, none⟩) j (cap - k)]) → W3.grownBy w5 vr.ownBlock → (v5.ownBlock = vr.ownBlock ∨ v5.ownBlock = some W3.heap.size) →
            Ref (w5.setCell ⟨M, 1, none⟩ v5) (fun q => Y q ∨ (w.heap.size ≤ q ∧ q < (w5.setCell ⟨M, 1, none⟩ v5).heap.size)) Z M { m2 with vr := v5 } s (R ++ (ps ++ [⟨false, t + k, some ⟨bp, op + k, none⟩, (p.drop k).take j, cap - k⟩])) (n + 1) ∧ Apart Z M v5 (some ⟨bp, op, none⟩) p ∧ Sl (w5.setCell ⟨M, 1, none⟩ v5) (some ⟨bp, op, none⟩) cap p ∧ Chg Y w (w5.setCell ⟨M, 1, none⟩ v5)) := hide (by
          intro j hj hkj W3 hW3 w5 v5 ho5 hg5 hw5
          have hcA : Chg (fun _ => False) wr W3 := by rw [hW3]; exact (Chg.refl _ _).drew.alloc _
          have hr3 := HRef.out.chg hcA (fun _ h => h.elim)
          have htl : ((p.drop k).take j).length = j := by simp; omega
          have hs3 : W3.heap.size = wr.heap.size + 1 := by
            rw [hW3]
            have : ∀ ob, (wr.drew.alloc ob).heap.size = wr.drew.heap.size + 1 := fun ob => by simp
            exact this _
          have hll : Lies W3 (some ⟨bp, op, none⟩) p := HSl.out.lies.chg0 hcA (fun _ _ _ h => h)
          have hx := HAp.out hpne ⟨bp, op, none⟩ rfl
          obtain ⟨hr6, hc6⟩ := hr3.push v5 ⟨false, t + k, some ⟨bp, op + k, none⟩, (p.drop k).take j, cap - k⟩ ⟨hll.of_part k j, fun _ x hx' => by cases hx'; exact hx, by simp only [htl]; omega⟩ (by simp only [RW.cells, htl]; exact ho5) hg5 hw5 (by simp; omega)
          have hs6 : (w5.setCell ⟨M, 1, none⟩ v5).heap.size = w5.heap.size := nblk_setCell _ _ _
          have hsc := HChg.out.size
          refine ⟨?_, ?_, HSl.out.chg0 ((hcA.mono (fun _ _ h => h.elim) : Chg (fun k => k = M ∨ some k = vr.ownBlock) wr W3).andThen hc6 (fun _ _ h => h)) ?_, ?_⟩
          · rw [hs6, ← List.append_assoc]
            refine hr6.mono (fun q h => ?_) (fun _ h => h)
            rcases h with (h | h) | h
            · exact Or.inl h
            · have := hg5.size
              exact Or.inr (by omega)
            · exact Or.inr (by omega)
          · intro _ x hx'
            cases hx'
            refine ⟨hx.1, hx.2.1, ?_⟩
            rcases hw5 with e | e
            · rw [e]; exact hx.2.2
            · rw [e]; simp; omega
          · intro _ x hx' e
            cases hx'
            rcases e with e | e
            · exact hx.2.1 e
            · exact hx.2.2 e.symm
          · have hc3 : Chg Y w W3 := HChg.out.trans (hcA.mono (fun _ _ h => h.elim))
            refine hc3.andThen hc6 (fun q hq h => ?_)
            rcases h with h | h
            · subst h; exact HR.out.yM
            · rcases (HRef.out.yr q h.symm).1 with h | h
              · exact h
              · omega)
        have e1 : wr.drew.cell? ⟨M, 1, none⟩ = some vr := d1
        have hne : some M ≠ vr.ownBlock := fun e => (HRef.out.yr _ e.symm).2 rfl
        have HKp : Hid (∀ (ob : Obj) (w5 : World), (wr.drew.alloc ob).grownBy w5 vr.ownBlock → w5.cell? ⟨M, 1, none⟩ = some vr ∧ w5.frozen? ⟨M, 1, none⟩ = false) := hide (fun ob w5 h5 => by
          have hr3 := HRef.out.chg (X := fun _ => False) (((Chg.refl _ _).drew : Chg (fun _ => False) wr wr.drew).alloc ob) (fun _ h => h.elim)
          exact ⟨h5.cell (a := ⟨M, 1, none⟩) hr3.at_.cell.2.1 hne, (World.frozen?_of_block (a := ⟨M, 1, none⟩) (h5.block M hr3.at_.lt hne)).trans (hr3.at_.frozen 1)⟩)
        have hps' : (R ++ ps).length ≤ 3000000000 := by simp; omega
        have hk0 : (0 : Int) ≤ (k : Int) := by omega
        have hck : ¬ (cap = k) := by omega
        obtain ⟨Ln, hLn⟩ : ∃ Ln, Ln = (R ++ ps).length := ⟨_, rfl⟩
        rw [← hLn] at hps'
        by_cases hq : p.length - k < 512 - (t + k) % 512
        · obtain ⟨j, hj⟩ : ∃ j, j = p.length - k := ⟨_, rfl⟩
          have hJ : (p.length : Int) - (k : Int) = (j : Int) := by omega
          have hpu := HPush.out j (by omega) (by omega) _ rfl
          rw [← hLn] at hpu
          have HPush2 := hide hpu
          clear hpu
          have HKeep := hide (HKp.out (.cells #[.bool false, .int .i64 ((t : Int) + (k : Int)), .slice (some ⟨bp, op + k, none⟩) j (cap - k)] 68))
          clear HPush HKp
          have HR3 := hide (HRef.out.chg (X := fun _ => False) (((Chg.refl _ _).drew : Chg (fun _ => False) wr wr.drew).alloc (.cells #[.bool false, .int .i64 ((t : Int) + (k : Int)), .slice (some ⟨bp, op + k, none⟩) j (cap - k)] 68)) (fun _ h => h.elim))
          have hkj : (k : Int) + (j : Int) ≤ (cap : Int) := by omega
          have hj0 : (0 : Int) ≤ (j : Int) := by omega
          have hj1 : 0 < j ∧ k + j ≤ p.length := by omega
          obtain ⟨e9, he9⟩ : ∃ e9, e9 = k + j := ⟨_, rfl⟩
          have hwk : IntKind.i64.wrap ((k : Int) + (j : Int)) = (e9 : Int) := by rw [IntKind.wrap_i64]; omega
          have hwt : IntKind.i64.wrap ((t : Int) + (k : Int)) = (t : Int) + (k : Int) := by rw [IntKind.wrap_i64]; omega
          have hcj : (e9 : Int) ≤ (cap : Int) := by omega
          have hkk : k ≤ e9 := by omega
          have hsub : e9 - k = j := by omega
          have hrow := HR3.out.row
          rw [← hLn] at hrow
          have HRow := hide hrow
          clear hrow
          have f2 : (wr.alloc (.cells #[.bool false, .int .i64 ((t : Int) + (k : Int)), .slice (some ⟨bp, op + k, none⟩) j (cap - k)] 68)).drew.cell? ⟨M, 1, none⟩ = some vr := HR3.out.at_.cell.2.1
          have f3 : (wr.alloc (.cells #[.bool false, .int .i64 ((t : Int) + (k : Int)), .slice (some ⟨bp, op + k, none⟩) j (cap - k)] 68)).cell? ⟨M, 1, none⟩ = some vr := HR3.out.at_.cell.2.1
          have HE9 := hide he9
          clear hj he9 hLn
          go_wp2_with fail
          go_region_law (refine step_append_row (by rfl) (.tmp 55) (.tmp 66) 32 (by rfl) 0 68 i1 (.agg #[.bool false, .int .i64 0, .slice none 0 0]) 3 40 Try.underlying32 hi hz0 hz1 hz2 (by rfl) (by decide) vr Ln ((R ++ ps).flatMap RW.cells) (by rfl) HRow.out ⟨wr.heap.size, 0, none⟩ 1 1 [.bool false, .int .i64 ((t : Int) + (k : Int)), .slice (some ⟨bp, op + k, none⟩) j (cap - k)] (by rfl) (by rfl) (by exact new3 wr.drew _ _ _ _) (by simp [Value.oneCell']) (by unfold maxLen; omega) (by omega) (Nat.zero_le _) ?_; intro v5 w5 ho5 hg5 hw5; obtain ⟨g5, cap5, rfl⟩ := row_succ ho5; obtain ⟨d5, y5⟩ := HKeep.out w5 hg5; have HO5 := hide ho5; have HG5 := hide hg5; have HW5 := hide hw5; clear ho5 hg5 hw5)
          all_goals
            have HFin := hide (HPush2.out w5 (.slice (some ⟨g5, 0, none⟩) (Ln + 1) cap5) HO5.out HG5.out HW5.out)
            generalize w5.setCell ⟨M, 1, none⟩ (.slice (some ⟨g5, 0, none⟩) (Ln + 1) cap5) = w6 at *
            go_wp2_with fail
            refine ⟨⟨e9, ps ++ [⟨false, t + k, some ⟨bp, op + k, none⟩, (p.drop k).take j, cap - k⟩], .slice (some ⟨g5, 0, none⟩) (Ln + 1) cap5, by have := HE9.out; omega, by simp, HFin.out.1, by have := HE9.out; simp; omega, HFin.out.2.1, HFin.out.2.2.1, HFin.out.2.2.2⟩, ?_⟩
            have := HE9.out
            simp [intOf]; omega
        · obtain ⟨j, hj⟩ : ∃ j, j = 512 - (t + k) % 512 := ⟨_, rfl⟩
          have hJ : (512 : Int) - ((t : Int) + (k : Int)) % 512 = (j : Int) := by omega
          have hJ2 : (j : Int) ≤ (p.length : Int) - (k : Int) := by omega
          have hpu := HPush.out j (by omega) (by omega) _ rfl
          rw [← hLn] at hpu
          have HPush2 := hide hpu
          clear hpu
          have HKeep := hide (HKp.out (.cells #[.bool false, .int .i64 ((t : Int) + (k : Int)), .slice (some ⟨bp, op + k, none⟩) j (cap - k)] 68))
          clear HPush HKp
          have HR3 := hide (HRef.out.chg (X := fun _ => False) (((Chg.refl _ _).drew : Chg (fun _ => False) wr wr.drew).alloc (.cells #[.bool false, .int .i64 ((t : Int) + (k : Int)), .slice (some ⟨bp, op + k, none⟩) j (cap - k)] 68)) (fun _ h => h.elim))
          have hkj : (k : Int) + (j : Int) ≤ (cap : Int) := by omega
          have hj0 : (0 : Int) ≤ (j : Int) := by omega
          have hj1 : 0 < j ∧ k + j ≤ p.length := by omega
          obtain ⟨e9, he9⟩ : ∃ e9, e9 = k + j := ⟨_, rfl⟩
          have hwk : IntKind.i64.wrap ((k : Int) + (j : Int)) = (e9 : Int) := by rw [IntKind.wrap_i64]; omega
          have hwt : IntKind.i64.wrap ((t : Int) + (k : Int)) = (t : Int) + (k : Int) := by rw [IntKind.wrap_i64]; omega
          have hcj : (e9 : Int) ≤ (cap : Int) := by omega
          have hkk : k ≤ e9 := by omega
          have hsub : e9 - k = j := by omega
          have hrow := HR3.out.row
          rw [← hLn] at hrow
          have HRow := hide hrow
          clear hrow
          have f2 : (wr.alloc (.cells #[.bool false, .int .i64 ((t : Int) + (k : Int)), .slice (some ⟨bp, op + k, none⟩) j (cap - k)] 68)).drew.cell? ⟨M, 1, none⟩ = some vr := HR3.out.at_.cell.2.1
          have f3 : (wr.alloc (.cells #[.bool false, .int .i64 ((t : Int) + (k : Int)), .slice (some ⟨bp, op + k, none⟩) j (cap - k)] 68)).cell? ⟨M, 1, none⟩ = some vr := HR3.out.at_.cell.2.1
          have HE9 := hide he9
          clear hj he9 hLn
          go_wp2_with fail
          go_region_law (refine step_append_row (by rfl) (.tmp 55) (.tmp 66) 32 (by rfl) 0 68 i1 (.agg #[.bool false, .int .i64 0, .slice none 0 0]) 3 40 Try.underlying32 hi hz0 hz1 hz2 (by rfl) (by decide) vr Ln ((R ++ ps).flatMap RW.cells) (by rfl) HRow.out ⟨wr.heap.size, 0, none⟩ 1 1 [.bool false, .int .i64 ((t : Int) + (k : Int)), .slice (some ⟨bp, op + k, none⟩) j (cap - k)] (by rfl) (by rfl) (by exact new3 wr.drew _ _ _ _) (by simp [Value.oneCell']) (by unfold maxLen; omega) (by omega) (Nat.zero_le _) ?_; intro v5 w5 ho5 hg5 hw5; obtain ⟨g5, cap5, rfl⟩ := row_succ ho5; obtain ⟨d5, y5⟩ := HKeep.out w5 hg5; have HO5 := hide ho5; have HG5 := hide hg5; have HW5 := hide hw5; clear ho5 hg5 hw5)
          all_goals
            have HFin := hide (HPush2.out w5 (.slice (some ⟨g5, 0, none⟩) (Ln + 1) cap5) HO5.out HG5.out HW5.out)
            generalize w5.setCell ⟨M, 1, none⟩ (.slice (some ⟨g5, 0, none⟩) (Ln + 1) cap5) = w6 at *
            go_wp2_with fail
            refine ⟨⟨e9, ps ++ [⟨false, t + k, some ⟨bp, op + k, none⟩, (p.drop k).take j, cap - k⟩], .slice (some ⟨g5, 0, none⟩) (Ln + 1) cap5, by have := HE9.out; omega, by simp, HFin.out.1, by have := HE9.out; simp; omega, HFin.out.2.1, HFin.out.2.2.1, HFin.out.2.2.2⟩, ?_⟩
            have := HE9.out
            simp [intOf]; omega
      · obtain rfl : k = p.length := by omega
        go_wp2_with fail
        go_ret
        exact ⟨⟨0, rfl⟩, _, s, _, HRef.out.mono (fun _ h => h) (fun _ h => Or.inl h), HChg.out⟩
  · by_cases g1 : at_ < 0
    · go_wp2_with fail
      go_ret
      exact ⟨⟨4, rfl⟩, HD1.out⟩
    · by_cases g2 : (4194304 : Int) < at_
      · go_wp2_with fail
        go_ret
        exact ⟨⟨3, rfl⟩, HD1.out⟩
      · have g3 : (4194304 : Int) - at_ < (p.length : Int) := by omega
        have g4 : wrap64 ((4194304 : Int) - at_) = (4194304 : Int) - at_ := by unfold wrap64; omega
        go_wp2_with fail
        go_ret
        exact ⟨⟨3, rfl⟩, HD1.out⟩

end Go.Proofs.Ytnhbncbiflnapaa.Oct
