/- The reference's writes, and its flush. -/
import Derived.Test.YtnhbncbiflnapaaRops
namespace Go.Proofs.Ytnhbncbiflnapaa.Oct
open Go.RowKit Go.Deep

theorem Lies.lt {w : World} {a : Option Addr} {l : List Int} (h : Lies w a l) (hl : l ≠ []) : ∀ x, a = some x → x.block < w.heap.size := by
  intro x hx
  rcases h with h | ⟨b, off, rfl, hlt, _⟩
  · exact absurd h hl
  · cases hx; exact hlt

/-- One more write waits. -/
theorem Ref.push {w w2 : World} {Y Z : Nat → Prop} {M : Nat} {m : Rf} {s : List Int} {R : List RW} {n : Nat} (h : Ref w Y Z M m s R n) (v2 : Value) (r : RW) (hr : Lies w r.a r.p ∧ Apart Z M m.vr r.a r.p ∧ r.at_ + r.p.length ≤ 4194304)
    (ho : w2.ownsRow 0 68 3 v2 (R.length + 1) (R.flatMap RW.cells ++ r.cells)) (hg : w.grownBy w2 m.vr.ownBlock) (hw : v2.ownBlock = m.vr.ownBlock ∨ v2.ownBlock = some w.heap.size) (hrl : R.length + 1 ≤ 2000 * n) :
    Ref (w2.setCell ⟨M, 1, none⟩ v2) (fun q => Y q ∨ (w.heap.size ≤ q ∧ q < w2.heap.size)) Z M { m with vr := v2 } s (R ++ [r]) n ∧ Chg (fun k => k = M ∨ some k = m.vr.ownBlock) w (w2.setCell ⟨M, 1, none⟩ v2) := by
  have hc := Chg.of_grown hg
  have hF : ¬ (some M = m.vr.ownBlock) := fun e => (h.yr M e.symm).2 rfl
  have hA := h.at_.chg hc hF
  have hX : Chg (fun k => k = M ∨ some k = m.vr.ownBlock) w (w2.setCell ⟨M, 1, none⟩ v2) := ((hc.mono (fun i _ e => Or.inr e)) : Chg (fun k => k = M ∨ some k = m.vr.ownBlock) w w2).setCell M 1 v2 (fun _ => Or.inl rfl)
  have hs : Chg (fun k => k = M) w2 (w2.setCell ⟨M, 1, none⟩ v2) := (Chg.refl _ _).setCell M 1 v2 (fun _ => rfl)
  have hnew : ∀ g, v2.ownBlock = some g → (Y g ∨ (w.heap.size ≤ g ∧ g < w2.heap.size)) ∧ g ≠ M ∧ (g < w.heap.size → m.vr.ownBlock = some g) := by
    intro g hgg
    have hglt := (ho.lt g hgg).2
    rcases hw with e | e
    · rw [e] at hgg
      exact ⟨Or.inl (h.yr g hgg).1, (h.yr g hgg).2, fun _ => hgg⟩
    · rw [e] at hgg
      cases hgg
      exact ⟨Or.inr ⟨Nat.le_refl _, hglt⟩, fun e => by have := h.at_.lt; omega, fun hlt => absurd hlt (by omega)⟩
  have hap : ∀ (a : Option Addr) (l : List Int), Lies w a l → Apart Z M m.vr a l → Lies (w2.setCell ⟨M, 1, none⟩ v2) a l ∧ Apart Z M v2 a l := by
    intro a l h1 h2
    refine ⟨h1.chg0 hX (fun hl x hx e => ?_), fun hl x hx => ?_⟩
    · obtain ⟨_, q2, q3⟩ := h2 hl x hx
      rcases e with e | e
      · exact q2 e
      · exact q3 e.symm
    · obtain ⟨q1, q2, q3⟩ := h2 hl x hx
      exact ⟨q1, q2, fun e => q3 ((hnew _ e).2.2 (h1.lt hl x hx))⟩
  obtain ⟨a, c, h1, h2, h3⟩ := h.safe
  obtain ⟨p1, p2⟩ := hap a s h2.lies h3
  refine ⟨⟨hA.setvr v2, Or.inl h.yM, ⟨a, c, h1, ⟨h2.le, h2.max, h2.none, p1⟩, p2⟩, h.sl, ?_, fun g hgg => ⟨(hnew g hgg).1, (hnew g hgg).2.1⟩, fun r' hr' => ?_, by simp; omega, h.ops, h.wr⟩, hX⟩
  · rw [List.flatMap_append, List.length_append]
    simp only [List.flatMap_cons, List.flatMap_nil, List.append_nil, List.length_singleton]
    exact ownsRow_chg ho hs (fun g hgg => (hnew g hgg).2.1)
  · rcases List.mem_append.1 hr' with h4 | h4
    · obtain ⟨t1, t2, t3⟩ := h.ps r' h4
      obtain ⟨u1, u2⟩ := hap _ _ t1 t2
      exact ⟨u1, u2, t3⟩
    · rw [List.mem_singleton.1 h4]
      obtain ⟨u1, u2⟩ := hap _ _ hr.1 hr.2.1
      exact ⟨u1, u2, hr.2.2⟩

def ToldN (e : Ending) : Prop := ∃ z, e = .returned (.int .i64 z)

theorem info_rw : (Try.prog.info? 68).map (fun i => (i.zero, i.size, i.bytes)) = some (some (.agg #[.bool false, .int .i64 0, .slice none 0 0]), 3, 40) := by kernel_rfl

set_option maxHeartbeats 2000000 in
set_option maxRecDepth 100000 in
theorem rflush (w : World) (Y Z : Nat → Prop) (M : Nat) (m : Rf) (s : List Int) (R : List RW) (n : Nat) (h : Ref w Y Z M m s R n) (hn : n ≤ 1000000) :
    Calls Try.prog 33 #[.pointer (some ⟨M, 0, none⟩)] w fun e w' => ToldN e ∧ RDid w w' Y Z M (n + 1) := by
  have HR := hide h
  clear h
  go_enter Try.func33, Try.ntmps33
  go_wp2_with fail
  refine (rask w Y Z M m s R n HR.out hn).mono ?_
  rintro e w1 ⟨rfl, hr1, hc1⟩
  have HR1 := hide hr1
  have HC1 : Hid (Chg Y w w1) := hide (hc1.mono (fun i _ e => by subst e; exact HR.out.yM))
  clear hr1 hc1
  obtain ⟨m1, hm1⟩ : ∃ m1 : Rf, m1 = { m with ops := m.ops + 1 } := ⟨_, rfl⟩
  rw [← hm1] at HR1
  clear hm1
  go_wp2_with fail
  refine (rseen w1 Y Z M m1 s R (n + 1) HR1.out (by omega)).mono ?_
  rintro e w2 ⟨a2, c2, l2, rfl, hs2, hb2⟩
  have hr2 := HR1.out.chg (X := fun _ => False) (Chg.of_below hb2) (fun _ h => h.elim)
  have d0 := hr2.at_.cell.1
  have z0 := hr2.at_.frozen 0
  have ha3 := hr2.at_.setvs (.slice a2 l2.length c2)
  have d1 := ha3.cell.2.1
  have z1 := ha3.frozen 1
  dsimp only at d1
  have ha4 := ha3.setvr (.slice none 0 0)
  have hc4 : Chg (fun k => k = M) w2 ((w2.setCell ⟨M, 0, none⟩ (.slice a2 l2.length c2)).setCell ⟨M, 1, none⟩ (.slice none 0 0)) := ((Chg.refl (fun k => k = M) _).setCell M 0 _ (fun _ => rfl)).setCell M 1 _ (fun _ => rfl)
  have hsz : ((w2.setCell ⟨M, 0, none⟩ (.slice a2 l2.length c2)).setCell ⟨M, 1, none⟩ (.slice none 0 0)).heap.size = w2.heap.size := by rw [nblk_setCell, nblk_setCell]
  have HD : Hid (RDid w ((w2.setCell ⟨M, 0, none⟩ (.slice a2 l2.length c2)).setCell ⟨M, 1, none⟩ (.slice none 0 0)) Y Z M (n + 1)) := hide (by
    have hs1 := HC1.out.size
    have hMlt := HR1.out.at_.lt
    refine ⟨_, l2, [], ⟨ha4, Or.inl HR1.out.yM, ⟨a2, c2, rfl, hs2.1.chg0 hc4 (fun hl x hx e => ?_), fun hl x hx => ?_⟩, hs2.2.1, World.ownsRow_nil _ _ _ _, fun g hg => by simp [Value.ownBlock] at hg, fun r hr => by simp at hr, by simp, HR1.out.ops, HR1.out.wr⟩, (HC1.out.trans (Chg.of_below hb2)).andThen hc4 (fun i _ e => by subst e; exact HR1.out.yM)⟩
    · rcases hs2.2.2 hl x hx with h | h
      · exact h.2.1 e
      · omega
    · rw [hsz]
      rcases hs2.2.2 hl x hx with h | h
      · exact ⟨Or.inl h.1, h.2.1, by simp [Value.ownBlock]⟩
      · exact ⟨Or.inr (by omega), by omega, by simp [Value.ownBlock]⟩)
  clear hs2 hb2 hr2 ha3 ha4 hc4 hsz
  go_wp2_with fail
  go_ret
  exact ⟨⟨0, rfl⟩, HD.out⟩

set_option maxHeartbeats 2000000 in
set_option maxRecDepth 100000 in
theorem rcut (w : World) (Y Z : Nat → Prop) (M : Nat) (m : Rf) (s : List Int) (R : List RW) (n : Nat) (h : Ref w Y Z M m s R n) (hn : n ≤ 1000000) (k : Int) :
    Calls Try.prog 32 #[.pointer (some ⟨M, 0, none⟩), .int .i64 k] w fun e w' => ToldN e ∧ RDid w w' Y Z M (n + 1) := by
  have HR := hide h
  clear h
  go_enter Try.func32, Try.ntmps32
  go_wp2_with fail
  refine (rask w Y Z M m s R n HR.out hn).mono ?_
  rintro e w1 ⟨rfl, hr1, hc1⟩
  have HR1 := hide hr1
  have HC1 : Hid (Chg Y w w1) := hide (hc1.mono (fun i _ e => by subst e; exact HR.out.yM))
  have HD1 : Hid (RDid w w1 Y Z M (n + 1)) := hide ⟨_, s, R, HR1.out.mono (fun _ h => Or.inl h) (fun _ h => Or.inl h), HC1.out⟩
  clear hr1 hc1
  by_cases hok : 0 ≤ k ∧ k ≤ 4194304
  · obtain ⟨t, rfl⟩ : ∃ t : Nat, k = t := ⟨k.toNat, by omega⟩
    have g1 : ¬ ((t : Int) < 0) := by omega
    have g2 : ¬ ((4194304 : Int) < (t : Int)) := by omega
    have hwr := HR.out.wr
    have hops := HR.out.ops
    have hrl := HR.out.rl
    have d3 := HR1.out.at_.cell.2.2.2.1
    have z3 := HR1.out.at_.frozen 3
    dsimp only at d3
    have hw : wrap64 (m.wrote + 1) = m.wrote + 1 := by unfold wrap64; omega
    have ha2 := HR1.out.at_.setwrote (m.wrote + 1)
    have hc2 : Chg (fun k => k = M) w1 (w1.setCell ⟨M, 3, none⟩ (.int .i64 (m.wrote + 1))) := (Chg.refl _ _).setCell M 3 _ (fun _ => rfl)
    have hr2 := HR1.out.fields (n' := n + 1) hc2 ha2 rfl rfl (Nat.le_refl _) (by simp; omega) (by simp; omega)
    have d1 := hr2.at_.cell.2.1
    have z1 := hr2.at_.frozen 1
    dsimp only at d1
    have HR2 := hide hr2
    have HC2 := hide hc2
    obtain ⟨i1, hi, hz0, hz1, hz2⟩ := info_parts info_rw
    have hsz : (w1.setCell ⟨M, 3, none⟩ (.int .i64 (m.wrote + 1))).heap.size = w1.heap.size := nblk_setCell _ _ _
    have hn3 := new3 (w1.setCell ⟨M, 3, none⟩ (.int .i64 (m.wrote + 1))) 68 (.bool true) (.int .i64 t) (.slice none 0 0)
    rw [hsz] at hn3
    have HN3 := hide hn3
    have hr3 := hr2.chg (X := fun _ => False) ((Chg.refl _ _).alloc (.cells #[.bool true, .int .i64 t, .slice none 0 0] 68)) (fun _ h => h.elim)
    have HR3 := hide hr3
    have hne : some M ≠ m.vr.ownBlock := fun e => (HR.out.yr _ e.symm).2 rfl
    have HKeep : Hid (∀ w5, ((w1.setCell ⟨M, 3, none⟩ (.int .i64 (m.wrote + 1))).alloc (.cells #[.bool true, .int .i64 t, .slice none 0 0] 68)).grownBy w5 m.vr.ownBlock → w5.cell? ⟨M, 1, none⟩ = some m.vr ∧ w5.frozen? ⟨M, 1, none⟩ = false) := hide (fun w5 h5 =>
      ⟨h5.cell (a := ⟨M, 1, none⟩) hr3.at_.cell.2.1 hne, (World.frozen?_of_block (a := ⟨M, 1, none⟩) (h5.block M hr3.at_.lt hne)).trans (hr3.at_.frozen 1)⟩)
    clear hr2 ha2 hc2 hok hn3 hr3
    go_wp2_with (at_builtin; refine wpList_append_own_at _ rfl (.tmp 25) (.tmp 28) 32 rfl 0 68 i1 (.agg #[.bool false, .int .i64 0, .slice none 0 0]) 3 40 Try.underlying32 hi hz0 hz1 hz2 rfl (by decide) m.vr R.length (R.flatMap RW.cells) rfl HR3.out.row ⟨w1.heap.size, 0, none⟩ 1 1 [.bool true, .int .i64 t, .slice none 0 0] rfl rfl HN3.out (by simp [Value.oneCell']) (by unfold maxLen; omega) (by omega) (Nat.zero_le _) ?_; intro v5 w5 ho5 hg5 _ hw5; obtain ⟨g5, cap5, rfl⟩ := row_succ ho5; obtain ⟨d5, y5⟩ := HKeep.out w5 hg5; have HO5 := hide ho5; have HG5 := hide hg5; have HW5 := hide hw5; clear ho5 hg5 hw5)
    go_ret
    obtain ⟨hr6, hc6⟩ := HR3.out.push (.slice (some ⟨g5, 0, none⟩) (R.length + 1) cap5) ⟨true, t, none, [], 0⟩ ⟨Lies.nil _ _, fun h => absurd rfl h, by simp; omega⟩ HO5.out HG5.out HW5.out (by omega)
    have hs1 := HC1.out.size
    have hs5 := HG5.out.size
    have hs6 : (w5.setCell ⟨M, 1, none⟩ (.slice (some ⟨g5, 0, none⟩) (R.length + 1) cap5)).heap.size = w5.heap.size := nblk_setCell _ _ _
    have hs3 : ((w1.setCell ⟨M, 3, none⟩ (.int .i64 (m.wrote + 1))).alloc (.cells #[.bool true, .int .i64 t, .slice none 0 0] 68)).heap.size = w1.heap.size + 1 := by simp
    refine ⟨⟨0, rfl⟩, _, s, _, hr6.mono (fun q h => ?_) (fun q h => Or.inl h), ?_⟩
    · rw [hs6]
      rcases h with h | h
      · exact Or.inl h
      · exact Or.inr (by omega)
    · have hc3 : Chg Y w ((w1.setCell ⟨M, 3, none⟩ (.int .i64 (m.wrote + 1))).alloc (.cells #[.bool true, .int .i64 t, .slice none 0 0] 68)) := (HC1.out.andThen HC2.out (fun i _ e => by subst e; exact HR.out.yM)).alloc _
      refine hc3.andThen hc6 (fun i _ h => ?_)
      rcases h with h | h
      · subst h; exact HR.out.yM
      · exact (HR.out.yr i h.symm).1
  · by_cases g1 : k < 0
    · go_wp2_with fail
      go_ret
      exact ⟨⟨3, rfl⟩, HD1.out⟩
    · have g2 : (4194304 : Int) < k := by omega
      go_wp2_with fail
      go_ret
      exact ⟨⟨3, rfl⟩, HD1.out⟩

end Go.Proofs.Ytnhbncbiflnapaa.Oct
