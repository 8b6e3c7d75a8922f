/- What change makes of bytes: those that become others do. -/
import Derived.Test.YtibkhgmmjhlpmaaGreatPTxmTxa
import Derived.Test.YtibkhgmmjhlpmaaGreatPTxbTak
import Derived.BigQuiet
namespace Go.Proofs.YtibkhgmmjhlpmaaGreat.Oct
open Go.RowKit Go.Deep

/-- A byte as it becomes. -/
def valT (B M : Int → List Int) (p : Nat) (x : Int) : Int := if (M ((p / 512 : Nat) : Int)).getD (p % 512) 0 = 0 then x else (B ((p / 512 : Nat) : Int)).getD (p % 512) 0

theorem Txs.cell {w : World} {T J : Nat} {vb vm va : Value} {d : Bool} (h : Txs w T J vb vm va d) : w.cell? ⟨T, 0, none⟩ = some (.pointer (some ⟨J, 0, none⟩)) ∧ w.cell? ⟨T, 1, none⟩ = some vb ∧ w.cell? ⟨T, 2, none⟩ = some vm ∧ w.cell? ⟨T, 3, none⟩ = some va ∧ w.cell? ⟨T, 4, none⟩ = some (.bool d) := by
  unfold Txs at h
  simp [World.cell?, h]

theorem MapV.same {w w' : World} {v z : Value} {f : Int → Value} (h : MapV w v z f) (he : ∀ r, v = .map (some r) → w'.heap[r]? = w.heap[r]?) : MapV w' v z f := by
  rcases h with h | ⟨r, rfl, hr⟩
  · exact Or.inl h
  · exact Or.inr ⟨r, rfl, hr.same (he r rfl)⟩

theorem MapV.lt {w : World} {v z : Value} {f : Int → Value} (h : MapV w v z f) (r : Nat) (he : v = .map (some r)) : r < w.heap.size ∧ ∃ es c, w.heap[r]? = some (.map es c) := by
  rcases h with h | ⟨r', rfl, hr⟩
  · rw [h.1] at he; cases he
  · cases he
    obtain ⟨es, c, hb, _⟩ := hr
    exact ⟨(Array.getElem?_eq_some_iff.1 hb).1, es, c, hb⟩

theorem Ovr.chg {w w' : World} {vb vm : Value} {B M : Int → List Int} {X : Nat → Prop} (h : Ovr w vb vm B M) (hc : Chg X w w') (hx : ∀ r, vb = .map (some r) ∨ vm = .map (some r) → ¬ X r) : Ovr w' vb vm B M :=
  ⟨h.b.same (fun r e => hc.block r (h.b.lt r e).1 (hx r (Or.inl e))), h.m.same (fun r e => hc.block r (h.m.lt r e).1 (hx r (Or.inr e))), h.bl, h.ml⟩

theorem Own.drewN {w : World} {B : Nat} {v : Value} {l : List Int} (h : Own w B v l) (n : Nat) : Own (w.drewN n) B v l := h

/-- The one operation that may come up lays a whole value. -/
theorem ready_store {P : Program} {md : Region.Mode} {ops : Array Oper} {Q : Exit → Act → World → Prop} {S : World → Prop} {fuel : Nat} {listed : Array Bool} {a : Act} {w : World} (i : Nat) {oi : Oper} (ty : TypeId) (x y : Operand) (g : Nat) (cells : Array Value) (old : Array Value)
    (hr : Region.ready md ops listed = [i]) (hi : ops[i]? = some oi) (hgd : oi.guard = none) (hd : oi.dst = none) (hop : oi.op = .store ty x y) (hx : a.eval x = .pointer (some ⟨g, 0, none⟩)) (hy : a.eval y = .agg cells)
    (hg : w.heap[g]? = some (.cells old ty (0, 0))) (hs : (P.info? ty).map (·.size) = some cells.size) (hold : old.size = cells.size) (h1 : cells.all (·.oneCell') = true) (hS : S (w.setRow g cells))
    (h : wpAnyH P md ops Q S fuel (listed.setIfInBounds i true) a (w.setRow g cells)) : wpAnyH P md ops Q S (fuel + 1) listed a w := by
  refine wpAnyH_ready (rs := [i]) hr (by simp) ?_
  refine AllReadyH.cons (i := i) hi (fun K hK => ?_) AllReadyH.nil
  have hw : Region.wanted oi (yielded ops a.tmps) = true := by simp [Region.wanted, hgd]
  rw [if_pos hw]
  refine wp_store_row ty x y hop g cells hx hy ty old hg hs hold h1 ?_
  refine hK.out _ _ hS (fun _ => ?_)
  rw [hd]
  exact h

set_option maxRecDepth 100000 in
set_option maxHeartbeats 8000000 in
theorem change_any (w : World) (T J : Nat) (vb vm va : Value) (d : Bool) (B M : Int → List Int) (ht : Txs w T J vb vm va d) (ho : Ovr w vb vm B M) (B0 g N cap : Nat) (l : List Int) (hown : Own w B0 (.slice (some ⟨g, 0, none⟩) N cap) l) (hN : N = l.length)
    (at_ : Nat) (hat : at_ + N ≤ 4194304) (hgT : g ≠ T) :
    Calls Tryz.prog 80 #[.pointer (some ⟨T, 0, none⟩), .int .i64 at_, .slice (some ⟨g, 0, none⟩) N cap] w fun e w' => e = .returned (.tuple #[]) ∧ (∃ l', Own w' B0 (.slice (some ⟨g, 0, none⟩) N cap) l' ∧ l'.length = N ∧ ∀ i, i < N → l'.getD i 0 = valT B M (at_ + i) (l.getD i 0)) ∧ Chg (fun k => k = g) w w' := by
  have hgl := (World.ownsRow.lt (hN ▸ hown) g rfl).2
  have hcell : ∃ cs, w.heap[g]? = some (.cells cs 5 (0, 0)) := by
    rcases hown.2 with ⟨e, _⟩ | ⟨g', cap', cur, e, _, hh, _⟩
    · cases e
    · simp at e
      obtain ⟨rfl, _⟩ := e
      exact ⟨_, hh⟩
  have hgr : ∀ r, vb = .map (some r) ∨ vm = .map (some r) → r ≠ g := by
    rintro r hr rfl
    obtain ⟨cs, hcs⟩ := hcell
    rcases hr with hr | hr
    · obtain ⟨_, es, c, he⟩ := ho.b.lt r hr
      rw [he] at hcs; cases hcs
    · obtain ⟨_, es, c, he⟩ := ho.m.lt r hr
      rw [he] at hcs; cases hcs
  have HT := hide ht
  have HO := hide ho
  have HGR := hide hgr
  have HNl := hide hN
  have hNc : N ≤ cap ∧ cap ≤ 9223372036854775807 := by
    rcases hown.2 with ⟨e, _⟩ | ⟨g', cap', cur, e, _, hh, h1, h2, _⟩
    · cases e
    · simp at e
      unfold maxLen at h2
      omega
  have HOw := hide hown
  clear ht ho hgr hcell hown hN
  go_enter Tryz.func80, Tryz.ntmps80
  go_wp2_with fail
  go_loopw [1, 2] (fun v1 v2 wr => ∃ (k : Nat) (ad : Option Addr) (m : List Int), k ≤ N ∧ v1 = .int .i64 ((at_ + k : Nat) : Int) ∧ v2 = .slice ad (N - k) (cap - k) ∧ (k < N → ad = some ⟨g, k, none⟩) ∧ Own wr B0 (.slice (some ⟨g, 0, none⟩) N cap) m ∧ m.length = N ∧ (∀ i, i < k → m.getD i 0 = valT B M (at_ + i) (l.getD i 0)) ∧ (∀ i, k ≤ i → m.getD i 0 = l.getD i 0) ∧ Chg (fun k => k = g) w wr) (fun v1 _ _ => at_ + N - (intOf v1).toNat)
  case atStart => exact ⟨0, _, l, by omega, rfl, rfl, fun _ => rfl, HOw.out, HNl.out.symm, by intro i hi; omega, by intro i _; rfl, Chg.refl _ _⟩
  case round =>
    obtain ⟨k, ad, m, hk, rfl, rfl, had, ho, hmN, hdone, hleft, hchg⟩ := hrel
    by_cases hlt : k < N
    · obtain rfl := had hlt
      obtain ⟨w3, hw3⟩ : ∃ w3, w3 = wr := ⟨_, rfl⟩
      subst hw3
      have hd0 : decide ((0 : Int) < ((N - k : Nat) : Int)) = true := by simp; omega
      have HT1 : Hid (Txs w3 T J vb vm va d) := hide ((hchg.block T HT.out.lt (by omega)).trans HT.out)
      have HO1 := hide (HO.out.chg hchg HGR.out)
      obtain ⟨p, hp⟩ : ∃ p, p = at_ + k := ⟨_, rfl⟩
      rw [← hp]
      have hpb : p < 4194304 := by omega
      have HP := hide hp
      clear hp
      obtain ⟨fr, hfr⟩ : ∃ fr, fr = p % 512 := ⟨_, rfl⟩
      obtain ⟨sn, hsn⟩ : ∃ sn, sn = p / 512 := ⟨_, rfl⟩
      have hr1 : ((p : Nat) : Int).tmod 512 = (fr : Int) := by rw [Int.tmod_eq_emod_of_nonneg (by omega)]; omega
      have hr2 : ((p : Nat) : Int).tdiv 512 = (sn : Int) := by rw [Int.tdiv_eq_ediv_of_nonneg (by omega)]; omega
      have hr3 : ((p : Nat) : Int) % 512 = (fr : Int) := by omega
      have hr4 : ((p : Nat) : Int) / 512 = (sn : Int) := by omega
      have hfb : fr < 512 := by omega
      have hsb : sn < 8192 := by omega
      have HFr := hide hfr
      have HSn := hide hsn
      clear hfr hsn
      have HRl : Hid (∀ r, vb = .map (some r) ∨ vm = .map (some r) → r < w3.heap.size) := hide (fun r hr => hr.elim (fun e => (HO1.out.b.lt r e).1) (fun e => (HO1.out.m.lt r e).1))
      have HOw1 := hide ho
      have HMN := hide hmN
      have HDn := hide hdone
      have HLf := hide hleft
      have HCh := hide hchg
      clear ho hmN hdone hleft hchg had
      go_wp2_with fail
      have hH : (fun u => u.cell? ⟨T, 1, none⟩ = some vb ∧ u.cell? ⟨T, 2, none⟩ = some vm ∧ Ovr u vb vm B M) w3.drew := ⟨HT1.out.cell.2.1, HT1.out.cell.2.2.1, HO1.out.chg (Chg.refl (fun _ => False) w3).drew (fun _ _ h => h)⟩
      refine wp_region_held_drew (S := (fun u => u.cell? ⟨T, 1, none⟩ = some vb ∧ u.cell? ⟨T, 2, none⟩ = some vm ∧ Ovr u vb vm B M)) (by kernel_rfl) hH (fun _ => ?_)
      refine any_take 0 (some 17) (.pointer (some ⟨T, 0, none⟩)) rfl rfl (by kernel_rfl) (by kernel_rfl) (by kernel_rfl) (fun _ _ _ h => h) (by rfl) hH ?_ ?_
      · intro u hSu
        obtain ⟨q0, q1, q2⟩ := hSu
        go_simp
      simp only [Act.put, List.setIfInBounds_toArray, List.set_cons_zero, List.set_cons_succ]
      refine any_take 1 (some 18) (.pointer (some ⟨T, 0, none⟩)) rfl rfl (by kernel_rfl) (by kernel_rfl) (by kernel_rfl) (fun _ _ _ h => h) (by rfl) hH ?_ ?_
      · intro u hSu
        obtain ⟨q0, q1, q2⟩ := hSu
        go_simp
      simp only [Act.put, List.setIfInBounds_toArray, List.set_cons_zero, List.set_cons_succ]
      refine any_take 2 (some 19) (.pointer (some ⟨T, 1, none⟩)) rfl rfl (by kernel_rfl) (by kernel_rfl) (by kernel_rfl) (fun _ _ _ h => h) (by rfl) hH ?_ ?_
      · intro u hSu
        obtain ⟨q0, q1, q2⟩ := hSu
        go_simp
      simp only [Act.put, List.setIfInBounds_toArray, List.set_cons_zero, List.set_cons_succ]
      refine any_take 3 (some 20) (vb) rfl rfl (by kernel_rfl) (by kernel_rfl) (by kernel_rfl) (fun _ _ _ h => h) (by rfl) hH ?_ ?_
      · intro u hSu
        obtain ⟨q0, q1, q2⟩ := hSu
        go_simp
      simp only [Act.put, List.setIfInBounds_toArray, List.set_cons_zero, List.set_cons_succ]
      refine any_take 4 (some 21) (.int .i64 (p : Int)) rfl rfl (by kernel_rfl) (by kernel_rfl) (by kernel_rfl) (fun _ _ _ h => h) (by rfl) hH ?_ ?_
      · intro u hSu
        obtain ⟨q0, q1, q2⟩ := hSu
        go_simp
      simp only [Act.put, List.setIfInBounds_toArray, List.set_cons_zero, List.set_cons_succ]
      refine any_take 5 (some 22) (.int .i64 (sn : Int)) rfl rfl (by kernel_rfl) (by kernel_rfl) (by kernel_rfl) (fun _ _ _ h => h) (by rfl) hH ?_ ?_
      · intro u hSu
        obtain ⟨q0, q1, q2⟩ := hSu
        go_simp
        rw [IntKind.wrap_i64]; omega
      simp only [Act.put, List.setIfInBounds_toArray, List.set_cons_zero, List.set_cons_succ]
      refine any_take 6 (some 23) (sec (B (sn : Int))) rfl rfl (by kernel_rfl) (by kernel_rfl) (by kernel_rfl) (fun _ _ _ h => h) (by rfl) hH ?_ ?_
      · intro u hSu
        obtain ⟨q0, q1, q2⟩ := hSu
        have hlk := look98 q2 (sn : Int)
        go_simp
      simp only [Act.put, List.setIfInBounds_toArray, List.set_cons_zero, List.set_cons_succ]
      refine any_take 7 (some 24) (.pointer (some ⟨T, 0, none⟩)) rfl rfl (by kernel_rfl) (by kernel_rfl) (by kernel_rfl) (fun _ _ _ h => h) (by rfl) hH ?_ ?_
      · intro u hSu
        obtain ⟨q0, q1, q2⟩ := hSu
        go_simp
      simp only [Act.put, List.setIfInBounds_toArray, List.set_cons_zero, List.set_cons_succ]
      refine any_take 8 (some 25) (.pointer (some ⟨T, 0, none⟩)) rfl rfl (by kernel_rfl) (by kernel_rfl) (by kernel_rfl) (fun _ _ _ h => h) (by rfl) hH ?_ ?_
      · intro u hSu
        obtain ⟨q0, q1, q2⟩ := hSu
        go_simp
      simp only [Act.put, List.setIfInBounds_toArray, List.set_cons_zero, List.set_cons_succ]
      refine any_take 9 (some 26) (.pointer (some ⟨T, 2, none⟩)) rfl rfl (by kernel_rfl) (by kernel_rfl) (by kernel_rfl) (fun _ _ _ h => h) (by rfl) hH ?_ ?_
      · intro u hSu
        obtain ⟨q0, q1, q2⟩ := hSu
        go_simp
      simp only [Act.put, List.setIfInBounds_toArray, List.set_cons_zero, List.set_cons_succ]
      refine any_take 10 (some 27) (vm) rfl rfl (by kernel_rfl) (by kernel_rfl) (by kernel_rfl) (fun _ _ _ h => h) (by rfl) hH ?_ ?_
      · intro u hSu
        obtain ⟨q0, q1, q2⟩ := hSu
        go_simp
      simp only [Act.put, List.setIfInBounds_toArray, List.set_cons_zero, List.set_cons_succ]
      refine any_take 11 (some 28) (.int .i64 (p : Int)) rfl rfl (by kernel_rfl) (by kernel_rfl) (by kernel_rfl) (fun _ _ _ h => h) (by rfl) hH ?_ ?_
      · intro u hSu
        obtain ⟨q0, q1, q2⟩ := hSu
        go_simp
      simp only [Act.put, List.setIfInBounds_toArray, List.set_cons_zero, List.set_cons_succ]
      refine any_take 12 (some 29) (.int .i64 (sn : Int)) rfl rfl (by kernel_rfl) (by kernel_rfl) (by kernel_rfl) (fun _ _ _ h => h) (by rfl) hH ?_ ?_
      · intro u hSu
        obtain ⟨q0, q1, q2⟩ := hSu
        go_simp
        rw [IntKind.wrap_i64]; omega
      simp only [Act.put, List.setIfInBounds_toArray, List.set_cons_zero, List.set_cons_succ]
      refine any_take 13 (some 30) (sec (M (sn : Int))) rfl rfl (by kernel_rfl) (by kernel_rfl) (by kernel_rfl) (fun _ _ _ h => h) (by rfl) hH ?_ ?_
      · intro u hSu
        obtain ⟨q0, q1, q2⟩ := hSu
        have hlk := look99 q2 (sn : Int)
        go_simp
      simp only [Act.put, List.setIfInBounds_toArray, List.set_cons_zero, List.set_cons_succ]
      refine wpAnyH_ready (rs := [14, 15]) (by kernel_rfl) (by simp) ?_
      refine AllReadyH.cons (i := 14) rfl (fun K hK => ?_) (AllReadyH.cons (i := 15) rfl (fun K hK => ?_) AllReadyH.nil)
      · have hz1 : (zeroValue 146).run Tryz.prog w3.drew = .ok (.agg (secC Z5)) w3.drew := zero98 _
        have hz2 : (zeroValue 147).run Tryz.prog (w3.alloc (.cells (secC Z5) 146)).drew = .ok (.agg (secC Z5)) (w3.alloc (.cells (secC Z5) 146)).drew := zero99 _
        have hb1 : Below w3.drew.heap.size w3.drew (w3.drew.alloc (.cells (secC Z5) 146)) := (Below.refl _ _).alloc (Nat.le_refl _) _
        have hb2 : Below w3.drew.heap.size w3.drew ((w3.drew.alloc (.cells (secC Z5) 146)).alloc (.cells (secC Z5) 147)) := hb1.alloc (by simp) _
        have hTl : T < w3.drew.heap.size := HT1.out.lt
        have hH1 : (fun u => u.cell? ⟨T, 1, none⟩ = some vb ∧ u.cell? ⟨T, 2, none⟩ = some vm ∧ Ovr u vb vm B M) (w3.drew.alloc (.cells (secC Z5) 146)) := ⟨(hb1.cell (p := ⟨T, 1, none⟩) hTl).trans hH.1, (hb1.cell (p := ⟨T, 2, none⟩) hTl).trans hH.2.1, hH.2.2.chg (Chg.of_below (X := fun _ => False) hb1) (fun _ _ h => h)⟩
        have hH2 : (fun u => u.cell? ⟨T, 1, none⟩ = some vb ∧ u.cell? ⟨T, 2, none⟩ = some vm ∧ Ovr u vb vm B M) ((w3.drew.alloc (.cells (secC Z5) 146)).alloc (.cells (secC Z5) 147)) := ⟨(hb2.cell (p := ⟨T, 1, none⟩) hTl).trans hH.1, (hb2.cell (p := ⟨T, 2, none⟩) hTl).trans hH.2.1, hH.2.2.chg (Chg.of_below (X := fun _ => False) hb2) (fun _ _ h => h)⟩
        go_simp
        refine hK.out _ _ hH1 (fun _ => ?_)
        clear hK K
        try simp only [Act.put, List.setIfInBounds_toArray, List.set_cons_zero, List.set_cons_succ]
        refine wpAnyH_ready (rs := [15]) (by kernel_rfl) (by simp) ?_
        refine AllReadyH.cons (i := 15) rfl (fun K hK => ?_) AllReadyH.nil
        go_simp
        refine hK.out _ _ hH2 (fun _ => ?_)
        clear hK K
        try simp only [Act.put, List.setIfInBounds_toArray, List.set_cons_zero, List.set_cons_succ]
        have hsd : w3.drew.heap.size = w3.heap.size := rfl
        have hsz1 : (w3.alloc (.cells (secC Z5) 146)).drew.heap.size = w3.heap.size + 1 := by
          show (w3.alloc (.cells (secC Z5) 146)).heap.size = _
          simp
        try rw [hsz1]
        have hTw : T < w3.heap.size := HT1.out.lt
        have sX : Sec ((w3.drew.alloc (.cells (secC Z5) 146)).alloc (.cells (secC Z5) 147)) w3.heap.size 146 Z5 := (Sec.new w3.drew _ Z5 Z5_len).same (Below.heap_alloc _ _ _ (by simp))
        have sY : Sec ((w3.drew.alloc (.cells (secC Z5) 146)).alloc (.cells (secC Z5) 147)) (w3.heap.size + 1) 147 Z5 := ⟨heap_alloc2_new w3.drew _ _, Z5_len⟩
        have hg3 := Chg.of_grown (grown_setRow ((w3.drew.alloc (.cells (secC Z5) 146)).alloc (.cells (secC Z5) 147)) w3.heap.size (secC (B (sn : Int))))
        have hH3 : (fun u => u.cell? ⟨T, 1, none⟩ = some vb ∧ u.cell? ⟨T, 2, none⟩ = some vm ∧ Ovr u vb vm B M) (((w3.drew.alloc (.cells (secC Z5) 146)).alloc (.cells (secC Z5) 147)).setRow w3.heap.size (secC (B (sn : Int)))) := by
          refine ⟨hg3.cell hH2.1 (by simp; omega), hg3.cell hH2.2.1 (by simp; omega), hH2.2.2.chg hg3 (fun r hr e => ?_)⟩
          simp at e
          have := HRl.out r hr
          omega
        have sX3 := sX.row (B (sn : Int)) (HO.out.bl _)
        have sY3 := sY.same (setRow_other ((w3.drew.alloc (.cells (secC Z5) 146)).alloc (.cells (secC Z5) 147)) w3.heap.size (secC (B (sn : Int))) (w3.heap.size + 1) (by omega))
        have hg4 := Chg.of_grown (grown_setRow (((w3.drew.alloc (.cells (secC Z5) 146)).alloc (.cells (secC Z5) 147)).setRow w3.heap.size (secC (B (sn : Int)))) (w3.heap.size + 1) (secC (M (sn : Int))))
        have hH4 : (fun u => u.cell? ⟨T, 1, none⟩ = some vb ∧ u.cell? ⟨T, 2, none⟩ = some vm ∧ Ovr u vb vm B M) ((((w3.drew.alloc (.cells (secC Z5) 146)).alloc (.cells (secC Z5) 147)).setRow w3.heap.size (secC (B (sn : Int)))).setRow (w3.heap.size + 1) (secC (M (sn : Int)))) := by
          refine ⟨hg4.cell hH3.1 (by simp; omega), hg4.cell hH3.2.1 (by simp; omega), hH3.2.2.chg hg4 (fun r hr e => ?_)⟩
          simp at e
          have := HRl.out r hr
          omega
        have sY4 := sY3.row (M (sn : Int)) (HO.out.ml _)
        have sX4 := sX3.same (setRow_other (((w3.drew.alloc (.cells (secC Z5) 146)).alloc (.cells (secC Z5) 147)).setRow w3.heap.size (secC (B (sn : Int)))) (w3.heap.size + 1) (secC (M (sn : Int))) w3.heap.size (by omega))
        have hC4 : Chg (fun _ => False) w3 ((((w3.drew.alloc (.cells (secC Z5) 146)).alloc (.cells (secC Z5) 147)).setRow w3.heap.size (secC (B (sn : Int)))).setRow (w3.heap.size + 1) (secC (M (sn : Int)))) := ⟨rfl, rfl, rfl, by simp [World.setRow]; omega, fun q hq _ => by
          have hq2 : q < w3.drew.heap.size := hq
          rw [setRow_other _ _ _ q (by omega), setRow_other _ _ _ q (by omega)]
          exact hb2.block q hq2⟩
        refine ready_store 16 146 (.tmp 7) (.tmp 23) w3.heap.size (secC (B (sn : Int))) (secC Z5) (by kernel_rfl) rfl rfl rfl rfl rfl rfl sX.at_ (by rw [secC_size, HO.out.bl]; exact size98) (by rw [secC_size, secC_size, HO.out.bl]; exact Z5_len) (secC_one _) hH3 ?_
        refine ready_store 17 147 (.tmp 8) (.tmp 30) (w3.heap.size + 1) (secC (M (sn : Int))) (secC Z5) (by kernel_rfl) rfl rfl rfl rfl rfl rfl sY3.at_ (by rw [secC_size, HO.out.ml]; exact size99) (by rw [secC_size, secC_size, HO.out.ml]; exact Z5_len) (secC_one _) hH4 ?_
        refine wpAnyH_done (by kernel_rfl) ?_ _
        have hXY : w3.heap.size ≠ (w3.heap.size + 1) := by omega
        have hXw : w3.heap.size ≤ w3.heap.size ∧ w3.heap.size ≤ (w3.heap.size + 1) := by omega
        clear sX sY sX3 sY3 hg3 hg4 hH1 hH2 hH3 hb1 hb2 hz1 hz2
        obtain ⟨w4, hw4⟩ : ∃ w4, w4 = (((w3.drew.alloc (.cells (secC Z5) 146)).alloc (.cells (secC Z5) 147)).setRow w3.heap.size (secC (B (sn : Int)))).setRow (w3.heap.size + 1) (secC (M (sn : Int))) := ⟨_, rfl⟩
        rw [← hw4] at sX4 sY4 hC4 hH4
        apply_assumption
        change Code.wp _ _ _ _ ((((w3.drew.alloc (.cells (secC Z5) 146)).alloc (.cells (secC Z5) 147)).setRow w3.heap.size (secC (B (sn : Int)))).setRow (w3.heap.size + 1) (secC (M (sn : Int))))
        rw [← hw4]
        clear hw4
        have hsl1 := slice98 w4 w3.heap.size fr hfb
        by_cases hmn : 512 - fr < N - k
        · have hn1 : (512 - fr) ≤ N - k ∧ (512 - fr) ≤ 512 - fr ∧ 0 < (512 - fr) := by omega
          have hsl2 := slice99 w4 (w3.heap.size + 1) fr (512 - fr) hfb (by omega)
          have HS1 := hide sX4
          have HS2 := hide sY4
          have hgw3 : g < w3.heap.size := Nat.lt_of_lt_of_le hgl HCh.out.size
          have HOw4 := hide (HOw1.out.chg hC4 (fun _ _ h => h))
          have HCw4 : Hid (Chg (fun q => q = g) w w4) := hide (HCh.out.trans (hC4.mono (fun _ _ h => h.elim)))
          clear sX4 sY4 hH4 hH
          go_wp2_with fail
          go_loopw [43] (fun v wr => ∃ (i : Nat) (m2 : List Int), i ≤ (512 - fr) ∧ v = .int .i64 (i : Int) ∧ Own wr B0 (.slice (some ⟨g, 0, none⟩) N cap) m2 ∧ m2.length = N ∧ (∀ j, k ≤ j → j < k + i → m2.getD j 0 = valT B M (at_ + j) (l.getD j 0)) ∧ (∀ j, j < k ∨ k + i ≤ j → m2.getD j 0 = m.getD j 0) ∧ Chg (fun q => q = g) w4 wr) (fun v _ => (512 - fr) - (intOf v).toNat)
          case atStart => exact ⟨0, m, by omega, rfl, HOw4.out, HMN.out, by intro j h1 h2; omega, fun j _ => rfl, Chg.refl _ _⟩
          case round =>
            obtain ⟨i, m2, hi, rfl, ho2, hm2, hd2, hl2, hc2⟩ := hrel
            have HOw2 := hide ho2
            have HM2 := hide hm2
            have HD2 := hide hd2
            have HL2 := hide hl2
            have HC2 := hide hc2
            have sX5 := HS1.out.same (hc2.block _ HS1.out.lt (by omega))
            have sY5 := HS2.out.same (hc2.block _ HS2.out.lt (by omega))
            clear ho2 hm2 hd2 hl2 hc2
            by_cases hin : i < (512 - fr)
            · have cY := sY5.cell (fr + i) (by omega)
              have cX := sX5.cell (fr + i) (by omega)
              have cO := HOw2.out.cell HM2.out.symm (k + i) (by omega)
              have fO := HOw2.out.free HM2.out.symm (k + i)
              obtain ⟨mk, hmk⟩ : ∃ mk, (M (sn : Int)).getD (fr + i) 0 = mk := ⟨_, rfl⟩
              obtain ⟨bv, hbv⟩ : ∃ bv, (B (sn : Int)).getD (fr + i) 0 = bv := ⟨_, rfl⟩
              rw [hmk] at cY
              rw [hbv] at cX
              have HVal : Hid (∀ x, valT B M (at_ + (k + i)) x = if mk = 0 then x else bv) := hide (fun x => by
                have e1 : at_ + (k + i) = p + i := by have := HP.out; omega
                have e2 : (p + i) / 512 = sn := by have := HFr.out; have := HSn.out; omega
                have e3 : (p + i) % 512 = fr + i := by have := HFr.out; have := HSn.out; omega
                unfold valT
                rw [e1, e2, e3, hmk, hbv])
              have HLk : Hid (m2.getD (k + i) 0 = l.getD (k + i) 0) := hide ((HL2.out (k + i) (Or.inr (Nat.le_refl _))).trans (HLf.out (k + i) (by omega)))
              obtain ⟨old, hold⟩ : ∃ old, m2.getD (k + i) 0 = old := ⟨_, rfl⟩
              rw [hold] at cO
              clear hold
              clear hmk hbv sX5 sY5
              by_cases hz : mk = 0
              · subst hz
                go_wp2_with fail
                refine ⟨⟨i + 1, m2, by omega, by go_num, HOw2.out, HM2.out, fun j h1 h2 => ?_, fun j h1 => HL2.out j (by omega), HC2.out⟩, by simp [intOf]; omega⟩
                by_cases hj : j = k + i
                · subst hj
                  rw [HVal.out, if_pos rfl]
                  exact HLk.out
                · exact HD2.out j h1 (by omega)
              · have hzz : (mk != 0) = true := by simp [hz]
                go_wp2_with fail
                have hs := HOw2.out.set HM2.out.symm (k + i) bv
                refine ⟨⟨i + 1, m2.set (k + i) bv, by omega, by go_num, hs.1, by rw [List.length_set, HM2.out], fun j h1 h2 => ?_, fun j h1 => ?_, HC2.out.trans ((Chg.of_grown hs.2).mono (fun q _ e => by simpa using e))⟩, by simp [intOf]; omega⟩
                · rw [getD_set _ _ _ _ (by rw [HM2.out]; omega)]
                  by_cases hj : k + i = j
                  · subst hj
                    rw [if_pos rfl, HVal.out, if_neg hz]
                  · rw [if_neg hj]
                    exact HD2.out j h1 (by omega)
                · rw [getD_set _ _ _ _ (by rw [HM2.out]; omega), if_neg (by omega)]
                  exact HL2.out j (by omega)
            · have hin2 : i = (512 - fr) := by omega
              subst hin2
              have hlast : decide ((((512 - fr) : Nat) : Int) < (((512 - fr) : Nat) : Int)) = false := by simp
              by_cases hcp : cap - k = (512 - fr)
              · go_wp2_with fail
                go_quiet (fail)
                go_wp2_with fail
                have hp9 := HP.out
                refine ⟨⟨k + (512 - fr), _, m2, by omega, by congr 1; have := HP.out; omega, by congr 1 <;> first | omega | rfl | (congr 2; omega), fun h => by omega, HOw2.out.drewN _, HM2.out, fun j hj => ?_, fun j hj => (HL2.out j (Or.inr hj)).trans (HLf.out j (by omega)), (HCw4.out.trans HC2.out).drewN _⟩, by simp [intOf]; omega⟩
                by_cases hjk : k ≤ j
                · exact HD2.out j hjk hj
                · exact (HL2.out j (Or.inl (by omega))).trans (HDn.out j (by omega))
              · go_wp2_with fail
                go_quiet (fail)
                go_wp2_with fail
                have hp9 := HP.out
                refine ⟨⟨k + (512 - fr), _, m2, by omega, by congr 1; have := HP.out; omega, by congr 1 <;> first | omega | rfl | (congr 2; omega), fun _ => rfl, HOw2.out.drewN _, HM2.out, fun j hj => ?_, fun j hj => (HL2.out j (Or.inr hj)).trans (HLf.out j (by omega)), (HCw4.out.trans HC2.out).drewN _⟩, by simp [intOf]; omega⟩
                by_cases hjk : k ≤ j
                · exact HD2.out j hjk hj
                · exact (HL2.out j (Or.inl (by omega))).trans (HDn.out j (by omega))
        · have hn1 : (N - k) ≤ N - k ∧ (N - k) ≤ 512 - fr ∧ 0 < (N - k) := by omega
          have hsl2 := slice99 w4 (w3.heap.size + 1) fr (N - k) hfb (by omega)
          have HS1 := hide sX4
          have HS2 := hide sY4
          have hgw3 : g < w3.heap.size := Nat.lt_of_lt_of_le hgl HCh.out.size
          have HOw4 := hide (HOw1.out.chg hC4 (fun _ _ h => h))
          have HCw4 : Hid (Chg (fun q => q = g) w w4) := hide (HCh.out.trans (hC4.mono (fun _ _ h => h.elim)))
          clear sX4 sY4 hH4 hH
          go_wp2_with fail
          go_loopw [43] (fun v wr => ∃ (i : Nat) (m2 : List Int), i ≤ (N - k) ∧ v = .int .i64 (i : Int) ∧ Own wr B0 (.slice (some ⟨g, 0, none⟩) N cap) m2 ∧ m2.length = N ∧ (∀ j, k ≤ j → j < k + i → m2.getD j 0 = valT B M (at_ + j) (l.getD j 0)) ∧ (∀ j, j < k ∨ k + i ≤ j → m2.getD j 0 = m.getD j 0) ∧ Chg (fun q => q = g) w4 wr) (fun v _ => (N - k) - (intOf v).toNat)
          case atStart => exact ⟨0, m, by omega, rfl, HOw4.out, HMN.out, by intro j h1 h2; omega, fun j _ => rfl, Chg.refl _ _⟩
          case round =>
            obtain ⟨i, m2, hi, rfl, ho2, hm2, hd2, hl2, hc2⟩ := hrel
            have HOw2 := hide ho2
            have HM2 := hide hm2
            have HD2 := hide hd2
            have HL2 := hide hl2
            have HC2 := hide hc2
            have sX5 := HS1.out.same (hc2.block _ HS1.out.lt (by omega))
            have sY5 := HS2.out.same (hc2.block _ HS2.out.lt (by omega))
            clear ho2 hm2 hd2 hl2 hc2
            by_cases hin : i < (N - k)
            · have cY := sY5.cell (fr + i) (by omega)
              have cX := sX5.cell (fr + i) (by omega)
              have cO := HOw2.out.cell HM2.out.symm (k + i) (by omega)
              have fO := HOw2.out.free HM2.out.symm (k + i)
              obtain ⟨mk, hmk⟩ : ∃ mk, (M (sn : Int)).getD (fr + i) 0 = mk := ⟨_, rfl⟩
              obtain ⟨bv, hbv⟩ : ∃ bv, (B (sn : Int)).getD (fr + i) 0 = bv := ⟨_, rfl⟩
              rw [hmk] at cY
              rw [hbv] at cX
              have HVal : Hid (∀ x, valT B M (at_ + (k + i)) x = if mk = 0 then x else bv) := hide (fun x => by
                have e1 : at_ + (k + i) = p + i := by have := HP.out; omega
                have e2 : (p + i) / 512 = sn := by have := HFr.out; have := HSn.out; omega
                have e3 : (p + i) % 512 = fr + i := by have := HFr.out; have := HSn.out; omega
                unfold valT
                rw [e1, e2, e3, hmk, hbv])
              have HLk : Hid (m2.getD (k + i) 0 = l.getD (k + i) 0) := hide ((HL2.out (k + i) (Or.inr (Nat.le_refl _))).trans (HLf.out (k + i) (by omega)))
              obtain ⟨old, hold⟩ : ∃ old, m2.getD (k + i) 0 = old := ⟨_, rfl⟩
              rw [hold] at cO
              clear hold
              clear hmk hbv sX5 sY5
              by_cases hz : mk = 0
              · subst hz
                go_wp2_with fail
                refine ⟨⟨i + 1, m2, by omega, by go_num, HOw2.out, HM2.out, fun j h1 h2 => ?_, fun j h1 => HL2.out j (by omega), HC2.out⟩, by simp [intOf]; omega⟩
                by_cases hj : j = k + i
                · subst hj
                  rw [HVal.out, if_pos rfl]
                  exact HLk.out
                · exact HD2.out j h1 (by omega)
              · have hzz : (mk != 0) = true := by simp [hz]
                go_wp2_with fail
                have hs := HOw2.out.set HM2.out.symm (k + i) bv
                refine ⟨⟨i + 1, m2.set (k + i) bv, by omega, by go_num, hs.1, by rw [List.length_set, HM2.out], fun j h1 h2 => ?_, fun j h1 => ?_, HC2.out.trans ((Chg.of_grown hs.2).mono (fun q _ e => by simpa using e))⟩, by simp [intOf]; omega⟩
                · rw [getD_set _ _ _ _ (by rw [HM2.out]; omega)]
                  by_cases hj : k + i = j
                  · subst hj
                    rw [if_pos rfl, HVal.out, if_neg hz]
                  · rw [if_neg hj]
                    exact HD2.out j h1 (by omega)
                · rw [getD_set _ _ _ _ (by rw [HM2.out]; omega), if_neg (by omega)]
                  exact HL2.out j (by omega)
            · have hin2 : i = (N - k) := by omega
              subst hin2
              have hlast : decide ((((N - k) : Nat) : Int) < (((N - k) : Nat) : Int)) = false := by simp
              by_cases hcp : cap - k = (N - k)
              · go_wp2_with fail
                go_quiet (fail)
                go_wp2_with fail
                have hp9 := HP.out
                refine ⟨⟨k + (N - k), _, m2, by omega, by congr 1; have := HP.out; omega, by congr 1 <;> first | omega | rfl | (congr 2; omega), fun h => by omega, HOw2.out.drewN _, HM2.out, fun j hj => ?_, fun j hj => (HL2.out j (Or.inr hj)).trans (HLf.out j (by omega)), (HCw4.out.trans HC2.out).drewN _⟩, by simp [intOf]; omega⟩
                by_cases hjk : k ≤ j
                · exact HD2.out j hjk hj
                · exact (HL2.out j (Or.inl (by omega))).trans (HDn.out j (by omega))
              · go_wp2_with fail
                go_quiet (fail)
                go_wp2_with fail
                have hp9 := HP.out
                refine ⟨⟨k + (N - k), _, m2, by omega, by congr 1; have := HP.out; omega, by congr 1 <;> first | omega | rfl | (congr 2; omega), fun _ => rfl, HOw2.out.drewN _, HM2.out, fun j hj => ?_, fun j hj => (HL2.out j (Or.inr hj)).trans (HLf.out j (by omega)), (HCw4.out.trans HC2.out).drewN _⟩, by simp [intOf]; omega⟩
                by_cases hjk : k ≤ j
                · exact HD2.out j hjk hj
                · exact (HL2.out j (Or.inl (by omega))).trans (HDn.out j (by omega))
      · have hz1 : (zeroValue 147).run Tryz.prog w3.drew = .ok (.agg (secC Z5)) w3.drew := zero99 _
        have hz2 : (zeroValue 146).run Tryz.prog (w3.alloc (.cells (secC Z5) 147)).drew = .ok (.agg (secC Z5)) (w3.alloc (.cells (secC Z5) 147)).drew := zero98 _
        have hb1 : Below w3.drew.heap.size w3.drew (w3.drew.alloc (.cells (secC Z5) 147)) := (Below.refl _ _).alloc (Nat.le_refl _) _
        have hb2 : Below w3.drew.heap.size w3.drew ((w3.drew.alloc (.cells (secC Z5) 147)).alloc (.cells (secC Z5) 146)) := hb1.alloc (by simp) _
        have hTl : T < w3.drew.heap.size := HT1.out.lt
        have hH1 : (fun u => u.cell? ⟨T, 1, none⟩ = some vb ∧ u.cell? ⟨T, 2, none⟩ = some vm ∧ Ovr u vb vm B M) (w3.drew.alloc (.cells (secC Z5) 147)) := ⟨(hb1.cell (p := ⟨T, 1, none⟩) hTl).trans hH.1, (hb1.cell (p := ⟨T, 2, none⟩) hTl).trans hH.2.1, hH.2.2.chg (Chg.of_below (X := fun _ => False) hb1) (fun _ _ h => h)⟩
        have hH2 : (fun u => u.cell? ⟨T, 1, none⟩ = some vb ∧ u.cell? ⟨T, 2, none⟩ = some vm ∧ Ovr u vb vm B M) ((w3.drew.alloc (.cells (secC Z5) 147)).alloc (.cells (secC Z5) 146)) := ⟨(hb2.cell (p := ⟨T, 1, none⟩) hTl).trans hH.1, (hb2.cell (p := ⟨T, 2, none⟩) hTl).trans hH.2.1, hH.2.2.chg (Chg.of_below (X := fun _ => False) hb2) (fun _ _ h => h)⟩
        go_simp
        refine hK.out _ _ hH1 (fun _ => ?_)
        clear hK K
        try simp only [Act.put, List.setIfInBounds_toArray, List.set_cons_zero, List.set_cons_succ]
        refine wpAnyH_ready (rs := [14]) (by kernel_rfl) (by simp) ?_
        refine AllReadyH.cons (i := 14) rfl (fun K hK => ?_) AllReadyH.nil
        go_simp
        refine hK.out _ _ hH2 (fun _ => ?_)
        clear hK K
        try simp only [Act.put, List.setIfInBounds_toArray, List.set_cons_zero, List.set_cons_succ]
        have hsd : w3.drew.heap.size = w3.heap.size := rfl
        have hsz1 : (w3.alloc (.cells (secC Z5) 147)).drew.heap.size = w3.heap.size + 1 := by
          show (w3.alloc (.cells (secC Z5) 147)).heap.size = _
          simp
        try rw [hsz1]
        have hTw : T < w3.heap.size := HT1.out.lt
        have sX : Sec ((w3.drew.alloc (.cells (secC Z5) 147)).alloc (.cells (secC Z5) 146)) (w3.heap.size + 1) 146 Z5 := ⟨heap_alloc2_new w3.drew _ _, Z5_len⟩
        have sY : Sec ((w3.drew.alloc (.cells (secC Z5) 147)).alloc (.cells (secC Z5) 146)) w3.heap.size 147 Z5 := (Sec.new w3.drew _ Z5 Z5_len).same (Below.heap_alloc _ _ _ (by simp))
        have hg3 := Chg.of_grown (grown_setRow ((w3.drew.alloc (.cells (secC Z5) 147)).alloc (.cells (secC Z5) 146)) (w3.heap.size + 1) (secC (B (sn : Int))))
        have hH3 : (fun u => u.cell? ⟨T, 1, none⟩ = some vb ∧ u.cell? ⟨T, 2, none⟩ = some vm ∧ Ovr u vb vm B M) (((w3.drew.alloc (.cells (secC Z5) 147)).alloc (.cells (secC Z5) 146)).setRow (w3.heap.size + 1) (secC (B (sn : Int)))) := by
          refine ⟨hg3.cell hH2.1 (by simp; omega), hg3.cell hH2.2.1 (by simp; omega), hH2.2.2.chg hg3 (fun r hr e => ?_)⟩
          simp at e
          have := HRl.out r hr
          omega
        have sX3 := sX.row (B (sn : Int)) (HO.out.bl _)
        have sY3 := sY.same (setRow_other ((w3.drew.alloc (.cells (secC Z5) 147)).alloc (.cells (secC Z5) 146)) (w3.heap.size + 1) (secC (B (sn : Int))) w3.heap.size (by omega))
        have hg4 := Chg.of_grown (grown_setRow (((w3.drew.alloc (.cells (secC Z5) 147)).alloc (.cells (secC Z5) 146)).setRow (w3.heap.size + 1) (secC (B (sn : Int)))) w3.heap.size (secC (M (sn : Int))))
        have hH4 : (fun u => u.cell? ⟨T, 1, none⟩ = some vb ∧ u.cell? ⟨T, 2, none⟩ = some vm ∧ Ovr u vb vm B M) ((((w3.drew.alloc (.cells (secC Z5) 147)).alloc (.cells (secC Z5) 146)).setRow (w3.heap.size + 1) (secC (B (sn : Int)))).setRow w3.heap.size (secC (M (sn : Int)))) := by
          refine ⟨hg4.cell hH3.1 (by simp; omega), hg4.cell hH3.2.1 (by simp; omega), hH3.2.2.chg hg4 (fun r hr e => ?_)⟩
          simp at e
          have := HRl.out r hr
          omega
        have sY4 := sY3.row (M (sn : Int)) (HO.out.ml _)
        have sX4 := sX3.same (setRow_other (((w3.drew.alloc (.cells (secC Z5) 147)).alloc (.cells (secC Z5) 146)).setRow (w3.heap.size + 1) (secC (B (sn : Int)))) w3.heap.size (secC (M (sn : Int))) (w3.heap.size + 1) (by omega))
        have hC4 : Chg (fun _ => False) w3 ((((w3.drew.alloc (.cells (secC Z5) 147)).alloc (.cells (secC Z5) 146)).setRow (w3.heap.size + 1) (secC (B (sn : Int)))).setRow w3.heap.size (secC (M (sn : Int)))) := ⟨rfl, rfl, rfl, by simp [World.setRow]; omega, fun q hq _ => by
          have hq2 : q < w3.drew.heap.size := hq
          rw [setRow_other _ _ _ q (by omega), setRow_other _ _ _ q (by omega)]
          exact hb2.block q hq2⟩
        refine ready_store 16 146 (.tmp 7) (.tmp 23) (w3.heap.size + 1) (secC (B (sn : Int))) (secC Z5) (by kernel_rfl) rfl rfl rfl rfl rfl rfl sX.at_ (by rw [secC_size, HO.out.bl]; exact size98) (by rw [secC_size, secC_size, HO.out.bl]; exact Z5_len) (secC_one _) hH3 ?_
        refine ready_store 17 147 (.tmp 8) (.tmp 30) w3.heap.size (secC (M (sn : Int))) (secC Z5) (by kernel_rfl) rfl rfl rfl rfl rfl rfl sY3.at_ (by rw [secC_size, HO.out.ml]; exact size99) (by rw [secC_size, secC_size, HO.out.ml]; exact Z5_len) (secC_one _) hH4 ?_
        refine wpAnyH_done (by kernel_rfl) ?_ _
        have hXY : (w3.heap.size + 1) ≠ w3.heap.size := by omega
        have hXw : w3.heap.size ≤ (w3.heap.size + 1) ∧ w3.heap.size ≤ w3.heap.size := by omega
        clear sX sY sX3 sY3 hg3 hg4 hH1 hH2 hH3 hb1 hb2 hz1 hz2
        obtain ⟨w4, hw4⟩ : ∃ w4, w4 = (((w3.drew.alloc (.cells (secC Z5) 147)).alloc (.cells (secC Z5) 146)).setRow (w3.heap.size + 1) (secC (B (sn : Int)))).setRow w3.heap.size (secC (M (sn : Int))) := ⟨_, rfl⟩
        rw [← hw4] at sX4 sY4 hC4 hH4
        apply_assumption
        change Code.wp _ _ _ _ ((((w3.drew.alloc (.cells (secC Z5) 147)).alloc (.cells (secC Z5) 146)).setRow (w3.heap.size + 1) (secC (B (sn : Int)))).setRow w3.heap.size (secC (M (sn : Int))))
        rw [← hw4]
        clear hw4
        have hsl1 := slice98 w4 (w3.heap.size + 1) fr hfb
        by_cases hmn : 512 - fr < N - k
        · have hn1 : (512 - fr) ≤ N - k ∧ (512 - fr) ≤ 512 - fr ∧ 0 < (512 - fr) := by omega
          have hsl2 := slice99 w4 w3.heap.size fr (512 - fr) hfb (by omega)
          have HS1 := hide sX4
          have HS2 := hide sY4
          have hgw3 : g < w3.heap.size := Nat.lt_of_lt_of_le hgl HCh.out.size
          have HOw4 := hide (HOw1.out.chg hC4 (fun _ _ h => h))
          have HCw4 : Hid (Chg (fun q => q = g) w w4) := hide (HCh.out.trans (hC4.mono (fun _ _ h => h.elim)))
          clear sX4 sY4 hH4 hH
          go_wp2_with fail
          go_loopw [43] (fun v wr => ∃ (i : Nat) (m2 : List Int), i ≤ (512 - fr) ∧ v = .int .i64 (i : Int) ∧ Own wr B0 (.slice (some ⟨g, 0, none⟩) N cap) m2 ∧ m2.length = N ∧ (∀ j, k ≤ j → j < k + i → m2.getD j 0 = valT B M (at_ + j) (l.getD j 0)) ∧ (∀ j, j < k ∨ k + i ≤ j → m2.getD j 0 = m.getD j 0) ∧ Chg (fun q => q = g) w4 wr) (fun v _ => (512 - fr) - (intOf v).toNat)
          case atStart => exact ⟨0, m, by omega, rfl, HOw4.out, HMN.out, by intro j h1 h2; omega, fun j _ => rfl, Chg.refl _ _⟩
          case round =>
            obtain ⟨i, m2, hi, rfl, ho2, hm2, hd2, hl2, hc2⟩ := hrel
            have HOw2 := hide ho2
            have HM2 := hide hm2
            have HD2 := hide hd2
            have HL2 := hide hl2
            have HC2 := hide hc2
            have sX5 := HS1.out.same (hc2.block _ HS1.out.lt (by omega))
            have sY5 := HS2.out.same (hc2.block _ HS2.out.lt (by omega))
            clear ho2 hm2 hd2 hl2 hc2
            by_cases hin : i < (512 - fr)
            · have cY := sY5.cell (fr + i) (by omega)
              have cX := sX5.cell (fr + i) (by omega)
              have cO := HOw2.out.cell HM2.out.symm (k + i) (by omega)
              have fO := HOw2.out.free HM2.out.symm (k + i)
              obtain ⟨mk, hmk⟩ : ∃ mk, (M (sn : Int)).getD (fr + i) 0 = mk := ⟨_, rfl⟩
              obtain ⟨bv, hbv⟩ : ∃ bv, (B (sn : Int)).getD (fr + i) 0 = bv := ⟨_, rfl⟩
              rw [hmk] at cY
              rw [hbv] at cX
              have HVal : Hid (∀ x, valT B M (at_ + (k + i)) x = if mk = 0 then x else bv) := hide (fun x => by
                have e1 : at_ + (k + i) = p + i := by have := HP.out; omega
                have e2 : (p + i) / 512 = sn := by have := HFr.out; have := HSn.out; omega
                have e3 : (p + i) % 512 = fr + i := by have := HFr.out; have := HSn.out; omega
                unfold valT
                rw [e1, e2, e3, hmk, hbv])
              have HLk : Hid (m2.getD (k + i) 0 = l.getD (k + i) 0) := hide ((HL2.out (k + i) (Or.inr (Nat.le_refl _))).trans (HLf.out (k + i) (by omega)))
              obtain ⟨old, hold⟩ : ∃ old, m2.getD (k + i) 0 = old := ⟨_, rfl⟩
              rw [hold] at cO
              clear hold
              clear hmk hbv sX5 sY5
              by_cases hz : mk = 0
              · subst hz
                go_wp2_with fail
                refine ⟨⟨i + 1, m2, by omega, by go_num, HOw2.out, HM2.out, fun j h1 h2 => ?_, fun j h1 => HL2.out j (by omega), HC2.out⟩, by simp [intOf]; omega⟩
                by_cases hj : j = k + i
                · subst hj
                  rw [HVal.out, if_pos rfl]
                  exact HLk.out
                · exact HD2.out j h1 (by omega)
              · have hzz : (mk != 0) = true := by simp [hz]
                go_wp2_with fail
                have hs := HOw2.out.set HM2.out.symm (k + i) bv
                refine ⟨⟨i + 1, m2.set (k + i) bv, by omega, by go_num, hs.1, by rw [List.length_set, HM2.out], fun j h1 h2 => ?_, fun j h1 => ?_, HC2.out.trans ((Chg.of_grown hs.2).mono (fun q _ e => by simpa using e))⟩, by simp [intOf]; omega⟩
                · rw [getD_set _ _ _ _ (by rw [HM2.out]; omega)]
                  by_cases hj : k + i = j
                  · subst hj
                    rw [if_pos rfl, HVal.out, if_neg hz]
                  · rw [if_neg hj]
                    exact HD2.out j h1 (by omega)
                · rw [getD_set _ _ _ _ (by rw [HM2.out]; omega), if_neg (by omega)]
                  exact HL2.out j (by omega)
            · have hin2 : i = (512 - fr) := by omega
              subst hin2
              have hlast : decide ((((512 - fr) : Nat) : Int) < (((512 - fr) : Nat) : Int)) = false := by simp
              by_cases hcp : cap - k = (512 - fr)
              · go_wp2_with fail
                go_quiet (fail)
                go_wp2_with fail
                have hp9 := HP.out
                refine ⟨⟨k + (512 - fr), _, m2, by omega, by congr 1; have := HP.out; omega, by congr 1 <;> first | omega | rfl | (congr 2; omega), fun h => by omega, HOw2.out.drewN _, HM2.out, fun j hj => ?_, fun j hj => (HL2.out j (Or.inr hj)).trans (HLf.out j (by omega)), (HCw4.out.trans HC2.out).drewN _⟩, by simp [intOf]; omega⟩
                by_cases hjk : k ≤ j
                · exact HD2.out j hjk hj
                · exact (HL2.out j (Or.inl (by omega))).trans (HDn.out j (by omega))
              · go_wp2_with fail
                go_quiet (fail)
                go_wp2_with fail
                have hp9 := HP.out
                refine ⟨⟨k + (512 - fr), _, m2, by omega, by congr 1; have := HP.out; omega, by congr 1 <;> first | omega | rfl | (congr 2; omega), fun _ => rfl, HOw2.out.drewN _, HM2.out, fun j hj => ?_, fun j hj => (HL2.out j (Or.inr hj)).trans (HLf.out j (by omega)), (HCw4.out.trans HC2.out).drewN _⟩, by simp [intOf]; omega⟩
                by_cases hjk : k ≤ j
                · exact HD2.out j hjk hj
                · exact (HL2.out j (Or.inl (by omega))).trans (HDn.out j (by omega))
        · have hn1 : (N - k) ≤ N - k ∧ (N - k) ≤ 512 - fr ∧ 0 < (N - k) := by omega
          have hsl2 := slice99 w4 w3.heap.size fr (N - k) hfb (by omega)
          have HS1 := hide sX4
          have HS2 := hide sY4
          have hgw3 : g < w3.heap.size := Nat.lt_of_lt_of_le hgl HCh.out.size
          have HOw4 := hide (HOw1.out.chg hC4 (fun _ _ h => h))
          have HCw4 : Hid (Chg (fun q => q = g) w w4) := hide (HCh.out.trans (hC4.mono (fun _ _ h => h.elim)))
          clear sX4 sY4 hH4 hH
          go_wp2_with fail
          go_loopw [43] (fun v wr => ∃ (i : Nat) (m2 : List Int), i ≤ (N - k) ∧ v = .int .i64 (i : Int) ∧ Own wr B0 (.slice (some ⟨g, 0, none⟩) N cap) m2 ∧ m2.length = N ∧ (∀ j, k ≤ j → j < k + i → m2.getD j 0 = valT B M (at_ + j) (l.getD j 0)) ∧ (∀ j, j < k ∨ k + i ≤ j → m2.getD j 0 = m.getD j 0) ∧ Chg (fun q => q = g) w4 wr) (fun v _ => (N - k) - (intOf v).toNat)
          case atStart => exact ⟨0, m, by omega, rfl, HOw4.out, HMN.out, by intro j h1 h2; omega, fun j _ => rfl, Chg.refl _ _⟩
          case round =>
            obtain ⟨i, m2, hi, rfl, ho2, hm2, hd2, hl2, hc2⟩ := hrel
            have HOw2 := hide ho2
            have HM2 := hide hm2
            have HD2 := hide hd2
            have HL2 := hide hl2
            have HC2 := hide hc2
            have sX5 := HS1.out.same (hc2.block _ HS1.out.lt (by omega))
            have sY5 := HS2.out.same (hc2.block _ HS2.out.lt (by omega))
            clear ho2 hm2 hd2 hl2 hc2
            by_cases hin : i < (N - k)
            · have cY := sY5.cell (fr + i) (by omega)
              have cX := sX5.cell (fr + i) (by omega)
              have cO := HOw2.out.cell HM2.out.symm (k + i) (by omega)
              have fO := HOw2.out.free HM2.out.symm (k + i)
              obtain ⟨mk, hmk⟩ : ∃ mk, (M (sn : Int)).getD (fr + i) 0 = mk := ⟨_, rfl⟩
              obtain ⟨bv, hbv⟩ : ∃ bv, (B (sn : Int)).getD (fr + i) 0 = bv := ⟨_, rfl⟩
              rw [hmk] at cY
              rw [hbv] at cX
              have HVal : Hid (∀ x, valT B M (at_ + (k + i)) x = if mk = 0 then x else bv) := hide (fun x => by
                have e1 : at_ + (k + i) = p + i := by have := HP.out; omega
                have e2 : (p + i) / 512 = sn := by have := HFr.out; have := HSn.out; omega
                have e3 : (p + i) % 512 = fr + i := by have := HFr.out; have := HSn.out; omega
                unfold valT
                rw [e1, e2, e3, hmk, hbv])
              have HLk : Hid (m2.getD (k + i) 0 = l.getD (k + i) 0) := hide ((HL2.out (k + i) (Or.inr (Nat.le_refl _))).trans (HLf.out (k + i) (by omega)))
              obtain ⟨old, hold⟩ : ∃ old, m2.getD (k + i) 0 = old := ⟨_, rfl⟩
              rw [hold] at cO
              clear hold
              clear hmk hbv sX5 sY5
              by_cases hz : mk = 0
              · subst hz
                go_wp2_with fail
                refine ⟨⟨i + 1, m2, by omega, by go_num, HOw2.out, HM2.out, fun j h1 h2 => ?_, fun j h1 => HL2.out j (by omega), HC2.out⟩, by simp [intOf]; omega⟩
                by_cases hj : j = k + i
                · subst hj
                  rw [HVal.out, if_pos rfl]
                  exact HLk.out
                · exact HD2.out j h1 (by omega)
              · have hzz : (mk != 0) = true := by simp [hz]
                go_wp2_with fail
                have hs := HOw2.out.set HM2.out.symm (k + i) bv
                refine ⟨⟨i + 1, m2.set (k + i) bv, by omega, by go_num, hs.1, by rw [List.length_set, HM2.out], fun j h1 h2 => ?_, fun j h1 => ?_, HC2.out.trans ((Chg.of_grown hs.2).mono (fun q _ e => by simpa using e))⟩, by simp [intOf]; omega⟩
                · rw [getD_set _ _ _ _ (by rw [HM2.out]; omega)]
                  by_cases hj : k + i = j
                  · subst hj
                    rw [if_pos rfl, HVal.out, if_neg hz]
                  · rw [if_neg hj]
                    exact HD2.out j h1 (by omega)
                · rw [getD_set _ _ _ _ (by rw [HM2.out]; omega), if_neg (by omega)]
                  exact HL2.out j (by omega)
            · have hin2 : i = (N - k) := by omega
              subst hin2
              have hlast : decide ((((N - k) : Nat) : Int) < (((N - k) : Nat) : Int)) = false := by simp
              by_cases hcp : cap - k = (N - k)
              · go_wp2_with fail
                go_quiet (fail)
                go_wp2_with fail
                have hp9 := HP.out
                refine ⟨⟨k + (N - k), _, m2, by omega, by congr 1; have := HP.out; omega, by congr 1 <;> first | omega | rfl | (congr 2; omega), fun h => by omega, HOw2.out.drewN _, HM2.out, fun j hj => ?_, fun j hj => (HL2.out j (Or.inr hj)).trans (HLf.out j (by omega)), (HCw4.out.trans HC2.out).drewN _⟩, by simp [intOf]; omega⟩
                by_cases hjk : k ≤ j
                · exact HD2.out j hjk hj
                · exact (HL2.out j (Or.inl (by omega))).trans (HDn.out j (by omega))
              · go_wp2_with fail
                go_quiet (fail)
                go_wp2_with fail
                have hp9 := HP.out
                refine ⟨⟨k + (N - k), _, m2, by omega, by congr 1; have := HP.out; omega, by congr 1 <;> first | omega | rfl | (congr 2; omega), fun _ => rfl, HOw2.out.drewN _, HM2.out, fun j hj => ?_, fun j hj => (HL2.out j (Or.inr hj)).trans (HLf.out j (by omega)), (HCw4.out.trans HC2.out).drewN _⟩, by simp [intOf]; omega⟩
                by_cases hjk : k ≤ j
                · exact HD2.out j hjk hj
                · exact (HL2.out j (Or.inl (by omega))).trans (HDn.out j (by omega))
    · obtain rfl : k = N := by omega
      have hd0 : decide ((0 : Int) < ((k - k : Nat) : Int)) = false := by simp
      go_wp2_with fail
      go_end0
      exact ⟨rfl, ⟨m, ho, hmN, hdone⟩, hchg⟩
end Go.Proofs.YtibkhgmmjhlpmaaGreat.Oct
