/- Where a journal stands; the changes as records. -/
import Derived.Test.YtibkhgmmjhlpmaaGreatPTyh
namespace Go.Proofs.YtibkhgmmjhlpmaaGreat.Oct
open Go.RowKit Go.Deep Go.Sort

set_option maxRecDepth 100000 in
set_option maxHeartbeats 1000000 in
theorem where_j (w : World) (J F p q : Nat) (nu : Int) (h : Jrn w J F p q nu) (hp : p + 1024 ≤ q) : Calls Tryz.prog 69 #[.pointer (some ⟨J, 0, none⟩)] w fun e w' => e = .returned (.agg #[.int .i64 p, .int .i64 q]) ∧ Below w.heap.size w w' := by
  have HX := hide (Blk.new w #[.int .i64 0, .int .i64 0] 31)
  have hb := (Below.refl w.heap.size w).alloc (Nat.le_refl _) (.cells #[.int .i64 0, .int .i64 0] 31)
  have HB := hide hb
  have h1 := h.below hb
  have HNo := hide (none_j _ J F p q nu h1 (by omega))
  obtain ⟨j0, j1, j2, j3⟩ := h1.cells
  clear h h1 hb
  go_enter Tryz.func69, Tryz.ntmps69
  go_wp2_with fail
  generalize w.alloc (.cells #[.int .i64 0, .int .i64 0] 31) = w1 at *
  refine HNo.out.mono ?_
  rintro e9 w2 ⟨rfl, hw2⟩
  rw [hw2]
  clear hw2
  have c0 := HX.out.cell 0 _ rfl
  have c1 := HX.out.cell 1 _ rfl
  have f0 := HX.out.frozen 0
  have f1 := HX.out.frozen 1
  go_wp2_with fail
  refine bodyPost_ret (results_cell_row rfl _ _ w.heap.size 31 _ (0, 0) _ rfl ((HX.out.set 0 (.int .i64 p)).set 1 (.int .i64 q)) Tryz.underlying31 rfl (by kernel_rfl)) rfl ?_
  exact ⟨rfl, (HB.out.setCell (p := ⟨w.heap.size, 0, none⟩) (Nat.le_refl _) _).setCell (p := ⟨w.heap.size, 1, none⟩) (Nat.le_refl _) _⟩

theorem OwnK.append {w w' : World} {B : Nat} {v v' : Value} {R : List JR} {r : JR} (h : OwnK w B v R) (hr : FarJ w B v r) (ho : w'.ownsRow B 125 2 v' (R.length + 1) (R.flatMap JR.cells ++ r.cells)) (hg : w.grownBy w' v.ownBlock) (hw : v'.ownBlock = v.ownBlock ∨ v'.ownBlock = some w.heap.size) : OwnK w' B v' (R ++ [r]) := by
  have hfar : ∀ x, FarJ w B v x → FarJ w' B v' x := fun x hx => by
    refine ⟨?_, fun hne => ?_⟩
    · by_cases hne : x.b = []
      · exact ⟨hx.1.le, hx.1.max, hx.1.none, by rw [hne]; exact Lies.nil _ _⟩
      · obtain ⟨g, h1, h2, h3, h4⟩ := hx.2 hne
        exact ⟨hx.1.le, hx.1.max, hx.1.none, hx.1.lies.grown hg (fun y hy => by rw [h1] at hy; cases hy; exact fun e => h4 e.symm)⟩
    · obtain ⟨g, h1, h2, h3, h4⟩ := hx.2 hne
      refine ⟨g, h1, h2, Nat.lt_of_lt_of_le h3 hg.size, fun e => ?_⟩
      rcases hw with h | h
      · exact h4 (h ▸ e)
      · rw [h] at e
        cases e
        omega
  refine ⟨by rw [List.flatMap_append, List.length_append]; simpa using ho, fun x hx => ?_⟩
  rcases List.mem_append.1 hx with hx | hx
  · exact hfar x (h.far x hx)
  · simp at hx
    subst hx
    exact hfar _ hr

/-- A run's record. -/
def recD (S : List Int) (B M : Int → List Int) (r : Int × Int) : RD := (r.1, (List.range (r.2 - r.1).toNat).map (fun i => seeT S B M (r.1.toNat + i)))

/-- How many operations the Gets of runs take. -/
def rdR (S : List Int) (R : List (Int × Int)) : Nat := (R.map (fun r => rdc S r.1.toNat (r.2 - r.1).toNat)).sum

theorem rdR_snoc (S : List Int) (R : List (Int × Int)) (r : Int × Int) : rdR S (R ++ [r]) = rdR S R + rdc S r.1.toNat (r.2 - r.1).toNat := by simp [rdR]

theorem rdR_mono (S : List Int) (R : List (Int × Int)) (k : Nat) : rdR S (R.take k) ≤ rdR S R := by
  have h : rdR S R = rdR S (R.take k) + rdR S (R.drop k) := by
    unfold rdR
    rw [← List.sum_append_nat, ← List.map_append, List.take_append_drop]
  omega

set_option maxRecDepth 100000 in
set_option maxHeartbeats 8000000 in
theorem records_q (w : World) (T J F : Nat) (X : Nat → Prop) (f : Fs) (A : A3) (k n : Nat) (vb vm va : Value) (B M : Int → List Int) (p q : Nat) (nu : Int) (h : Txq w T J F X f A k n vb vm va B M p q nu) (hn : n ≤ 800000) (hp : p + 1024 ≤ q) (hM : ∀ s : Int, ¬ (0 ≤ s ∧ s < 8192) → ¬ 2 ∈ M s) (hno : ∀ r ∈ runsM M, ¬ (r.1 < q ∧ (p : Int) < r.2)) :
    Calls Tryz.prog 42 #[.pointer (some ⟨T, 0, none⟩)] w fun e w' => (∃ f' k' n', Txq w' T J F X f' A k' n' vb vm va B M p q nu ∧ (rdR A.S (runsM M) ≤ k → k' = k - rdR A.S (runsM M)) ∧ (¬ rdR A.S (runsM M) ≤ k → k' = 0) ∧ n' ≤ n + 8192) ∧ Chg X w w' ∧
      ((rdR A.S (runsM M) ≤ k ∧ ∃ v L, e = .returned (.tuple #[v, .int .i64 0]) ∧ OwnK w' w.heap.size v L ∧ L.map JR.dat = (runsM M).map (recD A.S B M)) ∨ (¬ rdR A.S (runsM M) ≤ k ∧ e = .returned (.tuple #[.slice none 0 0, .int .i64 5]))) := by
  have HH := hide h
  have HCh := fun u (hu : Below w.heap.size w u) => hide (changed_q u T J vb vm va false B M (h.below hu).tx (h.below hu).ov h.mm hM)
  have HWh := fun u (hu : Below w.heap.size w u) => hide (where_j u J F p q nu (h.below hu).jr hp)
  have HBd := hide (runsM_bd M)
  have hRl := runsM_len M
  have HNo := hide hno
  have hXl := h.fl.x
  have HXl := hide hXl
  have hTl := h.tx.lt
  have hS0 : (fun u : World => u.cell? ⟨T, 0, none⟩ = some (.pointer (some ⟨J, 0, none⟩))) w.drew := h.tx.cell.1
  have hd0 : Below w.heap.size w w.drew := (Below.refl _ _).drew
  clear hno h hM hXl
  generalize runsM M = R at *
  go_enter Tryz.func42, Tryz.ntmps42
  go_wp2_with fail
  refine wp_region_held_drew (S := (fun u : World => u.cell? ⟨T, 0, none⟩ = some (.pointer (some ⟨J, 0, none⟩)))) (by kernel_rfl) hS0 (fun _ => ?_)
  refine any_take 0 (some 13) (.pointer (some ⟨T, 0, none⟩)) rfl rfl (by kernel_rfl) (by kernel_rfl) (by kernel_rfl) (fun _ _ _ h => h) (by rfl) hS0 ?_ ?_
  · intro u hSu
    go_simp
  simp only [Act.put, List.setIfInBounds_toArray, List.set_cons_zero, List.set_cons_succ]
  refine any_take 2 (some 15) (.pointer (some ⟨T, 0, none⟩)) rfl rfl (by kernel_rfl) (by kernel_rfl) (by kernel_rfl) (fun _ _ _ h => h) (by rfl) hS0 ?_ ?_
  · intro u hSu
    go_simp
  simp only [Act.put, List.setIfInBounds_toArray, List.set_cons_zero, List.set_cons_succ]
  refine any_take 3 (some 16) (.pointer (some ⟨T, 0, none⟩)) rfl rfl (by kernel_rfl) (by kernel_rfl) (by kernel_rfl) (fun _ _ _ h => h) (by rfl) hS0 ?_ ?_
  · intro u hSu
    go_simp
  simp only [Act.put, List.setIfInBounds_toArray, List.set_cons_zero, List.set_cons_succ]
  refine any_take 4 (some 17) (.pointer (some ⟨T, 0, none⟩)) rfl rfl (by kernel_rfl) (by kernel_rfl) (by kernel_rfl) (fun _ _ _ h => h) (by rfl) hS0 ?_ ?_
  · intro u hSu
    go_simp
  simp only [Act.put, List.setIfInBounds_toArray, List.set_cons_zero, List.set_cons_succ]
  refine any_take 5 (some 18) (.pointer (some ⟨J, 0, none⟩)) rfl rfl (by kernel_rfl) (by kernel_rfl) (by kernel_rfl) (fun _ _ _ h => h) (by rfl) hS0 ?_ ?_
  · intro u hSu
    go_simp
  simp only [Act.put, List.setIfInBounds_toArray, List.set_cons_zero, List.set_cons_succ]
  refine wpAnyH_ready (rs := [1, 7]) (by kernel_rfl) (by simp) ?_
  refine AllReadyH.cons (i := 1) rfl (fun K hK => ?_) (AllReadyH.cons (i := 7) rfl (fun K hK => ?_) AllReadyH.nil)
  · go_simp
    refine ((HCh w.drew hd0).out).mono ?_
    rintro e9 wA ⟨vC, rfl, hoC, hbA⟩
    have hbwA : Below w.heap.size w wA := hd0.trans (hbA.mono hd0.size)
    have hoC' : OwnE wA w.heap.size vC R := OwnE.monoX hoC hd0.size
    go_simp
    refine hK.out _ _ (show (fun u : World => u.cell? ⟨T, 0, none⟩ = some (.pointer (some ⟨J, 0, none⟩))) wA from (hbwA.cell (p := ⟨T, 0, none⟩) hTl).trans hS0) (fun _ => ?_)
    clear hK K
    try simp only [Act.put, List.setIfInBounds_toArray, List.set_cons_zero, List.set_cons_succ]
    refine wpAnyH_ready (rs := [6, 7]) (by kernel_rfl) (by simp) ?_
    refine AllReadyH.cons (i := 6) rfl (fun K hK => ?_) (AllReadyH.cons (i := 7) rfl (fun K hK => ?_) AllReadyH.nil)
    · go_simp
      refine ((HWh wA hbwA).out).mono ?_
      rintro e9 wB ⟨rfl, hb6⟩
      have hbwB : Below w.heap.size w wB := hbwA.trans (hb6.mono hbwA.size)
      go_simp
      refine hK.out _ _ (show (fun u : World => u.cell? ⟨T, 0, none⟩ = some (.pointer (some ⟨J, 0, none⟩))) wB from (hbwB.cell (p := ⟨T, 0, none⟩) hTl).trans hS0) (fun _ => ?_)
      clear hK K
      try simp only [Act.put, List.setIfInBounds_toArray, List.set_cons_zero, List.set_cons_succ]
      refine wpAnyH_ready (rs := [7]) (by kernel_rfl) (by simp) ?_
      refine AllReadyH.cons (i := 7) rfl (fun K hK => ?_) AllReadyH.nil
      go_simp
      have hbwD : Below w.heap.size w (wB.alloc (.cells #[.int .i64 0, .int .i64 0] 31)) := hbwB.alloc hbwB.size _
      have hpD := Blk.new wB #[.int .i64 0, .int .i64 0] 31
      have hlD : Below wB.heap.size wB (wB.alloc (.cells #[.int .i64 0, .int .i64 0] 31)) := (Below.refl _ _).alloc (Nat.le_refl _) _
      refine hK.out _ _ (show (fun u : World => u.cell? ⟨T, 0, none⟩ = some (.pointer (some ⟨J, 0, none⟩))) (wB.alloc (.cells #[.int .i64 0, .int .i64 0] 31)) from (hbwD.cell (p := ⟨T, 0, none⟩) hTl).trans hS0) (fun _ => ?_)
      clear hK K
      try simp only [Act.put, List.setIfInBounds_toArray, List.set_cons_zero, List.set_cons_succ]
      generalize hWD : wB.alloc (.cells #[.int .i64 0, .int .i64 0] 31) = wD at *
      obtain ⟨PB, hPB⟩ : ∃ PB, PB = wB.heap.size := ⟨_, rfl⟩
      rw [← hPB] at hpD ⊢
      have hPw : w.heap.size ≤ PB := by have := hbwB.size; omega
      have hoD : OwnE wD w.heap.size vC R := (hoC'.below hb6).below hlD
      have hnC : ∀ g, vC.ownBlock = some g → g ≠ PB := fun g hg e => by have := (World.ownsRow.lt hoC' g hg).2; have := hb6.size; omega
      clear hWD hlD hPB hb6 hbA hoC hoC' hbwA hbwB
      have sPB := hpD.lt
      refine any_take 8 (some 4) vC rfl rfl (by kernel_rfl) (by kernel_rfl) (by kernel_rfl) (fun _ _ _ h => h) (by rfl) (show (fun u : World => u.cell? ⟨T, 0, none⟩ = some (.pointer (some ⟨J, 0, none⟩))) wD from (hbwD.cell (p := ⟨T, 0, none⟩) hTl).trans hS0) ?_ ?_
      · intro u hSu
        go_simp
      simp only [Act.put, List.setIfInBounds_toArray, List.set_cons_zero, List.set_cons_succ]
      refine wpAnyH_ready (rs := [9]) (by kernel_rfl) (by simp) ?_
      refine AllReadyH.cons (i := 9) rfl (fun K hK => ?_) AllReadyH.nil
      have e0 := hpD.cell 0 _ rfl
      have e1 := hpD.cell 1 _ rfl
      have g0 := hpD.frozen 0
      have g1 := hpD.frozen 1
      have hbG : Below w.heap.size w ((wD.setCell ⟨PB, 0, none⟩ (.int .i64 p)).setCell ⟨PB, 1, none⟩ (.int .i64 q)) := (hbwD.setCell (p := ⟨PB, 0, none⟩) hPw _).setCell (p := ⟨PB, 1, none⟩) hPw _
      have hpG : Blk ((wD.setCell ⟨PB, 0, none⟩ (.int .i64 p)).setCell ⟨PB, 1, none⟩ (.int .i64 q)) PB #[.int .i64 p, .int .i64 q] 31 := (hpD.set 0 (.int .i64 p)).set 1 (.int .i64 q)
      have hoG : OwnE ((wD.setCell ⟨PB, 0, none⟩ (.int .i64 p)).setCell ⟨PB, 1, none⟩ (.int .i64 q)) w.heap.size vC R := ownsRow_chg hoD (((Chg.refl (fun i => i = PB) wD).setCell PB 0 _ (fun _ => rfl)).setCell PB 1 _ (fun _ => rfl)) (fun g hg e => hnC g hg e)
      have hSG := (hbG.cell (p := ⟨T, 0, none⟩) hTl).trans hS0
      go_simp
      refine hK.out _ _ hSG (fun _ => ?_)
      clear hK K
      try simp only [Act.put, List.setIfInBounds_toArray, List.set_cons_zero, List.set_cons_succ]
      refine wpAnyH_done (by kernel_rfl) ?_ _
      generalize (wD.setCell ⟨PB, 0, none⟩ (.int .i64 p)).setCell ⟨PB, 1, none⟩ (.int .i64 q) = wG at *
      clear e0 e1 g0 g1 hoD hpD hbwD hnC sPB hSG HCh HWh hS0 hd0
      obtain ⟨aC, cC, rfl, hlC, _, hcmC, hbC⟩ := hoG.form
      have HlC := hide hlC
      have HbG := hide hbG
      have HpG := hide hpG
      have HbC := hide hbC
      clear hlC hbG hpG hoG hbC
      apply_assumption
      go_wp2_with fail
      go_loopw [22] (fun i wr => ∃ j : Nat, j ≤ R.length ∧ i = .int .i64 (j : Int) ∧ Below wG.heap.size wG wr) (fun i _ => R.length - (intOf i).toNat)
      case atStart => exact ⟨0, by omega, rfl, Below.refl _ _⟩
      case round =>
        obtain ⟨j, hj, rfl, hb⟩ := hrel
        have HB := hide hb
        by_cases hlt : j < R.length
        · rcases HlC.out with hnil | ⟨b, off, rfl, hblt, hc⟩
          · rw [hnil] at hlt; simp at hlt
          have r0 := (hb.cell (p := ⟨b, off + j * 2, none⟩) hblt).trans (hc j hlt).1
          have r1 := (hb.cell (p := ⟨b, off + j * 2 + 1, none⟩) hblt).trans (hc j hlt).2
          have hmem : R.getD j (0, 0) ∈ R := by simp [hlt]
          have hbd := HBd.out _ hmem
          have hnr := HNo.out _ hmem
          generalize R.getD j (0, 0) = r at *
          obtain ⟨x, y⟩ := r
          dsimp only at *
          obtain ⟨d0, d1⟩ := box2X wr 31 (.int .i64 x) (.int .i64 y)
          have hb1 : Below wG.heap.size wG (wr.alloc (.cells #[.int .i64 x, .int .i64 y] 31)) := hb.alloc hb.size _
          have HXB := hide hb1
          have s0 := (HpG.out.below hb1).cell 0 _ rfl
          have s1 := (HpG.out.below hb1).cell 1 _ rfl
          clear hc hb hb1 hmem
          by_cases hxq : x < (q : Int)
          · have hpy : ¬ (p : Int) < y := fun e => hnr ⟨hxq, e⟩
            clear hnr
            go_wp2_with fail
            exact ⟨⟨j + 1, by omega, by go_num, HXB.out⟩, by simp [intOf]; omega⟩
          · clear hnr
            go_wp2_with fail
            exact ⟨⟨j + 1, by omega, by go_num, HXB.out⟩, by simp [intOf]; omega⟩
        · obtain rfl : j = R.length := by omega
          obtain ⟨w5, hw5⟩ : ∃ w5, w5 = wr := ⟨_, rfl⟩
          subst hw5
          have HB5 : Hid (Below w.heap.size w w5) := hide (HbG.out.trans (HB.out.mono HbG.out.size))
          have HL5 := hide (HlC.out.below hb)
          obtain ⟨i1, hi, hz0, hz1, hz2⟩ := info_parts info_rec
          have hmk : (Instr.makeSlice 90 (.int .i64 0) (.int .i64 (R.length : Int))).run Tryz.prog w5 = .ok (.slice (some ⟨w5.heap.size, 0, none⟩) 0 R.length) (w5.alloc (.cells (madeCells #[.int .i64 0, .slice none 0 0] (R.length * 2)) 125)) := by
            have h := run_make (P := Tryz.prog) w5 90 125 i1 (.agg #[.int .i64 0, .slice none 0 0]) Tryz.underlying90 hi hz0 .i64 .i64 0 (R.length : Int) (by omega) (by omega) (by rw [hz2]; omega) (by omega)
            simpa [hz1, Value.cells] using h
          have HO0 : Hid (OwnK (w5.alloc (.cells (madeCells #[.int .i64 0, .slice none 0 0] (R.length * 2)) 125)) w5.heap.size (.slice (some ⟨w5.heap.size, 0, none⟩) 0 R.length) []) := hide ⟨World.ownsRow_made w5 _ R.length (Nat.le_refl _) (by unfold maxLen; omega) (size_madeCells _ _), fun r hr => by cases hr⟩
          have hb0 := (Below.refl w5.heap.size w5).alloc (Nat.le_refl _) (.cells (madeCells #[.int .i64 0, .slice none 0 0] (R.length * 2)) 125)
          have HB0 := hide hb0
          clear hb hb0
          generalize w5.alloc (.cells (madeCells #[.int .i64 0, .slice none 0 0] (R.length * 2)) 125) = w6 at *
          go_wp2_with fail
          clear hmk
          have HX5 : Hid (∀ i, w5.heap.size ≤ i → ¬ X i) := hide (fun i hi e => by have := HXl.out i e; have := HB5.out.size; omega)
          have Hw5 : Hid (w.heap.size ≤ w5.heap.size) := hide HB5.out.size
          have HbL : Hid (∀ x, aC = some x → w.heap.size ≤ x.block ∧ x.block < w5.heap.size) := hide (fun x hx => ⟨(HbC.out x hx).1, Nat.lt_of_lt_of_le (HbC.out x hx).2.1 HB.out.size⟩)
          go_loopw [8, 44] (fun v i wr => ∃ (j : Nat) (L : List JR) (f' : Fs), j ≤ R.length ∧ i = .int .i64 (j : Int) ∧ OwnK wr w5.heap.size v L ∧ L.map JR.dat = (R.take j).map (recD A.S B M) ∧ Txq wr T J F X f' A (k - rdR A.S (R.take j)) (n + j) vb vm va B M p q nu ∧ rdR A.S (R.take j) ≤ k ∧ Chg X w5 wr) (fun _ i _ => R.length - (intOf i).toNat)
          case atStart => exact ⟨0, [], f, by omega, rfl, HO0.out, rfl, by simpa [rdR] using (HH.out.below HB5.out).below HB0.out, by simp [rdR], Chg.of_below HB0.out⟩
          case round =>
            obtain ⟨j, L, f', hj, rfl, hok, hdat, htq, hrj, hcx⟩ := hrel
            have HOk := hide hok
            have HDat := hide hdat
            have HTq := hide htq
            have HRj := hide hrj
            have HCx := hide hcx
            have hLl : L.length = j := by have := congrArg List.length hdat; rw [List.length_map, List.length_map, List.length_take] at this; omega
            clear hok hdat htq hrj
            by_cases hlt : j < R.length
            · rcases HL5.out with hnil | ⟨b, off, rfl, hblt, hc⟩
              · rw [hnil] at hlt; simp at hlt
              have hbX : ¬ X b := fun e => by
                have h8 : b < w.heap.size := HXl.out b e
                have h9 : w.heap.size ≤ b := (HbL.out _ rfl).1
                omega
              have r0 := hcx.cell (hc j hlt).1 hbX
              have r1 := hcx.cell (hc j hlt).2 hbX
              have hst : R.take (j + 1) = R.take j ++ [R.getD j (0, 0)] := by
                have e : R.getD j (0, 0) = R[j] := by simp [hlt]
                rw [List.take_succ_eq_append_getElem hlt, e]
              have hmem : R.getD j (0, 0) ∈ R := by simp [hlt]
              have hbd := HBd.out _ hmem
              have HRd := hide (rdR_snoc A.S (R.take j) (R.getD j (0, 0)))
              have HRm := hide (rdR_mono A.S R (j + 1))
              have HSt := hide hst
              rw [hst] at HRm
              generalize R.getD j (0, 0) = r at *
              obtain ⟨x, y⟩ := r
              dsimp only at *
              obtain ⟨xn, rfl⟩ := Int.eq_ofNat_of_zero_le hbd.1
              obtain ⟨mn, hmn⟩ : ∃ mn : Nat, y = (xn : Int) + mn := ⟨(y - xn).toNat, by omega⟩
              subst hmn
              have e1 : ((xn : Int) + (mn : Int) - (xn : Int)) = (mn : Int) := by omega
              have HRd2 : Hid (rdR A.S (R.take j ++ [((xn : Int), (xn : Int) + mn)]) = rdR A.S (R.take j) + rdc A.S xn mn) := hide (by rw [HRd.out, e1]; simp)
              have HRc : Hid (recD A.S B M ((xn : Int), (xn : Int) + mn) = ((xn : Int), (List.range mn).map (fun i => seeT A.S B M (xn + i)))) := hide (by unfold recD; simp only; rw [e1]; simp)
              obtain ⟨d0, d1⟩ := box2X wr 31 (.int .i64 (xn : Int)) (.int .i64 ((xn : Int) + mn))
              have hb1 : Below wr.heap.size wr (wr.alloc (.cells #[.int .i64 (xn : Int), .int .i64 ((xn : Int) + mn)] 31)) := (Below.refl _ _).alloc (Nat.le_refl _) _
              have HGet := hide (get_q _ T J F X f' A _ _ vb vm va B M p q nu (HTq.out.below hb1) (by omega) xn mn (by omega))
              have HO1 := hide (HOk.out.below hb1)
              have HC1 : Hid (Chg X w5 (wr.alloc (.cells #[.int .i64 (xn : Int), .int .i64 ((xn : Int) + mn)] 31))) := hide (hcx.alloc _)
              have hsz1 : (wr.alloc (.cells #[.int .i64 (xn : Int), .int .i64 ((xn : Int) + mn)] 31)).heap.size = wr.heap.size + 1 := by simp
              have hwr := hcx.size
              have d0' := d0
              clear hc hcx hb1 hmem hst HRd HTq
              go_wp2_with fail
              refine HGet.out.mono ?_
              rintro e9 w7 ⟨⟨f7, ht7⟩, hc7, ⟨hk7, v7, l7, rfl, ho7, hl7, hg7⟩ | ⟨hk7, rfl⟩⟩
              · have HT7 : Hid (Txq w7 T J F X f7 A (k - rdR A.S (R.take (j + 1))) (n + (j + 1)) vb vm va B M p q nu) := hide (by
                  rw [HSt.out, HRd2.out, Nat.sub_add_eq]
                  exact ht7)
                have HR7 : Hid (rdR A.S (R.take (j + 1)) ≤ k) := hide (by rw [HSt.out, HRd2.out]; have := HRj.out; omega)
                have HC7 : Hid (Chg X w5 w7) := hide (HC1.out.trans hc7)
                have hXb : ¬ X wr.heap.size := HX5.out _ hwr
                have k0 := hc7.cell d0 hXb
                have k1 := hc7.cell d1 hXb
                obtain ⟨a7, c7, rfl, hs7, hf7⟩ := ho7.sl
                have HO7 : Hid (OwnK w7 w5.heap.size u8 L) := hide (HO1.out.chg hc7 HX5.out)
                have HF7 : Hid (FarJ w7 w5.heap.size u8 ⟨(xn : Int), a7, c7, l7⟩) := hide ⟨hs7, fun hne => by
                  obtain ⟨g, h1, h2, h3⟩ := hf7 hne
                  refine ⟨g, h1, by omega, h3, fun e => ?_⟩
                  have := (World.ownsRow.lt HOk.out.row g e).2
                  omega⟩
                have HD7 : Hid ((L ++ [(⟨(xn : Int), a7, c7, l7⟩ : JR)]).map JR.dat = (R.take (j + 1)).map (recD A.S B M)) := hide (by
                  rw [HSt.out, List.map_append, List.map_append, HDat.out, List.map_singleton, List.map_singleton, HRc.out]
                  congr 2
                  show ((xn : Int), l7) = _
                  congr 1
                  refine ext_getD (by simp [hl7]) (fun i hi => ?_)
                  rw [hg7 i (by omega)]
                  simp [show i < mn by omega])
                have Hl7 := hide hl7
                rw [hl7]
                have hb8 : Below w7.heap.size w7 (w7.alloc (.cells #[.int .i64 (xn : Int), .slice a7 mn c7] 125)) := (Below.refl _ _).alloc (Nat.le_refl _) _
                have HO8 := hide (HO7.out.below hb8)
                have HF8 : Hid (FarJ (w7.alloc (.cells #[.int .i64 (xn : Int), .slice a7 mn c7] 125)) w5.heap.size u8 ⟨(xn : Int), a7, c7, l7⟩) := hide ⟨HF7.out.1.below hb8, fun hne => by
                  obtain ⟨g, h1, h2, h3, h4⟩ := HF7.out.2 hne
                  exact ⟨g, h1, h2, Nat.lt_of_lt_of_le h3 hb8.size, h4⟩⟩
                have HN8 := hide (new2J w7 125 (.int .i64 (xn : Int)) (.slice a7 mn c7))
                have HT8 := hide (HT7.out.below hb8)
                have HC8 : Hid (Chg X w5 (w7.alloc (.cells #[.int .i64 (xn : Int), .slice a7 mn c7] 125))) := hide (HC7.out.alloc _)
                have hs8 : w5.heap.size ≤ (w7.alloc (.cells #[.int .i64 (xn : Int), .slice a7 mn c7] 125)).heap.size := HC8.out.size
                clear ht7 hc7 hk7 ho7 hg7 hs7 hf7 hb8 d0 d1 r0 r1 HGet hl7
                go_wp2_with (at_builtin; refine wpList_append_own_at _ rfl (.tmp 63) (.tmp 68) 90 rfl w5.heap.size 125 i1 (.agg #[.int .i64 0, .slice none 0 0]) 2 32 Tryz.underlying90 hi hz0 hz1 hz2 rfl (by decide) u8 L.length (L.flatMap JR.cells) rfl HO8.out.row ⟨w7.heap.size, 0, none⟩ 1 1 [.int .i64 (xn : Int), .slice a7 mn c7] rfl rfl HN8.out (by simp [Value.oneCell']) (by unfold maxLen; omega) (by omega) hs8 ?_; intro v9 w9 ho9 hg9 _ hw9; have HO9 := hide ho9; have HG9 := hide hg9; have HV9 := hide hw9; clear ho9 hg9 hw9)
                have hok9 : OwnK w9 w5.heap.size v9 (L ++ [⟨(xn : Int), a7, c7, l7⟩]) := HO8.out.append HF8.out (by
                  have h := HO9.out
                  rw [show (JR.cells ⟨(xn : Int), a7, c7, l7⟩) = [.int .i64 (xn : Int), .slice a7 mn c7] by unfold JR.cells; simp only; rw [Hl7.out]]
                  exact h) HG9.out HV9.out
                have hnX : ∀ i, i < w5.heap.size → some i ≠ u8.ownBlock := fun i hi e => by have := (World.ownsRow.lt HO8.out.row i e.symm).1; omega
                have hT5 : T < w5.heap.size ∧ J < w5.heap.size ∧ (∀ r, vb = .map (some r) ∨ vm = .map (some r) → r < w5.heap.size) := by
                  refine ⟨by have := HH.out.tx.lt; have := Hw5.out; omega, by have := HH.out.jr.lt; have := Hw5.out; omega, fun r hr => ?_⟩
                  have : r < w.heap.size := hr.elim (fun e => (HH.out.ov.b.lt r e).1) (fun e => (HH.out.ov.m.lt r e).1)
                  have := Hw5.out
                  omega
                have hc9 := Chg.of_grown HG9.out
                have ht9 := HT8.out.chg hc9 (hnX T hT5.1) (hnX J hT5.2.1) (fun r hr => hnX r (hT5.2.2 r hr)) (fun i _ hXi => hnX i (by have := HXl.out i hXi; have := Hw5.out; omega))
                refine ⟨⟨j + 1, _, f7, by omega, by go_num, hok9, HD7.out, ht9, HR7.out, HC8.out.andThen hc9 (fun i hi e => absurd e (hnX i hi))⟩, by simp [intOf]; omega⟩
              · have Hfl : Hid (¬ rdR A.S R ≤ k) := hide (by have := HRm.out; rw [HRd2.out] at this; have := HRj.out; omega)
                have HT7 := hide ht7
                have HC7 : Hid (Chg X w w7) := hide (((Chg.of_below HB5.out).trans HC1.out).trans hc7)
                have Hk7 := hide hk7
                clear ht7 hc7 hk7 d0 d1 r0 r1 HGet
                go_wp2_with fail
                go_ret2
                exact ⟨⟨f7, _, _, HT7.out, fun h => absurd h Hfl.out, fun _ => by have := Hk7.out; omega, by omega⟩, HC7.out, Or.inr ⟨Hfl.out, rfl⟩⟩
            · obtain rfl : j = R.length := by omega
              have h1 := HDat.out
              have h2 := HTq.out
              have h3 := HRj.out
              rw [List.take_length] at h1 h2 h3
              have H1 := hide h1
              have H2 := hide h2
              have H3 := hide h3
              clear h1 h2 h3 hcx
              go_wp2_with fail
              go_ret2
              exact ⟨⟨f', _, _, H2.out, fun _ => rfl, fun h => absurd H3.out h, by omega⟩, (Chg.of_below HB5.out).trans HCx.out, Or.inl ⟨H3.out, _, L, rfl, HOk.out.mono Hw5.out, H1.out⟩⟩
    · go_simp
      have hbwD : Below w.heap.size w (wA.alloc (.cells #[.int .i64 0, .int .i64 0] 31)) := hbwA.alloc hbwA.size _
      have hpD := Blk.new wA #[.int .i64 0, .int .i64 0] 31
      have hlD : Below wA.heap.size wA (wA.alloc (.cells #[.int .i64 0, .int .i64 0] 31)) := (Below.refl _ _).alloc (Nat.le_refl _) _
      refine hK.out _ _ (show (fun u : World => u.cell? ⟨T, 0, none⟩ = some (.pointer (some ⟨J, 0, none⟩))) (wA.alloc (.cells #[.int .i64 0, .int .i64 0] 31)) from (hbwD.cell (p := ⟨T, 0, none⟩) hTl).trans hS0) (fun _ => ?_)
      clear hK K
      try simp only [Act.put, List.setIfInBounds_toArray, List.set_cons_zero, List.set_cons_succ]
      generalize hWD : wA.alloc (.cells #[.int .i64 0, .int .i64 0] 31) = wE at *
      refine wpAnyH_ready (rs := [6]) (by kernel_rfl) (by simp) ?_
      refine AllReadyH.cons (i := 6) rfl (fun K hK => ?_) AllReadyH.nil
      go_simp
      refine ((HWh wE hbwD).out).mono ?_
      rintro e9 wD ⟨rfl, hb6⟩
      have hbwD2 : Below w.heap.size w wD := hbwD.trans (hb6.mono hbwD.size)
      go_simp
      refine hK.out _ _ (show (fun u : World => u.cell? ⟨T, 0, none⟩ = some (.pointer (some ⟨J, 0, none⟩))) wD from (hbwD2.cell (p := ⟨T, 0, none⟩) hTl).trans hS0) (fun _ => ?_)
      clear hK K
      try simp only [Act.put, List.setIfInBounds_toArray, List.set_cons_zero, List.set_cons_succ]
      obtain ⟨PB, hPB⟩ : ∃ PB, PB = wA.heap.size := ⟨_, rfl⟩
      rw [← hPB] at hpD ⊢
      have hPw : w.heap.size ≤ PB := by have := hbwA.size; omega
      have hoD : OwnE wD w.heap.size vC R := (hoC'.below hlD).below hb6
      have hpD := hpD.below hb6
      have hbwD := hbwD2
      have hnC : ∀ g, vC.ownBlock = some g → g ≠ PB := fun g hg e => by have := (World.ownsRow.lt hoC' g hg).2; omega
      clear hWD hlD hPB hb6 hbA hoC hoC' hbwA hbwD2
      have sPB := hpD.lt
      refine any_take 8 (some 4) vC rfl rfl (by kernel_rfl) (by kernel_rfl) (by kernel_rfl) (fun _ _ _ h => h) (by rfl) (show (fun u : World => u.cell? ⟨T, 0, none⟩ = some (.pointer (some ⟨J, 0, none⟩))) wD from (hbwD.cell (p := ⟨T, 0, none⟩) hTl).trans hS0) ?_ ?_
      · intro u hSu
        go_simp
      simp only [Act.put, List.setIfInBounds_toArray, List.set_cons_zero, List.set_cons_succ]
      refine wpAnyH_ready (rs := [9]) (by kernel_rfl) (by simp) ?_
      refine AllReadyH.cons (i := 9) rfl (fun K hK => ?_) AllReadyH.nil
      have e0 := hpD.cell 0 _ rfl
      have e1 := hpD.cell 1 _ rfl
      have g0 := hpD.frozen 0
      have g1 := hpD.frozen 1
      have hbG : Below w.heap.size w ((wD.setCell ⟨PB, 0, none⟩ (.int .i64 p)).setCell ⟨PB, 1, none⟩ (.int .i64 q)) := (hbwD.setCell (p := ⟨PB, 0, none⟩) hPw _).setCell (p := ⟨PB, 1, none⟩) hPw _
      have hpG : Blk ((wD.setCell ⟨PB, 0, none⟩ (.int .i64 p)).setCell ⟨PB, 1, none⟩ (.int .i64 q)) PB #[.int .i64 p, .int .i64 q] 31 := (hpD.set 0 (.int .i64 p)).set 1 (.int .i64 q)
      have hoG : OwnE ((wD.setCell ⟨PB, 0, none⟩ (.int .i64 p)).setCell ⟨PB, 1, none⟩ (.int .i64 q)) w.heap.size vC R := ownsRow_chg hoD (((Chg.refl (fun i => i = PB) wD).setCell PB 0 _ (fun _ => rfl)).setCell PB 1 _ (fun _ => rfl)) (fun g hg e => hnC g hg e)
      have hSG := (hbG.cell (p := ⟨T, 0, none⟩) hTl).trans hS0
      go_simp
      refine hK.out _ _ hSG (fun _ => ?_)
      clear hK K
      try simp only [Act.put, List.setIfInBounds_toArray, List.set_cons_zero, List.set_cons_succ]
      refine wpAnyH_done (by kernel_rfl) ?_ _
      generalize (wD.setCell ⟨PB, 0, none⟩ (.int .i64 p)).setCell ⟨PB, 1, none⟩ (.int .i64 q) = wG at *
      clear e0 e1 g0 g1 hoD hpD hbwD hnC sPB hSG HCh HWh hS0 hd0
      obtain ⟨aC, cC, rfl, hlC, _, hcmC, hbC⟩ := hoG.form
      have HlC := hide hlC
      have HbG := hide hbG
      have HpG := hide hpG
      have HbC := hide hbC
      clear hlC hbG hpG hoG hbC
      apply_assumption
      go_wp2_with fail
      go_loopw [22] (fun i wr => ∃ j : Nat, j ≤ R.length ∧ i = .int .i64 (j : Int) ∧ Below wG.heap.size wG wr) (fun i _ => R.length - (intOf i).toNat)
      case atStart => exact ⟨0, by omega, rfl, Below.refl _ _⟩
      case round =>
        obtain ⟨j, hj, rfl, hb⟩ := hrel
        have HB := hide hb
        by_cases hlt : j < R.length
        · rcases HlC.out with hnil | ⟨b, off, rfl, hblt, hc⟩
          · rw [hnil] at hlt; simp at hlt
          have r0 := (hb.cell (p := ⟨b, off + j * 2, none⟩) hblt).trans (hc j hlt).1
          have r1 := (hb.cell (p := ⟨b, off + j * 2 + 1, none⟩) hblt).trans (hc j hlt).2
          have hmem : R.getD j (0, 0) ∈ R := by simp [hlt]
          have hbd := HBd.out _ hmem
          have hnr := HNo.out _ hmem
          generalize R.getD j (0, 0) = r at *
          obtain ⟨x, y⟩ := r
          dsimp only at *
          obtain ⟨d0, d1⟩ := box2X wr 31 (.int .i64 x) (.int .i64 y)
          have hb1 : Below wG.heap.size wG (wr.alloc (.cells #[.int .i64 x, .int .i64 y] 31)) := hb.alloc hb.size _
          have HXB := hide hb1
          have s0 := (HpG.out.below hb1).cell 0 _ rfl
          have s1 := (HpG.out.below hb1).cell 1 _ rfl
          clear hc hb hb1 hmem
          by_cases hxq : x < (q : Int)
          · have hpy : ¬ (p : Int) < y := fun e => hnr ⟨hxq, e⟩
            clear hnr
            go_wp2_with fail
            exact ⟨⟨j + 1, by omega, by go_num, HXB.out⟩, by simp [intOf]; omega⟩
          · clear hnr
            go_wp2_with fail
            exact ⟨⟨j + 1, by omega, by go_num, HXB.out⟩, by simp [intOf]; omega⟩
        · obtain rfl : j = R.length := by omega
          obtain ⟨w5, hw5⟩ : ∃ w5, w5 = wr := ⟨_, rfl⟩
          subst hw5
          have HB5 : Hid (Below w.heap.size w w5) := hide (HbG.out.trans (HB.out.mono HbG.out.size))
          have HL5 := hide (HlC.out.below hb)
          obtain ⟨i1, hi, hz0, hz1, hz2⟩ := info_parts info_rec
          have hmk : (Instr.makeSlice 90 (.int .i64 0) (.int .i64 (R.length : Int))).run Tryz.prog w5 = .ok (.slice (some ⟨w5.heap.size, 0, none⟩) 0 R.length) (w5.alloc (.cells (madeCells #[.int .i64 0, .slice none 0 0] (R.length * 2)) 125)) := by
            have h := run_make (P := Tryz.prog) w5 90 125 i1 (.agg #[.int .i64 0, .slice none 0 0]) Tryz.underlying90 hi hz0 .i64 .i64 0 (R.length : Int) (by omega) (by omega) (by rw [hz2]; omega) (by omega)
            simpa [hz1, Value.cells] using h
          have HO0 : Hid (OwnK (w5.alloc (.cells (madeCells #[.int .i64 0, .slice none 0 0] (R.length * 2)) 125)) w5.heap.size (.slice (some ⟨w5.heap.size, 0, none⟩) 0 R.length) []) := hide ⟨World.ownsRow_made w5 _ R.length (Nat.le_refl _) (by unfold maxLen; omega) (size_madeCells _ _), fun r hr => by cases hr⟩
          have hb0 := (Below.refl w5.heap.size w5).alloc (Nat.le_refl _) (.cells (madeCells #[.int .i64 0, .slice none 0 0] (R.length * 2)) 125)
          have HB0 := hide hb0
          clear hb hb0
          generalize w5.alloc (.cells (madeCells #[.int .i64 0, .slice none 0 0] (R.length * 2)) 125) = w6 at *
          go_wp2_with fail
          clear hmk
          have HX5 : Hid (∀ i, w5.heap.size ≤ i → ¬ X i) := hide (fun i hi e => by have := HXl.out i e; have := HB5.out.size; omega)
          have Hw5 : Hid (w.heap.size ≤ w5.heap.size) := hide HB5.out.size
          have HbL : Hid (∀ x, aC = some x → w.heap.size ≤ x.block ∧ x.block < w5.heap.size) := hide (fun x hx => ⟨(HbC.out x hx).1, Nat.lt_of_lt_of_le (HbC.out x hx).2.1 HB.out.size⟩)
          go_loopw [8, 44] (fun v i wr => ∃ (j : Nat) (L : List JR) (f' : Fs), j ≤ R.length ∧ i = .int .i64 (j : Int) ∧ OwnK wr w5.heap.size v L ∧ L.map JR.dat = (R.take j).map (recD A.S B M) ∧ Txq wr T J F X f' A (k - rdR A.S (R.take j)) (n + j) vb vm va B M p q nu ∧ rdR A.S (R.take j) ≤ k ∧ Chg X w5 wr) (fun _ i _ => R.length - (intOf i).toNat)
          case atStart => exact ⟨0, [], f, by omega, rfl, HO0.out, rfl, by simpa [rdR] using (HH.out.below HB5.out).below HB0.out, by simp [rdR], Chg.of_below HB0.out⟩
          case round =>
            obtain ⟨j, L, f', hj, rfl, hok, hdat, htq, hrj, hcx⟩ := hrel
            have HOk := hide hok
            have HDat := hide hdat
            have HTq := hide htq
            have HRj := hide hrj
            have HCx := hide hcx
            have hLl : L.length = j := by have := congrArg List.length hdat; rw [List.length_map, List.length_map, List.length_take] at this; omega
            clear hok hdat htq hrj
            by_cases hlt : j < R.length
            · rcases HL5.out with hnil | ⟨b, off, rfl, hblt, hc⟩
              · rw [hnil] at hlt; simp at hlt
              have hbX : ¬ X b := fun e => by
                have h8 : b < w.heap.size := HXl.out b e
                have h9 : w.heap.size ≤ b := (HbL.out _ rfl).1
                omega
              have r0 := hcx.cell (hc j hlt).1 hbX
              have r1 := hcx.cell (hc j hlt).2 hbX
              have hst : R.take (j + 1) = R.take j ++ [R.getD j (0, 0)] := by
                have e : R.getD j (0, 0) = R[j] := by simp [hlt]
                rw [List.take_succ_eq_append_getElem hlt, e]
              have hmem : R.getD j (0, 0) ∈ R := by simp [hlt]
              have hbd := HBd.out _ hmem
              have HRd := hide (rdR_snoc A.S (R.take j) (R.getD j (0, 0)))
              have HRm := hide (rdR_mono A.S R (j + 1))
              have HSt := hide hst
              rw [hst] at HRm
              generalize R.getD j (0, 0) = r at *
              obtain ⟨x, y⟩ := r
              dsimp only at *
              obtain ⟨xn, rfl⟩ := Int.eq_ofNat_of_zero_le hbd.1
              obtain ⟨mn, hmn⟩ : ∃ mn : Nat, y = (xn : Int) + mn := ⟨(y - xn).toNat, by omega⟩
              subst hmn
              have e1 : ((xn : Int) + (mn : Int) - (xn : Int)) = (mn : Int) := by omega
              have HRd2 : Hid (rdR A.S (R.take j ++ [((xn : Int), (xn : Int) + mn)]) = rdR A.S (R.take j) + rdc A.S xn mn) := hide (by rw [HRd.out, e1]; simp)
              have HRc : Hid (recD A.S B M ((xn : Int), (xn : Int) + mn) = ((xn : Int), (List.range mn).map (fun i => seeT A.S B M (xn + i)))) := hide (by unfold recD; simp only; rw [e1]; simp)
              obtain ⟨d0, d1⟩ := box2X wr 31 (.int .i64 (xn : Int)) (.int .i64 ((xn : Int) + mn))
              have hb1 : Below wr.heap.size wr (wr.alloc (.cells #[.int .i64 (xn : Int), .int .i64 ((xn : Int) + mn)] 31)) := (Below.refl _ _).alloc (Nat.le_refl _) _
              have HGet := hide (get_q _ T J F X f' A _ _ vb vm va B M p q nu (HTq.out.below hb1) (by omega) xn mn (by omega))
              have HO1 := hide (HOk.out.below hb1)
              have HC1 : Hid (Chg X w5 (wr.alloc (.cells #[.int .i64 (xn : Int), .int .i64 ((xn : Int) + mn)] 31))) := hide (hcx.alloc _)
              have hsz1 : (wr.alloc (.cells #[.int .i64 (xn : Int), .int .i64 ((xn : Int) + mn)] 31)).heap.size = wr.heap.size + 1 := by simp
              have hwr := hcx.size
              have d0' := d0
              clear hc hcx hb1 hmem hst HRd HTq
              go_wp2_with fail
              refine HGet.out.mono ?_
              rintro e9 w7 ⟨⟨f7, ht7⟩, hc7, ⟨hk7, v7, l7, rfl, ho7, hl7, hg7⟩ | ⟨hk7, rfl⟩⟩
              · have HT7 : Hid (Txq w7 T J F X f7 A (k - rdR A.S (R.take (j + 1))) (n + (j + 1)) vb vm va B M p q nu) := hide (by
                  rw [HSt.out, HRd2.out, Nat.sub_add_eq]
                  exact ht7)
                have HR7 : Hid (rdR A.S (R.take (j + 1)) ≤ k) := hide (by rw [HSt.out, HRd2.out]; have := HRj.out; omega)
                have HC7 : Hid (Chg X w5 w7) := hide (HC1.out.trans hc7)
                have hXb : ¬ X wr.heap.size := HX5.out _ hwr
                have k0 := hc7.cell d0 hXb
                have k1 := hc7.cell d1 hXb
                obtain ⟨a7, c7, rfl, hs7, hf7⟩ := ho7.sl
                have HO7 : Hid (OwnK w7 w5.heap.size u8 L) := hide (HO1.out.chg hc7 HX5.out)
                have HF7 : Hid (FarJ w7 w5.heap.size u8 ⟨(xn : Int), a7, c7, l7⟩) := hide ⟨hs7, fun hne => by
                  obtain ⟨g, h1, h2, h3⟩ := hf7 hne
                  refine ⟨g, h1, by omega, h3, fun e => ?_⟩
                  have := (World.ownsRow.lt HOk.out.row g e).2
                  omega⟩
                have HD7 : Hid ((L ++ [(⟨(xn : Int), a7, c7, l7⟩ : JR)]).map JR.dat = (R.take (j + 1)).map (recD A.S B M)) := hide (by
                  rw [HSt.out, List.map_append, List.map_append, HDat.out, List.map_singleton, List.map_singleton, HRc.out]
                  congr 2
                  show ((xn : Int), l7) = _
                  congr 1
                  refine ext_getD (by simp [hl7]) (fun i hi => ?_)
                  rw [hg7 i (by omega)]
                  simp [show i < mn by omega])
                have Hl7 := hide hl7
                rw [hl7]
                have hb8 : Below w7.heap.size w7 (w7.alloc (.cells #[.int .i64 (xn : Int), .slice a7 mn c7] 125)) := (Below.refl _ _).alloc (Nat.le_refl _) _
                have HO8 := hide (HO7.out.below hb8)
                have HF8 : Hid (FarJ (w7.alloc (.cells #[.int .i64 (xn : Int), .slice a7 mn c7] 125)) w5.heap.size u8 ⟨(xn : Int), a7, c7, l7⟩) := hide ⟨HF7.out.1.below hb8, fun hne => by
                  obtain ⟨g, h1, h2, h3, h4⟩ := HF7.out.2 hne
                  exact ⟨g, h1, h2, Nat.lt_of_lt_of_le h3 hb8.size, h4⟩⟩
                have HN8 := hide (new2J w7 125 (.int .i64 (xn : Int)) (.slice a7 mn c7))
                have HT8 := hide (HT7.out.below hb8)
                have HC8 : Hid (Chg X w5 (w7.alloc (.cells #[.int .i64 (xn : Int), .slice a7 mn c7] 125))) := hide (HC7.out.alloc _)
                have hs8 : w5.heap.size ≤ (w7.alloc (.cells #[.int .i64 (xn : Int), .slice a7 mn c7] 125)).heap.size := HC8.out.size
                clear ht7 hc7 hk7 ho7 hg7 hs7 hf7 hb8 d0 d1 r0 r1 HGet hl7
                go_wp2_with (at_builtin; refine wpList_append_own_at _ rfl (.tmp 63) (.tmp 68) 90 rfl w5.heap.size 125 i1 (.agg #[.int .i64 0, .slice none 0 0]) 2 32 Tryz.underlying90 hi hz0 hz1 hz2 rfl (by decide) u8 L.length (L.flatMap JR.cells) rfl HO8.out.row ⟨w7.heap.size, 0, none⟩ 1 1 [.int .i64 (xn : Int), .slice a7 mn c7] rfl rfl HN8.out (by simp [Value.oneCell']) (by unfold maxLen; omega) (by omega) hs8 ?_; intro v9 w9 ho9 hg9 _ hw9; have HO9 := hide ho9; have HG9 := hide hg9; have HV9 := hide hw9; clear ho9 hg9 hw9)
                have hok9 : OwnK w9 w5.heap.size v9 (L ++ [⟨(xn : Int), a7, c7, l7⟩]) := HO8.out.append HF8.out (by
                  have h := HO9.out
                  rw [show (JR.cells ⟨(xn : Int), a7, c7, l7⟩) = [.int .i64 (xn : Int), .slice a7 mn c7] by unfold JR.cells; simp only; rw [Hl7.out]]
                  exact h) HG9.out HV9.out
                have hnX : ∀ i, i < w5.heap.size → some i ≠ u8.ownBlock := fun i hi e => by have := (World.ownsRow.lt HO8.out.row i e.symm).1; omega
                have hT5 : T < w5.heap.size ∧ J < w5.heap.size ∧ (∀ r, vb = .map (some r) ∨ vm = .map (some r) → r < w5.heap.size) := by
                  refine ⟨by have := HH.out.tx.lt; have := Hw5.out; omega, by have := HH.out.jr.lt; have := Hw5.out; omega, fun r hr => ?_⟩
                  have : r < w.heap.size := hr.elim (fun e => (HH.out.ov.b.lt r e).1) (fun e => (HH.out.ov.m.lt r e).1)
                  have := Hw5.out
                  omega
                have hc9 := Chg.of_grown HG9.out
                have ht9 := HT8.out.chg hc9 (hnX T hT5.1) (hnX J hT5.2.1) (fun r hr => hnX r (hT5.2.2 r hr)) (fun i _ hXi => hnX i (by have := HXl.out i hXi; have := Hw5.out; omega))
                refine ⟨⟨j + 1, _, f7, by omega, by go_num, hok9, HD7.out, ht9, HR7.out, HC8.out.andThen hc9 (fun i hi e => absurd e (hnX i hi))⟩, by simp [intOf]; omega⟩
              · have Hfl : Hid (¬ rdR A.S R ≤ k) := hide (by have := HRm.out; rw [HRd2.out] at this; have := HRj.out; omega)
                have HT7 := hide ht7
                have HC7 : Hid (Chg X w w7) := hide (((Chg.of_below HB5.out).trans HC1.out).trans hc7)
                have Hk7 := hide hk7
                clear ht7 hc7 hk7 d0 d1 r0 r1 HGet
                go_wp2_with fail
                go_ret2
                exact ⟨⟨f7, _, _, HT7.out, fun h => absurd h Hfl.out, fun _ => by have := Hk7.out; omega, by omega⟩, HC7.out, Or.inr ⟨Hfl.out, rfl⟩⟩
            · obtain rfl : j = R.length := by omega
              have h1 := HDat.out
              have h2 := HTq.out
              have h3 := HRj.out
              rw [List.take_length] at h1 h2 h3
              have H1 := hide h1
              have H2 := hide h2
              have H3 := hide h3
              clear h1 h2 h3 hcx
              go_wp2_with fail
              go_ret2
              exact ⟨⟨f', _, _, H2.out, fun _ => rfl, fun h => absurd H3.out h, by omega⟩, (Chg.of_below HB5.out).trans HCx.out, Or.inl ⟨H3.out, _, L, rfl, HOk.out.mono Hw5.out, H1.out⟩⟩
  · go_simp
    have hbwE : Below w.heap.size w (w.alloc (.cells #[.int .i64 0, .int .i64 0] 31)).drew := ((Below.refl _ _).alloc (Nat.le_refl _) _).drew
    have hpE : Blk (w.alloc (.cells #[.int .i64 0, .int .i64 0] 31)).drew w.heap.size #[.int .i64 0, .int .i64 0] 31 := (Blk.new w #[.int .i64 0, .int .i64 0] 31).drew
    have hPw : w.heap.size ≤ w.heap.size := Nat.le_refl _
    refine hK.out _ _ (show (fun u : World => u.cell? ⟨T, 0, none⟩ = some (.pointer (some ⟨J, 0, none⟩))) (w.alloc (.cells #[.int .i64 0, .int .i64 0] 31)).drew from (hbwE.cell (p := ⟨T, 0, none⟩) hTl).trans hS0) (fun _ => ?_)
    clear hK K
    try simp only [Act.put, List.setIfInBounds_toArray, List.set_cons_zero, List.set_cons_succ]
    refine wpAnyH_ready (rs := [1]) (by kernel_rfl) (by simp) ?_
    refine AllReadyH.cons (i := 1) rfl (fun K hK => ?_) AllReadyH.nil
    go_simp
    refine ((HCh _ hbwE).out).mono ?_
    rintro e9 wA ⟨vC, rfl, hoC, hbA⟩
    have hbwA : Below w.heap.size w wA := hbwE.trans (hbA.mono hbwE.size)
    have hoC' : OwnE wA w.heap.size vC R := OwnE.monoX hoC hbwE.size
    go_simp
    refine hK.out _ _ (show (fun u : World => u.cell? ⟨T, 0, none⟩ = some (.pointer (some ⟨J, 0, none⟩))) wA from (hbwA.cell (p := ⟨T, 0, none⟩) hTl).trans hS0) (fun _ => ?_)
    clear hK K
    try simp only [Act.put, List.setIfInBounds_toArray, List.set_cons_zero, List.set_cons_succ]
    refine wpAnyH_ready (rs := [6]) (by kernel_rfl) (by simp) ?_
    refine AllReadyH.cons (i := 6) rfl (fun K hK => ?_) AllReadyH.nil
    go_simp
    refine ((HWh wA hbwA).out).mono ?_
    rintro e9 wD ⟨rfl, hb6⟩
    have hbwD : Below w.heap.size w wD := hbwA.trans (hb6.mono hbwA.size)
    go_simp
    refine hK.out _ _ (show (fun u : World => u.cell? ⟨T, 0, none⟩ = some (.pointer (some ⟨J, 0, none⟩))) wD from (hbwD.cell (p := ⟨T, 0, none⟩) hTl).trans hS0) (fun _ => ?_)
    clear hK K
    try simp only [Act.put, List.setIfInBounds_toArray, List.set_cons_zero, List.set_cons_succ]
    have hoD : OwnE wD w.heap.size vC R := hoC'.below hb6
    have hpD := (hpE.below hbA).below hb6
    have hsE : (w.alloc (.cells #[.int .i64 0, .int .i64 0] 31)).drew.heap.size = w.heap.size + 1 := by
      show (w.alloc (.cells #[.int .i64 0, .int .i64 0] 31)).heap.size = _
      simp
    have hnC : ∀ g, vC.ownBlock = some g → g ≠ w.heap.size := fun g hg e => by have h1 := (World.ownsRow.lt hoC g hg).1; omega
    clear hsE
    clear hb6 hbA hoC hoC' hbwA hbwE hpE
    have sPB := hpD.lt
    refine any_take 8 (some 4) vC rfl rfl (by kernel_rfl) (by kernel_rfl) (by kernel_rfl) (fun _ _ _ h => h) (by rfl) (show (fun u : World => u.cell? ⟨T, 0, none⟩ = some (.pointer (some ⟨J, 0, none⟩))) wD from (hbwD.cell (p := ⟨T, 0, none⟩) hTl).trans hS0) ?_ ?_
    · intro u hSu
      go_simp
    simp only [Act.put, List.setIfInBounds_toArray, List.set_cons_zero, List.set_cons_succ]
    refine wpAnyH_ready (rs := [9]) (by kernel_rfl) (by simp) ?_
    refine AllReadyH.cons (i := 9) rfl (fun K hK => ?_) AllReadyH.nil
    have e0 := hpD.cell 0 _ rfl
    have e1 := hpD.cell 1 _ rfl
    have g0 := hpD.frozen 0
    have g1 := hpD.frozen 1
    have hbG : Below w.heap.size w ((wD.setCell ⟨w.heap.size, 0, none⟩ (.int .i64 p)).setCell ⟨w.heap.size, 1, none⟩ (.int .i64 q)) := (hbwD.setCell (p := ⟨w.heap.size, 0, none⟩) hPw _).setCell (p := ⟨w.heap.size, 1, none⟩) hPw _
    have hpG : Blk ((wD.setCell ⟨w.heap.size, 0, none⟩ (.int .i64 p)).setCell ⟨w.heap.size, 1, none⟩ (.int .i64 q)) w.heap.size #[.int .i64 p, .int .i64 q] 31 := (hpD.set 0 (.int .i64 p)).set 1 (.int .i64 q)
    have hoG : OwnE ((wD.setCell ⟨w.heap.size, 0, none⟩ (.int .i64 p)).setCell ⟨w.heap.size, 1, none⟩ (.int .i64 q)) w.heap.size vC R := ownsRow_chg hoD (((Chg.refl (fun i => i = w.heap.size) wD).setCell w.heap.size 0 _ (fun _ => rfl)).setCell w.heap.size 1 _ (fun _ => rfl)) (fun g hg e => hnC g hg e)
    have hSG := (hbG.cell (p := ⟨T, 0, none⟩) hTl).trans hS0
    go_simp
    refine hK.out _ _ hSG (fun _ => ?_)
    clear hK K
    try simp only [Act.put, List.setIfInBounds_toArray, List.set_cons_zero, List.set_cons_succ]
    refine wpAnyH_done (by kernel_rfl) ?_ _
    generalize (wD.setCell ⟨w.heap.size, 0, none⟩ (.int .i64 p)).setCell ⟨w.heap.size, 1, none⟩ (.int .i64 q) = wG at *
    clear e0 e1 g0 g1 hoD hpD hbwD hnC sPB hSG HCh HWh hS0 hd0
    obtain ⟨aC, cC, rfl, hlC, _, hcmC, hbC⟩ := hoG.form
    have HlC := hide hlC
    have HbG := hide hbG
    have HpG := hide hpG
    have HbC := hide hbC
    clear hlC hbG hpG hoG hbC
    apply_assumption
    go_wp2_with fail
    go_loopw [22] (fun i wr => ∃ j : Nat, j ≤ R.length ∧ i = .int .i64 (j : Int) ∧ Below wG.heap.size wG wr) (fun i _ => R.length - (intOf i).toNat)
    case atStart => exact ⟨0, by omega, rfl, Below.refl _ _⟩
    case round =>
      obtain ⟨j, hj, rfl, hb⟩ := hrel
      have HB := hide hb
      by_cases hlt : j < R.length
      · rcases HlC.out with hnil | ⟨b, off, rfl, hblt, hc⟩
        · rw [hnil] at hlt; simp at hlt
        have r0 := (hb.cell (p := ⟨b, off + j * 2, none⟩) hblt).trans (hc j hlt).1
        have r1 := (hb.cell (p := ⟨b, off + j * 2 + 1, none⟩) hblt).trans (hc j hlt).2
        have hmem : R.getD j (0, 0) ∈ R := by simp [hlt]
        have hbd := HBd.out _ hmem
        have hnr := HNo.out _ hmem
        generalize R.getD j (0, 0) = r at *
        obtain ⟨x, y⟩ := r
        dsimp only at *
        obtain ⟨d0, d1⟩ := box2X wr 31 (.int .i64 x) (.int .i64 y)
        have hb1 : Below wG.heap.size wG (wr.alloc (.cells #[.int .i64 x, .int .i64 y] 31)) := hb.alloc hb.size _
        have HXB := hide hb1
        have s0 := (HpG.out.below hb1).cell 0 _ rfl
        have s1 := (HpG.out.below hb1).cell 1 _ rfl
        clear hc hb hb1 hmem
        by_cases hxq : x < (q : Int)
        · have hpy : ¬ (p : Int) < y := fun e => hnr ⟨hxq, e⟩
          clear hnr
          go_wp2_with fail
          exact ⟨⟨j + 1, by omega, by go_num, HXB.out⟩, by simp [intOf]; omega⟩
        · clear hnr
          go_wp2_with fail
          exact ⟨⟨j + 1, by omega, by go_num, HXB.out⟩, by simp [intOf]; omega⟩
      · obtain rfl : j = R.length := by omega
        obtain ⟨w5, hw5⟩ : ∃ w5, w5 = wr := ⟨_, rfl⟩
        subst hw5
        have HB5 : Hid (Below w.heap.size w w5) := hide (HbG.out.trans (HB.out.mono HbG.out.size))
        have HL5 := hide (HlC.out.below hb)
        obtain ⟨i1, hi, hz0, hz1, hz2⟩ := info_parts info_rec
        have hmk : (Instr.makeSlice 90 (.int .i64 0) (.int .i64 (R.length : Int))).run Tryz.prog w5 = .ok (.slice (some ⟨w5.heap.size, 0, none⟩) 0 R.length) (w5.alloc (.cells (madeCells #[.int .i64 0, .slice none 0 0] (R.length * 2)) 125)) := by
          have h := run_make (P := Tryz.prog) w5 90 125 i1 (.agg #[.int .i64 0, .slice none 0 0]) Tryz.underlying90 hi hz0 .i64 .i64 0 (R.length : Int) (by omega) (by omega) (by rw [hz2]; omega) (by omega)
          simpa [hz1, Value.cells] using h
        have HO0 : Hid (OwnK (w5.alloc (.cells (madeCells #[.int .i64 0, .slice none 0 0] (R.length * 2)) 125)) w5.heap.size (.slice (some ⟨w5.heap.size, 0, none⟩) 0 R.length) []) := hide ⟨World.ownsRow_made w5 _ R.length (Nat.le_refl _) (by unfold maxLen; omega) (size_madeCells _ _), fun r hr => by cases hr⟩
        have hb0 := (Below.refl w5.heap.size w5).alloc (Nat.le_refl _) (.cells (madeCells #[.int .i64 0, .slice none 0 0] (R.length * 2)) 125)
        have HB0 := hide hb0
        clear hb hb0
        generalize w5.alloc (.cells (madeCells #[.int .i64 0, .slice none 0 0] (R.length * 2)) 125) = w6 at *
        go_wp2_with fail
        clear hmk
        have HX5 : Hid (∀ i, w5.heap.size ≤ i → ¬ X i) := hide (fun i hi e => by have := HXl.out i e; have := HB5.out.size; omega)
        have Hw5 : Hid (w.heap.size ≤ w5.heap.size) := hide HB5.out.size
        have HbL : Hid (∀ x, aC = some x → w.heap.size ≤ x.block ∧ x.block < w5.heap.size) := hide (fun x hx => ⟨(HbC.out x hx).1, Nat.lt_of_lt_of_le (HbC.out x hx).2.1 HB.out.size⟩)
        go_loopw [8, 44] (fun v i wr => ∃ (j : Nat) (L : List JR) (f' : Fs), j ≤ R.length ∧ i = .int .i64 (j : Int) ∧ OwnK wr w5.heap.size v L ∧ L.map JR.dat = (R.take j).map (recD A.S B M) ∧ Txq wr T J F X f' A (k - rdR A.S (R.take j)) (n + j) vb vm va B M p q nu ∧ rdR A.S (R.take j) ≤ k ∧ Chg X w5 wr) (fun _ i _ => R.length - (intOf i).toNat)
        case atStart => exact ⟨0, [], f, by omega, rfl, HO0.out, rfl, by simpa [rdR] using (HH.out.below HB5.out).below HB0.out, by simp [rdR], Chg.of_below HB0.out⟩
        case round =>
          obtain ⟨j, L, f', hj, rfl, hok, hdat, htq, hrj, hcx⟩ := hrel
          have HOk := hide hok
          have HDat := hide hdat
          have HTq := hide htq
          have HRj := hide hrj
          have HCx := hide hcx
          have hLl : L.length = j := by have := congrArg List.length hdat; rw [List.length_map, List.length_map, List.length_take] at this; omega
          clear hok hdat htq hrj
          by_cases hlt : j < R.length
          · rcases HL5.out with hnil | ⟨b, off, rfl, hblt, hc⟩
            · rw [hnil] at hlt; simp at hlt
            have hbX : ¬ X b := fun e => by
              have h8 : b < w.heap.size := HXl.out b e
              have h9 : w.heap.size ≤ b := (HbL.out _ rfl).1
              omega
            have r0 := hcx.cell (hc j hlt).1 hbX
            have r1 := hcx.cell (hc j hlt).2 hbX
            have hst : R.take (j + 1) = R.take j ++ [R.getD j (0, 0)] := by
              have e : R.getD j (0, 0) = R[j] := by simp [hlt]
              rw [List.take_succ_eq_append_getElem hlt, e]
            have hmem : R.getD j (0, 0) ∈ R := by simp [hlt]
            have hbd := HBd.out _ hmem
            have HRd := hide (rdR_snoc A.S (R.take j) (R.getD j (0, 0)))
            have HRm := hide (rdR_mono A.S R (j + 1))
            have HSt := hide hst
            rw [hst] at HRm
            generalize R.getD j (0, 0) = r at *
            obtain ⟨x, y⟩ := r
            dsimp only at *
            obtain ⟨xn, rfl⟩ := Int.eq_ofNat_of_zero_le hbd.1
            obtain ⟨mn, hmn⟩ : ∃ mn : Nat, y = (xn : Int) + mn := ⟨(y - xn).toNat, by omega⟩
            subst hmn
            have e1 : ((xn : Int) + (mn : Int) - (xn : Int)) = (mn : Int) := by omega
            have HRd2 : Hid (rdR A.S (R.take j ++ [((xn : Int), (xn : Int) + mn)]) = rdR A.S (R.take j) + rdc A.S xn mn) := hide (by rw [HRd.out, e1]; simp)
            have HRc : Hid (recD A.S B M ((xn : Int), (xn : Int) + mn) = ((xn : Int), (List.range mn).map (fun i => seeT A.S B M (xn + i)))) := hide (by unfold recD; simp only; rw [e1]; simp)
            obtain ⟨d0, d1⟩ := box2X wr 31 (.int .i64 (xn : Int)) (.int .i64 ((xn : Int) + mn))
            have hb1 : Below wr.heap.size wr (wr.alloc (.cells #[.int .i64 (xn : Int), .int .i64 ((xn : Int) + mn)] 31)) := (Below.refl _ _).alloc (Nat.le_refl _) _
            have HGet := hide (get_q _ T J F X f' A _ _ vb vm va B M p q nu (HTq.out.below hb1) (by omega) xn mn (by omega))
            have HO1 := hide (HOk.out.below hb1)
            have HC1 : Hid (Chg X w5 (wr.alloc (.cells #[.int .i64 (xn : Int), .int .i64 ((xn : Int) + mn)] 31))) := hide (hcx.alloc _)
            have hsz1 : (wr.alloc (.cells #[.int .i64 (xn : Int), .int .i64 ((xn : Int) + mn)] 31)).heap.size = wr.heap.size + 1 := by simp
            have hwr := hcx.size
            have d0' := d0
            clear hc hcx hb1 hmem hst HRd HTq
            go_wp2_with fail
            refine HGet.out.mono ?_
            rintro e9 w7 ⟨⟨f7, ht7⟩, hc7, ⟨hk7, v7, l7, rfl, ho7, hl7, hg7⟩ | ⟨hk7, rfl⟩⟩
            · have HT7 : Hid (Txq w7 T J F X f7 A (k - rdR A.S (R.take (j + 1))) (n + (j + 1)) vb vm va B M p q nu) := hide (by
                rw [HSt.out, HRd2.out, Nat.sub_add_eq]
                exact ht7)
              have HR7 : Hid (rdR A.S (R.take (j + 1)) ≤ k) := hide (by rw [HSt.out, HRd2.out]; have := HRj.out; omega)
              have HC7 : Hid (Chg X w5 w7) := hide (HC1.out.trans hc7)
              have hXb : ¬ X wr.heap.size := HX5.out _ hwr
              have k0 := hc7.cell d0 hXb
              have k1 := hc7.cell d1 hXb
              obtain ⟨a7, c7, rfl, hs7, hf7⟩ := ho7.sl
              have HO7 : Hid (OwnK w7 w5.heap.size u8 L) := hide (HO1.out.chg hc7 HX5.out)
              have HF7 : Hid (FarJ w7 w5.heap.size u8 ⟨(xn : Int), a7, c7, l7⟩) := hide ⟨hs7, fun hne => by
                obtain ⟨g, h1, h2, h3⟩ := hf7 hne
                refine ⟨g, h1, by omega, h3, fun e => ?_⟩
                have := (World.ownsRow.lt HOk.out.row g e).2
                omega⟩
              have HD7 : Hid ((L ++ [(⟨(xn : Int), a7, c7, l7⟩ : JR)]).map JR.dat = (R.take (j + 1)).map (recD A.S B M)) := hide (by
                rw [HSt.out, List.map_append, List.map_append, HDat.out, List.map_singleton, List.map_singleton, HRc.out]
                congr 2
                show ((xn : Int), l7) = _
                congr 1
                refine ext_getD (by simp [hl7]) (fun i hi => ?_)
                rw [hg7 i (by omega)]
                simp [show i < mn by omega])
              have Hl7 := hide hl7
              rw [hl7]
              have hb8 : Below w7.heap.size w7 (w7.alloc (.cells #[.int .i64 (xn : Int), .slice a7 mn c7] 125)) := (Below.refl _ _).alloc (Nat.le_refl _) _
              have HO8 := hide (HO7.out.below hb8)
              have HF8 : Hid (FarJ (w7.alloc (.cells #[.int .i64 (xn : Int), .slice a7 mn c7] 125)) w5.heap.size u8 ⟨(xn : Int), a7, c7, l7⟩) := hide ⟨HF7.out.1.below hb8, fun hne => by
                obtain ⟨g, h1, h2, h3, h4⟩ := HF7.out.2 hne
                exact ⟨g, h1, h2, Nat.lt_of_lt_of_le h3 hb8.size, h4⟩⟩
              have HN8 := hide (new2J w7 125 (.int .i64 (xn : Int)) (.slice a7 mn c7))
              have HT8 := hide (HT7.out.below hb8)
              have HC8 : Hid (Chg X w5 (w7.alloc (.cells #[.int .i64 (xn : Int), .slice a7 mn c7] 125))) := hide (HC7.out.alloc _)
              have hs8 : w5.heap.size ≤ (w7.alloc (.cells #[.int .i64 (xn : Int), .slice a7 mn c7] 125)).heap.size := HC8.out.size
              clear ht7 hc7 hk7 ho7 hg7 hs7 hf7 hb8 d0 d1 r0 r1 HGet hl7
              go_wp2_with (at_builtin; refine wpList_append_own_at _ rfl (.tmp 63) (.tmp 68) 90 rfl w5.heap.size 125 i1 (.agg #[.int .i64 0, .slice none 0 0]) 2 32 Tryz.underlying90 hi hz0 hz1 hz2 rfl (by decide) u8 L.length (L.flatMap JR.cells) rfl HO8.out.row ⟨w7.heap.size, 0, none⟩ 1 1 [.int .i64 (xn : Int), .slice a7 mn c7] rfl rfl HN8.out (by simp [Value.oneCell']) (by unfold maxLen; omega) (by omega) hs8 ?_; intro v9 w9 ho9 hg9 _ hw9; have HO9 := hide ho9; have HG9 := hide hg9; have HV9 := hide hw9; clear ho9 hg9 hw9)
              have hok9 : OwnK w9 w5.heap.size v9 (L ++ [⟨(xn : Int), a7, c7, l7⟩]) := HO8.out.append HF8.out (by
                have h := HO9.out
                rw [show (JR.cells ⟨(xn : Int), a7, c7, l7⟩) = [.int .i64 (xn : Int), .slice a7 mn c7] by unfold JR.cells; simp only; rw [Hl7.out]]
                exact h) HG9.out HV9.out
              have hnX : ∀ i, i < w5.heap.size → some i ≠ u8.ownBlock := fun i hi e => by have := (World.ownsRow.lt HO8.out.row i e.symm).1; omega
              have hT5 : T < w5.heap.size ∧ J < w5.heap.size ∧ (∀ r, vb = .map (some r) ∨ vm = .map (some r) → r < w5.heap.size) := by
                refine ⟨by have := HH.out.tx.lt; have := Hw5.out; omega, by have := HH.out.jr.lt; have := Hw5.out; omega, fun r hr => ?_⟩
                have : r < w.heap.size := hr.elim (fun e => (HH.out.ov.b.lt r e).1) (fun e => (HH.out.ov.m.lt r e).1)
                have := Hw5.out
                omega
              have hc9 := Chg.of_grown HG9.out
              have ht9 := HT8.out.chg hc9 (hnX T hT5.1) (hnX J hT5.2.1) (fun r hr => hnX r (hT5.2.2 r hr)) (fun i _ hXi => hnX i (by have := HXl.out i hXi; have := Hw5.out; omega))
              refine ⟨⟨j + 1, _, f7, by omega, by go_num, hok9, HD7.out, ht9, HR7.out, HC8.out.andThen hc9 (fun i hi e => absurd e (hnX i hi))⟩, by simp [intOf]; omega⟩
            · have Hfl : Hid (¬ rdR A.S R ≤ k) := hide (by have := HRm.out; rw [HRd2.out] at this; have := HRj.out; omega)
              have HT7 := hide ht7
              have HC7 : Hid (Chg X w w7) := hide (((Chg.of_below HB5.out).trans HC1.out).trans hc7)
              have Hk7 := hide hk7
              clear ht7 hc7 hk7 d0 d1 r0 r1 HGet
              go_wp2_with fail
              go_ret2
              exact ⟨⟨f7, _, _, HT7.out, fun h => absurd h Hfl.out, fun _ => by have := Hk7.out; omega, by omega⟩, HC7.out, Or.inr ⟨Hfl.out, rfl⟩⟩
          · obtain rfl : j = R.length := by omega
            have h1 := HDat.out
            have h2 := HTq.out
            have h3 := HRj.out
            rw [List.take_length] at h1 h2 h3
            have H1 := hide h1
            have H2 := hide h2
            have H3 := hide h3
            clear h1 h2 h3 hcx
            go_wp2_with fail
            go_ret2
            exact ⟨⟨f', _, _, H2.out, fun _ => rfl, fun h => absurd H3.out h, by omega⟩, (Chg.of_below HB5.out).trans HCx.out, Or.inl ⟨H3.out, _, L, rfl, HOk.out.mono Hw5.out, H1.out⟩⟩
end Go.Proofs.YtibkhgmmjhlpmaaGreat.Oct
