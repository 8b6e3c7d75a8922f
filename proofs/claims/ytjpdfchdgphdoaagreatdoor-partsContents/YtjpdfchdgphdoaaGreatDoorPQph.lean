/- What every statement of parts asks for: the given disk's map (mapped). -/
import Derived.Test.YtjpdfchdgphdoaaGreatDoorPQpg
import Derived.Test.YtjpdfchdgphdoaaGreatDoorPSam
namespace Go.Proofs.YtjpdfchdgphdoaaGreatDoor.Oct
open Go.RowKit

theorem ready_valg {P : Program} {md : Region.Mode} {ops : Array Oper} {Q : Exit → Act → World → Prop} {S : World → Prop} {fuel : Nat} {listed : Array Bool} {a : Act} {w : World} (i : Nat) {oi : Oper} (dst : Option Tmp) (v : Value) (w' : World)
    (hr : Region.ready md ops listed = [i]) (hi : ops[i]? = some oi) (hw : Region.wanted oi (yielded ops a.tmps) = true) (hd : oi.dst = dst) (hrun : (execOp a.eval oi).run P w = .ok (.value v) w') (hS : S w')
    (h : wpAnyH P md ops Q S fuel (listed.setIfInBounds i true) (a.put dst v) w') : wpAnyH P md ops Q S (fuel + 1) listed a w := by
  refine wpAnyH_ready (rs := [i]) hr (by simp) ?_
  refine AllReadyH.cons (i := i) hi (fun K hK => ?_) AllReadyH.nil
  rw [if_pos hw]
  unfold Oper.wp
  rw [hrun]
  subst hd
  exact hK.out _ _ hS (fun _ => h)

theorem load_run {P : Program} (a : Act) (o : Oper) (ty : TypeId) (x : Operand) (g : Nat) (cs : Array Value) (t : TypeId) (d : TypeDesc) (ho : o.op = .load ty x) (hx : a.eval x = .pointer (some ⟨g, 0, none⟩)) (w : World) (hg : w.heap[g]? = some (.cells cs t (0, 0))) (hu : P.underlying ty = some d) (hd : (match d with | .struct _ | .array _ _ => true | _ => false) = true) (hi : (P.info? ty).map (·.size) = some cs.size) :
    (execOp a.eval o).run P w = .ok (.value (.agg cs)) w := by
  unfold execOp
  simp only [ho, hx, Instr.loadAt, Instr.sureAddr, Sem.run_bind, Sem.run_pure, Result.andThen_ok, run_loadVar_row w g t ty cs (0, 0) d hg hu hd hi]

theorem LiesE.new2 (w : World) (x1 x2 y1 y2 : Int) : LiesE (w.alloc (.cells #[.int .i64 x1, .int .i64 x2, .int .i64 y1, .int .i64 y2] 24)) (some ⟨w.heap.size, 0, none⟩) [(x1, x2), (y1, y2)] := by
  refine Or.inr ⟨w.heap.size, 0, rfl, by simp, fun k hk => ?_⟩
  have hn := Blk.new w #[.int .i64 x1, .int .i64 x2, .int .i64 y1, .int .i64 y2] 24
  have hk2 : k = 0 ∨ k = 1 := by simp at hk; omega
  rcases hk2 with rfl | rfl
  · exact ⟨hn.cell 0 _ rfl, hn.cell 1 _ rfl⟩
  · exact ⟨hn.cell 2 _ rfl, hn.cell 3 _ rfl⟩

theorem mapD_eq : over (List.replicate 51200 0) 446 ((([0, 0, 0, 0, 12, 0, 0, 0] ++ bytesOf 8 4) ++ bytesOf 40 4) ++ (List.replicate 48 0 ++ [85, 170])) = mapD := rfl

set_option maxRecDepth 100000 in
set_option maxHeartbeats 4000000 in
theorem mapped_any (hS : SortSays) (w : World) : Calls Tryz.prog 6 #[] w fun e w' => e = .returned (.bool true) ∧ Below w.heap.size w w' := by
  have HS := hide hS
  have HZ := fun (n : Nat) u (hn : n ≤ 1000000) => hide (Zeros_any n u hn)
  have HR := fun u => hide (row15 u)
  clear hS
  go_enter Tryz.func6, Tryz.ntmps6
  go_wp2_with fail
  refine (HZ 51200 _ (by omega)).out.mono ?_
  rintro e9 w1 ⟨v1, rfl, ho1, hb1⟩
  have HO1 := hide ho1
  have HB1 := hide hb1
  clear ho1 hb1
  go_wp2_with fail
  refine (HR _).out.mono ?_
  rintro e9 w2 ⟨v2, rfl, ho2, hb2⟩
  have HO2 := hide ho2
  have HO12 := hide (HO1.out.below hb2)
  have HB2 := hide (HB1.out.trans (hb2.mono HB1.out.size))
  have HS2 := hide hb2.size
  have HS1 := hide HB1.out.size
  clear ho2 hb2 HB1
  go_wp2_with fail
  refine (HZ 48 _ (by omega)).out.mono ?_
  rintro e9 w3 ⟨v3, rfl, ho3, hb3⟩
  have HN2 : Hid (Own (w3.alloc (.cells #[.int .u8 85, .int .u8 170] 5)) w3.heap.size (.slice (some ⟨w3.heap.size, 0, none⟩) 2 2) [85, 170]) := hide (World.ownsRow_lit (base := w3.heap.size) (e := 5) (size := 1) w3 #[.int .u8 85, .int .u8 170] 2 (Nat.le_refl _) (by decide) (by simp))
  have hA : Below w3.heap.size w3 (w3.alloc (.cells #[.int .u8 85, .int .u8 170] 5)) := (Below.refl _ _).alloc (Nat.le_refl _) _
  have HO3 := hide (ho3.below hA)
  have HA := hide hA
  have HO13 := hide ((HO12.out.below hb3).below hA)
  have HO23 := hide ((HO2.out.below hb3).below hA)
  have HB3 := hide (HB2.out.trans (hb3.mono HB2.out.size))
  have HB3a := hide (HB3.out.alloc HB3.out.size (.cells #[.int .u8 85, .int .u8 170] 5))
  have hs3 : w2.heap.size ≤ (w3.alloc (.cells #[.int .u8 85, .int .u8 170] 5)).heap.size := by simp; have := hb3.size; omega
  have hs2 := HS2.out
  have HL2 : Hid (Lies (w3.alloc (.cells #[.int .u8 85, .int .u8 170] 5)) (some ⟨w3.heap.size, 0, none⟩) [85, 170]) := hide (by
    obtain ⟨a, c, he, hl, _⟩ := HN2.out.form
    cases he
    exact hl)
  have ht2 : ∀ g, v2.ownBlock = some g → g < w2.heap.size := fun g hg => ownsRow_lt HO2.out g hg
  have ht1 : ∀ g, v1.ownBlock = some g → g < w1.heap.size := fun g hg => ownsRow_lt HO1.out g hg
  have HX : Hid (∀ w4, (w3.alloc (.cells #[.int .u8 85, .int .u8 170] 5)).grownBy w4 v3.ownBlock → Own w4 w1.heap.size v2 (([0, 0, 0, 0, 12, 0, 0, 0] ++ bytesOf 8 4) ++ bytesOf 40 4) ∧ Own w4 w.heap.size v1 (List.replicate 51200 0) ∧ Below w.heap.size w w4 ∧ w1.heap.size ≤ w4.heap.size) := hide (fun w4 hg => by
    have hc := Chg.of_grown hg
    refine ⟨HO23.out.chg hc (fun g h1 h2 => ?_), HO13.out.chg hc (fun g h1 h2 => ?_), HB3a.out.trans (Chg.below w.heap.size hc (by have := HB3a.out.size; omega) (fun i hi h2 => ?_)), Nat.le_trans (Nat.le_trans hs2 hs3) hc.size⟩
    · have := HO3.out.base g h2.symm
      have := ht2 g h1
      omega
    · have := HO3.out.base g h2.symm
      have := ht1 g h1
      omega
    · have := HO3.out.base i h2.symm
      have := HS1.out
      omega)
  have HY : Hid (∀ w4 w5, Own w4 w1.heap.size v2 (([0, 0, 0, 0, 12, 0, 0, 0] ++ bytesOf 8 4) ++ bytesOf 40 4) ∧ Own w4 w.heap.size v1 (List.replicate 51200 0) ∧ Below w.heap.size w w4 ∧ w1.heap.size ≤ w4.heap.size → w4.grownBy w5 v2.ownBlock → Own w5 w.heap.size v1 (List.replicate 51200 0) ∧ Below w.heap.size w w5) := hide (fun w4 w5 h hg => by
    obtain ⟨k1, k2, k3, k4⟩ := h
    have hc := Chg.of_grown hg
    refine ⟨k2.chg hc (fun g h1 h2 => ?_), k3.trans (Chg.below w.heap.size hc k3.size (fun i hi h2 => ?_))⟩
    · have := k1.base g h2.symm
      have := ht1 g h1
      omega
    · have := k1.base i h2.symm
      have := HS1.out
      omega)
  clear ho3 hb3 hA HO12 HO2 HB2 HN2 ht2 ht1 hs2 HO1
  go_wp2_with (first | (at_builtin; refine wpList_append_bytes rfl (.tmp 6) (.tmp 7) 22 rfl Tryz.underlying22 info5 w2.heap.size _ (List.replicate 48 0) rfl (by exact HO3.out) (some ⟨w3.heap.size, 0, none⟩) 2 2 [85, 170] rfl rfl (by exact HL2.out) (by simp) hs3 ?_; intro v4 w4 ho4 hg4; have HX4 := hide (HX.out _ hg4); have hs4 := HX4.out.2.2.2; obtain ⟨a4, c4, rfl, hl4, _⟩ := ho4.form; have HL4 := hide hl4; clear ho4 hg4 hl4) | (at_builtin; refine wpList_append_bytes rfl (.tmp 5) (.tmp 8) 22 rfl Tryz.underlying22 info5 w1.heap.size _ (([0, 0, 0, 0, 12, 0, 0, 0] ++ bytesOf 8 4) ++ bytesOf 40 4) rfl (by exact HX4.out.1) a4 _ c4 (List.replicate 48 0 ++ [85, 170]) rfl rfl (by exact HL4.out) (by simp [bytesOf_length]) hs4 ?_; intro v5 w5 ho5 hg5; have HY5 := hide (HY.out _ _ HX4.out hg5); obtain ⟨a5, c5, rfl, hl5, _⟩ := ho5.sl; have HL5 := hide hl5; clear ho5 hg5 hl5))
  rw [show (bytesOf 8 4).length + ((bytesOf 40 4).length + 50) + 1 + 1 + 1 + 1 + 1 + 1 + 1 + 1 = 66 by rw [bytesOf_length, bytesOf_length]]
  obtain ⟨a1, c1, he1, hs1, _⟩ := HY5.out.1.sl
  rw [List.length_replicate] at he1
  subst he1
  have hW := With_any a1 c1 (List.replicate 51200 0) a5 c5 mapR 446 w5 (by rw [List.length_replicate]; omega) (by rw [mapR_len]; omega) (by rw [List.length_replicate, mapR_len]; omega) hs1 HL5.out
  rw [List.length_replicate, mapR_len] at hW
  have HW := hide hW
  have HB5 := hide HY5.out.2
  clear hW hs1 HY5 HL5 HX4 hs4 HL4 HX HY HO13 HO23 HB3a HL2 HO3 HB3 HA hs3 HS1 HS2 HZ HR
  refine HW.out.mono ?_
  rintro e9 w6 ⟨v6, rfl, ho6, hb6⟩
  change Own w6 w5.heap.size v6 mapD at ho6
  have HB6 := hide (HB5.out.trans (hb6.mono HB5.out.size))
  obtain ⟨a6, c6, he6, hl6, _, hc6, _, hg6⟩ := ho6.form
  rw [mapD_len] at he6 hc6
  subst he6
  have hne6 : mapD ≠ [] := fun e => by have := mapD_len; rw [e] at this; cases this
  obtain ⟨g6, rfl, _, hlt6⟩ := hg6 hne6
  have HPa := hide (pparse_one HS.out w6 (some ⟨g6, 0, none⟩) c6 mapD mapD_len mapD_byts map_pars hl6 (fun x hx => by cases hx; exact hlt6) hc6)
  clear ho6 hb6 hl6 hc6 hg6 hne6 hlt6 HW HB5
  go_wp2_with fail
  refine HPa.out.mono ?_
  rintro e9 w7 ⟨q1, q2, q3, p, h, rfl, hp1, hh1, ho1, ho2, ho3, hb7⟩
  --REGION3 (gen/qph.py)
  obtain ⟨g1, k1, he1⟩ := row_succM (n := 0) ho1
  subst he1
  obtain ⟨a2, k2, he2, hl2, _⟩ := ho2.form
  cases he2
  obtain ⟨a3, k3, he3, hl3, _⟩ := ho3.form
  cases he3
  obtain ⟨a1P, k1P, he1P, hl1, _⟩ := ho1.form
  cases he1P
  obtain ⟨M, hM⟩ : ∃ M, M = mapC (.slice (some ⟨g1, 0, none⟩) 1 k1) (.slice a2 1 k2) (.slice a3 2 k3) p h := ⟨_, rfl⟩
  obtain ⟨w8, hw8⟩ : ∃ w8, w8 = (w7.alloc (.cells #[.int .i64 0, .slice none 0 0, .slice none 0 0, .slice none 0 0, .slice none 0 0, .slice none 0 0, .int .i64 0, .int .i64 0, .bool false, .int .i64 0, .int .i64 0, .int .i64 0, .int .u8 0, .int .u8 0, .int .u8 0, .int .u8 0, .int .u8 0, .int .u8 0, .int .u8 0, .int .u8 0, .int .u8 0, .int .u8 0, .int .u8 0, .int .u8 0, .int .u8 0, .int .u8 0, .int .u8 0, .int .u8 0, .slice none 0 0, .int .i64 0, .int .i64 0] 63)).setRow w7.heap.size M := ⟨_, rfl⟩
  have hZ := Blk.new w7 #[.int .i64 0, .slice none 0 0, .slice none 0 0, .slice none 0 0, .slice none 0 0, .slice none 0 0, .int .i64 0, .int .i64 0, .bool false, .int .i64 0, .int .i64 0, .int .i64 0, .int .u8 0, .int .u8 0, .int .u8 0, .int .u8 0, .int .u8 0, .int .u8 0, .int .u8 0, .int .u8 0, .int .u8 0, .int .u8 0, .int .u8 0, .int .u8 0, .int .u8 0, .int .u8 0, .int .u8 0, .int .u8 0, .slice none 0 0, .int .i64 0, .int .i64 0] 63
  have hk8 : Blk w8 w7.heap.size M 63 := by rw [hw8]; exact setRow_heap _ _ _ _ _ _ hZ
  have hb8 : Below w7.heap.size w7 w8 := by
    rw [hw8]
    exact ((Below.refl w7.heap.size w7).alloc (Nat.le_refl _) _).trans (Chg.below w7.heap.size (X := fun i => i = w7.heap.size) ⟨rfl, rfl, rfl, by simp, fun k _ hk => setRow_other _ _ k _ hk⟩ (by simp) (fun i hi => by omega))
  have h1c : M.all (·.oneCell') = true := by rw [hM]; simp only [Value.oneCell'] at hp1 hh1; simp [mapC, Value.oneCell', hp1, hh1]
  have HIs : Hid ((Tryz.prog.info? 63).map (·.size) = some M.size) := hide (by rw [hM]; kernel_rfl)
  have hsz : (#[.int .i64 0, .slice none 0 0, .slice none 0 0, .slice none 0 0, .slice none 0 0, .slice none 0 0, .int .i64 0, .int .i64 0, .bool false, .int .i64 0, .int .i64 0, .int .i64 0, .int .u8 0, .int .u8 0, .int .u8 0, .int .u8 0, .int .u8 0, .int .u8 0, .int .u8 0, .int .u8 0, .int .u8 0, .int .u8 0, .int .u8 0, .int .u8 0, .int .u8 0, .int .u8 0, .int .u8 0, .int .u8 0, .slice none 0 0, .int .i64 0, .int .i64 0] : Array Value).size = M.size := by rw [hM]; simp [mapC]
  have HZ := hide hZ
  have H1c := hide h1c
  have Hsz := hide hsz
  have HW8 := hide hw8
  have HK8 := hide hk8
  have HB8 := hide (hb7.trans (hb8.mono hb7.size))
  have hP8 : LiesP w8 (some ⟨g1, 0, none⟩) [(4096, 24576, 12, 0)] := hl1.below hb8
  have hH8 : LiesE w8 a2 [(0, 512)] := hl2.below hb8
  have hG8 : LiesE w8 a3 [(512, 4096), (24576, 51200)] := hl3.below hb8
  have HP8 := hide hP8
  have HH8 := hide hH8
  have HG8 := hide hG8
  rw [show mapC (.slice (some ⟨g1, 0, none⟩) (0 + 1) k1) (.slice a2 [((0 : Int), (512 : Int))].length k2) (.slice a3 [((512 : Int), (4096 : Int)), ((24576 : Int), (51200 : Int))].length k3) p h = M from hM.symm]
  have HM := hide hM
  clear hZ h1c hsz hw8 hk8 hb8 hb7 hP8 hH8 hG8 ho1 ho2 ho3 hl1 hl2 hl3 hp1 hh1 hM HPa
  go_wp2_with (refine wpList_at (.store 63 (.tmp 2) (.tmp 15)) rfl ?_; refine wpList_store_row rfl 63 (.tmp 2) (.tmp 15) rfl w7.heap.size M rfl rfl 63 #[.int .i64 0, .slice none 0 0, .slice none 0 0, .slice none 0 0, .slice none 0 0, .slice none 0 0, .int .i64 0, .int .i64 0, .bool false, .int .i64 0, .int .i64 0, .int .i64 0, .int .u8 0, .int .u8 0, .int .u8 0, .int .u8 0, .int .u8 0, .int .u8 0, .int .u8 0, .int .u8 0, .int .u8 0, .int .u8 0, .int .u8 0, .int .u8 0, .int .u8 0, .int .u8 0, .int .u8 0, .int .u8 0, .slice none 0 0, .int .i64 0, .int .i64 0] HZ.out HIs.out Hsz.out H1c.out ?_)
  rw [← HW8.out]
  clear HW8 HZ Hsz H1c
  rcases HP8.out with hPn | ⟨bP, oP, heP, hltP, hcP⟩
  · cases hPn
  cases heP
  obtain ⟨p0, p1, p2, p3⟩ := hcP 0 (by simp)
  simp at p0 p1 p2 p3
  have c0 : w8.cell? ⟨w7.heap.size, 0, none⟩ = some (.int .i64 1) := HK8.out.cell 0 _ (by rw [HM.out]; rfl)
  have c1 : w8.cell? ⟨w7.heap.size, 1, none⟩ = some (.slice (some ⟨g1, 0, none⟩) 1 k1) := HK8.out.cell 1 _ (by rw [HM.out]; rfl)
  have c3 : w8.cell? ⟨w7.heap.size, 3, none⟩ = some (.slice a3 2 k3) := HK8.out.cell 3 _ (by rw [HM.out]; rfl)
  have hSb : ∀ u, Below w8.heap.size w8 u → (fun u : World => u.cell? ⟨w7.heap.size, 0, none⟩ = some (.int .i64 1) ∧ u.cell? ⟨w7.heap.size, 1, none⟩ = some (.slice (some ⟨g1, 0, none⟩) 1 k1) ∧ u.cell? ⟨w7.heap.size, 3, none⟩ = some (.slice a3 2 k3) ∧ u.cell? ⟨g1, 0, none⟩ = some (.int .i64 4096) ∧ u.cell? ⟨g1, 1, none⟩ = some (.int .i64 24576) ∧ u.cell? ⟨g1, 2, none⟩ = some (.int .i64 12) ∧ u.cell? ⟨g1, 3, none⟩ = some (.int .i64 0) ∧ Blk u w7.heap.size M 63) u := fun u hu => ⟨(hu.cell (p := ⟨w7.heap.size, 0, none⟩) HK8.out.lt).trans c0, (hu.cell (p := ⟨w7.heap.size, 1, none⟩) HK8.out.lt).trans c1, (hu.cell (p := ⟨w7.heap.size, 3, none⟩) HK8.out.lt).trans c3, (hu.cell (p := ⟨g1, 0, none⟩) hltP).trans p0, (hu.cell (p := ⟨g1, 1, none⟩) hltP).trans p1, (hu.cell (p := ⟨g1, 2, none⟩) hltP).trans p2, (hu.cell (p := ⟨g1, 3, none⟩) hltP).trans p3, HK8.out.below hu⟩
  have HSb := hide hSb
  have HS0 := hide (hSb w8.drew (Below.refl _ _).drew)
  clear hSb p0 p1 p2 p3 c0 c1 c3 hcP
  refine wp_region_held_drew (S := (fun u : World => u.cell? ⟨w7.heap.size, 0, none⟩ = some (.int .i64 1) ∧ u.cell? ⟨w7.heap.size, 1, none⟩ = some (.slice (some ⟨g1, 0, none⟩) 1 k1) ∧ u.cell? ⟨w7.heap.size, 3, none⟩ = some (.slice a3 2 k3) ∧ u.cell? ⟨g1, 0, none⟩ = some (.int .i64 4096) ∧ u.cell? ⟨g1, 1, none⟩ = some (.int .i64 24576) ∧ u.cell? ⟨g1, 2, none⟩ = some (.int .i64 12) ∧ u.cell? ⟨g1, 3, none⟩ = some (.int .i64 0) ∧ Blk u w7.heap.size M 63)) (by kernel_rfl) HS0.out (fun _ => ?_)
  refine any_take 0 (some 17) (.int .i64 0) rfl rfl (by kernel_rfl) (by kernel_rfl) (by kernel_rfl) (fun _ _ _ h => h) (by rfl) HS0.out ?_ ?_
  · intro u hSu
    obtain ⟨s0, s1, s2, s3, s4, s5, s6, s7⟩ := hSu
    go_simp
  simp only [Act.put, List.setIfInBounds_toArray, List.set_cons_zero, List.set_cons_succ]
  refine any_take 1 (some 18) (.bool true) rfl rfl (by kernel_rfl) (by kernel_rfl) (by kernel_rfl) (fun _ _ _ h => h) (by rfl) HS0.out ?_ ?_
  · intro u hSu
    obtain ⟨s0, s1, s2, s3, s4, s5, s6, s7⟩ := hSu
    go_simp
  simp only [Act.put, List.setIfInBounds_toArray, List.set_cons_zero, List.set_cons_succ]
  refine any_take 2 (some 19) (.bool true) rfl rfl (by kernel_rfl) (by kernel_rfl) (by kernel_rfl) (fun _ _ _ h => h) (by rfl) HS0.out ?_ ?_
  · intro u hSu
    obtain ⟨s0, s1, s2, s3, s4, s5, s6, s7⟩ := hSu
    go_simp
  simp only [Act.put, List.setIfInBounds_toArray, List.set_cons_zero, List.set_cons_succ]
  refine any_take 3 (some 20) (.pointer (some ⟨w7.heap.size, 0, none⟩)) rfl rfl (by kernel_rfl) (by kernel_rfl) (by kernel_rfl) (fun _ _ _ h => h) (by rfl) HS0.out ?_ ?_
  · intro u hSu
    obtain ⟨s0, s1, s2, s3, s4, s5, s6, s7⟩ := hSu
    go_simp
  simp only [Act.put, List.setIfInBounds_toArray, List.set_cons_zero, List.set_cons_succ]
  refine any_take 4 (some 21) (.int .i64 1) rfl rfl (by kernel_rfl) (by kernel_rfl) (by kernel_rfl) (fun _ _ _ h => h) (by rfl) HS0.out ?_ ?_
  · intro u hSu
    obtain ⟨s0, s1, s2, s3, s4, s5, s6, s7⟩ := hSu
    go_simp
  simp only [Act.put, List.setIfInBounds_toArray, List.set_cons_zero, List.set_cons_succ]
  refine any_take 5 (some 22) (.bool true) rfl rfl (by kernel_rfl) (by kernel_rfl) (by kernel_rfl) (fun _ _ _ h => h) (by rfl) HS0.out ?_ ?_
  · intro u hSu
    obtain ⟨s0, s1, s2, s3, s4, s5, s6, s7⟩ := hSu
    go_simp
  simp only [Act.put, List.setIfInBounds_toArray, List.set_cons_zero, List.set_cons_succ]
  refine any_take 6 (some 23) (.bool true) rfl rfl (by kernel_rfl) (by kernel_rfl) (by kernel_rfl) (fun _ _ _ h => h) (by rfl) HS0.out ?_ ?_
  · intro u hSu
    obtain ⟨s0, s1, s2, s3, s4, s5, s6, s7⟩ := hSu
    go_simp
  simp only [Act.put, List.setIfInBounds_toArray, List.set_cons_zero, List.set_cons_succ]
  refine any_take 7 (some 24) (.bool true) rfl rfl (by kernel_rfl) (by kernel_rfl) (by kernel_rfl) (fun _ _ _ h => h) (by rfl) HS0.out ?_ ?_
  · intro u hSu
    obtain ⟨s0, s1, s2, s3, s4, s5, s6, s7⟩ := hSu
    go_simp
  simp only [Act.put, List.setIfInBounds_toArray, List.set_cons_zero, List.set_cons_succ]
  refine any_take 8 (some 25) (.pointer (some ⟨w7.heap.size, 3, none⟩)) rfl rfl (by kernel_rfl) (by kernel_rfl) (by kernel_rfl) (fun _ _ _ h => h) (by rfl) HS0.out ?_ ?_
  · intro u hSu
    obtain ⟨s0, s1, s2, s3, s4, s5, s6, s7⟩ := hSu
    go_simp
  simp only [Act.put, List.setIfInBounds_toArray, List.set_cons_zero, List.set_cons_succ]
  refine any_take 9 (some 26) (.slice a3 2 k3) rfl rfl (by kernel_rfl) (by kernel_rfl) (by kernel_rfl) (fun _ _ _ h => h) (by rfl) HS0.out ?_ ?_
  · intro u hSu
    obtain ⟨s0, s1, s2, s3, s4, s5, s6, s7⟩ := hSu
    go_simp
  simp only [Act.put, List.setIfInBounds_toArray, List.set_cons_zero, List.set_cons_succ]
  refine any_take 10 (some 27) (.agg #[.int .i64 512, .int .i64 4096]) rfl rfl (by kernel_rfl) (by kernel_rfl) (by kernel_rfl) (fun _ _ _ h => h) (by rfl) HS0.out ?_ ?_
  · intro u hSu
    obtain ⟨s0, s1, s2, s3, s4, s5, s6, s7⟩ := hSu
    go_simp
  simp only [Act.put, List.setIfInBounds_toArray, List.set_cons_zero, List.set_cons_succ]
  refine any_take 11 (some 28) (.agg #[.int .i64 24576, .int .i64 51200]) rfl rfl (by kernel_rfl) (by kernel_rfl) (by kernel_rfl) (fun _ _ _ h => h) (by rfl) HS0.out ?_ ?_
  · intro u hSu
    obtain ⟨s0, s1, s2, s3, s4, s5, s6, s7⟩ := hSu
    go_simp
  simp only [Act.put, List.setIfInBounds_toArray, List.set_cons_zero, List.set_cons_succ]
  obtain ⟨w9, hw9⟩ : ∃ w9, w9 = w8.drew.alloc (.cells #[.int .i64 512, .int .i64 4096, .int .i64 24576, .int .i64 51200] 24) := ⟨_, rfl⟩
  have hb9 : Below w8.heap.size w8 w9 := by rw [hw9]; exact (Below.refl _ _).drew.alloc (Nat.le_refl _) _
  have hL9 : LiesE w9 (some ⟨w8.heap.size, 0, none⟩) [(512, 4096), (24576, 51200)] := by rw [hw9]; exact LiesE.new2 w8.drew 512 4096 24576 51200
  have HS9 := hide (HSb.out w9 hb9)
  have HSm := hide (same_any w9 a3 (some ⟨w8.heap.size, 0, none⟩) k3 2 [(512, 4096), (24576, 51200)] [(512, 4096), (24576, 51200)] (HG8.out.below hb9) hL9 (by simp))
  have Hb9 := hide hb9
  clear hb9 hL9
  refine ready_valg 12 (some 29) (.slice (some ⟨w8.heap.size, 0, none⟩) 2 2) w9 (by kernel_rfl) rfl (by rfl) rfl (by rw [hw9]; go_simp) HS9.out ?_
  simp only [Act.put, List.setIfInBounds_toArray, List.set_cons_zero, List.set_cons_succ]
  clear hw9
  refine wpAnyH_ready (rs := [13]) (by kernel_rfl) (by simp) ?_
  refine AllReadyH.cons (i := 13) rfl (fun K hK => ?_) AllReadyH.nil
  rw [if_pos (by rfl)]
  go_simp
  refine HSm.out.mono ?_
  rintro e9 w10 ⟨rfl, hb10⟩
  rw [decide_eq_true rfl]
  have hb10a := Hb9.out.trans (hb10.mono Hb9.out.size)
  have HS10 := hide (HSb.out w10 hb10a)
  have Hb10 := hide hb10a
  clear hb10 hb10a
  go_simp
  refine hK.out _ _ HS10.out (fun _ => ?_)
  clear hK K
  try simp only [Act.put, List.setIfInBounds_toArray, List.set_cons_zero, List.set_cons_succ]
  refine any_take 14 (some 31) (.bool true) rfl rfl (by kernel_rfl) (by kernel_rfl) (by kernel_rfl) (fun _ _ _ h => h) (by rfl) HS10.out ?_ ?_
  · intro u hSu
    obtain ⟨s0, s1, s2, s3, s4, s5, s6, s7⟩ := hSu
    go_simp
  simp only [Act.put, List.setIfInBounds_toArray, List.set_cons_zero, List.set_cons_succ]
  refine any_take 15 (some 32) (.bool true) rfl rfl (by kernel_rfl) (by kernel_rfl) (by kernel_rfl) (fun _ _ _ h => h) (by rfl) HS10.out ?_ ?_
  · intro u hSu
    obtain ⟨s0, s1, s2, s3, s4, s5, s6, s7⟩ := hSu
    go_simp
  simp only [Act.put, List.setIfInBounds_toArray, List.set_cons_zero, List.set_cons_succ]
  refine any_take 16 (some 33) (.agg M) rfl rfl (by kernel_rfl) (by kernel_rfl) (by kernel_rfl) (fun _ _ _ h => h) (by rfl) HS10.out ?_ ?_
  · exact fun u hSu => load_run _ _ 63 (.tmp 2) w7.heap.size M 63 _ rfl rfl u hSu.2.2.2.2.2.2.2 Tryz.underlying63 rfl HIs.out
  simp only [Act.put, List.setIfInBounds_toArray, List.set_cons_zero, List.set_cons_succ]
  refine any_take 17 (some 34) (.pointer (some ⟨w7.heap.size, 1, none⟩)) rfl rfl (by kernel_rfl) (by kernel_rfl) (by kernel_rfl) (fun _ _ _ h => h) (by rfl) HS10.out ?_ ?_
  · intro u hSu
    obtain ⟨s0, s1, s2, s3, s4, s5, s6, s7⟩ := hSu
    go_simp
  simp only [Act.put, List.setIfInBounds_toArray, List.set_cons_zero, List.set_cons_succ]
  refine any_take 18 (some 35) (.slice (some ⟨g1, 0, none⟩) 1 k1) rfl rfl (by kernel_rfl) (by kernel_rfl) (by kernel_rfl) (fun _ _ _ h => h) (by rfl) HS10.out ?_ ?_
  · intro u hSu
    obtain ⟨s0, s1, s2, s3, s4, s5, s6, s7⟩ := hSu
    go_simp
  simp only [Act.put, List.setIfInBounds_toArray, List.set_cons_zero, List.set_cons_succ]
  refine any_take 19 (some 36) (.pointer (some ⟨g1, 0, none⟩)) rfl rfl (by kernel_rfl) (by kernel_rfl) (by kernel_rfl) (fun _ _ _ h => h) (by rfl) HS10.out ?_ ?_
  · intro u hSu
    obtain ⟨s0, s1, s2, s3, s4, s5, s6, s7⟩ := hSu
    go_simp
  simp only [Act.put, List.setIfInBounds_toArray, List.set_cons_zero, List.set_cons_succ]
  refine any_take 20 (some 37) (.agg #[.int .i64 4096, .int .i64 24576, .int .i64 12, .int .i64 0]) rfl rfl (by kernel_rfl) (by kernel_rfl) (by kernel_rfl) (fun _ _ _ h => h) (by rfl) HS10.out ?_ ?_
  · intro u hSu
    obtain ⟨s0, s1, s2, s3, s4, s5, s6, s7⟩ := hSu
    go_simp
  simp only [Act.put, List.setIfInBounds_toArray, List.set_cons_zero, List.set_cons_succ]
  have HRo := hide (room_one w10 (some ⟨g1, 0, none⟩) a2 k1 k2 (.slice a3 2 k3) p h (HP8.out.below Hb10.out) (HH8.out.below Hb10.out))
  rw [← HM.out] at HRo
  refine wpAnyH_ready (rs := [21]) (by kernel_rfl) (by simp) ?_
  refine AllReadyH.cons (i := 21) rfl (fun K hK => ?_) AllReadyH.nil
  rw [if_pos (by rfl)]
  go_simp
  refine HRo.out.mono ?_
  rintro e9 w11 ⟨rfl, hb11⟩
  have hb11a := Hb10.out.trans (hb11.mono Hb10.out.size)
  have HS11 := hide (HSb.out w11 hb11a)
  have Hb11 := hide hb11a
  clear hb11 hb11a
  go_simp
  refine hK.out _ _ HS11.out (fun _ => ?_)
  clear hK K
  try simp only [Act.put, List.setIfInBounds_toArray, List.set_cons_zero, List.set_cons_succ]
  refine any_take 22 (some 39) (.bool true) rfl rfl (by kernel_rfl) (by kernel_rfl) (by kernel_rfl) (fun _ _ _ h => h) (by rfl) HS11.out ?_ ?_
  · intro u hSu
    obtain ⟨s0, s1, s2, s3, s4, s5, s6, s7⟩ := hSu
    go_simp
  simp only [Act.put, List.setIfInBounds_toArray, List.set_cons_zero, List.set_cons_succ]
  refine any_take 23 (some 40) (.bool true) rfl rfl (by kernel_rfl) (by kernel_rfl) (by kernel_rfl) (fun _ _ _ h => h) (by rfl) HS11.out ?_ ?_
  · intro u hSu
    obtain ⟨s0, s1, s2, s3, s4, s5, s6, s7⟩ := hSu
    go_simp
  simp only [Act.put, List.setIfInBounds_toArray, List.set_cons_zero, List.set_cons_succ]
  refine any_take 24 (some 0) (.bool true) rfl rfl (by kernel_rfl) (by kernel_rfl) (by kernel_rfl) (fun _ _ _ h => h) (by rfl) HS11.out ?_ ?_
  · intro u hSu
    obtain ⟨s0, s1, s2, s3, s4, s5, s6, s7⟩ := hSu
    go_simp
  simp only [Act.put, List.setIfInBounds_toArray, List.set_cons_zero]
  refine wpAnyH_done (by kernel_rfl) ?_ _
  have HBf := hide ((HB6.out.trans (HB8.out.mono HB6.out.size)).trans (Hb11.out.mono (Nat.le_trans HB6.out.size HB8.out.size)))
  apply_assumption
  go_wp2_with fail
  go_ret
  exact ⟨rfl, HBf.out⟩
end Go.Proofs.YtjpdfchdgphdoaaGreatDoor.Oct
