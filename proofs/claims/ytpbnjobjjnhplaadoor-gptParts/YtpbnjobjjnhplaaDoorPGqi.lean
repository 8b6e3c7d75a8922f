/- The law's table of four entries. -/
import Derived.Test.YtpbnjobjjnhplaaDoorPGqh
import Derived.Test.YtpbnjobjjnhplaaDoorPGpwGqb
namespace Go.Proofs.YtpbnjobjjnhplaaDoor.Oct
open Go.RowKit

def ent0 : E4 := ⟨9 :: List.replicate 31 0, 10, 20, List.replicate 80 0⟩
/-- The law's table. -/
def tab0 : Tb := ⟨64, 3, 61, List.replicate 16 0, [E4.z, ent0, E4.z, E4.z], 2, 62⟩

theorem tab0_chk : tab0.chk = 0 := by decide +kernel
theorem tab0_ok : ∀ x ∈ tab0.L, x.ok := by
  intro x hx
  simp only [tab0, List.mem_cons, List.not_mem_nil, or_false] at hx
  rcases hx with rfl | rfl | rfl | rfl <;> exact ⟨rfl, rfl⟩
theorem tab0_byts : Byts (bytL tab0.L) := by
  have h : ∀ x ∈ bytL tab0.L, 0 ≤ x ∧ x < 256 := by decide +kernel
  intro k
  by_cases hk : k < (bytL tab0.L).length
  · rw [List.getD_eq_getElem?_getD, List.getElem?_eq_getElem hk]
    exact h _ (List.getElem_mem hk)
  · rw [List.getD_eq_getElem?_getD, List.getElem?_eq_none (by omega)]
    decide

/-- The cells of four zero entries. -/
def mz4 : Array Value := ([E4.z, E4.z, E4.z, E4.z].flatMap E4.cells).toArray

theorem mz4_eq : madeCells Tryd.zeroCells66 456 = mz4 := by kernel_rfl

theorem run_make4 (w : World) : (Instr.makeSlice 23 (.int .i64 4) (.int .i64 4)).run Tryd.prog w = .ok (.slice (some ⟨w.heap.size, 0, none⟩) 4 4) (w.alloc (.cells mz4 66)) := by
  obtain ⟨i, hi, hz0, hz1, hz2⟩ := info_parts infoG
  have h := run_make (P := Tryd.prog) w 23 66 i (.agg Tryd.zeroCells66) Tryd.underlying23 hi hz0 .i64 .i64 4 4 (by omega) (Int.le_refl _) (by rw [hz2]; omega) (by omega)
  rw [hz1] at h
  have e : madeCells (Value.agg Tryd.zeroCells66).cells (Int.toNat 4 * 114) = mz4 := mz4_eq
  rw [e] at h
  exact h

theorem built0 (g : Nat) : Tryd.prog.built 25 [(0, .int .i64 64), (1, .int .i64 3), (2, .int .i64 61), (5, .int .i64 2), (6, .int .i64 62), (4, .slice (some ⟨g, 0, none⟩) 4 4)] = some (tab0.cells (.slice (some ⟨g, 0, none⟩) 4 4)).toArray := by kernel_rfl

theorem mz4_set : ((mz4.setIfInBounds 114 (.int .u8 9)).setIfInBounds 146 (.int .i64 10)).setIfInBounds 147 (.int .i64 20) = (tab0.L.flatMap E4.cells).toArray := by kernel_rfl
theorem mz4_a : mz4[114]? = some (.int .u8 0) := by kernel_rfl
theorem mz4_b : (mz4.setIfInBounds 114 (.int .u8 9))[146]? = some (.int .i64 0) := by kernel_rfl
theorem mz4_c : ((mz4.setIfInBounds 114 (.int .u8 9)).setIfInBounds 146 (.int .i64 10))[147]? = some (.int .i64 0) := by kernel_rfl

set_option maxHeartbeats 8000000 in
set_option maxRecDepth 100000 in
theorem table_ok (w : World) :
    Calls Tryd.prog 24 #[] w fun e w' => (∃ g, e = .returned (.agg (tab0.cells (.slice (some ⟨g, 0, none⟩) 4 4)).toArray) ∧ LiesEn w' (some ⟨g, 0, none⟩) tab0.L) ∧ Below w.heap.size w w' := by
  obtain ⟨R, hR⟩ : ∃ R, R = w.heap.size := ⟨_, rfl⟩
  obtain ⟨w1, hw1⟩ : ∃ w1, w1 = w.alloc (.cells z22 25) := ⟨_, rfl⟩
  have hb1 : Below w.heap.size w w1 := by rw [hw1]; exact (Below.refl _ _).alloc (Nat.le_refl _) _
  have hk1 : Blk w1 R z22 25 := by rw [hw1, hR]; exact Blk.new _ _ _
  have hmk := run_make4 w1
  obtain ⟨G, hG⟩ : ∃ G, G = w1.heap.size := ⟨_, rfl⟩
  obtain ⟨w2, hw2⟩ : ∃ w2, w2 = w1.alloc (.cells mz4 66) := ⟨_, rfl⟩
  have hb2 : Below w1.heap.size w1 w2 := by rw [hw2]; exact (Below.refl _ _).alloc (Nat.le_refl _) _
  have hg2 : Blk w2 G mz4 66 := by rw [hw2, hG]; exact Blk.new _ _ _
  rw [← hw2, ← hG] at hmk
  have HBu := hide (built0 G)
  obtain ⟨T, hT⟩ : ∃ T, T = (tab0.cells (.slice (some ⟨G, 0, none⟩) 4 4)).toArray := ⟨_, rfl⟩
  rw [← hT] at HBu
  have HTs := hide (show T.size = 22 by rw [hT]; exact tb_size rfl)
  have HTo := hide (show T.all (·.oneCell') = true by rw [hT]; exact tb_oneG _ _ _ _)
  have HT19 := hide (show T[19]? = some (.slice (some ⟨G, 0, none⟩) 4 4) by rw [hT]; rfl)
  have HT := hide hT
  obtain ⟨X, hX⟩ : ∃ X, X = w2.heap.size := ⟨_, rfl⟩
  have hbn := alloc_tab (u := w2) (C := T)
  obtain ⟨w3, hw3⟩ : ∃ x, x = (w2.alloc (.cells z22 25)).setRow w2.heap.size T := ⟨_, rfl⟩
  rw [← hw3] at hbn
  have HGw := hide (show w.heap.size ≤ G by rw [hG]; exact hb1.size)
  have HRG := hide (show R < G by rw [hG]; exact hk1.lt)
  have HGX := hide (show G < X by rw [hX]; exact hg2.lt)
  have HX3 := hide (show Blk w3 X T 25 by rw [hX]; exact hbn.1)
  have HG3 := hide (hg2.below hbn.2)
  have HK3 := hide ((hk1.below hb2).below hbn.2)
  have hb12 := hb1.trans (hb2.mono hb1.size)
  have HB3 := hide (hb12.trans (hbn.2.mono hb12.size))
  have HR := hide hR
  have HW1 := hide hw1
  have HX := hide hX
  have HW3 := hide hw3
  have HLe := hide (show w.heap.size ≤ R by rw [hR]; exact Nat.le_refl _)
  clear hR hw1 hb1 hk1 hG hw2 hb2 hg2 hT hX hbn hw3 hb12
  go_enter Tryd.func24, Tryd.ntmps24
  go_upto_region 1 with fail
  rw [← HW1.out, ← HR.out]
  go_upto_region 2 with (first | (refine wpList_isop (.build 25 #[(0, .const (.int .i64 64)), (1, .const (.int .i64 3)), (2, .const (.int .i64 61)), (5, .const (.int .i64 2)), (6, .const (.int .i64 62)), (4, .tmp 2)]) rfl ?_; refine wpList_exec rfl (exec_build rfl (by kernel_rfl) HBu.out) ?_) | (refine wpList_isop (.store 25 (.tmp 1) (.tmp 3)) rfl ?_; refine wpList_store_row rfl 25 (.tmp 1) (.tmp 3) rfl w2.heap.size T rfl rfl 25 _ (Blk.new _ _ _) (by rw [HTs.out]; kernel_rfl) (by rw [HTs.out]; kernel_rfl) HTo.out ?_))
  rw [← HW3.out, ← HX.out]
  have y19 := HX3.out.cell 19 _ HT19.out
  have z1 := HG3.out.cell 114 _ mz4_a
  have f1 := HG3.out.frozen 114
  go_upto_region 3 with fail

  have hS3 : (show World → Prop from fun u => Blk u X T 25 ∧ Blk u R z22 25 ∧ Below w.heap.size w u) w3 := ⟨HX3.out, HK3.out, HB3.out⟩
  have hS4 : (show World → Prop from fun u => Blk u X T 25 ∧ Blk u R z22 25 ∧ Below w.heap.size w u) (w3.setCell ⟨G, 114, none⟩ (.int .u8 9)) := ⟨hS3.1.other (by have := HGX.out; omega) 114 _, hS3.2.1.other (by have := HRG.out; omega) 114 _, hS3.2.2.setCell (p := ⟨G, 114, none⟩) HGw.out _⟩
  have hG4 := HG3.out.set 114 (.int .u8 9)
  obtain ⟨w4, hw4⟩ : ∃ x, x = (w3.setCell ⟨G, 114, none⟩ (.int .u8 9)) := ⟨_, rfl⟩
  rw [← hw4] at hS4 hG4 ⊢
  have HG4 := hide hG4
  have HS4 : (show World → Prop from fun u => Blk u X T 25 ∧ Blk u R z22 25 ∧ Below w.heap.size w u) w4.drew := ⟨hS4.1.drew, hS4.2.1.drew, hS4.2.2.drew⟩
  have HS5 : (show World → Prop from fun u => Blk u X T 25 ∧ Blk u R z22 25 ∧ Below w.heap.size w u) (w4.drew.setCell ⟨G, 146, none⟩ (.int .i64 10)) := ⟨HS4.1.other (by have := HGX.out; omega) 146 _, HS4.2.1.other (by have := HRG.out; omega) 146 _, HS4.2.2.setCell (p := ⟨G, 146, none⟩) HGw.out _⟩
  have HS6 : (show World → Prop from fun u => Blk u X T 25 ∧ Blk u R z22 25 ∧ Below w.heap.size w u) ((w4.drew.setCell ⟨G, 146, none⟩ (.int .i64 10)).setCell ⟨G, 147, none⟩ (.int .i64 20)) := ⟨HS5.1.other (by have := HGX.out; omega) 147 _, HS5.2.1.other (by have := HRG.out; omega) 147 _, HS5.2.2.setCell (p := ⟨G, 147, none⟩) HGw.out _⟩
  have z2 := hG4.cell 146 _ mz4_b
  have f2 := hG4.frozen 146
  have z3 := (hG4.set 146 (.int .i64 10)).cell 147 _ mz4_c
  have f3 := (hG4.set 146 (.int .i64 10)).frozen 147
  clear hS3 hS4 hw4 y19 z1 f1

  refine b_region (S := fun u => Blk u X T 25 ∧ Blk u R z22 25 ∧ Below w.heap.size w u) (F := (fun _ => true)) (by kernel_rfl) ?_
  refine b_take 0 (some 9) (.pointer (some ⟨X, 19, none⟩)) rfl rfl (by kernel_rfl) (by kernel_rfl) (by kernel_rfl) (by kernel_rfl) (by kernel_rfl) (fun _ _ _ h => h) (by rfl) HS4 ?_ ?_
  · intro u hSu
    have hSu := hSu
    have y := hSu.1.cell 19 _ HT19.out
    go_simp
  try simp only [Act.put, List.setIfInBounds_toArray, List.set_cons_zero, List.set_cons_succ]
  refine b_take 1 (some 10) (.slice (some ⟨G, 0, none⟩) 4 4) rfl rfl (by kernel_rfl) (by kernel_rfl) (by kernel_rfl) (by kernel_rfl) (by kernel_rfl) (fun _ _ _ h => h) (by rfl) HS4 ?_ ?_
  · intro u hSu
    have hSu := hSu
    have y := hSu.1.cell 19 _ HT19.out
    go_simp
  try simp only [Act.put, List.setIfInBounds_toArray, List.set_cons_zero, List.set_cons_succ]
  refine b_take 2 (some 11) (.pointer (some ⟨X, 19, none⟩)) rfl rfl (by kernel_rfl) (by kernel_rfl) (by kernel_rfl) (by kernel_rfl) (by kernel_rfl) (fun _ _ _ h => h) (by rfl) HS4 ?_ ?_
  · intro u hSu
    have hSu := hSu
    have y := hSu.1.cell 19 _ HT19.out
    go_simp
  try simp only [Act.put, List.setIfInBounds_toArray, List.set_cons_zero, List.set_cons_succ]
  refine b_take 3 (some 12) (.slice (some ⟨G, 0, none⟩) 4 4) rfl rfl (by kernel_rfl) (by kernel_rfl) (by kernel_rfl) (by kernel_rfl) (by kernel_rfl) (fun _ _ _ h => h) (by rfl) HS4 ?_ ?_
  · intro u hSu
    have hSu := hSu
    have y := hSu.1.cell 19 _ HT19.out
    go_simp
  try simp only [Act.put, List.setIfInBounds_toArray, List.set_cons_zero, List.set_cons_succ]
  refine b_take 4 (some 13) (.pointer (some ⟨G, 114, none⟩)) rfl rfl (by kernel_rfl) (by kernel_rfl) (by kernel_rfl) (by kernel_rfl) (by kernel_rfl) (fun _ _ _ h => h) (by rfl) HS4 ?_ ?_
  · intro u hSu
    have hSu := hSu
    go_simp
  try simp only [Act.put, List.setIfInBounds_toArray, List.set_cons_zero, List.set_cons_succ]
  refine b_take 5 (some 14) (.pointer (some ⟨G, 146, none⟩)) rfl rfl (by kernel_rfl) (by kernel_rfl) (by kernel_rfl) (by kernel_rfl) (by kernel_rfl) (fun _ _ _ h => h) (by rfl) HS4 ?_ ?_
  · intro u hSu
    have hSu := hSu
    go_simp
  try simp only [Act.put, List.setIfInBounds_toArray, List.set_cons_zero, List.set_cons_succ]
  refine b_skip 6 (w4.drew.setCell ⟨G, 146, none⟩ (.int .i64 10)) (by kernel_rfl) rfl rfl rfl (by go_simp) (fun _ => HS5) ?_
  refine b_take 7 (some 15) (.pointer (some ⟨G, 114, none⟩)) rfl rfl (by kernel_rfl) (by kernel_rfl) (by kernel_rfl) (by kernel_rfl) (by kernel_rfl) (fun _ _ _ h => h) (by rfl) HS5 ?_ ?_
  · intro u hSu
    have hSu := hSu
    go_simp
  try simp only [Act.put, List.setIfInBounds_toArray, List.set_cons_zero, List.set_cons_succ]
  refine b_take 8 (some 16) (.pointer (some ⟨G, 147, none⟩)) rfl rfl (by kernel_rfl) (by kernel_rfl) (by kernel_rfl) (by kernel_rfl) (by kernel_rfl) (fun _ _ _ h => h) (by rfl) HS5 ?_ ?_
  · intro u hSu
    have hSu := hSu
    go_simp
  try simp only [Act.put, List.setIfInBounds_toArray, List.set_cons_zero, List.set_cons_succ]
  refine b_skip 9 ((w4.drew.setCell ⟨G, 146, none⟩ (.int .i64 10)).setCell ⟨G, 147, none⟩ (.int .i64 20)) (by kernel_rfl) rfl rfl rfl (by go_simp) (fun _ => HS6) ?_
  refine b_done (by kernel_rfl) ?_ _

  have hG6 := (HG4.out.drew.set 146 (.int .i64 10)).set 147 (.int .i64 20)
  rw [mz4_set] at hG6
  have HG6 := hide hG6
  have HS6' := hide HS6
  generalize (w4.drew.setCell ⟨G, 146, none⟩ (.int .i64 10)).setCell ⟨G, 147, none⟩ (.int .i64 20) = w6 at HS6' HG6 ⊢
  clear z2 f2 z3 f3 hG4 hG6 HS4 HS5 HS6
  go_wp2_with (first | (refine wpList_isop (.load 25 (.tmp 1)) rfl ?_; refine wpList_exec rfl (exec_ld rfl rfl (loadT HS6'.out.1 HTs.out)) ?_) | (refine wpList_isop (.store 25 (.tmp 0) (.tmp 17)) rfl ?_; refine wpList_store_row rfl 25 (.tmp 0) (.tmp 17) rfl R T rfl rfl 25 _ HS6'.out.2.1 (by rw [HTs.out]; kernel_rfl) (by rw [HTs.out]; kernel_rfl) HTo.out ?_))
  refine bodyPost_ret (results_cell_row rfl _ _ R 25 T (0, 0) _ rfl (setRow_blk HS6'.out.2.1 _) Tryd.underlying25 rfl (by rw [HTs.out]; kernel_rfl)) rfl ⟨⟨G, by rw [HT.out], ?_⟩, setrow_belowG HS6'.out.2.2 HLe.out⟩
  refine Or.inr ⟨G, 0, rfl, by have := HG6.out.lt; simpa using this, fun k x hk j u hj => ?_⟩
  have hj2 : j < 114 := by rw [← E4.cells_len (tab0_ok x (List.mem_of_getElem? hk))]; exact (List.getElem?_eq_some_iff.1 hj).1
  rw [cell_setRow_other _ _ _ _ (show G ≠ R by have := HRG.out; omega), Nat.zero_add]
  refine HG6.out.cell _ _ ?_
  rw [List.getElem?_toArray, flatG_get tab0.L k j x tab0_ok hk hj2]
  exact hj
end Go.Proofs.YtpbnjobjjnhplaaDoor.Oct
