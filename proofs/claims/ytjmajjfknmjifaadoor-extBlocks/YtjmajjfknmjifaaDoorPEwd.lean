/- The document's Parse: of any bytes. -/
import Derived.Test.YtjmajjfknmjifaaDoorPEwb
import Derived.Test.YtjmajjfknmjifaaDoorPEym
import Derived.Test.YtjmajjfknmjifaaDoorPEyi
namespace Go.Proofs.YtjmajjfknmjifaaDoor.Oct
open Go.RowKit

theorem ret_rsp2 {fn : Func} {p u : Tmp} (hr : fn.results = #[.cell p 30, .tmp u]) (tmps : Array Value) (w : World) (R : Nat) (s : Sp) (z : Value)
    (hp : tmps.getD p undef = .pointer (some ⟨R, 0, none⟩)) (hz : tmps.getD u undef = z) (hs : Blk w R s.cs 30) :
    (results fn tmps).run Tryd.prog w = .ok (.tuple #[.agg s.cs, z]) w := by
  rw [results_cell_tmp hr, hp, hz]
  simp only [asAddr, Sem.run_pure, Result.andThen_ok]
  rw [run_loadVar_row w R 30 30 _ (0, 0) _ hs Tryd.underlying30 rfl (by kernel_rfl)]
  rfl

theorem num_near4 (l : List Int) (p k : Nat) (hk : k ≤ 4) (hb : Byts l) : 0 ≤ num l p k ∧ num l p k < 4294967296 := by
  have h := num_lt l p hb k
  have : (256 : Int) ^ k ≤ 4294967296 := by
    have : k = 0 ∨ k = 1 ∨ k = 2 ∨ k = 3 ∨ k = 4 := by omega
    rcases this with rfl | rfl | rfl | rfl | rfl <;> decide
  omega

set_option maxHeartbeats 16000000 in
set_option maxRecDepth 100000 in
theorem rparse_any (a : Option Addr) (cap : Nat) (l : List Int) (w : World) (hlen : l.length ≤ 1000000) (hb : Byts l) (hl : Lies w a l) :
    Calls Tryd.prog 9 #[.slice a l.length cap] w fun e w' => e = .returned (.tuple #[.agg (parE l).1.cs, .int .i64 (parE l).2]) ∧ Below w.heap.size w w' := by
  obtain ⟨w1, hw1⟩ : ∃ w1, w1 = w.alloc (.cells #[.int .i64 0, .int .i64 0, .int .i64 0, .int .i64 0, .int .i64 0, .int .i64 0, .int .i64 0, .bool false] 30) := ⟨_, rfl⟩
  have hb1 : Below w.heap.size w w1 := by rw [hw1]; exact (Below.refl _ _).alloc (Nat.le_refl _) _
  have hk1 : Blk w1 w.heap.size #[.int .i64 0, .int .i64 0, .int .i64 0, .int .i64 0, .int .i64 0, .int .i64 0, .int .i64 0, .bool false] 30 := by rw [hw1]; exact Blk.new _ _ _
  have hl1 := hl.below hb1
  have HK1 := hide hk1
  have HB1 := hide hb1
  have HW1 := hide hw1
  by_cases h5 : l.length = 1024
  rotate_left
  · have HE := hide (show parE l = (Sp.z, 4) by unfold parE; rw [if_neg h5])
    have h5I : ¬ (l.length : Int) = 1024 := by omega
    obtain ⟨n, hn⟩ : ∃ n, n = l.length := ⟨_, rfl⟩
    rw [← hn] at h5 h5I ⊢
    clear hn hlen hb hl hl1 hb1 hk1 HB1 HK1
    rw [HE.out]
    have hb1 : Below w.heap.size w (w.alloc (.cells #[.int .i64 0, .int .i64 0, .int .i64 0, .int .i64 0, .int .i64 0, .int .i64 0, .int .i64 0, .bool false] 30)) := (Below.refl _ _).alloc (Nat.le_refl _) _
    have HB1 := hide hb1
    have HK1 := hide (Blk.new w #[.int .i64 0, .int .i64 0, .int .i64 0, .int .i64 0, .int .i64 0, .int .i64 0, .int .i64 0, .bool false] 30)
    clear hb1 HW1 hw1
    go_enter Tryd.func9, Tryd.ntmps9
    go_wp2_with fail
    exact bodyPost_ret (ret_rsp2 rfl _ _ w.heap.size Sp.z _ rfl rfl HK1.out) rfl ⟨rfl, HB1.out⟩
  have HG0 := hide (rint4_any a cap l 0 w1 hlen hb hl1 (by omega))
  push_cast at HG0
  have HG4 := hide (rint4_any a cap l 4 w1 hlen hb hl1 (by omega))
  push_cast at HG4
  have HG12 := hide (rint4_any a cap l 12 w1 hlen hb hl1 (by omega))
  push_cast at HG12
  have HG16 := hide (rint4_any a cap l 16 w1 hlen hb hl1 (by omega))
  push_cast at HG16
  have HG20 := hide (rint4_any a cap l 20 w1 hlen hb hl1 (by omega))
  push_cast at HG20
  have HG24 := hide (rint4_any a cap l 24 w1 hlen hb hl1 (by omega))
  push_cast at HG24
  have HG32 := hide (rint4_any a cap l 32 w1 hlen hb hl1 (by omega))
  push_cast at HG32
  have HG40 := hide (rint4_any a cap l 40 w1 hlen hb hl1 (by omega))
  push_cast at HG40
  have HG76 := hide (rint4_any a cap l 76 w1 hlen hb hl1 (by omega))
  push_cast at HG76
  have HG84 := hide (rint4_any a cap l 84 w1 hlen hb hl1 (by omega))
  push_cast at HG84
  have HG96 := hide (rint4_any a cap l 96 w1 hlen hb hl1 (by omega))
  push_cast at HG96
  have HG100 := hide (rint4_any a cap l 100 w1 hlen hb hl1 (by omega))
  push_cast at HG100
  have HG56 := hide (rint2_any a cap l 56 w1 hlen hb hl1 (by omega))
  push_cast at HG56
  have HG88 := hide (rint2_any a cap l 88 w1 hlen hb hl1 (by omega))
  push_cast at HG88
  have hnr : (spOf l).near := by
    have h1 := num_near4 l 0 4 (by omega) hb
    have h2 := num_near4 l 4 4 (by omega) hb
    have h3 := num_near4 l 32 4 (by omega) hb
    have h4 := num_near4 l 40 4 (by omega) hb
    unfold Sp.near spOf
    dsimp only
    omega
  have HCk := fun u => hide (rchk_any (spOf l) u hnr)
  have HE := hide (show parE l = (if num l 56 2 = 61267 then (if num l 20 4 = 1 ∧ num l 24 4 = 0 ∧ num l 76 4 = 1 ∧ num l 100 4 = 0 then (if num l 88 2 = 128 ∧ (num l 96 4 = 0 ∨ num l 96 4 = 2) then (if (spOf l).chk = 0 then (spOf l, 0) else (Sp.z, (spOf l).chk)) else (Sp.z, 11)) else (Sp.z, 11)) else (Sp.z, 10)) from if_pos h5)
  unfold spOf at HE HCk
  obtain ⟨pc, hpc⟩ : ∃ pc, pc = parE l := ⟨_, rfl⟩
  rw [← hpc] at HE ⊢
  rw [h5] at HG0 HG4 HG12 HG16 HG20 HG24 HG32 HG40 HG76 HG84 HG96 HG100 HG56 HG88 ⊢
  clear hpc hnr hlen hb hl hl1 hw1 hb1 hk1 h5
  generalize num l 56 2 = v56 at *
  generalize num l 88 2 = v88 at *
  generalize num l 0 4 = v0 at *
  generalize num l 4 4 = v4 at *
  generalize num l 12 4 = v12 at *
  generalize num l 16 4 = v16 at *
  generalize num l 20 4 = v20 at *
  generalize num l 24 4 = v24 at *
  generalize num l 32 4 = v32 at *
  generalize num l 40 4 = v40 at *
  generalize num l 76 4 = v76 at *
  generalize num l 84 4 = v84 at *
  generalize num l 96 4 = v96 at *
  generalize num l 100 4 = v100 at *
  go_enter Tryd.func9, Tryd.ntmps9
  go_wp2_with fail
  rw [← HW1.out]
  refine HG56.out.mono ?_
  rintro e9 w2 ⟨rfl, h2⟩
  rw [h2]
  clear h2
  by_cases g56 : v56 = 61267
  rotate_left
  · have HP := hide (show pc = (Sp.z, 10) by rw [HE.out, if_neg g56])
    have x56 : (v56 != 61267) = true := by simpa using g56
    clear HE g56
    have z0 := HK1.out.cell 0 _ rfl
    have f0 := HK1.out.frozen 0
    have z1 := HK1.out.cell 1 _ rfl
    have f1 := HK1.out.frozen 1
    have z2 := HK1.out.cell 2 _ rfl
    have f2 := HK1.out.frozen 2
    have z3 := HK1.out.cell 3 _ rfl
    have f3 := HK1.out.frozen 3
    have z4 := HK1.out.cell 4 _ rfl
    have f4 := HK1.out.frozen 4
    have z5 := HK1.out.cell 5 _ rfl
    have f5 := HK1.out.frozen 5
    have z6 := HK1.out.cell 6 _ rfl
    have f6 := HK1.out.frozen 6
    have z7 := HK1.out.cell 7 _ rfl
    have f7 := HK1.out.frozen 7
    go_wp2_with fail
    obtain ⟨w9, hw9⟩ : ∃ w9, w9 = ((((((((w1.setCell ⟨w.heap.size, 0, none⟩ (.int .i64 0)).setCell ⟨w.heap.size, 1, none⟩ (.int .i64 0)).setCell ⟨w.heap.size, 2, none⟩ (.int .i64 0)).setCell ⟨w.heap.size, 3, none⟩ (.int .i64 0)).setCell ⟨w.heap.size, 4, none⟩ (.int .i64 0)).setCell ⟨w.heap.size, 5, none⟩ (.int .i64 0)).setCell ⟨w.heap.size, 6, none⟩ (.int .i64 0)).setCell ⟨w.heap.size, 7, none⟩ (.bool false)) := ⟨_, rfl⟩
    have hk9 : Blk w9 w.heap.size (Sp.z).cs 30 := by rw [hw9]; exact blk8e HK1.out (.int .i64 0) (.int .i64 0) (.int .i64 0) (.int .i64 0) (.int .i64 0) (.int .i64 0) (.int .i64 0) (.bool false)
    have hb9 : Below w.heap.size w w9 := by rw [hw9]; exact below8e HB1.out (Nat.le_refl _) (.int .i64 0) (.int .i64 0) (.int .i64 0) (.int .i64 0) (.int .i64 0) (.int .i64 0) (.int .i64 0) (.bool false)
    rw [← hw9]
    exact bodyPost_ret (ret_rsp2 rfl _ _ w.heap.size (Sp.z) _ rfl rfl hk9) rfl ⟨by rw [HP.out]; rfl, hb9⟩
  have x56 : (v56 != 61267) = false := by simpa using g56
  have HE2 := hide (show pc = (if v20 = 1 ∧ v24 = 0 ∧ v76 = 1 ∧ v100 = 0 then (if v88 = 128 ∧ (v96 = 0 ∨ v96 = 2) then (if (Sp.mk v0 v4 v12 v16 v32 v40 v84 (v96 == 2)).chk = 0 then (Sp.mk v0 v4 v12 v16 v32 v40 v84 (v96 == 2), 0) else (Sp.z, (Sp.mk v0 v4 v12 v16 v32 v40 v84 (v96 == 2)).chk)) else (Sp.z, 11)) else (Sp.z, 11)) by rw [HE.out, if_pos g56])
  clear HE g56
  go_wp2_with fail
  refine HG96.out.mono ?_
  rintro e9 w2 ⟨rfl, h2⟩
  rw [h2]
  clear h2
  go_wp2_with fail
  refine HG20.out.mono ?_
  rintro e9 w2 ⟨rfl, h2⟩
  rw [h2]
  clear h2
  by_cases g20 : v20 = 1
  rotate_left
  · have HP := hide (show pc = (Sp.z, 11) from by
      rw [HE2.out]
      by_cases q1 : v20 = 1 ∧ v24 = 0 ∧ v76 = 1 ∧ v100 = 0
      · rw [if_pos q1]
        by_cases q2 : v88 = 128 ∧ (v96 = 0 ∨ v96 = 2)
        · exfalso
          omega
        · rw [if_neg q2]
      · rw [if_neg q1])
    have x20 : (v20 != 1) = true := by simpa using g20
    clear HE2 g20
    have z0 := HK1.out.cell 0 _ rfl
    have f0 := HK1.out.frozen 0
    have z1 := HK1.out.cell 1 _ rfl
    have f1 := HK1.out.frozen 1
    have z2 := HK1.out.cell 2 _ rfl
    have f2 := HK1.out.frozen 2
    have z3 := HK1.out.cell 3 _ rfl
    have f3 := HK1.out.frozen 3
    have z4 := HK1.out.cell 4 _ rfl
    have f4 := HK1.out.frozen 4
    have z5 := HK1.out.cell 5 _ rfl
    have f5 := HK1.out.frozen 5
    have z6 := HK1.out.cell 6 _ rfl
    have f6 := HK1.out.frozen 6
    have z7 := HK1.out.cell 7 _ rfl
    have f7 := HK1.out.frozen 7
    go_wp2_with fail
    obtain ⟨w9, hw9⟩ : ∃ w9, w9 = ((((((((w1.setCell ⟨w.heap.size, 0, none⟩ (.int .i64 0)).setCell ⟨w.heap.size, 1, none⟩ (.int .i64 0)).setCell ⟨w.heap.size, 2, none⟩ (.int .i64 0)).setCell ⟨w.heap.size, 3, none⟩ (.int .i64 0)).setCell ⟨w.heap.size, 4, none⟩ (.int .i64 0)).setCell ⟨w.heap.size, 5, none⟩ (.int .i64 0)).setCell ⟨w.heap.size, 6, none⟩ (.int .i64 0)).setCell ⟨w.heap.size, 7, none⟩ (.bool false)) := ⟨_, rfl⟩
    have hk9 : Blk w9 w.heap.size (Sp.z).cs 30 := by rw [hw9]; exact blk8e HK1.out (.int .i64 0) (.int .i64 0) (.int .i64 0) (.int .i64 0) (.int .i64 0) (.int .i64 0) (.int .i64 0) (.bool false)
    have hb9 : Below w.heap.size w w9 := by rw [hw9]; exact below8e HB1.out (Nat.le_refl _) (.int .i64 0) (.int .i64 0) (.int .i64 0) (.int .i64 0) (.int .i64 0) (.int .i64 0) (.int .i64 0) (.bool false)
    rw [← hw9]
    exact bodyPost_ret (ret_rsp2 rfl _ _ w.heap.size (Sp.z) _ rfl rfl hk9) rfl ⟨by rw [HP.out]; rfl, hb9⟩
  have x20 : (v20 != 1) = false := by simpa using g20
  go_wp2_with fail
  refine HG24.out.mono ?_
  rintro e9 w2 ⟨rfl, h2⟩
  rw [h2]
  clear h2
  by_cases g24 : v24 = 0
  rotate_left
  · have HP := hide (show pc = (Sp.z, 11) from by
      rw [HE2.out]
      by_cases q1 : v20 = 1 ∧ v24 = 0 ∧ v76 = 1 ∧ v100 = 0
      · rw [if_pos q1]
        by_cases q2 : v88 = 128 ∧ (v96 = 0 ∨ v96 = 2)
        · exfalso
          omega
        · rw [if_neg q2]
      · rw [if_neg q1])
    have x24 : (v24 != 0) = true := by simpa using g24
    clear HE2 g24
    have z0 := HK1.out.cell 0 _ rfl
    have f0 := HK1.out.frozen 0
    have z1 := HK1.out.cell 1 _ rfl
    have f1 := HK1.out.frozen 1
    have z2 := HK1.out.cell 2 _ rfl
    have f2 := HK1.out.frozen 2
    have z3 := HK1.out.cell 3 _ rfl
    have f3 := HK1.out.frozen 3
    have z4 := HK1.out.cell 4 _ rfl
    have f4 := HK1.out.frozen 4
    have z5 := HK1.out.cell 5 _ rfl
    have f5 := HK1.out.frozen 5
    have z6 := HK1.out.cell 6 _ rfl
    have f6 := HK1.out.frozen 6
    have z7 := HK1.out.cell 7 _ rfl
    have f7 := HK1.out.frozen 7
    go_wp2_with fail
    obtain ⟨w9, hw9⟩ : ∃ w9, w9 = ((((((((w1.setCell ⟨w.heap.size, 0, none⟩ (.int .i64 0)).setCell ⟨w.heap.size, 1, none⟩ (.int .i64 0)).setCell ⟨w.heap.size, 2, none⟩ (.int .i64 0)).setCell ⟨w.heap.size, 3, none⟩ (.int .i64 0)).setCell ⟨w.heap.size, 4, none⟩ (.int .i64 0)).setCell ⟨w.heap.size, 5, none⟩ (.int .i64 0)).setCell ⟨w.heap.size, 6, none⟩ (.int .i64 0)).setCell ⟨w.heap.size, 7, none⟩ (.bool false)) := ⟨_, rfl⟩
    have hk9 : Blk w9 w.heap.size (Sp.z).cs 30 := by rw [hw9]; exact blk8e HK1.out (.int .i64 0) (.int .i64 0) (.int .i64 0) (.int .i64 0) (.int .i64 0) (.int .i64 0) (.int .i64 0) (.bool false)
    have hb9 : Below w.heap.size w w9 := by rw [hw9]; exact below8e HB1.out (Nat.le_refl _) (.int .i64 0) (.int .i64 0) (.int .i64 0) (.int .i64 0) (.int .i64 0) (.int .i64 0) (.int .i64 0) (.bool false)
    rw [← hw9]
    exact bodyPost_ret (ret_rsp2 rfl _ _ w.heap.size (Sp.z) _ rfl rfl hk9) rfl ⟨by rw [HP.out]; rfl, hb9⟩
  have x24 : (v24 != 0) = false := by simpa using g24
  go_wp2_with fail
  refine HG76.out.mono ?_
  rintro e9 w2 ⟨rfl, h2⟩
  rw [h2]
  clear h2
  by_cases g76 : v76 = 1
  rotate_left
  · have HP := hide (show pc = (Sp.z, 11) from by
      rw [HE2.out]
      by_cases q1 : v20 = 1 ∧ v24 = 0 ∧ v76 = 1 ∧ v100 = 0
      · rw [if_pos q1]
        by_cases q2 : v88 = 128 ∧ (v96 = 0 ∨ v96 = 2)
        · exfalso
          omega
        · rw [if_neg q2]
      · rw [if_neg q1])
    have x76 : (v76 != 1) = true := by simpa using g76
    clear HE2 g76
    have z0 := HK1.out.cell 0 _ rfl
    have f0 := HK1.out.frozen 0
    have z1 := HK1.out.cell 1 _ rfl
    have f1 := HK1.out.frozen 1
    have z2 := HK1.out.cell 2 _ rfl
    have f2 := HK1.out.frozen 2
    have z3 := HK1.out.cell 3 _ rfl
    have f3 := HK1.out.frozen 3
    have z4 := HK1.out.cell 4 _ rfl
    have f4 := HK1.out.frozen 4
    have z5 := HK1.out.cell 5 _ rfl
    have f5 := HK1.out.frozen 5
    have z6 := HK1.out.cell 6 _ rfl
    have f6 := HK1.out.frozen 6
    have z7 := HK1.out.cell 7 _ rfl
    have f7 := HK1.out.frozen 7
    go_wp2_with fail
    obtain ⟨w9, hw9⟩ : ∃ w9, w9 = ((((((((w1.setCell ⟨w.heap.size, 0, none⟩ (.int .i64 0)).setCell ⟨w.heap.size, 1, none⟩ (.int .i64 0)).setCell ⟨w.heap.size, 2, none⟩ (.int .i64 0)).setCell ⟨w.heap.size, 3, none⟩ (.int .i64 0)).setCell ⟨w.heap.size, 4, none⟩ (.int .i64 0)).setCell ⟨w.heap.size, 5, none⟩ (.int .i64 0)).setCell ⟨w.heap.size, 6, none⟩ (.int .i64 0)).setCell ⟨w.heap.size, 7, none⟩ (.bool false)) := ⟨_, rfl⟩
    have hk9 : Blk w9 w.heap.size (Sp.z).cs 30 := by rw [hw9]; exact blk8e HK1.out (.int .i64 0) (.int .i64 0) (.int .i64 0) (.int .i64 0) (.int .i64 0) (.int .i64 0) (.int .i64 0) (.bool false)
    have hb9 : Below w.heap.size w w9 := by rw [hw9]; exact below8e HB1.out (Nat.le_refl _) (.int .i64 0) (.int .i64 0) (.int .i64 0) (.int .i64 0) (.int .i64 0) (.int .i64 0) (.int .i64 0) (.bool false)
    rw [← hw9]
    exact bodyPost_ret (ret_rsp2 rfl _ _ w.heap.size (Sp.z) _ rfl rfl hk9) rfl ⟨by rw [HP.out]; rfl, hb9⟩
  have x76 : (v76 != 1) = false := by simpa using g76
  go_wp2_with fail
  refine HG88.out.mono ?_
  rintro e9 w2 ⟨rfl, h2⟩
  rw [h2]
  clear h2
  by_cases g88 : v88 = 128
  rotate_left
  · have HP := hide (show pc = (Sp.z, 11) from by
      rw [HE2.out]
      by_cases q1 : v20 = 1 ∧ v24 = 0 ∧ v76 = 1 ∧ v100 = 0
      · rw [if_pos q1]
        by_cases q2 : v88 = 128 ∧ (v96 = 0 ∨ v96 = 2)
        · exfalso
          omega
        · rw [if_neg q2]
      · rw [if_neg q1])
    have x88 : (v88 != 128) = true := by simpa using g88
    clear HE2 g88
    have z0 := HK1.out.cell 0 _ rfl
    have f0 := HK1.out.frozen 0
    have z1 := HK1.out.cell 1 _ rfl
    have f1 := HK1.out.frozen 1
    have z2 := HK1.out.cell 2 _ rfl
    have f2 := HK1.out.frozen 2
    have z3 := HK1.out.cell 3 _ rfl
    have f3 := HK1.out.frozen 3
    have z4 := HK1.out.cell 4 _ rfl
    have f4 := HK1.out.frozen 4
    have z5 := HK1.out.cell 5 _ rfl
    have f5 := HK1.out.frozen 5
    have z6 := HK1.out.cell 6 _ rfl
    have f6 := HK1.out.frozen 6
    have z7 := HK1.out.cell 7 _ rfl
    have f7 := HK1.out.frozen 7
    go_wp2_with fail
    obtain ⟨w9, hw9⟩ : ∃ w9, w9 = ((((((((w1.setCell ⟨w.heap.size, 0, none⟩ (.int .i64 0)).setCell ⟨w.heap.size, 1, none⟩ (.int .i64 0)).setCell ⟨w.heap.size, 2, none⟩ (.int .i64 0)).setCell ⟨w.heap.size, 3, none⟩ (.int .i64 0)).setCell ⟨w.heap.size, 4, none⟩ (.int .i64 0)).setCell ⟨w.heap.size, 5, none⟩ (.int .i64 0)).setCell ⟨w.heap.size, 6, none⟩ (.int .i64 0)).setCell ⟨w.heap.size, 7, none⟩ (.bool false)) := ⟨_, rfl⟩
    have hk9 : Blk w9 w.heap.size (Sp.z).cs 30 := by rw [hw9]; exact blk8e HK1.out (.int .i64 0) (.int .i64 0) (.int .i64 0) (.int .i64 0) (.int .i64 0) (.int .i64 0) (.int .i64 0) (.bool false)
    have hb9 : Below w.heap.size w w9 := by rw [hw9]; exact below8e HB1.out (Nat.le_refl _) (.int .i64 0) (.int .i64 0) (.int .i64 0) (.int .i64 0) (.int .i64 0) (.int .i64 0) (.int .i64 0) (.bool false)
    rw [← hw9]
    exact bodyPost_ret (ret_rsp2 rfl _ _ w.heap.size (Sp.z) _ rfl rfl hk9) rfl ⟨by rw [HP.out]; rfl, hb9⟩
  have x88 : (v88 != 128) = false := by simpa using g88
  by_cases gt : v96 = 0 ∨ v96 = 2
  rotate_left
  · have HP := hide (show pc = (Sp.z, 11) from by
      rw [HE2.out]
      by_cases q1 : v20 = 1 ∧ v24 = 0 ∧ v76 = 1 ∧ v100 = 0
      · rw [if_pos q1]
        by_cases q2 : v88 = 128 ∧ (v96 = 0 ∨ v96 = 2)
        · exfalso
          omega
        · rw [if_neg q2]
      · rw [if_neg q1])
    have y0 : (v96 != 0) = true := by simp; omega
    have y2 : (v96 != 2) = true := by simp; omega
    clear HE2 gt
    have z0 := HK1.out.cell 0 _ rfl
    have f0 := HK1.out.frozen 0
    have z1 := HK1.out.cell 1 _ rfl
    have f1 := HK1.out.frozen 1
    have z2 := HK1.out.cell 2 _ rfl
    have f2 := HK1.out.frozen 2
    have z3 := HK1.out.cell 3 _ rfl
    have f3 := HK1.out.frozen 3
    have z4 := HK1.out.cell 4 _ rfl
    have f4 := HK1.out.frozen 4
    have z5 := HK1.out.cell 5 _ rfl
    have f5 := HK1.out.frozen 5
    have z6 := HK1.out.cell 6 _ rfl
    have f6 := HK1.out.frozen 6
    have z7 := HK1.out.cell 7 _ rfl
    have f7 := HK1.out.frozen 7
    go_wp2_with fail
    obtain ⟨w9, hw9⟩ : ∃ w9, w9 = ((((((((w1.setCell ⟨w.heap.size, 0, none⟩ (.int .i64 0)).setCell ⟨w.heap.size, 1, none⟩ (.int .i64 0)).setCell ⟨w.heap.size, 2, none⟩ (.int .i64 0)).setCell ⟨w.heap.size, 3, none⟩ (.int .i64 0)).setCell ⟨w.heap.size, 4, none⟩ (.int .i64 0)).setCell ⟨w.heap.size, 5, none⟩ (.int .i64 0)).setCell ⟨w.heap.size, 6, none⟩ (.int .i64 0)).setCell ⟨w.heap.size, 7, none⟩ (.bool false)) := ⟨_, rfl⟩
    have hk9 : Blk w9 w.heap.size (Sp.z).cs 30 := by rw [hw9]; exact blk8e HK1.out (.int .i64 0) (.int .i64 0) (.int .i64 0) (.int .i64 0) (.int .i64 0) (.int .i64 0) (.int .i64 0) (.bool false)
    have hb9 : Below w.heap.size w w9 := by rw [hw9]; exact below8e HB1.out (Nat.le_refl _) (.int .i64 0) (.int .i64 0) (.int .i64 0) (.int .i64 0) (.int .i64 0) (.int .i64 0) (.int .i64 0) (.bool false)
    rw [← hw9]
    exact bodyPost_ret (ret_rsp2 rfl _ _ w.heap.size (Sp.z) _ rfl rfl hk9) rfl ⟨by rw [HP.out]; rfl, hb9⟩
  have HT : Hid ((v96 != 0 && v96 != 2) = false) := hide (by rcases gt with h | h <;> rw [h] <;> decide)
  rcases gt with gt | gt
  · subst gt
    have y0 : (((0 : Int)) != 0) = false := by decide
    have y2 : (((0 : Int)) != 2) = true := by decide
    have y3 : (((0 : Int)) == 2) = false := by decide
    rw [y3] at HE2 HCk
    go_wp2_with fail
    refine HG100.out.mono ?_
    rintro e9 w2 ⟨rfl, h2⟩
    rw [h2]
    clear h2
    by_cases g100 : v100 = 0
    rotate_left
    · have HP := hide (show pc = (Sp.z, 11) from by
        rw [HE2.out, if_neg (fun h => g100 h.2.2.2)])
      have x100 : (v100 != 0) = true := by simpa using g100
      clear HE2 g100
      have z0 := HK1.out.cell 0 _ rfl
      have f0 := HK1.out.frozen 0
      have z1 := HK1.out.cell 1 _ rfl
      have f1 := HK1.out.frozen 1
      have z2 := HK1.out.cell 2 _ rfl
      have f2 := HK1.out.frozen 2
      have z3 := HK1.out.cell 3 _ rfl
      have f3 := HK1.out.frozen 3
      have z4 := HK1.out.cell 4 _ rfl
      have f4 := HK1.out.frozen 4
      have z5 := HK1.out.cell 5 _ rfl
      have f5 := HK1.out.frozen 5
      have z6 := HK1.out.cell 6 _ rfl
      have f6 := HK1.out.frozen 6
      have z7 := HK1.out.cell 7 _ rfl
      have f7 := HK1.out.frozen 7
      go_wp2_with fail
      obtain ⟨w9, hw9⟩ : ∃ w9, w9 = ((((((((w1.setCell ⟨w.heap.size, 0, none⟩ (.int .i64 0)).setCell ⟨w.heap.size, 1, none⟩ (.int .i64 0)).setCell ⟨w.heap.size, 2, none⟩ (.int .i64 0)).setCell ⟨w.heap.size, 3, none⟩ (.int .i64 0)).setCell ⟨w.heap.size, 4, none⟩ (.int .i64 0)).setCell ⟨w.heap.size, 5, none⟩ (.int .i64 0)).setCell ⟨w.heap.size, 6, none⟩ (.int .i64 0)).setCell ⟨w.heap.size, 7, none⟩ (.bool false)) := ⟨_, rfl⟩
      have hk9 : Blk w9 w.heap.size (Sp.z).cs 30 := by rw [hw9]; exact blk8e HK1.out (.int .i64 0) (.int .i64 0) (.int .i64 0) (.int .i64 0) (.int .i64 0) (.int .i64 0) (.int .i64 0) (.bool false)
      have hb9 : Below w.heap.size w w9 := by rw [hw9]; exact below8e HB1.out (Nat.le_refl _) (.int .i64 0) (.int .i64 0) (.int .i64 0) (.int .i64 0) (.int .i64 0) (.int .i64 0) (.int .i64 0) (.bool false)
      rw [← hw9]
      exact bodyPost_ret (ret_rsp2 rfl _ _ w.heap.size (Sp.z) _ rfl rfl hk9) rfl ⟨by rw [HP.out]; rfl, hb9⟩
    have x100 : (v100 != 0) = false := by simpa using g100
    have HE4 := hide (show pc = (if (Sp.mk v0 v4 v12 v16 v32 v40 v84 false).chk = 0 then (Sp.mk v0 v4 v12 v16 v32 v40 v84 false, 0) else (Sp.z, (Sp.mk v0 v4 v12 v16 v32 v40 v84 false).chk)) by rw [HE2.out, if_pos ⟨g20, g24, g76, g100⟩, if_pos ⟨g88, by decide⟩])
    clear HE2 g20 g24 g76 g88 g100 HT
    go_wp2_with fail
    refine HG0.out.mono ?_
    rintro e9 w2 ⟨rfl, h2⟩
    rw [h2]
    clear h2
    go_wp2_with fail
    refine HG4.out.mono ?_
    rintro e9 w2 ⟨rfl, h2⟩
    rw [h2]
    clear h2
    go_wp2_with fail
    refine HG12.out.mono ?_
    rintro e9 w2 ⟨rfl, h2⟩
    rw [h2]
    clear h2
    go_wp2_with fail
    refine HG16.out.mono ?_
    rintro e9 w2 ⟨rfl, h2⟩
    rw [h2]
    clear h2
    go_wp2_with fail
    refine HG32.out.mono ?_
    rintro e9 w2 ⟨rfl, h2⟩
    rw [h2]
    clear h2
    go_wp2_with fail
    refine HG40.out.mono ?_
    rintro e9 w2 ⟨rfl, h2⟩
    rw [h2]
    clear h2
    go_wp2_with fail
    refine HG84.out.mono ?_
    rintro e9 w2 ⟨rfl, h2⟩
    rw [h2]
    clear h2
    obtain ⟨ck, hck⟩ : ∃ ck, ck = (Sp.mk v0 v4 v12 v16 v32 v40 v84 false).chk := ⟨_, rfl⟩
    rw [← hck] at HE4 HCk
    have HCk2 : ∀ u, Hid (Calls Tryd.prog 14 #[.agg #[.int .i64 v0, .int .i64 v4, .int .i64 v12, .int .i64 v16, .int .i64 v32, .int .i64 v40, .int .i64 v84, .bool false]] u fun e w' => e = .returned (.int .i64 ck) ∧ Below u.heap.size u w') := HCk
    clear hck HCk
    obtain ⟨w3, hw3⟩ : ∃ w3, w3 = w1.alloc (.cells #[.int .i64 v0, .int .i64 v4, .int .i64 v12, .int .i64 v16, .int .i64 v32, .int .i64 v40, .int .i64 v84, .bool false] 30) := ⟨_, rfl⟩
    have hnb : Blk w3 w1.heap.size #[.int .i64 v0, .int .i64 v4, .int .i64 v12, .int .i64 v16, .int .i64 v32, .int .i64 v40, .int .i64 v84, .bool false] 30 := by rw [hw3]; exact Blk.new _ _ _
    have hb3 : Below w1.heap.size w1 w3 := by rw [hw3]; exact (Below.refl _ _).alloc (Nat.le_refl _) _
    have HK3 := hide (HK1.out.below hb3)
    have HB3 := hide (HB1.out.trans (hb3.mono HB1.out.size))
    have HN3 := hide hnb
    have HW3 := hide hw3
    have d0 := hnb.cell 0 _ rfl
    have d1 := hnb.cell 1 _ rfl
    have d2 := hnb.cell 2 _ rfl
    have d3 := hnb.cell 3 _ rfl
    have d4 := hnb.cell 4 _ rfl
    have d5 := hnb.cell 5 _ rfl
    have d6 := hnb.cell 6 _ rfl
    have d7 := hnb.cell 7 _ rfl
    rw [hw3] at d0 d1 d2 d3 d4 d5 d6 d7
    clear hw3 hnb hb3
    go_wp2_with fail
    rw [← HW3.out]
    clear d0 d1 d2 d3 d4 d5 d6 d7
    refine (HCk2 _).out.mono ?_
    rintro e9 w4 ⟨rfl, h4⟩
    have HN4 := hide (HN3.out.below h4)
    have HK4 := hide (HK3.out.below h4)
    have HB4 := hide (HB3.out.trans (h4.mono HB3.out.size))
    clear h4
    have z0 := HK4.out.cell 0 _ rfl
    have f0 := HK4.out.frozen 0
    have z1 := HK4.out.cell 1 _ rfl
    have f1 := HK4.out.frozen 1
    have z2 := HK4.out.cell 2 _ rfl
    have f2 := HK4.out.frozen 2
    have z3 := HK4.out.cell 3 _ rfl
    have f3 := HK4.out.frozen 3
    have z4 := HK4.out.cell 4 _ rfl
    have f4 := HK4.out.frozen 4
    have z5 := HK4.out.cell 5 _ rfl
    have f5 := HK4.out.frozen 5
    have z6 := HK4.out.cell 6 _ rfl
    have f6 := HK4.out.frozen 6
    have z7 := HK4.out.cell 7 _ rfl
    have f7 := HK4.out.frozen 7
    by_cases hk : ck = 0
    · have HP := hide (show pc = ((Sp.mk v0 v4 v12 v16 v32 v40 v84 false), 0) by rw [HE4.out, if_pos hk])
      rw [hk]
      have d0 := HN4.out.cell 0 _ rfl
      have d1 := HN4.out.cell 1 _ rfl
      have d2 := HN4.out.cell 2 _ rfl
      have d3 := HN4.out.cell 3 _ rfl
      have d4 := HN4.out.cell 4 _ rfl
      have d5 := HN4.out.cell 5 _ rfl
      have d6 := HN4.out.cell 6 _ rfl
      have d7 := HN4.out.cell 7 _ rfl
      go_wp2_with fail
      obtain ⟨w9, hw9⟩ : ∃ w9, w9 = ((((((((w4.setCell ⟨w.heap.size, 0, none⟩ (.int .i64 v0)).setCell ⟨w.heap.size, 1, none⟩ (.int .i64 v4)).setCell ⟨w.heap.size, 2, none⟩ (.int .i64 v12)).setCell ⟨w.heap.size, 3, none⟩ (.int .i64 v16)).setCell ⟨w.heap.size, 4, none⟩ (.int .i64 v32)).setCell ⟨w.heap.size, 5, none⟩ (.int .i64 v40)).setCell ⟨w.heap.size, 6, none⟩ (.int .i64 v84)).setCell ⟨w.heap.size, 7, none⟩ (.bool false)) := ⟨_, rfl⟩
      have hk9 : Blk w9 w.heap.size (Sp.mk v0 v4 v12 v16 v32 v40 v84 false).cs 30 := by rw [hw9]; exact blk8e HK4.out (.int .i64 v0) (.int .i64 v4) (.int .i64 v12) (.int .i64 v16) (.int .i64 v32) (.int .i64 v40) (.int .i64 v84) (.bool false)
      have hb9 : Below w.heap.size w w9 := by rw [hw9]; exact below8e HB4.out (Nat.le_refl _) (.int .i64 v0) (.int .i64 v4) (.int .i64 v12) (.int .i64 v16) (.int .i64 v32) (.int .i64 v40) (.int .i64 v84) (.bool false)
      rw [← hw9]
      exact bodyPost_ret (ret_rsp2 rfl _ _ w.heap.size (Sp.mk v0 v4 v12 v16 v32 v40 v84 false) _ rfl rfl hk9) rfl ⟨by rw [HP.out]; rfl, hb9⟩
    · have HP := hide (show pc = (Sp.z, ck) by rw [HE4.out, if_neg hk])
      have xk : (ck != 0) = true := by simpa using hk
      go_wp2_with fail
      obtain ⟨w9, hw9⟩ : ∃ w9, w9 = ((((((((w4.setCell ⟨w.heap.size, 0, none⟩ (.int .i64 0)).setCell ⟨w.heap.size, 1, none⟩ (.int .i64 0)).setCell ⟨w.heap.size, 2, none⟩ (.int .i64 0)).setCell ⟨w.heap.size, 3, none⟩ (.int .i64 0)).setCell ⟨w.heap.size, 4, none⟩ (.int .i64 0)).setCell ⟨w.heap.size, 5, none⟩ (.int .i64 0)).setCell ⟨w.heap.size, 6, none⟩ (.int .i64 0)).setCell ⟨w.heap.size, 7, none⟩ (.bool false)) := ⟨_, rfl⟩
      have hk9 : Blk w9 w.heap.size (Sp.z).cs 30 := by rw [hw9]; exact blk8e HK4.out (.int .i64 0) (.int .i64 0) (.int .i64 0) (.int .i64 0) (.int .i64 0) (.int .i64 0) (.int .i64 0) (.bool false)
      have hb9 : Below w.heap.size w w9 := by rw [hw9]; exact below8e HB4.out (Nat.le_refl _) (.int .i64 0) (.int .i64 0) (.int .i64 0) (.int .i64 0) (.int .i64 0) (.int .i64 0) (.int .i64 0) (.bool false)
      rw [← hw9]
      exact bodyPost_ret (ret_rsp2 rfl _ _ w.heap.size (Sp.z) _ rfl rfl hk9) rfl ⟨by rw [HP.out]; rfl, hb9⟩
  · subst gt
    have y0 : (((2 : Int)) != 0) = true := by decide
    have y2 : (((2 : Int)) != 2) = false := by decide
    have y3 : (((2 : Int)) == 2) = true := by decide
    rw [y3] at HE2 HCk
    go_wp2_with fail
    refine HG100.out.mono ?_
    rintro e9 w2 ⟨rfl, h2⟩
    rw [h2]
    clear h2
    by_cases g100 : v100 = 0
    rotate_left
    · have HP := hide (show pc = (Sp.z, 11) from by
        rw [HE2.out, if_neg (fun h => g100 h.2.2.2)])
      have x100 : (v100 != 0) = true := by simpa using g100
      clear HE2 g100
      have z0 := HK1.out.cell 0 _ rfl
      have f0 := HK1.out.frozen 0
      have z1 := HK1.out.cell 1 _ rfl
      have f1 := HK1.out.frozen 1
      have z2 := HK1.out.cell 2 _ rfl
      have f2 := HK1.out.frozen 2
      have z3 := HK1.out.cell 3 _ rfl
      have f3 := HK1.out.frozen 3
      have z4 := HK1.out.cell 4 _ rfl
      have f4 := HK1.out.frozen 4
      have z5 := HK1.out.cell 5 _ rfl
      have f5 := HK1.out.frozen 5
      have z6 := HK1.out.cell 6 _ rfl
      have f6 := HK1.out.frozen 6
      have z7 := HK1.out.cell 7 _ rfl
      have f7 := HK1.out.frozen 7
      go_wp2_with fail
      obtain ⟨w9, hw9⟩ : ∃ w9, w9 = ((((((((w1.setCell ⟨w.heap.size, 0, none⟩ (.int .i64 0)).setCell ⟨w.heap.size, 1, none⟩ (.int .i64 0)).setCell ⟨w.heap.size, 2, none⟩ (.int .i64 0)).setCell ⟨w.heap.size, 3, none⟩ (.int .i64 0)).setCell ⟨w.heap.size, 4, none⟩ (.int .i64 0)).setCell ⟨w.heap.size, 5, none⟩ (.int .i64 0)).setCell ⟨w.heap.size, 6, none⟩ (.int .i64 0)).setCell ⟨w.heap.size, 7, none⟩ (.bool false)) := ⟨_, rfl⟩
      have hk9 : Blk w9 w.heap.size (Sp.z).cs 30 := by rw [hw9]; exact blk8e HK1.out (.int .i64 0) (.int .i64 0) (.int .i64 0) (.int .i64 0) (.int .i64 0) (.int .i64 0) (.int .i64 0) (.bool false)
      have hb9 : Below w.heap.size w w9 := by rw [hw9]; exact below8e HB1.out (Nat.le_refl _) (.int .i64 0) (.int .i64 0) (.int .i64 0) (.int .i64 0) (.int .i64 0) (.int .i64 0) (.int .i64 0) (.bool false)
      rw [← hw9]
      exact bodyPost_ret (ret_rsp2 rfl _ _ w.heap.size (Sp.z) _ rfl rfl hk9) rfl ⟨by rw [HP.out]; rfl, hb9⟩
    have x100 : (v100 != 0) = false := by simpa using g100
    have HE4 := hide (show pc = (if (Sp.mk v0 v4 v12 v16 v32 v40 v84 true).chk = 0 then (Sp.mk v0 v4 v12 v16 v32 v40 v84 true, 0) else (Sp.z, (Sp.mk v0 v4 v12 v16 v32 v40 v84 true).chk)) by rw [HE2.out, if_pos ⟨g20, g24, g76, g100⟩, if_pos ⟨g88, by decide⟩])
    clear HE2 g20 g24 g76 g88 g100 HT
    go_wp2_with fail
    refine HG0.out.mono ?_
    rintro e9 w2 ⟨rfl, h2⟩
    rw [h2]
    clear h2
    go_wp2_with fail
    refine HG4.out.mono ?_
    rintro e9 w2 ⟨rfl, h2⟩
    rw [h2]
    clear h2
    go_wp2_with fail
    refine HG12.out.mono ?_
    rintro e9 w2 ⟨rfl, h2⟩
    rw [h2]
    clear h2
    go_wp2_with fail
    refine HG16.out.mono ?_
    rintro e9 w2 ⟨rfl, h2⟩
    rw [h2]
    clear h2
    go_wp2_with fail
    refine HG32.out.mono ?_
    rintro e9 w2 ⟨rfl, h2⟩
    rw [h2]
    clear h2
    go_wp2_with fail
    refine HG40.out.mono ?_
    rintro e9 w2 ⟨rfl, h2⟩
    rw [h2]
    clear h2
    go_wp2_with fail
    refine HG84.out.mono ?_
    rintro e9 w2 ⟨rfl, h2⟩
    rw [h2]
    clear h2
    obtain ⟨ck, hck⟩ : ∃ ck, ck = (Sp.mk v0 v4 v12 v16 v32 v40 v84 true).chk := ⟨_, rfl⟩
    rw [← hck] at HE4 HCk
    have HCk2 : ∀ u, Hid (Calls Tryd.prog 14 #[.agg #[.int .i64 v0, .int .i64 v4, .int .i64 v12, .int .i64 v16, .int .i64 v32, .int .i64 v40, .int .i64 v84, .bool true]] u fun e w' => e = .returned (.int .i64 ck) ∧ Below u.heap.size u w') := HCk
    clear hck HCk
    obtain ⟨w3, hw3⟩ : ∃ w3, w3 = w1.alloc (.cells #[.int .i64 v0, .int .i64 v4, .int .i64 v12, .int .i64 v16, .int .i64 v32, .int .i64 v40, .int .i64 v84, .bool true] 30) := ⟨_, rfl⟩
    have hnb : Blk w3 w1.heap.size #[.int .i64 v0, .int .i64 v4, .int .i64 v12, .int .i64 v16, .int .i64 v32, .int .i64 v40, .int .i64 v84, .bool true] 30 := by rw [hw3]; exact Blk.new _ _ _
    have hb3 : Below w1.heap.size w1 w3 := by rw [hw3]; exact (Below.refl _ _).alloc (Nat.le_refl _) _
    have HK3 := hide (HK1.out.below hb3)
    have HB3 := hide (HB1.out.trans (hb3.mono HB1.out.size))
    have HN3 := hide hnb
    have HW3 := hide hw3
    have d0 := hnb.cell 0 _ rfl
    have d1 := hnb.cell 1 _ rfl
    have d2 := hnb.cell 2 _ rfl
    have d3 := hnb.cell 3 _ rfl
    have d4 := hnb.cell 4 _ rfl
    have d5 := hnb.cell 5 _ rfl
    have d6 := hnb.cell 6 _ rfl
    have d7 := hnb.cell 7 _ rfl
    rw [hw3] at d0 d1 d2 d3 d4 d5 d6 d7
    clear hw3 hnb hb3
    go_wp2_with fail
    rw [← HW3.out]
    clear d0 d1 d2 d3 d4 d5 d6 d7
    refine (HCk2 _).out.mono ?_
    rintro e9 w4 ⟨rfl, h4⟩
    have HN4 := hide (HN3.out.below h4)
    have HK4 := hide (HK3.out.below h4)
    have HB4 := hide (HB3.out.trans (h4.mono HB3.out.size))
    clear h4
    have z0 := HK4.out.cell 0 _ rfl
    have f0 := HK4.out.frozen 0
    have z1 := HK4.out.cell 1 _ rfl
    have f1 := HK4.out.frozen 1
    have z2 := HK4.out.cell 2 _ rfl
    have f2 := HK4.out.frozen 2
    have z3 := HK4.out.cell 3 _ rfl
    have f3 := HK4.out.frozen 3
    have z4 := HK4.out.cell 4 _ rfl
    have f4 := HK4.out.frozen 4
    have z5 := HK4.out.cell 5 _ rfl
    have f5 := HK4.out.frozen 5
    have z6 := HK4.out.cell 6 _ rfl
    have f6 := HK4.out.frozen 6
    have z7 := HK4.out.cell 7 _ rfl
    have f7 := HK4.out.frozen 7
    by_cases hk : ck = 0
    · have HP := hide (show pc = ((Sp.mk v0 v4 v12 v16 v32 v40 v84 true), 0) by rw [HE4.out, if_pos hk])
      rw [hk]
      have d0 := HN4.out.cell 0 _ rfl
      have d1 := HN4.out.cell 1 _ rfl
      have d2 := HN4.out.cell 2 _ rfl
      have d3 := HN4.out.cell 3 _ rfl
      have d4 := HN4.out.cell 4 _ rfl
      have d5 := HN4.out.cell 5 _ rfl
      have d6 := HN4.out.cell 6 _ rfl
      have d7 := HN4.out.cell 7 _ rfl
      go_wp2_with fail
      obtain ⟨w9, hw9⟩ : ∃ w9, w9 = ((((((((w4.setCell ⟨w.heap.size, 0, none⟩ (.int .i64 v0)).setCell ⟨w.heap.size, 1, none⟩ (.int .i64 v4)).setCell ⟨w.heap.size, 2, none⟩ (.int .i64 v12)).setCell ⟨w.heap.size, 3, none⟩ (.int .i64 v16)).setCell ⟨w.heap.size, 4, none⟩ (.int .i64 v32)).setCell ⟨w.heap.size, 5, none⟩ (.int .i64 v40)).setCell ⟨w.heap.size, 6, none⟩ (.int .i64 v84)).setCell ⟨w.heap.size, 7, none⟩ (.bool true)) := ⟨_, rfl⟩
      have hk9 : Blk w9 w.heap.size (Sp.mk v0 v4 v12 v16 v32 v40 v84 true).cs 30 := by rw [hw9]; exact blk8e HK4.out (.int .i64 v0) (.int .i64 v4) (.int .i64 v12) (.int .i64 v16) (.int .i64 v32) (.int .i64 v40) (.int .i64 v84) (.bool true)
      have hb9 : Below w.heap.size w w9 := by rw [hw9]; exact below8e HB4.out (Nat.le_refl _) (.int .i64 v0) (.int .i64 v4) (.int .i64 v12) (.int .i64 v16) (.int .i64 v32) (.int .i64 v40) (.int .i64 v84) (.bool true)
      rw [← hw9]
      exact bodyPost_ret (ret_rsp2 rfl _ _ w.heap.size (Sp.mk v0 v4 v12 v16 v32 v40 v84 true) _ rfl rfl hk9) rfl ⟨by rw [HP.out]; rfl, hb9⟩
    · have HP := hide (show pc = (Sp.z, ck) by rw [HE4.out, if_neg hk])
      have xk : (ck != 0) = true := by simpa using hk
      go_wp2_with fail
      obtain ⟨w9, hw9⟩ : ∃ w9, w9 = ((((((((w4.setCell ⟨w.heap.size, 0, none⟩ (.int .i64 0)).setCell ⟨w.heap.size, 1, none⟩ (.int .i64 0)).setCell ⟨w.heap.size, 2, none⟩ (.int .i64 0)).setCell ⟨w.heap.size, 3, none⟩ (.int .i64 0)).setCell ⟨w.heap.size, 4, none⟩ (.int .i64 0)).setCell ⟨w.heap.size, 5, none⟩ (.int .i64 0)).setCell ⟨w.heap.size, 6, none⟩ (.int .i64 0)).setCell ⟨w.heap.size, 7, none⟩ (.bool false)) := ⟨_, rfl⟩
      have hk9 : Blk w9 w.heap.size (Sp.z).cs 30 := by rw [hw9]; exact blk8e HK4.out (.int .i64 0) (.int .i64 0) (.int .i64 0) (.int .i64 0) (.int .i64 0) (.int .i64 0) (.int .i64 0) (.bool false)
      have hb9 : Below w.heap.size w w9 := by rw [hw9]; exact below8e HB4.out (Nat.le_refl _) (.int .i64 0) (.int .i64 0) (.int .i64 0) (.int .i64 0) (.int .i64 0) (.int .i64 0) (.int .i64 0) (.bool false)
      rw [← hw9]
      exact bodyPost_ret (ret_rsp2 rfl _ _ w.heap.size (Sp.z) _ rfl rfl hk9) rfl ⟨by rw [HP.out]; rfl, hb9⟩
end Go.Proofs.YtjmajjfknmjifaaDoor.Oct
