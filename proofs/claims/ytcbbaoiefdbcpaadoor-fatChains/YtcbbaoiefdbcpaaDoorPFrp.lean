/- The document's words of a first sector: Parse, for any bytes. -/
import Derived.Test.YtcbbaoiefdbcpaaDoorPFrg
import Derived.Test.YtcbbaoiefdbcpaaDoorPRefFrc
namespace Go.Proofs.YtcbbaoiefdbcpaaDoor.Oct
open Go.RowKit

theorem ret_rbt {fn : Func} {p u : Tmp} (hr : fn.results = #[.cell p 36, .tmp u]) (tmps : Array Value) (w : World) (R : Nat) (b : Bt) (z : Value)
    (hp : tmps.getD p undef = .pointer (some ⟨R, 0, none⟩)) (hz : tmps.getD u undef = z) (hs : Blk w R b.cs 36) :
    (results fn tmps).run Tryd.prog w = .ok (.tuple #[.agg b.cs, z]) w := by
  rw [results_cell_tmp hr, hp, hz]
  simp only [asAddr, Sem.run_pure, Result.andThen_ok]
  rw [run_loadVar_row w R 36 36 _ (0, 0) _ hs Tryd.underlying36 rfl (by kernel_rfl)]
  rfl

theorem num42 (l : List Int) (hb : Byts l) : num l 40 4 = 0 ↔ num l 40 2 = 0 ∧ num l 42 2 = 0 := by
  have h0 := hb 40
  have h1 := hb 41
  have h2 := hb 42
  have h3 := hb 43
  simp [num, -List.getD_eq_getElem?_getD]
  omega

theorem num510 (l : List Int) (hb : Byts l) : num l 510 2 = 43605 ↔ l.getD 510 0 = 85 ∧ l.getD 511 0 = 170 := by
  have h0 := hb 510
  have h1 := hb 511
  simp [num, -List.getD_eq_getElem?_getD]
  omega

theorem num_one (l : List Int) (p : Nat) : num l p 1 = l.getD p 0 := by simp [num]

/-- What Parse answers, in the document's order. -/
theorem parB_ref (l : List Int) (hb : Byts l) (h5 : l.length = 512) : parB l = if l.getD 510 0 = 85 ∧ l.getD 511 0 = 170 ∧ (l.drop 82).take 8 = nmB then (if num l 11 2 = 512 ∧ num l 17 2 = 0 ∧ num l 19 2 = 0 ∧ num l 22 2 = 0 ∧ num l 40 4 = 0 then (if (Bt.mk (num l 13 1) (num l 14 2) (num l 16 1) (num l 32 4) (num l 36 4) (num l 44 4) (num l 48 2) (num l 50 2)).chk = 0 then ((Bt.mk (num l 13 1) (num l 14 2) (num l 16 1) (num l 32 4) (num l 36 4) (num l 44 4) (num l 48 2) (num l 50 2)), 0) else (bt0, (Bt.mk (num l 13 1) (num l 14 2) (num l 16 1) (num l 32 4) (num l 36 4) (num l 44 4) (num l 48 2) (num l 50 2)).chk)) else (bt0, 11)) else (bt0, 10) := by
  unfold parB btOf
  rw [if_pos h5, num_one, num_one]
  refine ite_congr (propext ⟨fun ⟨h1, h2⟩ => ⟨((num510 l hb).1 h2).1, ((num510 l hb).1 h2).2, h1⟩, fun ⟨h1, h2, h3⟩ => ⟨h3, (num510 l hb).2 ⟨h1, h2⟩⟩⟩) (fun _ => ite_congr (propext ⟨fun ⟨h1, h2, h3, h4, h6, h7⟩ => ⟨h1, h2, h3, h4, (num42 l hb).2 ⟨h6, h7⟩⟩, fun ⟨h1, h2, h3, h4, h6⟩ => ⟨h1, h2, h3, h4, ((num42 l hb).1 h6).1, ((num42 l hb).1 h6).2⟩⟩) (fun _ => rfl) (fun _ => rfl)) (fun _ => rfl)

set_option maxHeartbeats 16000000 in
set_option maxRecDepth 100000 in
theorem rparse_any (a : Option Addr) (cap : Nat) (l : List Int) (w : World) (hlen : l.length ≤ 1000000) (hcap : l.length ≤ cap) (hb : Byts l) (hl : Lies w a l) :
    Calls Tryd.prog 15 #[.slice a l.length cap] w fun e w' => e = .returned (.tuple #[.agg (parB l).1.cs, .int .i64 (parB l).2]) ∧ Below w.heap.size w w' := by
  have hb1 : Below w.heap.size w (w.alloc (.cells #[.int .i64 0, .int .i64 0, .int .i64 0, .int .i64 0, .int .i64 0, .int .i64 0, .int .i64 0, .int .i64 0] 36)) := (Below.refl _ _).alloc (Nat.le_refl _) _
  have hk1 : Blk (w.alloc (.cells #[.int .i64 0, .int .i64 0, .int .i64 0, .int .i64 0, .int .i64 0, .int .i64 0, .int .i64 0, .int .i64 0] 36)) w.heap.size #[.int .i64 0, .int .i64 0, .int .i64 0, .int .i64 0, .int .i64 0, .int .i64 0, .int .i64 0, .int .i64 0] 36 := Blk.new _ _ _
  by_cases h5 : l.length = 512
  · obtain ⟨b0, off, rfl, _⟩ : ∃ b0 off, a = some ⟨b0, off, none⟩ ∧ True := by
      rcases hl with h | ⟨b0, off, h, _⟩
      · rw [h] at h5; simp at h5
      · exact ⟨b0, off, h, trivial⟩
    have hl1 : Lies (w.alloc (.cells #[.int .i64 0, .int .i64 0, .int .i64 0, .int .i64 0, .int .i64 0, .int .i64 0, .int .i64 0, .int .i64 0] 36)) (some ⟨b0, off, none⟩) l := hl.below hb1
    have hcA : (w.alloc (.cells #[.int .i64 0, .int .i64 0, .int .i64 0, .int .i64 0, .int .i64 0, .int .i64 0, .int .i64 0, .int .i64 0] 36)).cell? ⟨b0, off + 510, none⟩ = some (.int .u8 (l.getD 510 0)) ∧ (w.alloc (.cells #[.int .i64 0, .int .i64 0, .int .i64 0, .int .i64 0, .int .i64 0, .int .i64 0, .int .i64 0, .int .i64 0] 36)).cell? ⟨b0, off + 511, none⟩ = some (.int .u8 (l.getD 511 0)) := by
      rcases hl1 with h | ⟨b9, o9, h9, hc⟩
      · rw [h] at h5; simp at h5
      · cases h9
        exact ⟨hc.2 510 (by omega), hc.2 511 (by omega)⟩
    obtain ⟨k510, k511⟩ := hcA
    have htx := run_text (P := Tryd.prog) (dst := 9) Tryd.underlying26 Tryd.underlying5 Tryd.underlying9 (w.alloc (.cells #[.int .i64 0, .int .i64 0, .int .i64 0, .int .i64 0, .int .i64 0, .int .i64 0, .int .i64 0, .int .i64 0] 36)) (some ⟨b0, off + 82, none⟩) ((l.drop 82).take 8) (cap - 82) (hl1.of_part 82 8)
    have htl : ((l.drop 82).take 8).length = 8 := by simp; omega
    rw [htl] at htx
    have hnq : ((ba ((l.drop 82).take 8)).toList == (ba nmB).toList) = decide ((l.drop 82).take 8 = nmB) := beq_text ((hb.drop 82).take 8) (by intro k; match k with | 0 => simp [nmB] | 1 => simp [nmB] | 2 => simp [nmB] | 3 => simp [nmB] | 4 => simp [nmB] | 5 => simp [nmB] | 6 => simp [nmB] | 7 => simp [nmB] | k + 8 => simp [nmB])
    rw [nm_text] at hnq
    have r1 := fun (p : Nat) (hp : p + 1 ≤ l.length) => hide (rint1 (some ⟨b0, off, none⟩) cap l p (w.alloc (.cells #[.int .i64 0, .int .i64 0, .int .i64 0, .int .i64 0, .int .i64 0, .int .i64 0, .int .i64 0, .int .i64 0] 36)) hlen hb hl1 hp)
    have r2 := fun (p : Nat) (hp : p + 2 ≤ l.length) => hide (rint2 (some ⟨b0, off, none⟩) cap l p (w.alloc (.cells #[.int .i64 0, .int .i64 0, .int .i64 0, .int .i64 0, .int .i64 0, .int .i64 0, .int .i64 0, .int .i64 0] 36)) hlen hb hl1 hp)
    have r4 := fun (p : Nat) (hp : p + 4 ≤ l.length) => hide (rint4 (some ⟨b0, off, none⟩) cap l p (w.alloc (.cells #[.int .i64 0, .int .i64 0, .int .i64 0, .int .i64 0, .int .i64 0, .int .i64 0, .int .i64 0, .int .i64 0] 36)) hlen hb hl1 hp)
    rw [h5] at r1 r2 r4 ⊢
    have H11 := r2 11 (by omega)
    push_cast at H11
    have H17 := r2 17 (by omega)
    push_cast at H17
    have H19 := r2 19 (by omega)
    push_cast at H19
    have H22 := r2 22 (by omega)
    push_cast at H22
    have H40 := r4 40 (by omega)
    push_cast at H40
    have H13 := r1 13 (by omega)
    push_cast at H13
    have H14 := r2 14 (by omega)
    push_cast at H14
    have H16 := r1 16 (by omega)
    push_cast at H16
    have H32 := r4 32 (by omega)
    push_cast at H32
    have H36 := r4 36 (by omega)
    push_cast at H36
    have H44 := r4 44 (by omega)
    push_cast at H44
    have H48 := r2 48 (by omega)
    push_cast at H48
    have H50 := r2 50 (by omega)
    push_cast at H50
    have HE := hide (parB_ref l hb h5)
    have HB1 := hide hb1
    have HK1 := hide hk1
    have hcp : 512 ≤ cap := by omega
    clear r1 r2 r4 hlen hb hl hl1 hb1 hk1 h5 htl
    obtain ⟨pc, hpc⟩ : ∃ pc, pc = parB l := ⟨_, rfl⟩
    rw [← hpc] at HE ⊢
    clear hpc
    obtain ⟨nm, hnm⟩ : ∃ nm, nm = (l.drop 82).take 8 := ⟨_, rfl⟩
    rw [← hnm] at HE htx hnq
    clear hnm hcap
    generalize num l 11 2 = v11 at *
    generalize num l 17 2 = v17 at *
    generalize num l 19 2 = v19 at *
    generalize num l 22 2 = v22 at *
    generalize num l 40 4 = v40 at *
    generalize num l 13 1 = x13 at *
    generalize num l 14 2 = v14 at *
    generalize num l 16 1 = x16 at *
    generalize num l 32 4 = v32 at *
    generalize num l 36 4 = v36 at *
    generalize num l 44 4 = v44 at *
    generalize num l 48 2 = v48 at *
    generalize num l 50 2 = v50 at *
    generalize l.getD 510 0 = y0 at *
    generalize l.getD 511 0 = y1 at *
    by_cases m0 : y0 = 85
    · by_cases m1 : y1 = 170
      · by_cases m2 : nm = nmB
        · rw [decide_eq_true m2] at hnq
          have HE2 := hide (show pc = if v11 = 512 ∧ v17 = 0 ∧ v19 = 0 ∧ v22 = 0 ∧ v40 = 0 then (if (Bt.mk x13 v14 x16 v32 v36 v44 v48 v50).chk = 0 then ((Bt.mk x13 v14 x16 v32 v36 v44 v48 v50), 0) else (bt0, (Bt.mk x13 v14 x16 v32 v36 v44 v48 v50).chk)) else (bt0, 11) by rw [HE.out, if_pos ⟨m0, m1, m2⟩])
          have q0 : (y0 != 85) = false := by simpa using m0
          have q1 : (y1 != 170) = false := by simpa using m1
          clear m0 m1 m2 HE
          go_enter Tryd.func15, Tryd.ntmps15
          go_wp2_with fail
          clear htx hnq k510 k511 q0 q1
          refine (H11).out.mono ?_
          rintro e9 w2 ⟨rfl, h2⟩
          rw [h2]
          clear h2
          by_cases g11 : v11 = 512
          rotate_left
          · have HP := hide (show pc = (bt0, 11) by rw [HE2.out, if_neg (fun c => g11 c.1)])
            have d11 : (v11 != 512) = true := by simpa using g11
            clear g11
            go_wp2_with fail
            exact bodyPost_ret (ret_rbt rfl _ _ w.heap.size bt0 _ rfl rfl HK1.out) rfl ⟨by rw [HP.out]; rfl, HB1.out⟩
          have G11 := hide g11
          have d11 : (v11 != 512) = false := by simpa using g11
          clear g11
          go_wp2_with fail
          refine (H17).out.mono ?_
          rintro e9 w2 ⟨rfl, h2⟩
          rw [h2]
          clear h2
          by_cases g17 : v17 = 0
          rotate_left
          · have HP := hide (show pc = (bt0, 11) by rw [HE2.out, if_neg (fun c => g17 c.2.1)])
            have d17 : (v17 != 0) = true := by simpa using g17
            clear g17
            go_wp2_with fail
            exact bodyPost_ret (ret_rbt rfl _ _ w.heap.size bt0 _ rfl rfl HK1.out) rfl ⟨by rw [HP.out]; rfl, HB1.out⟩
          have G17 := hide g17
          have d17 : (v17 != 0) = false := by simpa using g17
          clear g17
          go_wp2_with fail
          refine (H19).out.mono ?_
          rintro e9 w2 ⟨rfl, h2⟩
          rw [h2]
          clear h2
          by_cases g19 : v19 = 0
          rotate_left
          · have HP := hide (show pc = (bt0, 11) by rw [HE2.out, if_neg (fun c => g19 c.2.2.1)])
            have d19 : (v19 != 0) = true := by simpa using g19
            clear g19
            go_wp2_with fail
            exact bodyPost_ret (ret_rbt rfl _ _ w.heap.size bt0 _ rfl rfl HK1.out) rfl ⟨by rw [HP.out]; rfl, HB1.out⟩
          have G19 := hide g19
          have d19 : (v19 != 0) = false := by simpa using g19
          clear g19
          go_wp2_with fail
          refine (H22).out.mono ?_
          rintro e9 w2 ⟨rfl, h2⟩
          rw [h2]
          clear h2
          by_cases g22 : v22 = 0
          rotate_left
          · have HP := hide (show pc = (bt0, 11) by rw [HE2.out, if_neg (fun c => g22 c.2.2.2.1)])
            have d22 : (v22 != 0) = true := by simpa using g22
            clear g22
            go_wp2_with fail
            exact bodyPost_ret (ret_rbt rfl _ _ w.heap.size bt0 _ rfl rfl HK1.out) rfl ⟨by rw [HP.out]; rfl, HB1.out⟩
          have G22 := hide g22
          have d22 : (v22 != 0) = false := by simpa using g22
          clear g22
          go_wp2_with fail
          refine (H40).out.mono ?_
          rintro e9 w2 ⟨rfl, h2⟩
          rw [h2]
          clear h2
          by_cases g40 : v40 = 0
          rotate_left
          · have HP := hide (show pc = (bt0, 11) by rw [HE2.out, if_neg (fun c => g40 c.2.2.2.2)])
            have d40 : (v40 != 0) = true := by simpa using g40
            clear g40
            go_wp2_with fail
            exact bodyPost_ret (ret_rbt rfl _ _ w.heap.size bt0 _ rfl rfl HK1.out) rfl ⟨by rw [HP.out]; rfl, HB1.out⟩
          have G40 := hide g40
          have d40 : (v40 != 0) = false := by simpa using g40
          clear g40
          go_wp2_with fail
          have HE3 := hide (show pc = if (Bt.mk x13 v14 x16 v32 v36 v44 v48 v50).chk = 0 then ((Bt.mk x13 v14 x16 v32 v36 v44 v48 v50), 0) else (bt0, (Bt.mk x13 v14 x16 v32 v36 v44 v48 v50).chk) by rw [HE2.out, if_pos ⟨G11.out, G17.out, G19.out, G22.out, G40.out⟩])
          clear HE2
          refine (H13).out.mono ?_
          rintro e9 w2 ⟨rfl, h2⟩
          rw [h2]
          clear h2
          go_wp2_with fail
          refine (H14).out.mono ?_
          rintro e9 w2 ⟨rfl, h2⟩
          rw [h2]
          clear h2
          go_wp2_with fail
          refine (H16).out.mono ?_
          rintro e9 w2 ⟨rfl, h2⟩
          rw [h2]
          clear h2
          go_wp2_with fail
          refine (H32).out.mono ?_
          rintro e9 w2 ⟨rfl, h2⟩
          rw [h2]
          clear h2
          go_wp2_with fail
          refine (H36).out.mono ?_
          rintro e9 w2 ⟨rfl, h2⟩
          rw [h2]
          clear h2
          go_wp2_with fail
          refine (H44).out.mono ?_
          rintro e9 w2 ⟨rfl, h2⟩
          rw [h2]
          clear h2
          go_wp2_with fail
          refine (H48).out.mono ?_
          rintro e9 w2 ⟨rfl, h2⟩
          rw [h2]
          clear h2
          go_wp2_with fail
          refine (H50).out.mono ?_
          rintro e9 w2 ⟨rfl, h2⟩
          rw [h2]
          clear h2
          obtain ⟨ck, hck⟩ : ∃ ck, ck = (Bt.mk x13 v14 x16 v32 v36 v44 v48 v50).chk := ⟨_, rfl⟩
          have HCk : ∀ u, Hid (Calls Tryd.prog 35 #[.agg #[.int .i64 x13, .int .i64 v14, .int .i64 x16, .int .i64 v32, .int .i64 v36, .int .i64 v44, .int .i64 v48, .int .i64 v50]] u fun e w' => e = .returned (.int .i64 ck) ∧ Below u.heap.size u w') := fun u => hide (by rw [hck]; exact rchk_any (Bt.mk x13 v14 x16 v32 v36 v44 v48 v50) u)
          rw [← hck] at HE3
          clear hck
          obtain ⟨w3, hw3⟩ : ∃ w3, w3 = ((w.alloc (.cells #[.int .i64 0, .int .i64 0, .int .i64 0, .int .i64 0, .int .i64 0, .int .i64 0, .int .i64 0, .int .i64 0] 36)).alloc (.cells #[.int .i64 x13, .int .i64 v14, .int .i64 x16, .int .i64 v32, .int .i64 v36, .int .i64 v44, .int .i64 v48, .int .i64 v50] 36)) := ⟨_, rfl⟩
          have hb3 : Below (w.alloc (.cells #[.int .i64 0, .int .i64 0, .int .i64 0, .int .i64 0, .int .i64 0, .int .i64 0, .int .i64 0, .int .i64 0] 36)).heap.size (w.alloc (.cells #[.int .i64 0, .int .i64 0, .int .i64 0, .int .i64 0, .int .i64 0, .int .i64 0, .int .i64 0, .int .i64 0] 36)) w3 := by rw [hw3]; exact (Below.refl _ _).alloc (Nat.le_refl _) _
          have HN3 := hide (show Blk w3 (w.heap.size + 1) #[.int .i64 x13, .int .i64 v14, .int .i64 x16, .int .i64 v32, .int .i64 v36, .int .i64 v44, .int .i64 v48, .int .i64 v50] 36 by rw [hw3]; have := Blk.new (w.alloc (.cells #[.int .i64 0, .int .i64 0, .int .i64 0, .int .i64 0, .int .i64 0, .int .i64 0, .int .i64 0, .int .i64 0] 36)) #[.int .i64 x13, .int .i64 v14, .int .i64 x16, .int .i64 v32, .int .i64 v36, .int .i64 v44, .int .i64 v48, .int .i64 v50] 36; simpa using this)
          have HK3 := hide (HK1.out.below hb3)
          have HB3 := hide (HB1.out.trans (hb3.mono HB1.out.size))
          have HW3 := hide hw3
          clear hw3 hb3
          go_wp2_with fail
          rw [← HW3.out]
          refine (HCk _).out.mono ?_
          rintro e9 w4 ⟨rfl, h4⟩
          have HN4 := hide (HN3.out.below h4)
          have HK4 := hide (HK3.out.below h4)
          have HB4 := hide (HB3.out.trans (h4.mono HB3.out.size))
          clear h4
          have z0 := HK4.out.cell 0 _ rfl
          have z1 := HK4.out.cell 1 _ rfl
          have z2 := HK4.out.cell 2 _ rfl
          have z3 := HK4.out.cell 3 _ rfl
          have z4 := HK4.out.cell 4 _ rfl
          have z5 := HK4.out.cell 5 _ rfl
          have z6 := HK4.out.cell 6 _ rfl
          have z7 := HK4.out.cell 7 _ rfl
          have f0 := HK4.out.frozen 0
          have f1 := HK4.out.frozen 1
          have f2 := HK4.out.frozen 2
          have f3 := HK4.out.frozen 3
          have f4 := HK4.out.frozen 4
          have f5 := HK4.out.frozen 5
          have f6 := HK4.out.frozen 6
          have f7 := HK4.out.frozen 7
          by_cases hk : ck = 0
          · have HP := hide (show pc = ((Bt.mk x13 v14 x16 v32 v36 v44 v48 v50), 0) by rw [HE3.out, if_pos hk])
            have d0 := HN4.out.cell 0 _ rfl
            have d1 := HN4.out.cell 1 _ rfl
            have d2 := HN4.out.cell 2 _ rfl
            have d3 := HN4.out.cell 3 _ rfl
            have d4 := HN4.out.cell 4 _ rfl
            have d5 := HN4.out.cell 5 _ rfl
            have d6 := HN4.out.cell 6 _ rfl
            have d7 := HN4.out.cell 7 _ rfl
            rw [hk]
            go_wp2_with fail
            obtain ⟨w9, hw9⟩ : ∃ w9, w9 = ((((((((w4.setCell ⟨w.heap.size, 0, none⟩ (.int .i64 x13)).setCell ⟨w.heap.size, 1, none⟩ (.int .i64 v14)).setCell ⟨w.heap.size, 2, none⟩ (.int .i64 x16)).setCell ⟨w.heap.size, 3, none⟩ (.int .i64 v32)).setCell ⟨w.heap.size, 4, none⟩ (.int .i64 v36)).setCell ⟨w.heap.size, 5, none⟩ (.int .i64 v44)).setCell ⟨w.heap.size, 6, none⟩ (.int .i64 v48)).setCell ⟨w.heap.size, 7, none⟩ (.int .i64 v50)) := ⟨_, rfl⟩
            have hk9 : Blk w9 w.heap.size (Bt.mk x13 v14 x16 v32 v36 v44 v48 v50).cs 36 := by rw [hw9]; exact blk8 HK4.out (.int .i64 x13) (.int .i64 v14) (.int .i64 x16) (.int .i64 v32) (.int .i64 v36) (.int .i64 v44) (.int .i64 v48) (.int .i64 v50)
            have hb9 : Below w.heap.size w w9 := by rw [hw9]; exact below8 HB4.out (Nat.le_refl _) (.int .i64 x13) (.int .i64 v14) (.int .i64 x16) (.int .i64 v32) (.int .i64 v36) (.int .i64 v44) (.int .i64 v48) (.int .i64 v50)
            rw [← hw9]
            exact bodyPost_ret (ret_rbt rfl _ _ w.heap.size (Bt.mk x13 v14 x16 v32 v36 v44 v48 v50) _ rfl rfl hk9) rfl ⟨by rw [HP.out]; rfl, hb9⟩
          · have HP := hide (show pc = (bt0, ck) by rw [HE3.out, if_neg hk])
            go_wp2_with fail
            obtain ⟨w9, hw9⟩ : ∃ w9, w9 = ((((((((w4.setCell ⟨w.heap.size, 0, none⟩ (.int .i64 0)).setCell ⟨w.heap.size, 1, none⟩ (.int .i64 0)).setCell ⟨w.heap.size, 2, none⟩ (.int .i64 0)).setCell ⟨w.heap.size, 3, none⟩ (.int .i64 0)).setCell ⟨w.heap.size, 4, none⟩ (.int .i64 0)).setCell ⟨w.heap.size, 5, none⟩ (.int .i64 0)).setCell ⟨w.heap.size, 6, none⟩ (.int .i64 0)).setCell ⟨w.heap.size, 7, none⟩ (.int .i64 0)) := ⟨_, rfl⟩
            have hk9 : Blk w9 w.heap.size bt0.cs 36 := by rw [hw9]; exact blk8 HK4.out (.int .i64 0) (.int .i64 0) (.int .i64 0) (.int .i64 0) (.int .i64 0) (.int .i64 0) (.int .i64 0) (.int .i64 0)
            have hb9 : Below w.heap.size w w9 := by rw [hw9]; exact below8 HB4.out (Nat.le_refl _) (.int .i64 0) (.int .i64 0) (.int .i64 0) (.int .i64 0) (.int .i64 0) (.int .i64 0) (.int .i64 0) (.int .i64 0)
            rw [← hw9]
            exact bodyPost_ret (ret_rbt rfl _ _ w.heap.size bt0 _ rfl rfl hk9) rfl ⟨by rw [HP.out]; rfl, hb9⟩
        · have HP := hide (show pc = (bt0, 10) by rw [HE.out, if_neg (fun c => m2 c.2.2)])
          rw [decide_eq_false m2] at hnq
          have q0 : (y0 != 85) = false := by simpa using m0
          have q1 : (y1 != 170) = false := by simpa using m1
          clear m0 m1 m2
          go_enter Tryd.func15, Tryd.ntmps15
          go_wp2_with fail
          exact bodyPost_ret (ret_rbt rfl _ _ w.heap.size bt0 _ rfl rfl HK1.out) rfl ⟨by rw [HP.out]; rfl, HB1.out⟩
      · have HP := hide (show pc = (bt0, 10) by rw [HE.out, if_neg (fun c => m1 c.2.1)])
        have q0 : (y0 != 85) = false := by simpa using m0
        have q1 : (y1 != 170) = true := by simpa using m1
        clear m0 m1
        go_enter Tryd.func15, Tryd.ntmps15
        go_wp2_with fail
        exact bodyPost_ret (ret_rbt rfl _ _ w.heap.size bt0 _ rfl rfl HK1.out) rfl ⟨by rw [HP.out]; rfl, HB1.out⟩
    · have HP := hide (show pc = (bt0, 10) by rw [HE.out, if_neg (fun c => m0 c.1)])
      have q0 : (y0 != 85) = true := by simpa using m0
      clear m0
      go_enter Tryd.func15, Tryd.ntmps15
      go_wp2_with fail
      exact bodyPost_ret (ret_rbt rfl _ _ w.heap.size bt0 _ rfl rfl HK1.out) rfl ⟨by rw [HP.out]; rfl, HB1.out⟩
  · have e0 : parB l = (bt0, 4) := by unfold parB; rw [if_neg h5]
    obtain ⟨n, hn⟩ : ∃ n, n = l.length := ⟨_, rfl⟩
    rw [e0, ← hn]
    rw [← hn] at h5 hlen hcap
    have HK1 := hide hk1
    have HB1 := hide hb1
    clear hn hl hb e0 hk1 hb1
    go_enter Tryd.func15, Tryd.ntmps15
    go_wp2_with fail
    exact bodyPost_ret (ret_rbt rfl _ _ w.heap.size bt0 _ rfl rfl HK1.out) rfl ⟨rfl, HB1.out⟩
end Go.Proofs.YtcbbaoiefdbcpaaDoor.Oct
