/- FatParses: any bytes are a first sector, or a sector with the counts, as the document says. -/
import Derived.Test.YtbldkebolmellaaDoorFof
import Derived.Test.YtbldkebolmellaaDoorFmd
import Derived.Test.YtbldkebolmellaaDoorTak
import Derived.Test.YtbldkebolmellaaDoorOpen
import Derived.Test.YtbldkebolmellaaDoorRows
import Derived.Test.YtbldkebolmellaaDoorCards
import Derived.Test.YtbldkebolmellaaDoorTie
import Derived.LaidMore
import Derived.Stop.Joined
import Derived.SevenTiedAt
namespace Go.Proofs.YtbldkebolmellaaDoor.Oct
open Go.RowKit Go.ChangeShapes Go.WideShapes Go.ChangeAt

set_option maxHeartbeats 8000000 in
set_option maxRecDepth 100000 in
theorem parses_walk (a : Option Addr) (cap : Nat) (l : List Int) (w : World) (hlen : l.length ≤ maxLen) (hb : Byts l) (hs : Sl w a cap l) (hV : Vars w) :
    Calls Tryd.prog 5 #[.slice a l.length cap] w fun e w' => e = .returned (.bool true) ∧ Below w.heap.size w w' := by
  by_cases h6 : 600 < l.length
  · have HM := hide (made_any w hV)
    have hd : decide ((600 : Int) < (l.length : Int)) = true := by simp; omega
    obtain ⟨n, hn⟩ : ∃ n, n = l.length := ⟨_, rfl⟩
    rw [← hn] at hd ⊢
    clear hn h6 hV hs hb hlen
    go_enter Tryd.func5, Tryd.ntmps5
    go_wp2_with fail
    refine HM.out.mono ?_
    rintro e9 w2 ⟨rfl, hb2⟩
    have HB := hide hb2
    clear hb2
    go_wp2_with fail
    go_ret
    exact ⟨rfl, HB.out⟩
  have hd : decide ((600 : Int) < (l.length : Int)) = false := by simp; omega
  have HV := hide hV
  have HL := hide hs.lies
  have HC1 := hide (parse_any a cap l w hlen hs.le hb hs.lies hV)
  have HC2 := fun (u : World) (h : Lies u a l) => hide (rparse_any a cap l u (by omega) hs.le hb h)
  have HC3 := fun (u : World) (h : Lies u a l) (hV : Vars u) => hide (parc_any a cap l u hlen hb h hV)
  have HC4 := fun (u : World) (h : Lies u a l) => hide (rcounts_any a cap l u (by omega) hb h)
  obtain ⟨n, hn⟩ : ∃ n, n = l.length := ⟨_, rfl⟩
  rw [← hn] at hd HC1 HC2 HC3 HC4 ⊢
  generalize (parB l).1 = b at *
  generalize (parB l).2 = e at *
  generalize (parC l).1 = f at *
  generalize (parC l).2.1 = x at *
  generalize (parC l).2.2 = g at *
  have HOf := fun u => hide (of_any b u)
  clear hn h6 hV hs hb hlen
  go_enter Tryd.func5, Tryd.ntmps5
  go_wp2_with fail
  refine HC1.out.mono ?_
  rintro e9 w2 ⟨rfl, hb2⟩
  obtain ⟨w3, hw3⟩ : ∃ w3, w3 = w2.alloc (.cells b.cs 23) := ⟨_, rfl⟩
  have hb3 : Below w2.heap.size w2 w3 := by rw [hw3]; exact (Below.refl _ _).alloc (Nat.le_refl _) _
  have HI := hide (show Blk w3 w2.heap.size b.cs 23 by rw [hw3]; exact Blk.new _ _ _)
  have HL := hide ((HL.out.below hb2).below hb3)
  have HV := hide ((HV.out.below hb2).below hb3)
  have HB := hide (hb2.trans (hb3.mono hb2.size))
  have HW3 := hide hw3
  clear hb2 hb3 hw3 HC1
  go_wp2_with fail
  rw [← HW3.out]
  refine (HC2 _ HL.out).out.mono ?_
  rintro e9 w4 ⟨rfl, hb4⟩
  obtain ⟨w5, hw5⟩ : ∃ w5, w5 = w4.alloc (.cells b.cs 26) := ⟨_, rfl⟩
  have hb5 : Below w4.heap.size w4 w5 := by rw [hw5]; exact (Below.refl _ _).alloc (Nat.le_refl _) _
  have HI := hide ((HI.out.below hb4).below hb5)
  have HJ := hide (show Blk w5 w4.heap.size b.cs 26 by rw [hw5]; exact Blk.new _ _ _)
  have HL := hide ((HL.out.below hb4).below hb5)
  have HV := hide ((HV.out.below hb4).below hb5)
  have HB := hide ((HB.out.trans (hb4.mono HB.out.size)).trans (hb5.mono (HB.out.trans (hb4.mono HB.out.size)).size))
  have HW5 := hide hw5
  clear hb4 hb5 hw5 HC2 HW3
  go_wp2_with fail
  rw [← HW5.out]
  refine (HC3 _ HL.out HV.out).out.mono ?_
  rintro e9 w6 ⟨rfl, hb6⟩
  obtain ⟨w7, hw7⟩ : ∃ w7, w7 = w6.alloc (.cells #[.int .i64 f, .int .i64 x] 47) := ⟨_, rfl⟩
  have hb7 : Below w6.heap.size w6 w7 := by rw [hw7]; exact (Below.refl _ _).alloc (Nat.le_refl _) _
  have HI := hide ((HI.out.below hb6).below hb7)
  have HJ := hide ((HJ.out.below hb6).below hb7)
  have HK := hide (show Blk w7 w6.heap.size #[.int .i64 f, .int .i64 x] 47 by rw [hw7]; exact Blk.new _ _ _)
  have HL := hide ((HL.out.below hb6).below hb7)
  have HV := hide ((HV.out.below hb6).below hb7)
  have HB := hide ((HB.out.trans (hb6.mono HB.out.size)).trans (hb7.mono (HB.out.trans (hb6.mono HB.out.size)).size))
  have HW7 := hide hw7
  clear hb6 hb7 hw7 HC3 HW5
  go_wp2_with fail
  rw [← HW7.out]
  refine (HC4 _ HL.out).out.mono ?_
  rintro e9 w8 ⟨rfl, h8⟩
  rw [h8]
  clear h8 HW7
  go_wp2_with fail
  have HM := hide (made_any w7.drew (HV.out.below (Below.refl w7.heap.size w7).drew))
  have HI := hide HI.out.drew
  have HJ := hide HJ.out.drew
  have HK := hide HK.out.drew
  have HB := hide HB.out.drew
  refine wp_region_held_drew (S := (fun u => (u.cell? ⟨w2.heap.size, 0, none⟩ = some (.int .i64 b.each) ∧ u.cell? ⟨w2.heap.size, 1, none⟩ = some (.int .i64 b.ahead) ∧ u.cell? ⟨w2.heap.size, 2, none⟩ = some (.int .i64 b.tabs) ∧ u.cell? ⟨w2.heap.size, 3, none⟩ = some (.int .i64 b.secs) ∧ u.cell? ⟨w2.heap.size, 4, none⟩ = some (.int .i64 b.long) ∧ u.cell? ⟨w2.heap.size, 5, none⟩ = some (.int .i64 b.root) ∧ u.cell? ⟨w2.heap.size, 6, none⟩ = some (.int .i64 b.info) ∧ u.cell? ⟨w2.heap.size, 7, none⟩ = some (.int .i64 b.copy)) ∧ (u.cell? ⟨w4.heap.size, 0, none⟩ = some (.int .i64 b.each) ∧ u.cell? ⟨w4.heap.size, 1, none⟩ = some (.int .i64 b.ahead) ∧ u.cell? ⟨w4.heap.size, 2, none⟩ = some (.int .i64 b.tabs) ∧ u.cell? ⟨w4.heap.size, 3, none⟩ = some (.int .i64 b.secs) ∧ u.cell? ⟨w4.heap.size, 4, none⟩ = some (.int .i64 b.long) ∧ u.cell? ⟨w4.heap.size, 5, none⟩ = some (.int .i64 b.root) ∧ u.cell? ⟨w4.heap.size, 6, none⟩ = some (.int .i64 b.info) ∧ u.cell? ⟨w4.heap.size, 7, none⟩ = some (.int .i64 b.copy)) ∧ u.cell? ⟨w6.heap.size, 0, none⟩ = some (.int .i64 f) ∧ u.cell? ⟨w6.heap.size, 1, none⟩ = some (.int .i64 x))) (by kernel_rfl) ⟨cells_of HI.out, cells_of HJ.out, HK.out.cell 0 _ rfl, HK.out.cell 1 _ rfl⟩ (fun _ => ?_)
  refine wpAnyH_ready (rs := [0]) (by kernel_rfl) (by simp) ?_
  refine AllReadyH.cons (i := 0) rfl (fun K hK => ?_) AllReadyH.nil
  go_simp
  refine (HM.out).mono ?_
  rintro e9 w8 ⟨rfl, hb8⟩
  have HI := hide (HI.out.below hb8)
  have HJ := hide (HJ.out.below hb8)
  have HK := hide (HK.out.below hb8)
  have HB := hide (HB.out.trans (hb8.mono HB.out.size))
  clear hb8
  go_simp
  refine hK.out _ _ ⟨cells_of HI.out, cells_of HJ.out, HK.out.cell 0 _ rfl, HK.out.cell 1 _ rfl⟩ (fun _ => ?_)
  clear hK K
  try simp only [Act.put, List.setIfInBounds_toArray, List.set_cons_zero, List.set_cons_succ]
  refine any_take 1 (some 38) (.bool true) rfl rfl (by kernel_rfl) (by kernel_rfl) (by kernel_rfl) (fun _ _ _ h => h) (by rfl) ⟨cells_of HI.out, cells_of HJ.out, HK.out.cell 0 _ rfl, HK.out.cell 1 _ rfl⟩ ?_ ?_
  · intro w hSw
    obtain ⟨⟨s0, s1, s2, s3, s4, s5, s6, s7⟩, ⟨t0, t1, t2, t3, t4, t5, t6, t7⟩, s8, s9⟩ := hSw
    go_simp
  simp only [Act.put, List.setIfInBounds_toArray, List.set_cons_zero, List.set_cons_succ]
  refine any_take 2 (some 39) (.int .i64 e) rfl rfl (by kernel_rfl) (by kernel_rfl) (by kernel_rfl) (fun _ _ _ h => h) (by rfl) ⟨cells_of HI.out, cells_of HJ.out, HK.out.cell 0 _ rfl, HK.out.cell 1 _ rfl⟩ ?_ ?_
  · intro w hSw
    obtain ⟨⟨s0, s1, s2, s3, s4, s5, s6, s7⟩, ⟨t0, t1, t2, t3, t4, t5, t6, t7⟩, s8, s9⟩ := hSw
    go_simp
  simp only [Act.put, List.setIfInBounds_toArray, List.set_cons_zero, List.set_cons_succ]
  refine any_take 3 (some 40) (.int .i64 e) rfl rfl (by kernel_rfl) (by kernel_rfl) (by kernel_rfl) (fun _ _ _ h => h) (by rfl) ⟨cells_of HI.out, cells_of HJ.out, HK.out.cell 0 _ rfl, HK.out.cell 1 _ rfl⟩ ?_ ?_
  · intro w hSw
    obtain ⟨⟨s0, s1, s2, s3, s4, s5, s6, s7⟩, ⟨t0, t1, t2, t3, t4, t5, t6, t7⟩, s8, s9⟩ := hSw
    go_simp
  simp only [Act.put, List.setIfInBounds_toArray, List.set_cons_zero, List.set_cons_succ]
  refine any_take 4 (some 41) (.bool true) rfl rfl (by kernel_rfl) (by kernel_rfl) (by kernel_rfl) (fun _ _ _ h => h) (by rfl) ⟨cells_of HI.out, cells_of HJ.out, HK.out.cell 0 _ rfl, HK.out.cell 1 _ rfl⟩ ?_ ?_
  · intro w hSw
    obtain ⟨⟨s0, s1, s2, s3, s4, s5, s6, s7⟩, ⟨t0, t1, t2, t3, t4, t5, t6, t7⟩, s8, s9⟩ := hSw
    go_simp
  simp only [Act.put, List.setIfInBounds_toArray, List.set_cons_zero, List.set_cons_succ]
  refine any_take 5 (some 42) (.bool true) rfl rfl (by kernel_rfl) (by kernel_rfl) (by kernel_rfl) (fun _ _ _ h => h) (by rfl) ⟨cells_of HI.out, cells_of HJ.out, HK.out.cell 0 _ rfl, HK.out.cell 1 _ rfl⟩ ?_ ?_
  · intro w hSw
    obtain ⟨⟨s0, s1, s2, s3, s4, s5, s6, s7⟩, ⟨t0, t1, t2, t3, t4, t5, t6, t7⟩, s8, s9⟩ := hSw
    go_simp
  simp only [Act.put, List.setIfInBounds_toArray, List.set_cons_zero, List.set_cons_succ]
  refine any_take 6 (some 43) (.bool true) rfl rfl (by kernel_rfl) (by kernel_rfl) (by kernel_rfl) (fun _ _ _ h => h) (by rfl) ⟨cells_of HI.out, cells_of HJ.out, HK.out.cell 0 _ rfl, HK.out.cell 1 _ rfl⟩ ?_ ?_
  · intro w hSw
    obtain ⟨⟨s0, s1, s2, s3, s4, s5, s6, s7⟩, ⟨t0, t1, t2, t3, t4, t5, t6, t7⟩, s8, s9⟩ := hSw
    go_simp
  simp only [Act.put, List.setIfInBounds_toArray, List.set_cons_zero, List.set_cons_succ]
  refine any_take 7 (some 44) (.agg b.cs) rfl rfl (by kernel_rfl) (by kernel_rfl) (by kernel_rfl) (fun _ _ _ h => h) (by rfl) ⟨cells_of HI.out, cells_of HJ.out, HK.out.cell 0 _ rfl, HK.out.cell 1 _ rfl⟩ ?_ ?_
  · intro w hSw
    obtain ⟨⟨s0, s1, s2, s3, s4, s5, s6, s7⟩, ⟨t0, t1, t2, t3, t4, t5, t6, t7⟩, s8, s9⟩ := hSw
    go_simp
  simp only [Act.put, List.setIfInBounds_toArray, List.set_cons_zero, List.set_cons_succ]
  refine any_take 9 (some 46) (.agg b.cs) rfl rfl (by kernel_rfl) (by kernel_rfl) (by kernel_rfl) (fun _ _ _ h => h) (by rfl) ⟨cells_of HI.out, cells_of HJ.out, HK.out.cell 0 _ rfl, HK.out.cell 1 _ rfl⟩ ?_ ?_
  · intro w hSw
    obtain ⟨⟨s0, s1, s2, s3, s4, s5, s6, s7⟩, ⟨t0, t1, t2, t3, t4, t5, t6, t7⟩, s8, s9⟩ := hSw
    go_simp
  simp only [Act.put, List.setIfInBounds_toArray, List.set_cons_zero, List.set_cons_succ]
  refine wpAnyH_ready (rs := [8]) (by kernel_rfl) (by simp) ?_
  refine AllReadyH.cons (i := 8) rfl (fun K hK => ?_) AllReadyH.nil
  go_simp
  refine ((HOf _).out).mono ?_
  rintro e9 w7 ⟨rfl, hb8⟩
  have HI := hide (HI.out.below hb8)
  have HJ := hide (HJ.out.below hb8)
  have HK := hide (HK.out.below hb8)
  have HB := hide (HB.out.trans (hb8.mono HB.out.size))
  clear hb8
  go_simp
  refine hK.out _ _ ⟨cells_of HI.out, cells_of HJ.out, HK.out.cell 0 _ rfl, HK.out.cell 1 _ rfl⟩ (fun _ => ?_)
  clear hK K
  try simp only [Act.put, List.setIfInBounds_toArray, List.set_cons_zero, List.set_cons_succ]
  refine any_take 10 (some 47) (.bool true) rfl rfl (by kernel_rfl) (by kernel_rfl) (by kernel_rfl) (fun _ _ _ h => h) (by rfl) ⟨cells_of HI.out, cells_of HJ.out, HK.out.cell 0 _ rfl, HK.out.cell 1 _ rfl⟩ ?_ ?_
  · intro w hSw
    obtain ⟨⟨s0, s1, s2, s3, s4, s5, s6, s7⟩, ⟨t0, t1, t2, t3, t4, t5, t6, t7⟩, s8, s9⟩ := hSw
    go_simp
  simp only [Act.put, List.setIfInBounds_toArray, List.set_cons_zero, List.set_cons_succ]
  refine any_take 11 (some 48) (.bool true) rfl rfl (by kernel_rfl) (by kernel_rfl) (by kernel_rfl) (fun _ _ _ h => h) (by rfl) ⟨cells_of HI.out, cells_of HJ.out, HK.out.cell 0 _ rfl, HK.out.cell 1 _ rfl⟩ ?_ ?_
  · intro w hSw
    obtain ⟨⟨s0, s1, s2, s3, s4, s5, s6, s7⟩, ⟨t0, t1, t2, t3, t4, t5, t6, t7⟩, s8, s9⟩ := hSw
    go_simp
  simp only [Act.put, List.setIfInBounds_toArray, List.set_cons_zero, List.set_cons_succ]
  refine any_take 12 (some 49) (.bool true) rfl rfl (by kernel_rfl) (by kernel_rfl) (by kernel_rfl) (fun _ _ _ h => h) (by rfl) ⟨cells_of HI.out, cells_of HJ.out, HK.out.cell 0 _ rfl, HK.out.cell 1 _ rfl⟩ ?_ ?_
  · intro w hSw
    obtain ⟨⟨s0, s1, s2, s3, s4, s5, s6, s7⟩, ⟨t0, t1, t2, t3, t4, t5, t6, t7⟩, s8, s9⟩ := hSw
    go_simp
  simp only [Act.put, List.setIfInBounds_toArray, List.set_cons_zero, List.set_cons_succ]
  refine any_take 13 (some 50) (.int .i64 g) rfl rfl (by kernel_rfl) (by kernel_rfl) (by kernel_rfl) (fun _ _ _ h => h) (by rfl) ⟨cells_of HI.out, cells_of HJ.out, HK.out.cell 0 _ rfl, HK.out.cell 1 _ rfl⟩ ?_ ?_
  · intro w hSw
    obtain ⟨⟨s0, s1, s2, s3, s4, s5, s6, s7⟩, ⟨t0, t1, t2, t3, t4, t5, t6, t7⟩, s8, s9⟩ := hSw
    go_simp
  simp only [Act.put, List.setIfInBounds_toArray, List.set_cons_zero, List.set_cons_succ]
  refine any_take 14 (some 51) (.int .i64 g) rfl rfl (by kernel_rfl) (by kernel_rfl) (by kernel_rfl) (fun _ _ _ h => h) (by rfl) ⟨cells_of HI.out, cells_of HJ.out, HK.out.cell 0 _ rfl, HK.out.cell 1 _ rfl⟩ ?_ ?_
  · intro w hSw
    obtain ⟨⟨s0, s1, s2, s3, s4, s5, s6, s7⟩, ⟨t0, t1, t2, t3, t4, t5, t6, t7⟩, s8, s9⟩ := hSw
    go_simp
  simp only [Act.put, List.setIfInBounds_toArray, List.set_cons_zero, List.set_cons_succ]
  refine any_take 15 (some 52) (.bool true) rfl rfl (by kernel_rfl) (by kernel_rfl) (by kernel_rfl) (fun _ _ _ h => h) (by rfl) ⟨cells_of HI.out, cells_of HJ.out, HK.out.cell 0 _ rfl, HK.out.cell 1 _ rfl⟩ ?_ ?_
  · intro w hSw
    obtain ⟨⟨s0, s1, s2, s3, s4, s5, s6, s7⟩, ⟨t0, t1, t2, t3, t4, t5, t6, t7⟩, s8, s9⟩ := hSw
    go_simp
  simp only [Act.put, List.setIfInBounds_toArray, List.set_cons_zero, List.set_cons_succ]
  refine any_take 16 (some 53) (.bool true) rfl rfl (by kernel_rfl) (by kernel_rfl) (by kernel_rfl) (fun _ _ _ h => h) (by rfl) ⟨cells_of HI.out, cells_of HJ.out, HK.out.cell 0 _ rfl, HK.out.cell 1 _ rfl⟩ ?_ ?_
  · intro w hSw
    obtain ⟨⟨s0, s1, s2, s3, s4, s5, s6, s7⟩, ⟨t0, t1, t2, t3, t4, t5, t6, t7⟩, s8, s9⟩ := hSw
    go_simp
  simp only [Act.put, List.setIfInBounds_toArray, List.set_cons_zero, List.set_cons_succ]
  refine any_take 17 (some 54) (.bool true) rfl rfl (by kernel_rfl) (by kernel_rfl) (by kernel_rfl) (fun _ _ _ h => h) (by rfl) ⟨cells_of HI.out, cells_of HJ.out, HK.out.cell 0 _ rfl, HK.out.cell 1 _ rfl⟩ ?_ ?_
  · intro w hSw
    obtain ⟨⟨s0, s1, s2, s3, s4, s5, s6, s7⟩, ⟨t0, t1, t2, t3, t4, t5, t6, t7⟩, s8, s9⟩ := hSw
    go_simp
  simp only [Act.put, List.setIfInBounds_toArray, List.set_cons_zero, List.set_cons_succ]
  refine any_take 18 (some 55) (.pointer (some ⟨w6.heap.size, 0, none⟩)) rfl rfl (by kernel_rfl) (by kernel_rfl) (by kernel_rfl) (fun _ _ _ h => h) (by rfl) ⟨cells_of HI.out, cells_of HJ.out, HK.out.cell 0 _ rfl, HK.out.cell 1 _ rfl⟩ ?_ ?_
  · intro w hSw
    obtain ⟨⟨s0, s1, s2, s3, s4, s5, s6, s7⟩, ⟨t0, t1, t2, t3, t4, t5, t6, t7⟩, s8, s9⟩ := hSw
    go_simp
  simp only [Act.put, List.setIfInBounds_toArray, List.set_cons_zero, List.set_cons_succ]
  refine any_take 19 (some 56) (.int .i64 f) rfl rfl (by kernel_rfl) (by kernel_rfl) (by kernel_rfl) (fun _ _ _ h => h) (by rfl) ⟨cells_of HI.out, cells_of HJ.out, HK.out.cell 0 _ rfl, HK.out.cell 1 _ rfl⟩ ?_ ?_
  · intro w hSw
    obtain ⟨⟨s0, s1, s2, s3, s4, s5, s6, s7⟩, ⟨t0, t1, t2, t3, t4, t5, t6, t7⟩, s8, s9⟩ := hSw
    go_simp
  simp only [Act.put, List.setIfInBounds_toArray, List.set_cons_zero, List.set_cons_succ]
  refine any_take 20 (some 57) (.int .i64 f) rfl rfl (by kernel_rfl) (by kernel_rfl) (by kernel_rfl) (fun _ _ _ h => h) (by rfl) ⟨cells_of HI.out, cells_of HJ.out, HK.out.cell 0 _ rfl, HK.out.cell 1 _ rfl⟩ ?_ ?_
  · intro w hSw
    obtain ⟨⟨s0, s1, s2, s3, s4, s5, s6, s7⟩, ⟨t0, t1, t2, t3, t4, t5, t6, t7⟩, s8, s9⟩ := hSw
    go_simp
  simp only [Act.put, List.setIfInBounds_toArray, List.set_cons_zero, List.set_cons_succ]
  refine any_take 21 (some 58) (.bool true) rfl rfl (by kernel_rfl) (by kernel_rfl) (by kernel_rfl) (fun _ _ _ h => h) (by rfl) ⟨cells_of HI.out, cells_of HJ.out, HK.out.cell 0 _ rfl, HK.out.cell 1 _ rfl⟩ ?_ ?_
  · intro w hSw
    obtain ⟨⟨s0, s1, s2, s3, s4, s5, s6, s7⟩, ⟨t0, t1, t2, t3, t4, t5, t6, t7⟩, s8, s9⟩ := hSw
    go_simp
  simp only [Act.put, List.setIfInBounds_toArray, List.set_cons_zero, List.set_cons_succ]
  refine any_take 22 (some 59) (.bool true) rfl rfl (by kernel_rfl) (by kernel_rfl) (by kernel_rfl) (fun _ _ _ h => h) (by rfl) ⟨cells_of HI.out, cells_of HJ.out, HK.out.cell 0 _ rfl, HK.out.cell 1 _ rfl⟩ ?_ ?_
  · intro w hSw
    obtain ⟨⟨s0, s1, s2, s3, s4, s5, s6, s7⟩, ⟨t0, t1, t2, t3, t4, t5, t6, t7⟩, s8, s9⟩ := hSw
    go_simp
  simp only [Act.put, List.setIfInBounds_toArray, List.set_cons_zero, List.set_cons_succ]
  refine any_take 23 (some 60) (.bool true) rfl rfl (by kernel_rfl) (by kernel_rfl) (by kernel_rfl) (fun _ _ _ h => h) (by rfl) ⟨cells_of HI.out, cells_of HJ.out, HK.out.cell 0 _ rfl, HK.out.cell 1 _ rfl⟩ ?_ ?_
  · intro w hSw
    obtain ⟨⟨s0, s1, s2, s3, s4, s5, s6, s7⟩, ⟨t0, t1, t2, t3, t4, t5, t6, t7⟩, s8, s9⟩ := hSw
    go_simp
  simp only [Act.put, List.setIfInBounds_toArray, List.set_cons_zero, List.set_cons_succ]
  refine any_take 24 (some 61) (.pointer (some ⟨w6.heap.size, 1, none⟩)) rfl rfl (by kernel_rfl) (by kernel_rfl) (by kernel_rfl) (fun _ _ _ h => h) (by rfl) ⟨cells_of HI.out, cells_of HJ.out, HK.out.cell 0 _ rfl, HK.out.cell 1 _ rfl⟩ ?_ ?_
  · intro w hSw
    obtain ⟨⟨s0, s1, s2, s3, s4, s5, s6, s7⟩, ⟨t0, t1, t2, t3, t4, t5, t6, t7⟩, s8, s9⟩ := hSw
    go_simp
  simp only [Act.put, List.setIfInBounds_toArray, List.set_cons_zero, List.set_cons_succ]
  refine any_take 25 (some 62) (.int .i64 x) rfl rfl (by kernel_rfl) (by kernel_rfl) (by kernel_rfl) (fun _ _ _ h => h) (by rfl) ⟨cells_of HI.out, cells_of HJ.out, HK.out.cell 0 _ rfl, HK.out.cell 1 _ rfl⟩ ?_ ?_
  · intro w hSw
    obtain ⟨⟨s0, s1, s2, s3, s4, s5, s6, s7⟩, ⟨t0, t1, t2, t3, t4, t5, t6, t7⟩, s8, s9⟩ := hSw
    go_simp
  simp only [Act.put, List.setIfInBounds_toArray, List.set_cons_zero, List.set_cons_succ]
  refine any_take 26 (some 63) (.int .i64 x) rfl rfl (by kernel_rfl) (by kernel_rfl) (by kernel_rfl) (fun _ _ _ h => h) (by rfl) ⟨cells_of HI.out, cells_of HJ.out, HK.out.cell 0 _ rfl, HK.out.cell 1 _ rfl⟩ ?_ ?_
  · intro w hSw
    obtain ⟨⟨s0, s1, s2, s3, s4, s5, s6, s7⟩, ⟨t0, t1, t2, t3, t4, t5, t6, t7⟩, s8, s9⟩ := hSw
    go_simp
  simp only [Act.put, List.setIfInBounds_toArray, List.set_cons_zero, List.set_cons_succ]
  refine any_take 27 (some 64) (.bool true) rfl rfl (by kernel_rfl) (by kernel_rfl) (by kernel_rfl) (fun _ _ _ h => h) (by rfl) ⟨cells_of HI.out, cells_of HJ.out, HK.out.cell 0 _ rfl, HK.out.cell 1 _ rfl⟩ ?_ ?_
  · intro w hSw
    obtain ⟨⟨s0, s1, s2, s3, s4, s5, s6, s7⟩, ⟨t0, t1, t2, t3, t4, t5, t6, t7⟩, s8, s9⟩ := hSw
    go_simp
  simp only [Act.put, List.setIfInBounds_toArray, List.set_cons_zero, List.set_cons_succ]
  refine any_take 28 (some 65) (.bool true) rfl rfl (by kernel_rfl) (by kernel_rfl) (by kernel_rfl) (fun _ _ _ h => h) (by rfl) ⟨cells_of HI.out, cells_of HJ.out, HK.out.cell 0 _ rfl, HK.out.cell 1 _ rfl⟩ ?_ ?_
  · intro w hSw
    obtain ⟨⟨s0, s1, s2, s3, s4, s5, s6, s7⟩, ⟨t0, t1, t2, t3, t4, t5, t6, t7⟩, s8, s9⟩ := hSw
    go_simp
  simp only [Act.put, List.setIfInBounds_toArray, List.set_cons_zero, List.set_cons_succ]
  refine any_take 29 (some 2) (.bool true) rfl rfl (by kernel_rfl) (by kernel_rfl) (by kernel_rfl) (fun _ _ _ h => h) (by rfl) ⟨cells_of HI.out, cells_of HJ.out, HK.out.cell 0 _ rfl, HK.out.cell 1 _ rfl⟩ ?_ ?_
  · intro w hSw
    obtain ⟨⟨s0, s1, s2, s3, s4, s5, s6, s7⟩, ⟨t0, t1, t2, t3, t4, t5, t6, t7⟩, s8, s9⟩ := hSw
    go_simp
  simp only [Act.put, List.setIfInBounds_toArray, List.set_cons_zero, List.set_cons_succ]
  refine wpAnyH_done (by kernel_rfl) ?_ _
  go_wp2_with fail
  go_ret
  exact ⟨rfl, HB.out⟩

set_option maxRecDepth 100000 in
theorem fatParses_door (os : Os) (args : Array Value) : laidMetH Tryd.prog Rows.fatParsesRow.laid ((World.doorLaid Tryd.prog 400 os).forCall (fun _ _ => 0) ⟨#[], args, []⟩).memory :=
  laidMetH_of_parts3 (fuel := 8) (laidMet_of_run' 8 (by kernel_rfl) (by kernel_rfl)) (by kernel_rfl) (by kernel_rfl)

set_option maxRecDepth 100000 in
theorem fatParses_lifted (os : Os) (started : os.Started) (H : Type) (enc : TypeId × Value → H) :
    ReturnsInHanded {} Tryd.checked os 5 .any (fun w args => (Rows.fatParsesSpec.pre enc Tryd.prog Tryd.f5 [] false w args ∧ laidMetH Tryd.prog Rows.fatParsesRow.laid w) ∧ sizedMet enc Tryd.prog Tryd.f5 (OpenSpec.ofChange Rows.fatParsesSpec) false w args) (Rows.fatParsesSpec.post enc Tryd.prog Tryd.f5 false true false false) := by
  refine returnsInHanded_of_change_and (C := Tryd.checked) (X := (fun w _ => laidMetH Tryd.prog Rows.fatParsesRow.laid w)) (fun _ _ _ hh h => h.of_heap hh) own started (by kernel_rfl) Tryd.func5
    (ChangeSpec.witness_shaped (enc := enc) (C := Tryd.checked) (os := os) (X := (fun w _ => laidMetH Tryd.prog Rows.fatParsesRow.laid w)) false (World.doorLaid Tryd.prog 400 os) #[.slice none 0 0] 8 rfl (World.shaped_of_RefB (by kernel_rfl) (by kernel_rfl)) (by kernel_rfl) (by kernel_rfl) (by kernel_rfl) (fatParses_door os _)) ?_
  intro W base args ds gs before hval0 hW _ hsz0 hL _
  have hval : ∀ (j : Nat) t v, Tryd.f5.params[j]? = some t → args[j]? = some v → Value.okWide Tryd.prog W .any base t v := hval0
  have hW' := hW
  obtain ⟨p, q, hA0, hV, rfl, hfz, hnd⟩ := hW
  have hA : DataW.TrodAll enc Tryd.prog W 0 (fun _ => true) true Tryd.f5.params.toList args.toList ds p := hA0
  rw [Tryd.params5] at hA hval
  obtain ⟨v0, vs0, d0, ds0, p0, q0, hargs0, rfl, rfl, h0, r0⟩ := trodAll_cons hA
  obtain ⟨rfl, rfl, rfl⟩ := trodAll_nil r0
  obtain rfl : args = #[v0] := by cases args; simp_all
  obtain ⟨rfl, rfl⟩ := trodVars_none hV
  simp only [List.append_nil] at hW'
  have hlt0 : ∀ x ∈ p0, x.block < W.heap.size := fun x hx => by simpa using hW'.lt x (by simp [hx])
  obtain ⟨a0, cap0, l0, rfl, hn0, hb0, hl0, hs0⟩ := open_bytes (hval 0 36 v0 rfl rfl) h0
  clear hA0
  refine (parses_walk a0 cap0 l0 W hn0 hb0 hs0 (of_laid hL)).mono fun e W' ⟨he, hb⟩ => ?_
  subst he
  refine ⟨_, rfl, _, _, _, [], (p0 ++ []), [], hW', ?_, ?_, rfl, hb.frame _, fun h => by cases h⟩
  · exact trodAll_cons_mk (shut_bool Tryd.underlying4 _) trodAll_mk0
  · exact trodAll_cons_mk (Below.trod laidOut (by kernel_rfl) (of_decide_eq_true (by kernel_rfl)) h0 hb hlt0) (trodAll_mk0)

theorem fatParses_row : Rows.FatParsesSaid :=
  OpenClaim.holds_of_wide 5 Tryd.f5 rfl rfl rfl rfl rfl rfl rfl ⟨rfl, rfl, rfl, rfl, rfl⟩ rfl rfl rfl rfl rfl (by kernel_rfl) Tryd.func5 (by kernel_rfl)
    (of_decide_eq_true (by kernel_rfl)) (by unfold Func.isWrapper; first | (rw [if_pos (by decide +kernel)]; kernel_rfl) | (rw [if_neg (by decide +kernel)]; exact ⟨rfl, rfl⟩))
    (fun os started H enc _ => fatParses_lifted os started H enc)

theorem fatParses_holds : Rows.FatParsesCardSaid :=
  Claim7.holds_tied_plain_at .later [] [.data, .data] true (true, "cef4f92033b86b756cdeb854791cba9f6c3b4615937b91e7b466014a9569903c") false
    fatParses_row (fun _ h => by cases h) (by kernel_rfl) (fun _ h => by cases h) fatParses_row_tie rfl ⟨rfl, rfl⟩ (by kernel_rfl) rfl
    (fun f fn hf hfn => by
      obtain rfl : f = 5 := Option.some.inj ((show Tryd.prog.funcNamed "fettle/fettlelaw16.FatParses" = some 5 by kernel_rfl).symm.trans hf) |>.symm
      obtain rfl : fn = Tryd.f5 := (Option.some.inj (Tryd.func5.symm.trans hfn)).symm
      exact ⟨by kernel_rfl, fun j t ht => by
        rw [Tryd.params5] at ht
        have hm : t ∈ [36] := by simpa using Array.mem_of_getElem? ht
        have hall : ([36].all fun u => !Tryd.prog.wantsStandIn u) = true := by kernel_rfl
        exact (show Tryd.prog.wantsStandIn t = false by simpa using List.all_eq_true.1 hall t hm)⟩)
    (by kernel_rfl)
end Go.Proofs.YtbldkebolmellaaDoor.Oct
