/- The document's Check. -/
import Derived.Test.YtpbnjobjjnhplaaDoorPZerGpk
import Derived.Test.YtpbnjobjjnhplaaDoorPJndApf
namespace Go.Proofs.YtpbnjobjjnhplaaDoor.Oct
open Go.RowKit

theorem wrapn (x : Int) (h : -9000000000 ≤ x ∧ x ≤ 9000000000) : IntKind.i64.wrap x = x := by rw [IntKind.wrap_i64]; omega

/-- The partitions' sectors. -/
def secG (L : List E4) (k : Nat) : List (Int × Int) := (partsG (L.take k) 0).map (fun p => (p.1, p.2.1 + 1))

theorem secG_succ (L : List E4) (k : Nat) (x : E4) (h : L[k]? = some x) : secG L (k + 1) = secG L k ++ (if x.none = true then [] else [(x.fi, x.la + 1)]) := by
  unfold secG
  rw [List.take_add_one, h, Option.toList_some, partsG_snoc, List.map_append]
  congr 1
  split <;> rfl
theorem secG_len (L : List E4) (k : Nat) : (secG L k).length = (prtG L k).length := by
  unfold secG prtG
  simp
theorem secG_off (t : Tb) : (secG t.L t.L.length).Pairwise Off ↔ t.plc.Pairwise Off := by
  unfold Tb.plc plcG prtG secG
  rw [List.take_length, List.take_length, List.map_map, List.pairwise_map, List.pairwise_map]
  refine List.Pairwise.iff ?_
  intro p q
  unfold Off
  simp only [partP, Function.comp]
  omega

theorem allZ_rep (l : List Int) : allZ l = decide (l = List.replicate l.length 0) := by
  cases h : allZ l with
  | true =>
    unfold allZ at h
    rw [List.all_eq_true] at h
    refine (decide_eq_true ?_).symm
    refine List.eq_replicate_iff.2 ⟨rfl, fun x hx => ?_⟩
    simpa using h x hx
  | false =>
    refine (decide_eq_false ?_).symm
    intro e
    unfold allZ at h
    rw [List.all_eq_false] at h
    obtain ⟨x, hx, hn⟩ := h
    rw [e] at hx
    have := List.eq_of_mem_replicate hx
    simp [this] at hn

theorem Lies.takeG {w : World} {a : Option Addr} {l : List Int} (h : Lies w a l) (n : Nat) : Lies w a (l.take n) := by
  rcases h with h | ⟨b, off, h1, h2, h3⟩
  · exact Or.inl (by rw [h]; exact List.take_nil)
  · refine Or.inr ⟨b, off, h1, h2, fun k hk => ?_⟩
    rw [List.length_take] at hk
    have := h3 k (by omega)
    rw [this]
    congr 2
    rw [List.getD_eq_getElem?_getD, List.getD_eq_getElem?_getD, List.getElem?_take, if_pos (by omega)]

/-- Is an entry all noughts? -/
theorem z_iff (x : E4) (hx : x.ok) : x = E4.z ↔ allZ x.ids = true ∧ x.fi = 0 ∧ x.la = 0 ∧ allZ x.rest = true := by
  rw [allZ_rep, allZ_rep, hx.1, hx.2]
  unfold E4.z
  cases x
  simp

set_option maxHeartbeats 32000000 in
set_option maxRecDepth 100000 in
theorem rchk_any (t : Tb) (vi : Value) (a : Option Addr) (cap : Nat) (hok : ∀ x ∈ t.L, x.ok) (hlen : t.L.length ≤ 1000000) (w : World) (hl : LiesD w a t.L) :
    Calls Tryd.prog 10 #[.agg (t.rc vi (.slice a t.L.length cap))] w fun e w' => e = .returned (.int .i64 t.chk) ∧ Below w.heap.size w w' := by
  obtain ⟨n, hn⟩ : ∃ n, n = t.L.length := ⟨_, rfl⟩
  rw [← hn]
  obtain ⟨w1, hw1⟩ : ∃ w1, w1 = w.alloc (.cells (t.rc vi (.slice a n cap)) 34) := ⟨_, rfl⟩
  obtain ⟨R, hR⟩ : ∃ R, R = w.heap.size := ⟨_, rfl⟩
  have hb1 : Below w.heap.size w w1 := by rw [hw1]; exact (Below.refl _ _).alloc (Nat.le_refl _) _
  have hk1 : Blk w1 R (t.rc vi (.slice a n cap)) 34 := by rw [hw1, hR]; exact Blk.new _ _ _
  have HRo := fun u => hide (rrows_any n u (by omega))
  have HK1 := hide hk1
  have HL1 := hide (hl.below hb1)
  have HLw := hide hl
  have HB1 := hide hb1
  have HW1 := hide hw1
  have HHR := hide hR
  have HHn := hide hn
  have HOk := hide hok
  obtain ⟨r, hr⟩ : ∃ r, r = rowsG n := ⟨_, rfl⟩
  rw [← hr] at HRo
  have HHr := hide hr
  have HRn := hide (show 0 ≤ r ∧ r ≤ 260000 by rw [hr]; exact rowsG_near n (by omega))
  have hln : n ≤ 1000000 := by omega
  obtain ⟨c0, c1, c2, c3, c4, c5⟩ := rc_cells hk1
  clear hok hlen hl hw1 hR hb1 hk1 hn hr
  go_enter Tryd.func10, Tryd.ntmps10
  go_upto_region 2 with fail
  rw [← HHR.out, ← HW1.out]
  by_cases q1 : t.sec < 6
  case pos =>
    have hd := hide (show t.chk = 11 by unfold Tb.chk; rw [if_neg (by omega)])
    go_wp2_with fail
    go_ret
    exact ⟨by rw [hd.out]; rfl, HB1.out⟩
  by_cases q2 : t.sec > 32768
  case pos =>
    have hd := hide (show t.chk = 11 by unfold Tb.chk; rw [if_neg (by omega)])
    go_wp2_with fail
    go_ret
    exact ⟨by rw [hd.out]; rfl, HB1.out⟩
  by_cases q3 : (n : Int) < 1
  case pos =>
    have hd := hide (show t.chk = 11 by unfold Tb.chk; rw [if_neg (by have := HHn.out; omega)])
    go_wp2_with fail
    go_ret
    exact ⟨by rw [hd.out]; rfl, HB1.out⟩
  by_cases q4 : (n : Int) > 128
  case pos =>
    have hd := hide (show t.chk = 11 by unfold Tb.chk; rw [if_neg (by have := HHn.out; omega)])
    go_wp2_with fail
    go_ret
    exact ⟨by rw [hd.out]; rfl, HB1.out⟩
  have HQ1 := hide (show (6 ≤ t.sec ∧ t.sec ≤ 32768) ∧ 1 ≤ n ∧ n ≤ 128 by omega)
  have HD0 := hide (show t.chk = if t.placed then if t.chkL t.L = 0 then if (prtG t.L t.L.length).length ≤ 32 then if t.plc.Pairwise Off then 0 else 14 else 3 else t.chkL t.L else 4 by
    unfold Tb.chk; rw [if_pos (by have := HHn.out; have := HQ1.out; omega)])
  have HP : Hid (t.placed ↔ (2 ≤ t.at_ ∧ t.at_ ≤ t.sec - 1 - r) ∧ (t.at_ + r ≤ t.fst ∧ t.fst ≤ t.sec - 1) ∧ t.fst - 1 ≤ t.lst ∧ t.lst < t.beh ∧ t.beh ≤ t.sec - 1 - r) := hide (by rw [HHr.out, HHn.out]; exact Iff.rfl)
  have e1 : IntKind.i64.wrap (t.sec - 1) = t.sec - 1 := wrapn _ (by omega)
  have e2 : IntKind.i64.wrap (t.sec - 1 - r) = t.sec - 1 - r := wrapn _ (by have := HRn.out; omega)
  go_upto_region 4 with fail
  clear q1 q2 q3 q4
  obtain ⟨B, hB⟩ : ∃ B, B = !decide t.placed := ⟨_, rfl⟩
  have HBB := hide hB
  clear hB
  go_cut [27] from 28 to 85 (fun v27 wx => v27 = .bool B ∧ wx = w1.drew)
  case first =>
    have HS1 : (show World → Prop from fun u => Blk u R (t.rc vi (.slice a n cap)) 34) w1.drew := HK1.out.drew
    clear c0 c1 c2 c3 c4 c5
    refine wp_region_held_drew (S := fun u => Blk u R (t.rc vi (.slice a n cap)) 34) (by kernel_rfl) HS1 (fun _ => ?_)
    refine any_take 0 (some 28) (.pointer (some ⟨R, 5, none⟩)) rfl rfl (by kernel_rfl) (by kernel_rfl) (by kernel_rfl) (fun _ _ _ h => h) (by rfl) HS1 ?_ ?_
    · intro w hSw
      obtain ⟨c0, c1, c2, c3, c4, c5⟩ := rc_cells hSw
      go_simp
    simp only [Act.put, List.setIfInBounds_toArray, List.set_cons_zero, List.set_cons_succ]
    refine any_take 1 (some 29) (.int .i64 (t.at_)) rfl rfl (by kernel_rfl) (by kernel_rfl) (by kernel_rfl) (fun _ _ _ h => h) (by rfl) HS1 ?_ ?_
    · intro w hSw
      obtain ⟨c0, c1, c2, c3, c4, c5⟩ := rc_cells hSw
      go_simp
    simp only [Act.put, List.setIfInBounds_toArray, List.set_cons_zero, List.set_cons_succ]
    by_cases g0 : t.at_ < 2
    · have d0 : decide (t.at_ < 2) = true := decide_eq_true g0
      refine any_take 2 (some 30) (.bool true) rfl rfl (by kernel_rfl) (by kernel_rfl) (by kernel_rfl) (fun _ _ _ h => h) (by rfl) HS1 ?_ ?_
      · intro w hSw
        obtain ⟨c0, c1, c2, c3, c4, c5⟩ := rc_cells hSw
        go_simp
      simp only [Act.put, List.setIfInBounds_toArray, List.set_cons_zero, List.set_cons_succ]
      refine any_take 3 (some 31) (.bool true) rfl rfl (by kernel_rfl) (by kernel_rfl) (by kernel_rfl) (fun _ _ _ h => h) (by rfl) HS1 ?_ ?_
      · intro w hSw
        obtain ⟨c0, c1, c2, c3, c4, c5⟩ := rc_cells hSw
        go_simp
      simp only [Act.put, List.setIfInBounds_toArray, List.set_cons_zero, List.set_cons_succ]
      refine any_skip 4 (some 32) rfl rfl (by kernel_rfl) (by kernel_rfl) (by kernel_rfl) (fun _ _ _ h => h) (by rfl) HS1 ?_
      simp only [Act.put, List.setIfInBounds_toArray, List.set_cons_zero, List.set_cons_succ]
      refine any_skip 5 (some 33) rfl rfl (by kernel_rfl) (by kernel_rfl) (by kernel_rfl) (fun _ _ _ h => h) (by rfl) HS1 ?_
      simp only [Act.put, List.setIfInBounds_toArray, List.set_cons_zero, List.set_cons_succ]
      refine any_skip 6 (some 34) rfl rfl (by kernel_rfl) (by kernel_rfl) (by kernel_rfl) (fun _ _ _ h => h) (by rfl) HS1 ?_
      simp only [Act.put, List.setIfInBounds_toArray, List.set_cons_zero, List.set_cons_succ]
      refine any_skip 7 (some 35) rfl rfl (by kernel_rfl) (by kernel_rfl) (by kernel_rfl) (fun _ _ _ h => h) (by rfl) HS1 ?_
      simp only [Act.put, List.setIfInBounds_toArray, List.set_cons_zero, List.set_cons_succ]
      refine any_skip 8 (some 36) rfl rfl (by kernel_rfl) (by kernel_rfl) (by kernel_rfl) (fun _ _ _ h => h) (by rfl) HS1 ?_
      simp only [Act.put, List.setIfInBounds_toArray, List.set_cons_zero, List.set_cons_succ]
      refine any_skip 9 (some 37) rfl rfl (by kernel_rfl) (by kernel_rfl) (by kernel_rfl) (fun _ _ _ h => h) (by rfl) HS1 ?_
      simp only [Act.put, List.setIfInBounds_toArray, List.set_cons_zero, List.set_cons_succ]
      refine any_skip 10 (some 38) rfl rfl (by kernel_rfl) (by kernel_rfl) (by kernel_rfl) (fun _ _ _ h => h) (by rfl) HS1 ?_
      simp only [Act.put, List.setIfInBounds_toArray, List.set_cons_zero, List.set_cons_succ]
      refine any_skip 11 (some 39) rfl rfl (by kernel_rfl) (by kernel_rfl) (by kernel_rfl) (fun _ _ _ h => h) (by rfl) HS1 ?_
      simp only [Act.put, List.setIfInBounds_toArray, List.set_cons_zero, List.set_cons_succ]
      refine any_skip 12 (some 40) rfl rfl (by kernel_rfl) (by kernel_rfl) (by kernel_rfl) (fun _ _ _ h => h) (by rfl) HS1 ?_
      simp only [Act.put, List.setIfInBounds_toArray, List.set_cons_zero, List.set_cons_succ]
      refine any_take 13 (some 41) (.bool true) rfl rfl (by kernel_rfl) (by kernel_rfl) (by kernel_rfl) (fun _ _ _ h => h) (by rfl) HS1 ?_ ?_
      · intro w hSw
        obtain ⟨c0, c1, c2, c3, c4, c5⟩ := rc_cells hSw
        go_simp
      simp only [Act.put, List.setIfInBounds_toArray, List.set_cons_zero, List.set_cons_succ]
      refine any_take 14 (some 42) (.bool true) rfl rfl (by kernel_rfl) (by kernel_rfl) (by kernel_rfl) (fun _ _ _ h => h) (by rfl) HS1 ?_ ?_
      · intro w hSw
        obtain ⟨c0, c1, c2, c3, c4, c5⟩ := rc_cells hSw
        go_simp
      simp only [Act.put, List.setIfInBounds_toArray, List.set_cons_zero, List.set_cons_succ]
      refine any_skip 15 (some 43) rfl rfl (by kernel_rfl) (by kernel_rfl) (by kernel_rfl) (fun _ _ _ h => h) (by rfl) HS1 ?_
      simp only [Act.put, List.setIfInBounds_toArray, List.set_cons_zero, List.set_cons_succ]
      refine any_skip 16 (some 44) rfl rfl (by kernel_rfl) (by kernel_rfl) (by kernel_rfl) (fun _ _ _ h => h) (by rfl) HS1 ?_
      simp only [Act.put, List.setIfInBounds_toArray, List.set_cons_zero, List.set_cons_succ]
      refine any_skip 17 (some 45) rfl rfl (by kernel_rfl) (by kernel_rfl) (by kernel_rfl) (fun _ _ _ h => h) (by rfl) HS1 ?_
      simp only [Act.put, List.setIfInBounds_toArray, List.set_cons_zero, List.set_cons_succ]
      refine any_skip 18 (some 46) rfl rfl (by kernel_rfl) (by kernel_rfl) (by kernel_rfl) (fun _ _ _ h => h) (by rfl) HS1 ?_
      simp only [Act.put, List.setIfInBounds_toArray, List.set_cons_zero, List.set_cons_succ]
      refine any_skip 19 (some 47) rfl rfl (by kernel_rfl) (by kernel_rfl) (by kernel_rfl) (fun _ _ _ h => h) (by rfl) HS1 ?_
      simp only [Act.put, List.setIfInBounds_toArray, List.set_cons_zero, List.set_cons_succ]
      refine any_skip 20 (some 48) rfl rfl (by kernel_rfl) (by kernel_rfl) (by kernel_rfl) (fun _ _ _ h => h) (by rfl) HS1 ?_
      simp only [Act.put, List.setIfInBounds_toArray, List.set_cons_zero, List.set_cons_succ]
      refine any_skip 21 (some 49) rfl rfl (by kernel_rfl) (by kernel_rfl) (by kernel_rfl) (fun _ _ _ h => h) (by rfl) HS1 ?_
      simp only [Act.put, List.setIfInBounds_toArray, List.set_cons_zero, List.set_cons_succ]
      refine any_skip 22 (some 50) rfl rfl (by kernel_rfl) (by kernel_rfl) (by kernel_rfl) (fun _ _ _ h => h) (by rfl) HS1 ?_
      simp only [Act.put, List.setIfInBounds_toArray, List.set_cons_zero, List.set_cons_succ]
      refine any_take 23 (some 51) (.bool true) rfl rfl (by kernel_rfl) (by kernel_rfl) (by kernel_rfl) (fun _ _ _ h => h) (by rfl) HS1 ?_ ?_
      · intro w hSw
        obtain ⟨c0, c1, c2, c3, c4, c5⟩ := rc_cells hSw
        go_simp
      simp only [Act.put, List.setIfInBounds_toArray, List.set_cons_zero, List.set_cons_succ]
      refine any_take 24 (some 52) (.bool true) rfl rfl (by kernel_rfl) (by kernel_rfl) (by kernel_rfl) (fun _ _ _ h => h) (by rfl) HS1 ?_ ?_
      · intro w hSw
        obtain ⟨c0, c1, c2, c3, c4, c5⟩ := rc_cells hSw
        go_simp
      simp only [Act.put, List.setIfInBounds_toArray, List.set_cons_zero, List.set_cons_succ]
      refine any_skip 25 (some 53) rfl rfl (by kernel_rfl) (by kernel_rfl) (by kernel_rfl) (fun _ _ _ h => h) (by rfl) HS1 ?_
      simp only [Act.put, List.setIfInBounds_toArray, List.set_cons_zero, List.set_cons_succ]
      refine any_skip 26 (some 54) rfl rfl (by kernel_rfl) (by kernel_rfl) (by kernel_rfl) (fun _ _ _ h => h) (by rfl) HS1 ?_
      simp only [Act.put, List.setIfInBounds_toArray, List.set_cons_zero, List.set_cons_succ]
      refine any_skip 27 (some 55) rfl rfl (by kernel_rfl) (by kernel_rfl) (by kernel_rfl) (fun _ _ _ h => h) (by rfl) HS1 ?_
      simp only [Act.put, List.setIfInBounds_toArray, List.set_cons_zero, List.set_cons_succ]
      refine any_skip 28 (some 56) rfl rfl (by kernel_rfl) (by kernel_rfl) (by kernel_rfl) (fun _ _ _ h => h) (by rfl) HS1 ?_
      simp only [Act.put, List.setIfInBounds_toArray, List.set_cons_zero, List.set_cons_succ]
      refine any_skip 29 (some 57) rfl rfl (by kernel_rfl) (by kernel_rfl) (by kernel_rfl) (fun _ _ _ h => h) (by rfl) HS1 ?_
      simp only [Act.put, List.setIfInBounds_toArray, List.set_cons_zero, List.set_cons_succ]
      refine any_skip 30 (some 58) rfl rfl (by kernel_rfl) (by kernel_rfl) (by kernel_rfl) (fun _ _ _ h => h) (by rfl) HS1 ?_
      simp only [Act.put, List.setIfInBounds_toArray, List.set_cons_zero, List.set_cons_succ]
      refine any_take 31 (some 59) (.bool true) rfl rfl (by kernel_rfl) (by kernel_rfl) (by kernel_rfl) (fun _ _ _ h => h) (by rfl) HS1 ?_ ?_
      · intro w hSw
        obtain ⟨c0, c1, c2, c3, c4, c5⟩ := rc_cells hSw
        go_simp
      simp only [Act.put, List.setIfInBounds_toArray, List.set_cons_zero, List.set_cons_succ]
      refine any_take 32 (some 60) (.bool true) rfl rfl (by kernel_rfl) (by kernel_rfl) (by kernel_rfl) (fun _ _ _ h => h) (by rfl) HS1 ?_ ?_
      · intro w hSw
        obtain ⟨c0, c1, c2, c3, c4, c5⟩ := rc_cells hSw
        go_simp
      simp only [Act.put, List.setIfInBounds_toArray, List.set_cons_zero, List.set_cons_succ]
      refine any_skip 33 (some 61) rfl rfl (by kernel_rfl) (by kernel_rfl) (by kernel_rfl) (fun _ _ _ h => h) (by rfl) HS1 ?_
      simp only [Act.put, List.setIfInBounds_toArray, List.set_cons_zero, List.set_cons_succ]
      refine any_skip 34 (some 62) rfl rfl (by kernel_rfl) (by kernel_rfl) (by kernel_rfl) (fun _ _ _ h => h) (by rfl) HS1 ?_
      simp only [Act.put, List.setIfInBounds_toArray, List.set_cons_zero, List.set_cons_succ]
      refine any_skip 35 (some 63) rfl rfl (by kernel_rfl) (by kernel_rfl) (by kernel_rfl) (fun _ _ _ h => h) (by rfl) HS1 ?_
      simp only [Act.put, List.setIfInBounds_toArray, List.set_cons_zero, List.set_cons_succ]
      refine any_skip 36 (some 64) rfl rfl (by kernel_rfl) (by kernel_rfl) (by kernel_rfl) (fun _ _ _ h => h) (by rfl) HS1 ?_
      simp only [Act.put, List.setIfInBounds_toArray, List.set_cons_zero, List.set_cons_succ]
      refine any_skip 37 (some 65) rfl rfl (by kernel_rfl) (by kernel_rfl) (by kernel_rfl) (fun _ _ _ h => h) (by rfl) HS1 ?_
      simp only [Act.put, List.setIfInBounds_toArray, List.set_cons_zero, List.set_cons_succ]
      refine any_skip 38 (some 66) rfl rfl (by kernel_rfl) (by kernel_rfl) (by kernel_rfl) (fun _ _ _ h => h) (by rfl) HS1 ?_
      simp only [Act.put, List.setIfInBounds_toArray, List.set_cons_zero, List.set_cons_succ]
      refine any_take 39 (some 67) (.bool true) rfl rfl (by kernel_rfl) (by kernel_rfl) (by kernel_rfl) (fun _ _ _ h => h) (by rfl) HS1 ?_ ?_
      · intro w hSw
        obtain ⟨c0, c1, c2, c3, c4, c5⟩ := rc_cells hSw
        go_simp
      simp only [Act.put, List.setIfInBounds_toArray, List.set_cons_zero, List.set_cons_succ]
      refine any_take 40 (some 68) (.bool true) rfl rfl (by kernel_rfl) (by kernel_rfl) (by kernel_rfl) (fun _ _ _ h => h) (by rfl) HS1 ?_ ?_
      · intro w hSw
        obtain ⟨c0, c1, c2, c3, c4, c5⟩ := rc_cells hSw
        go_simp
      simp only [Act.put, List.setIfInBounds_toArray, List.set_cons_zero, List.set_cons_succ]
      refine any_skip 41 (some 69) rfl rfl (by kernel_rfl) (by kernel_rfl) (by kernel_rfl) (fun _ _ _ h => h) (by rfl) HS1 ?_
      simp only [Act.put, List.setIfInBounds_toArray, List.set_cons_zero, List.set_cons_succ]
      refine any_skip 42 (some 70) rfl rfl (by kernel_rfl) (by kernel_rfl) (by kernel_rfl) (fun _ _ _ h => h) (by rfl) HS1 ?_
      simp only [Act.put, List.setIfInBounds_toArray, List.set_cons_zero, List.set_cons_succ]
      refine any_skip 43 (some 71) rfl rfl (by kernel_rfl) (by kernel_rfl) (by kernel_rfl) (fun _ _ _ h => h) (by rfl) HS1 ?_
      simp only [Act.put, List.setIfInBounds_toArray, List.set_cons_zero, List.set_cons_succ]
      refine any_skip 44 (some 72) rfl rfl (by kernel_rfl) (by kernel_rfl) (by kernel_rfl) (fun _ _ _ h => h) (by rfl) HS1 ?_
      simp only [Act.put, List.setIfInBounds_toArray, List.set_cons_zero, List.set_cons_succ]
      refine any_skip 45 (some 73) rfl rfl (by kernel_rfl) (by kernel_rfl) (by kernel_rfl) (fun _ _ _ h => h) (by rfl) HS1 ?_
      simp only [Act.put, List.setIfInBounds_toArray, List.set_cons_zero, List.set_cons_succ]
      refine any_take 46 (some 74) (.bool true) rfl rfl (by kernel_rfl) (by kernel_rfl) (by kernel_rfl) (fun _ _ _ h => h) (by rfl) HS1 ?_ ?_
      · intro w hSw
        obtain ⟨c0, c1, c2, c3, c4, c5⟩ := rc_cells hSw
        go_simp
      simp only [Act.put, List.setIfInBounds_toArray, List.set_cons_zero, List.set_cons_succ]
      refine any_take 47 (some 75) (.bool true) rfl rfl (by kernel_rfl) (by kernel_rfl) (by kernel_rfl) (fun _ _ _ h => h) (by rfl) HS1 ?_ ?_
      · intro w hSw
        obtain ⟨c0, c1, c2, c3, c4, c5⟩ := rc_cells hSw
        go_simp
      simp only [Act.put, List.setIfInBounds_toArray, List.set_cons_zero, List.set_cons_succ]
      refine any_skip 48 (some 76) rfl rfl (by kernel_rfl) (by kernel_rfl) (by kernel_rfl) (fun _ _ _ h => h) (by rfl) HS1 ?_
      simp only [Act.put, List.setIfInBounds_toArray, List.set_cons_zero, List.set_cons_succ]
      refine any_skip 49 (some 77) rfl rfl (by kernel_rfl) (by kernel_rfl) (by kernel_rfl) (fun _ _ _ h => h) (by rfl) HS1 ?_
      simp only [Act.put, List.setIfInBounds_toArray, List.set_cons_zero, List.set_cons_succ]
      refine any_skip 50 (some 78) rfl rfl (by kernel_rfl) (by kernel_rfl) (by kernel_rfl) (fun _ _ _ h => h) (by rfl) HS1 ?_
      simp only [Act.put, List.setIfInBounds_toArray, List.set_cons_zero, List.set_cons_succ]
      refine any_skip 51 (some 79) rfl rfl (by kernel_rfl) (by kernel_rfl) (by kernel_rfl) (fun _ _ _ h => h) (by rfl) HS1 ?_
      simp only [Act.put, List.setIfInBounds_toArray, List.set_cons_zero, List.set_cons_succ]
      refine any_skip 52 (some 80) rfl rfl (by kernel_rfl) (by kernel_rfl) (by kernel_rfl) (fun _ _ _ h => h) (by rfl) HS1 ?_
      simp only [Act.put, List.setIfInBounds_toArray, List.set_cons_zero, List.set_cons_succ]
      refine any_skip 53 (some 81) rfl rfl (by kernel_rfl) (by kernel_rfl) (by kernel_rfl) (fun _ _ _ h => h) (by rfl) HS1 ?_
      simp only [Act.put, List.setIfInBounds_toArray, List.set_cons_zero, List.set_cons_succ]
      refine any_skip 54 (some 82) rfl rfl (by kernel_rfl) (by kernel_rfl) (by kernel_rfl) (fun _ _ _ h => h) (by rfl) HS1 ?_
      simp only [Act.put, List.setIfInBounds_toArray, List.set_cons_zero, List.set_cons_succ]
      refine any_skip 55 (some 83) rfl rfl (by kernel_rfl) (by kernel_rfl) (by kernel_rfl) (fun _ _ _ h => h) (by rfl) HS1 ?_
      simp only [Act.put, List.setIfInBounds_toArray, List.set_cons_zero, List.set_cons_succ]
      refine any_skip 56 (some 84) rfl rfl (by kernel_rfl) (by kernel_rfl) (by kernel_rfl) (fun _ _ _ h => h) (by rfl) HS1 ?_
      simp only [Act.put, List.setIfInBounds_toArray, List.set_cons_zero, List.set_cons_succ]
      refine any_take 57 (some 85) (.bool true) rfl rfl (by kernel_rfl) (by kernel_rfl) (by kernel_rfl) (fun _ _ _ h => h) (by rfl) HS1 ?_ ?_
      · intro w hSw
        obtain ⟨c0, c1, c2, c3, c4, c5⟩ := rc_cells hSw
        go_simp
      simp only [Act.put, List.setIfInBounds_toArray, List.set_cons_zero, List.set_cons_succ]
      have hB : B = true := by
        have h1 := HBB.out; have h2 := HP.out
        rw [h1]
        exact (by simp only [Bool.not_eq_true', decide_eq_false_iff_not]; intro h3; have := h2.1 h3; omega)
      refine any_take 58 (some 27) (.bool true) rfl rfl (by kernel_rfl) (by kernel_rfl) (by kernel_rfl) (fun _ _ _ h => h) (by rfl) HS1 ?_ ?_
      · intro w hSw
        obtain ⟨c0, c1, c2, c3, c4, c5⟩ := rc_cells hSw
        go_simp
      simp only [Act.put, List.setIfInBounds_toArray, List.set_cons_zero, List.set_cons_succ]
      refine wpAnyH_done (by kernel_rfl) ?_ _
      try go_wp2
      go_meet
      exact ⟨by rw [hB], rfl⟩
    · have d0 : decide (t.at_ < 2) = false := decide_eq_false g0
      refine any_take 2 (some 30) (.bool false) rfl rfl (by kernel_rfl) (by kernel_rfl) (by kernel_rfl) (fun _ _ _ h => h) (by rfl) HS1 ?_ ?_
      · intro w hSw
        obtain ⟨c0, c1, c2, c3, c4, c5⟩ := rc_cells hSw
        go_simp
      simp only [Act.put, List.setIfInBounds_toArray, List.set_cons_zero, List.set_cons_succ]
      refine any_take 3 (some 31) (.bool false) rfl rfl (by kernel_rfl) (by kernel_rfl) (by kernel_rfl) (fun _ _ _ h => h) (by rfl) HS1 ?_ ?_
      · intro w hSw
        obtain ⟨c0, c1, c2, c3, c4, c5⟩ := rc_cells hSw
        go_simp
      simp only [Act.put, List.setIfInBounds_toArray, List.set_cons_zero, List.set_cons_succ]
      refine any_take 4 (some 32) (.pointer (some ⟨R, 5, none⟩)) rfl rfl (by kernel_rfl) (by kernel_rfl) (by kernel_rfl) (fun _ _ _ h => h) (by rfl) HS1 ?_ ?_
      · intro w hSw
        obtain ⟨c0, c1, c2, c3, c4, c5⟩ := rc_cells hSw
        go_simp
      simp only [Act.put, List.setIfInBounds_toArray, List.set_cons_zero, List.set_cons_succ]
      refine any_take 5 (some 33) (.int .i64 (t.at_)) rfl rfl (by kernel_rfl) (by kernel_rfl) (by kernel_rfl) (fun _ _ _ h => h) (by rfl) HS1 ?_ ?_
      · intro w hSw
        obtain ⟨c0, c1, c2, c3, c4, c5⟩ := rc_cells hSw
        go_simp
      simp only [Act.put, List.setIfInBounds_toArray, List.set_cons_zero, List.set_cons_succ]
      refine any_take 6 (some 34) (.pointer (some ⟨R, 0, none⟩)) rfl rfl (by kernel_rfl) (by kernel_rfl) (by kernel_rfl) (fun _ _ _ h => h) (by rfl) HS1 ?_ ?_
      · intro w hSw
        obtain ⟨c0, c1, c2, c3, c4, c5⟩ := rc_cells hSw
        go_simp
      simp only [Act.put, List.setIfInBounds_toArray, List.set_cons_zero, List.set_cons_succ]
      refine any_take 7 (some 35) (.int .i64 (t.sec)) rfl rfl (by kernel_rfl) (by kernel_rfl) (by kernel_rfl) (fun _ _ _ h => h) (by rfl) HS1 ?_ ?_
      · intro w hSw
        obtain ⟨c0, c1, c2, c3, c4, c5⟩ := rc_cells hSw
        go_simp
      simp only [Act.put, List.setIfInBounds_toArray, List.set_cons_zero, List.set_cons_succ]
      refine any_take 8 (some 36) (.int .i64 (t.sec - 1)) rfl rfl (by kernel_rfl) (by kernel_rfl) (by kernel_rfl) (fun _ _ _ h => h) (by rfl) HS1 ?_ ?_
      · intro w hSw
        obtain ⟨c0, c1, c2, c3, c4, c5⟩ := rc_cells hSw
        go_simp
      simp only [Act.put, List.setIfInBounds_toArray, List.set_cons_zero, List.set_cons_succ]
      refine any_take 9 (some 37) (.int .i64 (n : Int)) rfl rfl (by kernel_rfl) (by kernel_rfl) (by kernel_rfl) (fun _ _ _ h => h) (by rfl) HS1 ?_ ?_
      · intro w hSw
        obtain ⟨c0, c1, c2, c3, c4, c5⟩ := rc_cells hSw
        go_simp
      simp only [Act.put, List.setIfInBounds_toArray, List.set_cons_zero, List.set_cons_succ]
      refine wpAnyH_ready (rs := [10]) (by kernel_rfl) (by simp) ?_
      refine AllReadyH.cons (i := 10) rfl (fun K hK => ?_) AllReadyH.nil
      go_simp
      refine (HRo _).out.mono ?_
      rintro e9 wz ⟨rfl, rfl⟩
      go_simp
      refine hK.out _ _ HS1 (fun _ => ?_)
      clear hK K
      try simp only [Act.put, List.setIfInBounds_toArray, List.set_cons_zero, List.set_cons_succ]
      refine any_take 11 (some 39) (.int .i64 (t.sec - 1 - r)) rfl rfl (by kernel_rfl) (by kernel_rfl) (by kernel_rfl) (fun _ _ _ h => h) (by rfl) HS1 ?_ ?_
      · intro w hSw
        obtain ⟨c0, c1, c2, c3, c4, c5⟩ := rc_cells hSw
        go_simp
      simp only [Act.put, List.setIfInBounds_toArray, List.set_cons_zero, List.set_cons_succ]
      by_cases g1 : t.at_ > t.sec - 1 - r
      · have d1 : decide (t.at_ > t.sec - 1 - r) = true := decide_eq_true g1
        refine any_take 12 (some 40) (.bool true) rfl rfl (by kernel_rfl) (by kernel_rfl) (by kernel_rfl) (fun _ _ _ h => h) (by rfl) HS1 ?_ ?_
        · intro w hSw
          obtain ⟨c0, c1, c2, c3, c4, c5⟩ := rc_cells hSw
          go_simp
        simp only [Act.put, List.setIfInBounds_toArray, List.set_cons_zero, List.set_cons_succ]
        refine any_take 13 (some 41) (.bool true) rfl rfl (by kernel_rfl) (by kernel_rfl) (by kernel_rfl) (fun _ _ _ h => h) (by rfl) HS1 ?_ ?_
        · intro w hSw
          obtain ⟨c0, c1, c2, c3, c4, c5⟩ := rc_cells hSw
          go_simp
        simp only [Act.put, List.setIfInBounds_toArray, List.set_cons_zero, List.set_cons_succ]
        refine any_take 14 (some 42) (.bool true) rfl rfl (by kernel_rfl) (by kernel_rfl) (by kernel_rfl) (fun _ _ _ h => h) (by rfl) HS1 ?_ ?_
        · intro w hSw
          obtain ⟨c0, c1, c2, c3, c4, c5⟩ := rc_cells hSw
          go_simp
        simp only [Act.put, List.setIfInBounds_toArray, List.set_cons_zero, List.set_cons_succ]
        refine any_skip 15 (some 43) rfl rfl (by kernel_rfl) (by kernel_rfl) (by kernel_rfl) (fun _ _ _ h => h) (by rfl) HS1 ?_
        simp only [Act.put, List.setIfInBounds_toArray, List.set_cons_zero, List.set_cons_succ]
        refine any_skip 16 (some 44) rfl rfl (by kernel_rfl) (by kernel_rfl) (by kernel_rfl) (fun _ _ _ h => h) (by rfl) HS1 ?_
        simp only [Act.put, List.setIfInBounds_toArray, List.set_cons_zero, List.set_cons_succ]
        refine any_skip 17 (some 45) rfl rfl (by kernel_rfl) (by kernel_rfl) (by kernel_rfl) (fun _ _ _ h => h) (by rfl) HS1 ?_
        simp only [Act.put, List.setIfInBounds_toArray, List.set_cons_zero, List.set_cons_succ]
        refine any_skip 18 (some 46) rfl rfl (by kernel_rfl) (by kernel_rfl) (by kernel_rfl) (fun _ _ _ h => h) (by rfl) HS1 ?_
        simp only [Act.put, List.setIfInBounds_toArray, List.set_cons_zero, List.set_cons_succ]
        refine any_skip 19 (some 47) rfl rfl (by kernel_rfl) (by kernel_rfl) (by kernel_rfl) (fun _ _ _ h => h) (by rfl) HS1 ?_
        simp only [Act.put, List.setIfInBounds_toArray, List.set_cons_zero, List.set_cons_succ]
        refine any_skip 20 (some 48) rfl rfl (by kernel_rfl) (by kernel_rfl) (by kernel_rfl) (fun _ _ _ h => h) (by rfl) HS1 ?_
        simp only [Act.put, List.setIfInBounds_toArray, List.set_cons_zero, List.set_cons_succ]
        refine any_skip 21 (some 49) rfl rfl (by kernel_rfl) (by kernel_rfl) (by kernel_rfl) (fun _ _ _ h => h) (by rfl) HS1 ?_
        simp only [Act.put, List.setIfInBounds_toArray, List.set_cons_zero, List.set_cons_succ]
        refine any_skip 22 (some 50) rfl rfl (by kernel_rfl) (by kernel_rfl) (by kernel_rfl) (fun _ _ _ h => h) (by rfl) HS1 ?_
        simp only [Act.put, List.setIfInBounds_toArray, List.set_cons_zero, List.set_cons_succ]
        refine any_take 23 (some 51) (.bool true) rfl rfl (by kernel_rfl) (by kernel_rfl) (by kernel_rfl) (fun _ _ _ h => h) (by rfl) HS1 ?_ ?_
        · intro w hSw
          obtain ⟨c0, c1, c2, c3, c4, c5⟩ := rc_cells hSw
          go_simp
        simp only [Act.put, List.setIfInBounds_toArray, List.set_cons_zero, List.set_cons_succ]
        refine any_take 24 (some 52) (.bool true) rfl rfl (by kernel_rfl) (by kernel_rfl) (by kernel_rfl) (fun _ _ _ h => h) (by rfl) HS1 ?_ ?_
        · intro w hSw
          obtain ⟨c0, c1, c2, c3, c4, c5⟩ := rc_cells hSw
          go_simp
        simp only [Act.put, List.setIfInBounds_toArray, List.set_cons_zero, List.set_cons_succ]
        refine any_skip 25 (some 53) rfl rfl (by kernel_rfl) (by kernel_rfl) (by kernel_rfl) (fun _ _ _ h => h) (by rfl) HS1 ?_
        simp only [Act.put, List.setIfInBounds_toArray, List.set_cons_zero, List.set_cons_succ]
        refine any_skip 26 (some 54) rfl rfl (by kernel_rfl) (by kernel_rfl) (by kernel_rfl) (fun _ _ _ h => h) (by rfl) HS1 ?_
        simp only [Act.put, List.setIfInBounds_toArray, List.set_cons_zero, List.set_cons_succ]
        refine any_skip 27 (some 55) rfl rfl (by kernel_rfl) (by kernel_rfl) (by kernel_rfl) (fun _ _ _ h => h) (by rfl) HS1 ?_
        simp only [Act.put, List.setIfInBounds_toArray, List.set_cons_zero, List.set_cons_succ]
        refine any_skip 28 (some 56) rfl rfl (by kernel_rfl) (by kernel_rfl) (by kernel_rfl) (fun _ _ _ h => h) (by rfl) HS1 ?_
        simp only [Act.put, List.setIfInBounds_toArray, List.set_cons_zero, List.set_cons_succ]
        refine any_skip 29 (some 57) rfl rfl (by kernel_rfl) (by kernel_rfl) (by kernel_rfl) (fun _ _ _ h => h) (by rfl) HS1 ?_
        simp only [Act.put, List.setIfInBounds_toArray, List.set_cons_zero, List.set_cons_succ]
        refine any_skip 30 (some 58) rfl rfl (by kernel_rfl) (by kernel_rfl) (by kernel_rfl) (fun _ _ _ h => h) (by rfl) HS1 ?_
        simp only [Act.put, List.setIfInBounds_toArray, List.set_cons_zero, List.set_cons_succ]
        refine any_take 31 (some 59) (.bool true) rfl rfl (by kernel_rfl) (by kernel_rfl) (by kernel_rfl) (fun _ _ _ h => h) (by rfl) HS1 ?_ ?_
        · intro w hSw
          obtain ⟨c0, c1, c2, c3, c4, c5⟩ := rc_cells hSw
          go_simp
        simp only [Act.put, List.setIfInBounds_toArray, List.set_cons_zero, List.set_cons_succ]
        refine any_take 32 (some 60) (.bool true) rfl rfl (by kernel_rfl) (by kernel_rfl) (by kernel_rfl) (fun _ _ _ h => h) (by rfl) HS1 ?_ ?_
        · intro w hSw
          obtain ⟨c0, c1, c2, c3, c4, c5⟩ := rc_cells hSw
          go_simp
        simp only [Act.put, List.setIfInBounds_toArray, List.set_cons_zero, List.set_cons_succ]
        refine any_skip 33 (some 61) rfl rfl (by kernel_rfl) (by kernel_rfl) (by kernel_rfl) (fun _ _ _ h => h) (by rfl) HS1 ?_
        simp only [Act.put, List.setIfInBounds_toArray, List.set_cons_zero, List.set_cons_succ]
        refine any_skip 34 (some 62) rfl rfl (by kernel_rfl) (by kernel_rfl) (by kernel_rfl) (fun _ _ _ h => h) (by rfl) HS1 ?_
        simp only [Act.put, List.setIfInBounds_toArray, List.set_cons_zero, List.set_cons_succ]
        refine any_skip 35 (some 63) rfl rfl (by kernel_rfl) (by kernel_rfl) (by kernel_rfl) (fun _ _ _ h => h) (by rfl) HS1 ?_
        simp only [Act.put, List.setIfInBounds_toArray, List.set_cons_zero, List.set_cons_succ]
        refine any_skip 36 (some 64) rfl rfl (by kernel_rfl) (by kernel_rfl) (by kernel_rfl) (fun _ _ _ h => h) (by rfl) HS1 ?_
        simp only [Act.put, List.setIfInBounds_toArray, List.set_cons_zero, List.set_cons_succ]
        refine any_skip 37 (some 65) rfl rfl (by kernel_rfl) (by kernel_rfl) (by kernel_rfl) (fun _ _ _ h => h) (by rfl) HS1 ?_
        simp only [Act.put, List.setIfInBounds_toArray, List.set_cons_zero, List.set_cons_succ]
        refine any_skip 38 (some 66) rfl rfl (by kernel_rfl) (by kernel_rfl) (by kernel_rfl) (fun _ _ _ h => h) (by rfl) HS1 ?_
        simp only [Act.put, List.setIfInBounds_toArray, List.set_cons_zero, List.set_cons_succ]
        refine any_take 39 (some 67) (.bool true) rfl rfl (by kernel_rfl) (by kernel_rfl) (by kernel_rfl) (fun _ _ _ h => h) (by rfl) HS1 ?_ ?_
        · intro w hSw
          obtain ⟨c0, c1, c2, c3, c4, c5⟩ := rc_cells hSw
          go_simp
        simp only [Act.put, List.setIfInBounds_toArray, List.set_cons_zero, List.set_cons_succ]
        refine any_take 40 (some 68) (.bool true) rfl rfl (by kernel_rfl) (by kernel_rfl) (by kernel_rfl) (fun _ _ _ h => h) (by rfl) HS1 ?_ ?_
        · intro w hSw
          obtain ⟨c0, c1, c2, c3, c4, c5⟩ := rc_cells hSw
          go_simp
        simp only [Act.put, List.setIfInBounds_toArray, List.set_cons_zero, List.set_cons_succ]
        refine any_skip 41 (some 69) rfl rfl (by kernel_rfl) (by kernel_rfl) (by kernel_rfl) (fun _ _ _ h => h) (by rfl) HS1 ?_
        simp only [Act.put, List.setIfInBounds_toArray, List.set_cons_zero, List.set_cons_succ]
        refine any_skip 42 (some 70) rfl rfl (by kernel_rfl) (by kernel_rfl) (by kernel_rfl) (fun _ _ _ h => h) (by rfl) HS1 ?_
        simp only [Act.put, List.setIfInBounds_toArray, List.set_cons_zero, List.set_cons_succ]
        refine any_skip 43 (some 71) rfl rfl (by kernel_rfl) (by kernel_rfl) (by kernel_rfl) (fun _ _ _ h => h) (by rfl) HS1 ?_
        simp only [Act.put, List.setIfInBounds_toArray, List.set_cons_zero, List.set_cons_succ]
        refine any_skip 44 (some 72) rfl rfl (by kernel_rfl) (by kernel_rfl) (by kernel_rfl) (fun _ _ _ h => h) (by rfl) HS1 ?_
        simp only [Act.put, List.setIfInBounds_toArray, List.set_cons_zero, List.set_cons_succ]
        refine any_skip 45 (some 73) rfl rfl (by kernel_rfl) (by kernel_rfl) (by kernel_rfl) (fun _ _ _ h => h) (by rfl) HS1 ?_
        simp only [Act.put, List.setIfInBounds_toArray, List.set_cons_zero, List.set_cons_succ]
        refine any_take 46 (some 74) (.bool true) rfl rfl (by kernel_rfl) (by kernel_rfl) (by kernel_rfl) (fun _ _ _ h => h) (by rfl) HS1 ?_ ?_
        · intro w hSw
          obtain ⟨c0, c1, c2, c3, c4, c5⟩ := rc_cells hSw
          go_simp
        simp only [Act.put, List.setIfInBounds_toArray, List.set_cons_zero, List.set_cons_succ]
        refine any_take 47 (some 75) (.bool true) rfl rfl (by kernel_rfl) (by kernel_rfl) (by kernel_rfl) (fun _ _ _ h => h) (by rfl) HS1 ?_ ?_
        · intro w hSw
          obtain ⟨c0, c1, c2, c3, c4, c5⟩ := rc_cells hSw
          go_simp
        simp only [Act.put, List.setIfInBounds_toArray, List.set_cons_zero, List.set_cons_succ]
        refine any_skip 48 (some 76) rfl rfl (by kernel_rfl) (by kernel_rfl) (by kernel_rfl) (fun _ _ _ h => h) (by rfl) HS1 ?_
        simp only [Act.put, List.setIfInBounds_toArray, List.set_cons_zero, List.set_cons_succ]
        refine any_skip 49 (some 77) rfl rfl (by kernel_rfl) (by kernel_rfl) (by kernel_rfl) (fun _ _ _ h => h) (by rfl) HS1 ?_
        simp only [Act.put, List.setIfInBounds_toArray, List.set_cons_zero, List.set_cons_succ]
        refine any_skip 50 (some 78) rfl rfl (by kernel_rfl) (by kernel_rfl) (by kernel_rfl) (fun _ _ _ h => h) (by rfl) HS1 ?_
        simp only [Act.put, List.setIfInBounds_toArray, List.set_cons_zero, List.set_cons_succ]
        refine any_skip 51 (some 79) rfl rfl (by kernel_rfl) (by kernel_rfl) (by kernel_rfl) (fun _ _ _ h => h) (by rfl) HS1 ?_
        simp only [Act.put, List.setIfInBounds_toArray, List.set_cons_zero, List.set_cons_succ]
        refine any_skip 52 (some 80) rfl rfl (by kernel_rfl) (by kernel_rfl) (by kernel_rfl) (fun _ _ _ h => h) (by rfl) HS1 ?_
        simp only [Act.put, List.setIfInBounds_toArray, List.set_cons_zero, List.set_cons_succ]
        refine any_skip 53 (some 81) rfl rfl (by kernel_rfl) (by kernel_rfl) (by kernel_rfl) (fun _ _ _ h => h) (by rfl) HS1 ?_
        simp only [Act.put, List.setIfInBounds_toArray, List.set_cons_zero, List.set_cons_succ]
        refine any_skip 54 (some 82) rfl rfl (by kernel_rfl) (by kernel_rfl) (by kernel_rfl) (fun _ _ _ h => h) (by rfl) HS1 ?_
        simp only [Act.put, List.setIfInBounds_toArray, List.set_cons_zero, List.set_cons_succ]
        refine any_skip 55 (some 83) rfl rfl (by kernel_rfl) (by kernel_rfl) (by kernel_rfl) (fun _ _ _ h => h) (by rfl) HS1 ?_
        simp only [Act.put, List.setIfInBounds_toArray, List.set_cons_zero, List.set_cons_succ]
        refine any_skip 56 (some 84) rfl rfl (by kernel_rfl) (by kernel_rfl) (by kernel_rfl) (fun _ _ _ h => h) (by rfl) HS1 ?_
        simp only [Act.put, List.setIfInBounds_toArray, List.set_cons_zero, List.set_cons_succ]
        refine any_take 57 (some 85) (.bool true) rfl rfl (by kernel_rfl) (by kernel_rfl) (by kernel_rfl) (fun _ _ _ h => h) (by rfl) HS1 ?_ ?_
        · intro w hSw
          obtain ⟨c0, c1, c2, c3, c4, c5⟩ := rc_cells hSw
          go_simp
        simp only [Act.put, List.setIfInBounds_toArray, List.set_cons_zero, List.set_cons_succ]
        have hB : B = true := by
          have h1 := HBB.out; have h2 := HP.out
          rw [h1]
          exact (by simp only [Bool.not_eq_true', decide_eq_false_iff_not]; intro h3; have := h2.1 h3; omega)
        refine any_take 58 (some 27) (.bool true) rfl rfl (by kernel_rfl) (by kernel_rfl) (by kernel_rfl) (fun _ _ _ h => h) (by rfl) HS1 ?_ ?_
        · intro w hSw
          obtain ⟨c0, c1, c2, c3, c4, c5⟩ := rc_cells hSw
          go_simp
        simp only [Act.put, List.setIfInBounds_toArray, List.set_cons_zero, List.set_cons_succ]
        refine wpAnyH_done (by kernel_rfl) ?_ _
        try go_wp2
        go_meet
        exact ⟨by rw [hB], rfl⟩
      · have d1 : decide (t.at_ > t.sec - 1 - r) = false := decide_eq_false g1
        have e3 : IntKind.i64.wrap (t.at_ + r) = t.at_ + r := wrapn _ (by have := HRn.out; have := HQ1.out; omega)
        refine any_take 12 (some 40) (.bool false) rfl rfl (by kernel_rfl) (by kernel_rfl) (by kernel_rfl) (fun _ _ _ h => h) (by rfl) HS1 ?_ ?_
        · intro w hSw
          obtain ⟨c0, c1, c2, c3, c4, c5⟩ := rc_cells hSw
          go_simp
        simp only [Act.put, List.setIfInBounds_toArray, List.set_cons_zero, List.set_cons_succ]
        refine any_take 13 (some 41) (.bool false) rfl rfl (by kernel_rfl) (by kernel_rfl) (by kernel_rfl) (fun _ _ _ h => h) (by rfl) HS1 ?_ ?_
        · intro w hSw
          obtain ⟨c0, c1, c2, c3, c4, c5⟩ := rc_cells hSw
          go_simp
        simp only [Act.put, List.setIfInBounds_toArray, List.set_cons_zero, List.set_cons_succ]
        refine any_take 14 (some 42) (.bool false) rfl rfl (by kernel_rfl) (by kernel_rfl) (by kernel_rfl) (fun _ _ _ h => h) (by rfl) HS1 ?_ ?_
        · intro w hSw
          obtain ⟨c0, c1, c2, c3, c4, c5⟩ := rc_cells hSw
          go_simp
        simp only [Act.put, List.setIfInBounds_toArray, List.set_cons_zero, List.set_cons_succ]
        refine any_take 15 (some 43) (.pointer (some ⟨R, 1, none⟩)) rfl rfl (by kernel_rfl) (by kernel_rfl) (by kernel_rfl) (fun _ _ _ h => h) (by rfl) HS1 ?_ ?_
        · intro w hSw
          obtain ⟨c0, c1, c2, c3, c4, c5⟩ := rc_cells hSw
          go_simp
        simp only [Act.put, List.setIfInBounds_toArray, List.set_cons_zero, List.set_cons_succ]
        refine any_take 16 (some 44) (.int .i64 (t.fst)) rfl rfl (by kernel_rfl) (by kernel_rfl) (by kernel_rfl) (fun _ _ _ h => h) (by rfl) HS1 ?_ ?_
        · intro w hSw
          obtain ⟨c0, c1, c2, c3, c4, c5⟩ := rc_cells hSw
          go_simp
        simp only [Act.put, List.setIfInBounds_toArray, List.set_cons_zero, List.set_cons_succ]
        refine any_take 17 (some 45) (.pointer (some ⟨R, 5, none⟩)) rfl rfl (by kernel_rfl) (by kernel_rfl) (by kernel_rfl) (fun _ _ _ h => h) (by rfl) HS1 ?_ ?_
        · intro w hSw
          obtain ⟨c0, c1, c2, c3, c4, c5⟩ := rc_cells hSw
          go_simp
        simp only [Act.put, List.setIfInBounds_toArray, List.set_cons_zero, List.set_cons_succ]
        refine any_take 18 (some 46) (.int .i64 (t.at_)) rfl rfl (by kernel_rfl) (by kernel_rfl) (by kernel_rfl) (fun _ _ _ h => h) (by rfl) HS1 ?_ ?_
        · intro w hSw
          obtain ⟨c0, c1, c2, c3, c4, c5⟩ := rc_cells hSw
          go_simp
        simp only [Act.put, List.setIfInBounds_toArray, List.set_cons_zero, List.set_cons_succ]
        refine any_take 19 (some 47) (.int .i64 (n : Int)) rfl rfl (by kernel_rfl) (by kernel_rfl) (by kernel_rfl) (fun _ _ _ h => h) (by rfl) HS1 ?_ ?_
        · intro w hSw
          obtain ⟨c0, c1, c2, c3, c4, c5⟩ := rc_cells hSw
          go_simp
        simp only [Act.put, List.setIfInBounds_toArray, List.set_cons_zero, List.set_cons_succ]
        refine wpAnyH_ready (rs := [20]) (by kernel_rfl) (by simp) ?_
        refine AllReadyH.cons (i := 20) rfl (fun K hK => ?_) AllReadyH.nil
        go_simp
        refine (HRo _).out.mono ?_
        rintro e9 wz ⟨rfl, rfl⟩
        go_simp
        refine hK.out _ _ HS1 (fun _ => ?_)
        clear hK K
        try simp only [Act.put, List.setIfInBounds_toArray, List.set_cons_zero, List.set_cons_succ]
        refine any_take 21 (some 49) (.int .i64 (t.at_ + r)) rfl rfl (by kernel_rfl) (by kernel_rfl) (by kernel_rfl) (fun _ _ _ h => h) (by rfl) HS1 ?_ ?_
        · intro w hSw
          obtain ⟨c0, c1, c2, c3, c4, c5⟩ := rc_cells hSw
          go_simp
        simp only [Act.put, List.setIfInBounds_toArray, List.set_cons_zero, List.set_cons_succ]
        by_cases g2 : t.fst < t.at_ + r
        · have d2 : decide (t.fst < t.at_ + r) = true := decide_eq_true g2
          refine any_take 22 (some 50) (.bool true) rfl rfl (by kernel_rfl) (by kernel_rfl) (by kernel_rfl) (fun _ _ _ h => h) (by rfl) HS1 ?_ ?_
          · intro w hSw
            obtain ⟨c0, c1, c2, c3, c4, c5⟩ := rc_cells hSw
            go_simp
          simp only [Act.put, List.setIfInBounds_toArray, List.set_cons_zero, List.set_cons_succ]
          refine any_take 23 (some 51) (.bool true) rfl rfl (by kernel_rfl) (by kernel_rfl) (by kernel_rfl) (fun _ _ _ h => h) (by rfl) HS1 ?_ ?_
          · intro w hSw
            obtain ⟨c0, c1, c2, c3, c4, c5⟩ := rc_cells hSw
            go_simp
          simp only [Act.put, List.setIfInBounds_toArray, List.set_cons_zero, List.set_cons_succ]
          refine any_take 24 (some 52) (.bool true) rfl rfl (by kernel_rfl) (by kernel_rfl) (by kernel_rfl) (fun _ _ _ h => h) (by rfl) HS1 ?_ ?_
          · intro w hSw
            obtain ⟨c0, c1, c2, c3, c4, c5⟩ := rc_cells hSw
            go_simp
          simp only [Act.put, List.setIfInBounds_toArray, List.set_cons_zero, List.set_cons_succ]
          refine any_skip 25 (some 53) rfl rfl (by kernel_rfl) (by kernel_rfl) (by kernel_rfl) (fun _ _ _ h => h) (by rfl) HS1 ?_
          simp only [Act.put, List.setIfInBounds_toArray, List.set_cons_zero, List.set_cons_succ]
          refine any_skip 26 (some 54) rfl rfl (by kernel_rfl) (by kernel_rfl) (by kernel_rfl) (fun _ _ _ h => h) (by rfl) HS1 ?_
          simp only [Act.put, List.setIfInBounds_toArray, List.set_cons_zero, List.set_cons_succ]
          refine any_skip 27 (some 55) rfl rfl (by kernel_rfl) (by kernel_rfl) (by kernel_rfl) (fun _ _ _ h => h) (by rfl) HS1 ?_
          simp only [Act.put, List.setIfInBounds_toArray, List.set_cons_zero, List.set_cons_succ]
          refine any_skip 28 (some 56) rfl rfl (by kernel_rfl) (by kernel_rfl) (by kernel_rfl) (fun _ _ _ h => h) (by rfl) HS1 ?_
          simp only [Act.put, List.setIfInBounds_toArray, List.set_cons_zero, List.set_cons_succ]
          refine any_skip 29 (some 57) rfl rfl (by kernel_rfl) (by kernel_rfl) (by kernel_rfl) (fun _ _ _ h => h) (by rfl) HS1 ?_
          simp only [Act.put, List.setIfInBounds_toArray, List.set_cons_zero, List.set_cons_succ]
          refine any_skip 30 (some 58) rfl rfl (by kernel_rfl) (by kernel_rfl) (by kernel_rfl) (fun _ _ _ h => h) (by rfl) HS1 ?_
          simp only [Act.put, List.setIfInBounds_toArray, List.set_cons_zero, List.set_cons_succ]
          refine any_take 31 (some 59) (.bool true) rfl rfl (by kernel_rfl) (by kernel_rfl) (by kernel_rfl) (fun _ _ _ h => h) (by rfl) HS1 ?_ ?_
          · intro w hSw
            obtain ⟨c0, c1, c2, c3, c4, c5⟩ := rc_cells hSw
            go_simp
          simp only [Act.put, List.setIfInBounds_toArray, List.set_cons_zero, List.set_cons_succ]
          refine any_take 32 (some 60) (.bool true) rfl rfl (by kernel_rfl) (by kernel_rfl) (by kernel_rfl) (fun _ _ _ h => h) (by rfl) HS1 ?_ ?_
          · intro w hSw
            obtain ⟨c0, c1, c2, c3, c4, c5⟩ := rc_cells hSw
            go_simp
          simp only [Act.put, List.setIfInBounds_toArray, List.set_cons_zero, List.set_cons_succ]
          refine any_skip 33 (some 61) rfl rfl (by kernel_rfl) (by kernel_rfl) (by kernel_rfl) (fun _ _ _ h => h) (by rfl) HS1 ?_
          simp only [Act.put, List.setIfInBounds_toArray, List.set_cons_zero, List.set_cons_succ]
          refine any_skip 34 (some 62) rfl rfl (by kernel_rfl) (by kernel_rfl) (by kernel_rfl) (fun _ _ _ h => h) (by rfl) HS1 ?_
          simp only [Act.put, List.setIfInBounds_toArray, List.set_cons_zero, List.set_cons_succ]
          refine any_skip 35 (some 63) rfl rfl (by kernel_rfl) (by kernel_rfl) (by kernel_rfl) (fun _ _ _ h => h) (by rfl) HS1 ?_
          simp only [Act.put, List.setIfInBounds_toArray, List.set_cons_zero, List.set_cons_succ]
          refine any_skip 36 (some 64) rfl rfl (by kernel_rfl) (by kernel_rfl) (by kernel_rfl) (fun _ _ _ h => h) (by rfl) HS1 ?_
          simp only [Act.put, List.setIfInBounds_toArray, List.set_cons_zero, List.set_cons_succ]
          refine any_skip 37 (some 65) rfl rfl (by kernel_rfl) (by kernel_rfl) (by kernel_rfl) (fun _ _ _ h => h) (by rfl) HS1 ?_
          simp only [Act.put, List.setIfInBounds_toArray, List.set_cons_zero, List.set_cons_succ]
          refine any_skip 38 (some 66) rfl rfl (by kernel_rfl) (by kernel_rfl) (by kernel_rfl) (fun _ _ _ h => h) (by rfl) HS1 ?_
          simp only [Act.put, List.setIfInBounds_toArray, List.set_cons_zero, List.set_cons_succ]
          refine any_take 39 (some 67) (.bool true) rfl rfl (by kernel_rfl) (by kernel_rfl) (by kernel_rfl) (fun _ _ _ h => h) (by rfl) HS1 ?_ ?_
          · intro w hSw
            obtain ⟨c0, c1, c2, c3, c4, c5⟩ := rc_cells hSw
            go_simp
          simp only [Act.put, List.setIfInBounds_toArray, List.set_cons_zero, List.set_cons_succ]
          refine any_take 40 (some 68) (.bool true) rfl rfl (by kernel_rfl) (by kernel_rfl) (by kernel_rfl) (fun _ _ _ h => h) (by rfl) HS1 ?_ ?_
          · intro w hSw
            obtain ⟨c0, c1, c2, c3, c4, c5⟩ := rc_cells hSw
            go_simp
          simp only [Act.put, List.setIfInBounds_toArray, List.set_cons_zero, List.set_cons_succ]
          refine any_skip 41 (some 69) rfl rfl (by kernel_rfl) (by kernel_rfl) (by kernel_rfl) (fun _ _ _ h => h) (by rfl) HS1 ?_
          simp only [Act.put, List.setIfInBounds_toArray, List.set_cons_zero, List.set_cons_succ]
          refine any_skip 42 (some 70) rfl rfl (by kernel_rfl) (by kernel_rfl) (by kernel_rfl) (fun _ _ _ h => h) (by rfl) HS1 ?_
          simp only [Act.put, List.setIfInBounds_toArray, List.set_cons_zero, List.set_cons_succ]
          refine any_skip 43 (some 71) rfl rfl (by kernel_rfl) (by kernel_rfl) (by kernel_rfl) (fun _ _ _ h => h) (by rfl) HS1 ?_
          simp only [Act.put, List.setIfInBounds_toArray, List.set_cons_zero, List.set_cons_succ]
          refine any_skip 44 (some 72) rfl rfl (by kernel_rfl) (by kernel_rfl) (by kernel_rfl) (fun _ _ _ h => h) (by rfl) HS1 ?_
          simp only [Act.put, List.setIfInBounds_toArray, List.set_cons_zero, List.set_cons_succ]
          refine any_skip 45 (some 73) rfl rfl (by kernel_rfl) (by kernel_rfl) (by kernel_rfl) (fun _ _ _ h => h) (by rfl) HS1 ?_
          simp only [Act.put, List.setIfInBounds_toArray, List.set_cons_zero, List.set_cons_succ]
          refine any_take 46 (some 74) (.bool true) rfl rfl (by kernel_rfl) (by kernel_rfl) (by kernel_rfl) (fun _ _ _ h => h) (by rfl) HS1 ?_ ?_
          · intro w hSw
            obtain ⟨c0, c1, c2, c3, c4, c5⟩ := rc_cells hSw
            go_simp
          simp only [Act.put, List.setIfInBounds_toArray, List.set_cons_zero, List.set_cons_succ]
          refine any_take 47 (some 75) (.bool true) rfl rfl (by kernel_rfl) (by kernel_rfl) (by kernel_rfl) (fun _ _ _ h => h) (by rfl) HS1 ?_ ?_
          · intro w hSw
            obtain ⟨c0, c1, c2, c3, c4, c5⟩ := rc_cells hSw
            go_simp
          simp only [Act.put, List.setIfInBounds_toArray, List.set_cons_zero, List.set_cons_succ]
          refine any_skip 48 (some 76) rfl rfl (by kernel_rfl) (by kernel_rfl) (by kernel_rfl) (fun _ _ _ h => h) (by rfl) HS1 ?_
          simp only [Act.put, List.setIfInBounds_toArray, List.set_cons_zero, List.set_cons_succ]
          refine any_skip 49 (some 77) rfl rfl (by kernel_rfl) (by kernel_rfl) (by kernel_rfl) (fun _ _ _ h => h) (by rfl) HS1 ?_
          simp only [Act.put, List.setIfInBounds_toArray, List.set_cons_zero, List.set_cons_succ]
          refine any_skip 50 (some 78) rfl rfl (by kernel_rfl) (by kernel_rfl) (by kernel_rfl) (fun _ _ _ h => h) (by rfl) HS1 ?_
          simp only [Act.put, List.setIfInBounds_toArray, List.set_cons_zero, List.set_cons_succ]
          refine any_skip 51 (some 79) rfl rfl (by kernel_rfl) (by kernel_rfl) (by kernel_rfl) (fun _ _ _ h => h) (by rfl) HS1 ?_
          simp only [Act.put, List.setIfInBounds_toArray, List.set_cons_zero, List.set_cons_succ]
          refine any_skip 52 (some 80) rfl rfl (by kernel_rfl) (by kernel_rfl) (by kernel_rfl) (fun _ _ _ h => h) (by rfl) HS1 ?_
          simp only [Act.put, List.setIfInBounds_toArray, List.set_cons_zero, List.set_cons_succ]
          refine any_skip 53 (some 81) rfl rfl (by kernel_rfl) (by kernel_rfl) (by kernel_rfl) (fun _ _ _ h => h) (by rfl) HS1 ?_
          simp only [Act.put, List.setIfInBounds_toArray, List.set_cons_zero, List.set_cons_succ]
          refine any_skip 54 (some 82) rfl rfl (by kernel_rfl) (by kernel_rfl) (by kernel_rfl) (fun _ _ _ h => h) (by rfl) HS1 ?_
          simp only [Act.put, List.setIfInBounds_toArray, List.set_cons_zero, List.set_cons_succ]
          refine any_skip 55 (some 83) rfl rfl (by kernel_rfl) (by kernel_rfl) (by kernel_rfl) (fun _ _ _ h => h) (by rfl) HS1 ?_
          simp only [Act.put, List.setIfInBounds_toArray, List.set_cons_zero, List.set_cons_succ]
          refine any_skip 56 (some 84) rfl rfl (by kernel_rfl) (by kernel_rfl) (by kernel_rfl) (fun _ _ _ h => h) (by rfl) HS1 ?_
          simp only [Act.put, List.setIfInBounds_toArray, List.set_cons_zero, List.set_cons_succ]
          refine any_take 57 (some 85) (.bool true) rfl rfl (by kernel_rfl) (by kernel_rfl) (by kernel_rfl) (fun _ _ _ h => h) (by rfl) HS1 ?_ ?_
          · intro w hSw
            obtain ⟨c0, c1, c2, c3, c4, c5⟩ := rc_cells hSw
            go_simp
          simp only [Act.put, List.setIfInBounds_toArray, List.set_cons_zero, List.set_cons_succ]
          have hB : B = true := by
            have h1 := HBB.out; have h2 := HP.out
            rw [h1]
            exact (by simp only [Bool.not_eq_true', decide_eq_false_iff_not]; intro h3; have := h2.1 h3; omega)
          refine any_take 58 (some 27) (.bool true) rfl rfl (by kernel_rfl) (by kernel_rfl) (by kernel_rfl) (fun _ _ _ h => h) (by rfl) HS1 ?_ ?_
          · intro w hSw
            obtain ⟨c0, c1, c2, c3, c4, c5⟩ := rc_cells hSw
            go_simp
          simp only [Act.put, List.setIfInBounds_toArray, List.set_cons_zero, List.set_cons_succ]
          refine wpAnyH_done (by kernel_rfl) ?_ _
          try go_wp2
          go_meet
          exact ⟨by rw [hB], rfl⟩
        · have d2 : decide (t.fst < t.at_ + r) = false := decide_eq_false g2
          refine any_take 22 (some 50) (.bool false) rfl rfl (by kernel_rfl) (by kernel_rfl) (by kernel_rfl) (fun _ _ _ h => h) (by rfl) HS1 ?_ ?_
          · intro w hSw
            obtain ⟨c0, c1, c2, c3, c4, c5⟩ := rc_cells hSw
            go_simp
          simp only [Act.put, List.setIfInBounds_toArray, List.set_cons_zero, List.set_cons_succ]
          refine any_take 23 (some 51) (.bool false) rfl rfl (by kernel_rfl) (by kernel_rfl) (by kernel_rfl) (fun _ _ _ h => h) (by rfl) HS1 ?_ ?_
          · intro w hSw
            obtain ⟨c0, c1, c2, c3, c4, c5⟩ := rc_cells hSw
            go_simp
          simp only [Act.put, List.setIfInBounds_toArray, List.set_cons_zero, List.set_cons_succ]
          refine any_take 24 (some 52) (.bool false) rfl rfl (by kernel_rfl) (by kernel_rfl) (by kernel_rfl) (fun _ _ _ h => h) (by rfl) HS1 ?_ ?_
          · intro w hSw
            obtain ⟨c0, c1, c2, c3, c4, c5⟩ := rc_cells hSw
            go_simp
          simp only [Act.put, List.setIfInBounds_toArray, List.set_cons_zero, List.set_cons_succ]
          refine any_take 25 (some 53) (.pointer (some ⟨R, 1, none⟩)) rfl rfl (by kernel_rfl) (by kernel_rfl) (by kernel_rfl) (fun _ _ _ h => h) (by rfl) HS1 ?_ ?_
          · intro w hSw
            obtain ⟨c0, c1, c2, c3, c4, c5⟩ := rc_cells hSw
            go_simp
          simp only [Act.put, List.setIfInBounds_toArray, List.set_cons_zero, List.set_cons_succ]
          refine any_take 26 (some 54) (.int .i64 (t.fst)) rfl rfl (by kernel_rfl) (by kernel_rfl) (by kernel_rfl) (fun _ _ _ h => h) (by rfl) HS1 ?_ ?_
          · intro w hSw
            obtain ⟨c0, c1, c2, c3, c4, c5⟩ := rc_cells hSw
            go_simp
          simp only [Act.put, List.setIfInBounds_toArray, List.set_cons_zero, List.set_cons_succ]
          refine any_take 27 (some 55) (.pointer (some ⟨R, 0, none⟩)) rfl rfl (by kernel_rfl) (by kernel_rfl) (by kernel_rfl) (fun _ _ _ h => h) (by rfl) HS1 ?_ ?_
          · intro w hSw
            obtain ⟨c0, c1, c2, c3, c4, c5⟩ := rc_cells hSw
            go_simp
          simp only [Act.put, List.setIfInBounds_toArray, List.set_cons_zero, List.set_cons_succ]
          refine any_take 28 (some 56) (.int .i64 (t.sec)) rfl rfl (by kernel_rfl) (by kernel_rfl) (by kernel_rfl) (fun _ _ _ h => h) (by rfl) HS1 ?_ ?_
          · intro w hSw
            obtain ⟨c0, c1, c2, c3, c4, c5⟩ := rc_cells hSw
            go_simp
          simp only [Act.put, List.setIfInBounds_toArray, List.set_cons_zero, List.set_cons_succ]
          refine any_take 29 (some 57) (.int .i64 (t.sec - 1)) rfl rfl (by kernel_rfl) (by kernel_rfl) (by kernel_rfl) (fun _ _ _ h => h) (by rfl) HS1 ?_ ?_
          · intro w hSw
            obtain ⟨c0, c1, c2, c3, c4, c5⟩ := rc_cells hSw
            go_simp
          simp only [Act.put, List.setIfInBounds_toArray, List.set_cons_zero, List.set_cons_succ]
          by_cases g3 : t.fst > t.sec - 1
          · have d3 : decide (t.fst > t.sec - 1) = true := decide_eq_true g3
            refine any_take 30 (some 58) (.bool true) rfl rfl (by kernel_rfl) (by kernel_rfl) (by kernel_rfl) (fun _ _ _ h => h) (by rfl) HS1 ?_ ?_
            · intro w hSw
              obtain ⟨c0, c1, c2, c3, c4, c5⟩ := rc_cells hSw
              go_simp
            simp only [Act.put, List.setIfInBounds_toArray, List.set_cons_zero, List.set_cons_succ]
            refine any_take 31 (some 59) (.bool true) rfl rfl (by kernel_rfl) (by kernel_rfl) (by kernel_rfl) (fun _ _ _ h => h) (by rfl) HS1 ?_ ?_
            · intro w hSw
              obtain ⟨c0, c1, c2, c3, c4, c5⟩ := rc_cells hSw
              go_simp
            simp only [Act.put, List.setIfInBounds_toArray, List.set_cons_zero, List.set_cons_succ]
            refine any_take 32 (some 60) (.bool true) rfl rfl (by kernel_rfl) (by kernel_rfl) (by kernel_rfl) (fun _ _ _ h => h) (by rfl) HS1 ?_ ?_
            · intro w hSw
              obtain ⟨c0, c1, c2, c3, c4, c5⟩ := rc_cells hSw
              go_simp
            simp only [Act.put, List.setIfInBounds_toArray, List.set_cons_zero, List.set_cons_succ]
            refine any_skip 33 (some 61) rfl rfl (by kernel_rfl) (by kernel_rfl) (by kernel_rfl) (fun _ _ _ h => h) (by rfl) HS1 ?_
            simp only [Act.put, List.setIfInBounds_toArray, List.set_cons_zero, List.set_cons_succ]
            refine any_skip 34 (some 62) rfl rfl (by kernel_rfl) (by kernel_rfl) (by kernel_rfl) (fun _ _ _ h => h) (by rfl) HS1 ?_
            simp only [Act.put, List.setIfInBounds_toArray, List.set_cons_zero, List.set_cons_succ]
            refine any_skip 35 (some 63) rfl rfl (by kernel_rfl) (by kernel_rfl) (by kernel_rfl) (fun _ _ _ h => h) (by rfl) HS1 ?_
            simp only [Act.put, List.setIfInBounds_toArray, List.set_cons_zero, List.set_cons_succ]
            refine any_skip 36 (some 64) rfl rfl (by kernel_rfl) (by kernel_rfl) (by kernel_rfl) (fun _ _ _ h => h) (by rfl) HS1 ?_
            simp only [Act.put, List.setIfInBounds_toArray, List.set_cons_zero, List.set_cons_succ]
            refine any_skip 37 (some 65) rfl rfl (by kernel_rfl) (by kernel_rfl) (by kernel_rfl) (fun _ _ _ h => h) (by rfl) HS1 ?_
            simp only [Act.put, List.setIfInBounds_toArray, List.set_cons_zero, List.set_cons_succ]
            refine any_skip 38 (some 66) rfl rfl (by kernel_rfl) (by kernel_rfl) (by kernel_rfl) (fun _ _ _ h => h) (by rfl) HS1 ?_
            simp only [Act.put, List.setIfInBounds_toArray, List.set_cons_zero, List.set_cons_succ]
            refine any_take 39 (some 67) (.bool true) rfl rfl (by kernel_rfl) (by kernel_rfl) (by kernel_rfl) (fun _ _ _ h => h) (by rfl) HS1 ?_ ?_
            · intro w hSw
              obtain ⟨c0, c1, c2, c3, c4, c5⟩ := rc_cells hSw
              go_simp
            simp only [Act.put, List.setIfInBounds_toArray, List.set_cons_zero, List.set_cons_succ]
            refine any_take 40 (some 68) (.bool true) rfl rfl (by kernel_rfl) (by kernel_rfl) (by kernel_rfl) (fun _ _ _ h => h) (by rfl) HS1 ?_ ?_
            · intro w hSw
              obtain ⟨c0, c1, c2, c3, c4, c5⟩ := rc_cells hSw
              go_simp
            simp only [Act.put, List.setIfInBounds_toArray, List.set_cons_zero, List.set_cons_succ]
            refine any_skip 41 (some 69) rfl rfl (by kernel_rfl) (by kernel_rfl) (by kernel_rfl) (fun _ _ _ h => h) (by rfl) HS1 ?_
            simp only [Act.put, List.setIfInBounds_toArray, List.set_cons_zero, List.set_cons_succ]
            refine any_skip 42 (some 70) rfl rfl (by kernel_rfl) (by kernel_rfl) (by kernel_rfl) (fun _ _ _ h => h) (by rfl) HS1 ?_
            simp only [Act.put, List.setIfInBounds_toArray, List.set_cons_zero, List.set_cons_succ]
            refine any_skip 43 (some 71) rfl rfl (by kernel_rfl) (by kernel_rfl) (by kernel_rfl) (fun _ _ _ h => h) (by rfl) HS1 ?_
            simp only [Act.put, List.setIfInBounds_toArray, List.set_cons_zero, List.set_cons_succ]
            refine any_skip 44 (some 72) rfl rfl (by kernel_rfl) (by kernel_rfl) (by kernel_rfl) (fun _ _ _ h => h) (by rfl) HS1 ?_
            simp only [Act.put, List.setIfInBounds_toArray, List.set_cons_zero, List.set_cons_succ]
            refine any_skip 45 (some 73) rfl rfl (by kernel_rfl) (by kernel_rfl) (by kernel_rfl) (fun _ _ _ h => h) (by rfl) HS1 ?_
            simp only [Act.put, List.setIfInBounds_toArray, List.set_cons_zero, List.set_cons_succ]
            refine any_take 46 (some 74) (.bool true) rfl rfl (by kernel_rfl) (by kernel_rfl) (by kernel_rfl) (fun _ _ _ h => h) (by rfl) HS1 ?_ ?_
            · intro w hSw
              obtain ⟨c0, c1, c2, c3, c4, c5⟩ := rc_cells hSw
              go_simp
            simp only [Act.put, List.setIfInBounds_toArray, List.set_cons_zero, List.set_cons_succ]
            refine any_take 47 (some 75) (.bool true) rfl rfl (by kernel_rfl) (by kernel_rfl) (by kernel_rfl) (fun _ _ _ h => h) (by rfl) HS1 ?_ ?_
            · intro w hSw
              obtain ⟨c0, c1, c2, c3, c4, c5⟩ := rc_cells hSw
              go_simp
            simp only [Act.put, List.setIfInBounds_toArray, List.set_cons_zero, List.set_cons_succ]
            refine any_skip 48 (some 76) rfl rfl (by kernel_rfl) (by kernel_rfl) (by kernel_rfl) (fun _ _ _ h => h) (by rfl) HS1 ?_
            simp only [Act.put, List.setIfInBounds_toArray, List.set_cons_zero, List.set_cons_succ]
            refine any_skip 49 (some 77) rfl rfl (by kernel_rfl) (by kernel_rfl) (by kernel_rfl) (fun _ _ _ h => h) (by rfl) HS1 ?_
            simp only [Act.put, List.setIfInBounds_toArray, List.set_cons_zero, List.set_cons_succ]
            refine any_skip 50 (some 78) rfl rfl (by kernel_rfl) (by kernel_rfl) (by kernel_rfl) (fun _ _ _ h => h) (by rfl) HS1 ?_
            simp only [Act.put, List.setIfInBounds_toArray, List.set_cons_zero, List.set_cons_succ]
            refine any_skip 51 (some 79) rfl rfl (by kernel_rfl) (by kernel_rfl) (by kernel_rfl) (fun _ _ _ h => h) (by rfl) HS1 ?_
            simp only [Act.put, List.setIfInBounds_toArray, List.set_cons_zero, List.set_cons_succ]
            refine any_skip 52 (some 80) rfl rfl (by kernel_rfl) (by kernel_rfl) (by kernel_rfl) (fun _ _ _ h => h) (by rfl) HS1 ?_
            simp only [Act.put, List.setIfInBounds_toArray, List.set_cons_zero, List.set_cons_succ]
            refine any_skip 53 (some 81) rfl rfl (by kernel_rfl) (by kernel_rfl) (by kernel_rfl) (fun _ _ _ h => h) (by rfl) HS1 ?_
            simp only [Act.put, List.setIfInBounds_toArray, List.set_cons_zero, List.set_cons_succ]
            refine any_skip 54 (some 82) rfl rfl (by kernel_rfl) (by kernel_rfl) (by kernel_rfl) (fun _ _ _ h => h) (by rfl) HS1 ?_
            simp only [Act.put, List.setIfInBounds_toArray, List.set_cons_zero, List.set_cons_succ]
            refine any_skip 55 (some 83) rfl rfl (by kernel_rfl) (by kernel_rfl) (by kernel_rfl) (fun _ _ _ h => h) (by rfl) HS1 ?_
            simp only [Act.put, List.setIfInBounds_toArray, List.set_cons_zero, List.set_cons_succ]
            refine any_skip 56 (some 84) rfl rfl (by kernel_rfl) (by kernel_rfl) (by kernel_rfl) (fun _ _ _ h => h) (by rfl) HS1 ?_
            simp only [Act.put, List.setIfInBounds_toArray, List.set_cons_zero, List.set_cons_succ]
            refine any_take 57 (some 85) (.bool true) rfl rfl (by kernel_rfl) (by kernel_rfl) (by kernel_rfl) (fun _ _ _ h => h) (by rfl) HS1 ?_ ?_
            · intro w hSw
              obtain ⟨c0, c1, c2, c3, c4, c5⟩ := rc_cells hSw
              go_simp
            simp only [Act.put, List.setIfInBounds_toArray, List.set_cons_zero, List.set_cons_succ]
            have hB : B = true := by
              have h1 := HBB.out; have h2 := HP.out
              rw [h1]
              exact (by simp only [Bool.not_eq_true', decide_eq_false_iff_not]; intro h3; have := h2.1 h3; omega)
            refine any_take 58 (some 27) (.bool true) rfl rfl (by kernel_rfl) (by kernel_rfl) (by kernel_rfl) (fun _ _ _ h => h) (by rfl) HS1 ?_ ?_
            · intro w hSw
              obtain ⟨c0, c1, c2, c3, c4, c5⟩ := rc_cells hSw
              go_simp
            simp only [Act.put, List.setIfInBounds_toArray, List.set_cons_zero, List.set_cons_succ]
            refine wpAnyH_done (by kernel_rfl) ?_ _
            try go_wp2
            go_meet
            exact ⟨by rw [hB], rfl⟩
          · have d3 : decide (t.fst > t.sec - 1) = false := decide_eq_false g3
            have e4 : IntKind.i64.wrap (t.fst - 1) = t.fst - 1 := wrapn _ (by have := HRn.out; have := HQ1.out; omega)
            refine any_take 30 (some 58) (.bool false) rfl rfl (by kernel_rfl) (by kernel_rfl) (by kernel_rfl) (fun _ _ _ h => h) (by rfl) HS1 ?_ ?_
            · intro w hSw
              obtain ⟨c0, c1, c2, c3, c4, c5⟩ := rc_cells hSw
              go_simp
            simp only [Act.put, List.setIfInBounds_toArray, List.set_cons_zero, List.set_cons_succ]
            refine any_take 31 (some 59) (.bool false) rfl rfl (by kernel_rfl) (by kernel_rfl) (by kernel_rfl) (fun _ _ _ h => h) (by rfl) HS1 ?_ ?_
            · intro w hSw
              obtain ⟨c0, c1, c2, c3, c4, c5⟩ := rc_cells hSw
              go_simp
            simp only [Act.put, List.setIfInBounds_toArray, List.set_cons_zero, List.set_cons_succ]
            refine any_take 32 (some 60) (.bool false) rfl rfl (by kernel_rfl) (by kernel_rfl) (by kernel_rfl) (fun _ _ _ h => h) (by rfl) HS1 ?_ ?_
            · intro w hSw
              obtain ⟨c0, c1, c2, c3, c4, c5⟩ := rc_cells hSw
              go_simp
            simp only [Act.put, List.setIfInBounds_toArray, List.set_cons_zero, List.set_cons_succ]
            refine any_take 33 (some 61) (.pointer (some ⟨R, 2, none⟩)) rfl rfl (by kernel_rfl) (by kernel_rfl) (by kernel_rfl) (fun _ _ _ h => h) (by rfl) HS1 ?_ ?_
            · intro w hSw
              obtain ⟨c0, c1, c2, c3, c4, c5⟩ := rc_cells hSw
              go_simp
            simp only [Act.put, List.setIfInBounds_toArray, List.set_cons_zero, List.set_cons_succ]
            refine any_take 34 (some 62) (.int .i64 (t.lst)) rfl rfl (by kernel_rfl) (by kernel_rfl) (by kernel_rfl) (fun _ _ _ h => h) (by rfl) HS1 ?_ ?_
            · intro w hSw
              obtain ⟨c0, c1, c2, c3, c4, c5⟩ := rc_cells hSw
              go_simp
            simp only [Act.put, List.setIfInBounds_toArray, List.set_cons_zero, List.set_cons_succ]
            refine any_take 35 (some 63) (.pointer (some ⟨R, 1, none⟩)) rfl rfl (by kernel_rfl) (by kernel_rfl) (by kernel_rfl) (fun _ _ _ h => h) (by rfl) HS1 ?_ ?_
            · intro w hSw
              obtain ⟨c0, c1, c2, c3, c4, c5⟩ := rc_cells hSw
              go_simp
            simp only [Act.put, List.setIfInBounds_toArray, List.set_cons_zero, List.set_cons_succ]
            refine any_take 36 (some 64) (.int .i64 (t.fst)) rfl rfl (by kernel_rfl) (by kernel_rfl) (by kernel_rfl) (fun _ _ _ h => h) (by rfl) HS1 ?_ ?_
            · intro w hSw
              obtain ⟨c0, c1, c2, c3, c4, c5⟩ := rc_cells hSw
              go_simp
            simp only [Act.put, List.setIfInBounds_toArray, List.set_cons_zero, List.set_cons_succ]
            refine any_take 37 (some 65) (.int .i64 (t.fst - 1)) rfl rfl (by kernel_rfl) (by kernel_rfl) (by kernel_rfl) (fun _ _ _ h => h) (by rfl) HS1 ?_ ?_
            · intro w hSw
              obtain ⟨c0, c1, c2, c3, c4, c5⟩ := rc_cells hSw
              go_simp
            simp only [Act.put, List.setIfInBounds_toArray, List.set_cons_zero, List.set_cons_succ]
            by_cases g4 : t.lst < t.fst - 1
            · have d4 : decide (t.lst < t.fst - 1) = true := decide_eq_true g4
              refine any_take 38 (some 66) (.bool true) rfl rfl (by kernel_rfl) (by kernel_rfl) (by kernel_rfl) (fun _ _ _ h => h) (by rfl) HS1 ?_ ?_
              · intro w hSw
                obtain ⟨c0, c1, c2, c3, c4, c5⟩ := rc_cells hSw
                go_simp
              simp only [Act.put, List.setIfInBounds_toArray, List.set_cons_zero, List.set_cons_succ]
              refine any_take 39 (some 67) (.bool true) rfl rfl (by kernel_rfl) (by kernel_rfl) (by kernel_rfl) (fun _ _ _ h => h) (by rfl) HS1 ?_ ?_
              · intro w hSw
                obtain ⟨c0, c1, c2, c3, c4, c5⟩ := rc_cells hSw
                go_simp
              simp only [Act.put, List.setIfInBounds_toArray, List.set_cons_zero, List.set_cons_succ]
              refine any_take 40 (some 68) (.bool true) rfl rfl (by kernel_rfl) (by kernel_rfl) (by kernel_rfl) (fun _ _ _ h => h) (by rfl) HS1 ?_ ?_
              · intro w hSw
                obtain ⟨c0, c1, c2, c3, c4, c5⟩ := rc_cells hSw
                go_simp
              simp only [Act.put, List.setIfInBounds_toArray, List.set_cons_zero, List.set_cons_succ]
              refine any_skip 41 (some 69) rfl rfl (by kernel_rfl) (by kernel_rfl) (by kernel_rfl) (fun _ _ _ h => h) (by rfl) HS1 ?_
              simp only [Act.put, List.setIfInBounds_toArray, List.set_cons_zero, List.set_cons_succ]
              refine any_skip 42 (some 70) rfl rfl (by kernel_rfl) (by kernel_rfl) (by kernel_rfl) (fun _ _ _ h => h) (by rfl) HS1 ?_
              simp only [Act.put, List.setIfInBounds_toArray, List.set_cons_zero, List.set_cons_succ]
              refine any_skip 43 (some 71) rfl rfl (by kernel_rfl) (by kernel_rfl) (by kernel_rfl) (fun _ _ _ h => h) (by rfl) HS1 ?_
              simp only [Act.put, List.setIfInBounds_toArray, List.set_cons_zero, List.set_cons_succ]
              refine any_skip 44 (some 72) rfl rfl (by kernel_rfl) (by kernel_rfl) (by kernel_rfl) (fun _ _ _ h => h) (by rfl) HS1 ?_
              simp only [Act.put, List.setIfInBounds_toArray, List.set_cons_zero, List.set_cons_succ]
              refine any_skip 45 (some 73) rfl rfl (by kernel_rfl) (by kernel_rfl) (by kernel_rfl) (fun _ _ _ h => h) (by rfl) HS1 ?_
              simp only [Act.put, List.setIfInBounds_toArray, List.set_cons_zero, List.set_cons_succ]
              refine any_take 46 (some 74) (.bool true) rfl rfl (by kernel_rfl) (by kernel_rfl) (by kernel_rfl) (fun _ _ _ h => h) (by rfl) HS1 ?_ ?_
              · intro w hSw
                obtain ⟨c0, c1, c2, c3, c4, c5⟩ := rc_cells hSw
                go_simp
              simp only [Act.put, List.setIfInBounds_toArray, List.set_cons_zero, List.set_cons_succ]
              refine any_take 47 (some 75) (.bool true) rfl rfl (by kernel_rfl) (by kernel_rfl) (by kernel_rfl) (fun _ _ _ h => h) (by rfl) HS1 ?_ ?_
              · intro w hSw
                obtain ⟨c0, c1, c2, c3, c4, c5⟩ := rc_cells hSw
                go_simp
              simp only [Act.put, List.setIfInBounds_toArray, List.set_cons_zero, List.set_cons_succ]
              refine any_skip 48 (some 76) rfl rfl (by kernel_rfl) (by kernel_rfl) (by kernel_rfl) (fun _ _ _ h => h) (by rfl) HS1 ?_
              simp only [Act.put, List.setIfInBounds_toArray, List.set_cons_zero, List.set_cons_succ]
              refine any_skip 49 (some 77) rfl rfl (by kernel_rfl) (by kernel_rfl) (by kernel_rfl) (fun _ _ _ h => h) (by rfl) HS1 ?_
              simp only [Act.put, List.setIfInBounds_toArray, List.set_cons_zero, List.set_cons_succ]
              refine any_skip 50 (some 78) rfl rfl (by kernel_rfl) (by kernel_rfl) (by kernel_rfl) (fun _ _ _ h => h) (by rfl) HS1 ?_
              simp only [Act.put, List.setIfInBounds_toArray, List.set_cons_zero, List.set_cons_succ]
              refine any_skip 51 (some 79) rfl rfl (by kernel_rfl) (by kernel_rfl) (by kernel_rfl) (fun _ _ _ h => h) (by rfl) HS1 ?_
              simp only [Act.put, List.setIfInBounds_toArray, List.set_cons_zero, List.set_cons_succ]
              refine any_skip 52 (some 80) rfl rfl (by kernel_rfl) (by kernel_rfl) (by kernel_rfl) (fun _ _ _ h => h) (by rfl) HS1 ?_
              simp only [Act.put, List.setIfInBounds_toArray, List.set_cons_zero, List.set_cons_succ]
              refine any_skip 53 (some 81) rfl rfl (by kernel_rfl) (by kernel_rfl) (by kernel_rfl) (fun _ _ _ h => h) (by rfl) HS1 ?_
              simp only [Act.put, List.setIfInBounds_toArray, List.set_cons_zero, List.set_cons_succ]
              refine any_skip 54 (some 82) rfl rfl (by kernel_rfl) (by kernel_rfl) (by kernel_rfl) (fun _ _ _ h => h) (by rfl) HS1 ?_
              simp only [Act.put, List.setIfInBounds_toArray, List.set_cons_zero, List.set_cons_succ]
              refine any_skip 55 (some 83) rfl rfl (by kernel_rfl) (by kernel_rfl) (by kernel_rfl) (fun _ _ _ h => h) (by rfl) HS1 ?_
              simp only [Act.put, List.setIfInBounds_toArray, List.set_cons_zero, List.set_cons_succ]
              refine any_skip 56 (some 84) rfl rfl (by kernel_rfl) (by kernel_rfl) (by kernel_rfl) (fun _ _ _ h => h) (by rfl) HS1 ?_
              simp only [Act.put, List.setIfInBounds_toArray, List.set_cons_zero, List.set_cons_succ]
              refine any_take 57 (some 85) (.bool true) rfl rfl (by kernel_rfl) (by kernel_rfl) (by kernel_rfl) (fun _ _ _ h => h) (by rfl) HS1 ?_ ?_
              · intro w hSw
                obtain ⟨c0, c1, c2, c3, c4, c5⟩ := rc_cells hSw
                go_simp
              simp only [Act.put, List.setIfInBounds_toArray, List.set_cons_zero, List.set_cons_succ]
              have hB : B = true := by
                have h1 := HBB.out; have h2 := HP.out
                rw [h1]
                exact (by simp only [Bool.not_eq_true', decide_eq_false_iff_not]; intro h3; have := h2.1 h3; omega)
              refine any_take 58 (some 27) (.bool true) rfl rfl (by kernel_rfl) (by kernel_rfl) (by kernel_rfl) (fun _ _ _ h => h) (by rfl) HS1 ?_ ?_
              · intro w hSw
                obtain ⟨c0, c1, c2, c3, c4, c5⟩ := rc_cells hSw
                go_simp
              simp only [Act.put, List.setIfInBounds_toArray, List.set_cons_zero, List.set_cons_succ]
              refine wpAnyH_done (by kernel_rfl) ?_ _
              try go_wp2
              go_meet
              exact ⟨by rw [hB], rfl⟩
            · have d4 : decide (t.lst < t.fst - 1) = false := decide_eq_false g4
              refine any_take 38 (some 66) (.bool false) rfl rfl (by kernel_rfl) (by kernel_rfl) (by kernel_rfl) (fun _ _ _ h => h) (by rfl) HS1 ?_ ?_
              · intro w hSw
                obtain ⟨c0, c1, c2, c3, c4, c5⟩ := rc_cells hSw
                go_simp
              simp only [Act.put, List.setIfInBounds_toArray, List.set_cons_zero, List.set_cons_succ]
              refine any_take 39 (some 67) (.bool false) rfl rfl (by kernel_rfl) (by kernel_rfl) (by kernel_rfl) (fun _ _ _ h => h) (by rfl) HS1 ?_ ?_
              · intro w hSw
                obtain ⟨c0, c1, c2, c3, c4, c5⟩ := rc_cells hSw
                go_simp
              simp only [Act.put, List.setIfInBounds_toArray, List.set_cons_zero, List.set_cons_succ]
              refine any_take 40 (some 68) (.bool false) rfl rfl (by kernel_rfl) (by kernel_rfl) (by kernel_rfl) (fun _ _ _ h => h) (by rfl) HS1 ?_ ?_
              · intro w hSw
                obtain ⟨c0, c1, c2, c3, c4, c5⟩ := rc_cells hSw
                go_simp
              simp only [Act.put, List.setIfInBounds_toArray, List.set_cons_zero, List.set_cons_succ]
              refine any_take 41 (some 69) (.pointer (some ⟨R, 6, none⟩)) rfl rfl (by kernel_rfl) (by kernel_rfl) (by kernel_rfl) (fun _ _ _ h => h) (by rfl) HS1 ?_ ?_
              · intro w hSw
                obtain ⟨c0, c1, c2, c3, c4, c5⟩ := rc_cells hSw
                go_simp
              simp only [Act.put, List.setIfInBounds_toArray, List.set_cons_zero, List.set_cons_succ]
              refine any_take 42 (some 70) (.int .i64 (t.beh)) rfl rfl (by kernel_rfl) (by kernel_rfl) (by kernel_rfl) (fun _ _ _ h => h) (by rfl) HS1 ?_ ?_
              · intro w hSw
                obtain ⟨c0, c1, c2, c3, c4, c5⟩ := rc_cells hSw
                go_simp
              simp only [Act.put, List.setIfInBounds_toArray, List.set_cons_zero, List.set_cons_succ]
              refine any_take 43 (some 71) (.pointer (some ⟨R, 2, none⟩)) rfl rfl (by kernel_rfl) (by kernel_rfl) (by kernel_rfl) (fun _ _ _ h => h) (by rfl) HS1 ?_ ?_
              · intro w hSw
                obtain ⟨c0, c1, c2, c3, c4, c5⟩ := rc_cells hSw
                go_simp
              simp only [Act.put, List.setIfInBounds_toArray, List.set_cons_zero, List.set_cons_succ]
              refine any_take 44 (some 72) (.int .i64 (t.lst)) rfl rfl (by kernel_rfl) (by kernel_rfl) (by kernel_rfl) (fun _ _ _ h => h) (by rfl) HS1 ?_ ?_
              · intro w hSw
                obtain ⟨c0, c1, c2, c3, c4, c5⟩ := rc_cells hSw
                go_simp
              simp only [Act.put, List.setIfInBounds_toArray, List.set_cons_zero, List.set_cons_succ]
              by_cases g5 : t.beh ≤ t.lst
              · have d5 : decide (t.beh ≤ t.lst) = true := decide_eq_true g5
                refine any_take 45 (some 73) (.bool true) rfl rfl (by kernel_rfl) (by kernel_rfl) (by kernel_rfl) (fun _ _ _ h => h) (by rfl) HS1 ?_ ?_
                · intro w hSw
                  obtain ⟨c0, c1, c2, c3, c4, c5⟩ := rc_cells hSw
                  go_simp
                simp only [Act.put, List.setIfInBounds_toArray, List.set_cons_zero, List.set_cons_succ]
                refine any_take 46 (some 74) (.bool true) rfl rfl (by kernel_rfl) (by kernel_rfl) (by kernel_rfl) (fun _ _ _ h => h) (by rfl) HS1 ?_ ?_
                · intro w hSw
                  obtain ⟨c0, c1, c2, c3, c4, c5⟩ := rc_cells hSw
                  go_simp
                simp only [Act.put, List.setIfInBounds_toArray, List.set_cons_zero, List.set_cons_succ]
                refine any_take 47 (some 75) (.bool true) rfl rfl (by kernel_rfl) (by kernel_rfl) (by kernel_rfl) (fun _ _ _ h => h) (by rfl) HS1 ?_ ?_
                · intro w hSw
                  obtain ⟨c0, c1, c2, c3, c4, c5⟩ := rc_cells hSw
                  go_simp
                simp only [Act.put, List.setIfInBounds_toArray, List.set_cons_zero, List.set_cons_succ]
                refine any_skip 48 (some 76) rfl rfl (by kernel_rfl) (by kernel_rfl) (by kernel_rfl) (fun _ _ _ h => h) (by rfl) HS1 ?_
                simp only [Act.put, List.setIfInBounds_toArray, List.set_cons_zero, List.set_cons_succ]
                refine any_skip 49 (some 77) rfl rfl (by kernel_rfl) (by kernel_rfl) (by kernel_rfl) (fun _ _ _ h => h) (by rfl) HS1 ?_
                simp only [Act.put, List.setIfInBounds_toArray, List.set_cons_zero, List.set_cons_succ]
                refine any_skip 50 (some 78) rfl rfl (by kernel_rfl) (by kernel_rfl) (by kernel_rfl) (fun _ _ _ h => h) (by rfl) HS1 ?_
                simp only [Act.put, List.setIfInBounds_toArray, List.set_cons_zero, List.set_cons_succ]
                refine any_skip 51 (some 79) rfl rfl (by kernel_rfl) (by kernel_rfl) (by kernel_rfl) (fun _ _ _ h => h) (by rfl) HS1 ?_
                simp only [Act.put, List.setIfInBounds_toArray, List.set_cons_zero, List.set_cons_succ]
                refine any_skip 52 (some 80) rfl rfl (by kernel_rfl) (by kernel_rfl) (by kernel_rfl) (fun _ _ _ h => h) (by rfl) HS1 ?_
                simp only [Act.put, List.setIfInBounds_toArray, List.set_cons_zero, List.set_cons_succ]
                refine any_skip 53 (some 81) rfl rfl (by kernel_rfl) (by kernel_rfl) (by kernel_rfl) (fun _ _ _ h => h) (by rfl) HS1 ?_
                simp only [Act.put, List.setIfInBounds_toArray, List.set_cons_zero, List.set_cons_succ]
                refine any_skip 54 (some 82) rfl rfl (by kernel_rfl) (by kernel_rfl) (by kernel_rfl) (fun _ _ _ h => h) (by rfl) HS1 ?_
                simp only [Act.put, List.setIfInBounds_toArray, List.set_cons_zero, List.set_cons_succ]
                refine any_skip 55 (some 83) rfl rfl (by kernel_rfl) (by kernel_rfl) (by kernel_rfl) (fun _ _ _ h => h) (by rfl) HS1 ?_
                simp only [Act.put, List.setIfInBounds_toArray, List.set_cons_zero, List.set_cons_succ]
                refine any_skip 56 (some 84) rfl rfl (by kernel_rfl) (by kernel_rfl) (by kernel_rfl) (fun _ _ _ h => h) (by rfl) HS1 ?_
                simp only [Act.put, List.setIfInBounds_toArray, List.set_cons_zero, List.set_cons_succ]
                refine any_take 57 (some 85) (.bool true) rfl rfl (by kernel_rfl) (by kernel_rfl) (by kernel_rfl) (fun _ _ _ h => h) (by rfl) HS1 ?_ ?_
                · intro w hSw
                  obtain ⟨c0, c1, c2, c3, c4, c5⟩ := rc_cells hSw
                  go_simp
                simp only [Act.put, List.setIfInBounds_toArray, List.set_cons_zero, List.set_cons_succ]
                have hB : B = true := by
                  have h1 := HBB.out; have h2 := HP.out
                  rw [h1]
                  exact (by simp only [Bool.not_eq_true', decide_eq_false_iff_not]; intro h3; have := h2.1 h3; omega)
                refine any_take 58 (some 27) (.bool true) rfl rfl (by kernel_rfl) (by kernel_rfl) (by kernel_rfl) (fun _ _ _ h => h) (by rfl) HS1 ?_ ?_
                · intro w hSw
                  obtain ⟨c0, c1, c2, c3, c4, c5⟩ := rc_cells hSw
                  go_simp
                simp only [Act.put, List.setIfInBounds_toArray, List.set_cons_zero, List.set_cons_succ]
                refine wpAnyH_done (by kernel_rfl) ?_ _
                try go_wp2
                go_meet
                exact ⟨by rw [hB], rfl⟩
              · have d5 : decide (t.beh ≤ t.lst) = false := decide_eq_false g5
                refine any_take 45 (some 73) (.bool false) rfl rfl (by kernel_rfl) (by kernel_rfl) (by kernel_rfl) (fun _ _ _ h => h) (by rfl) HS1 ?_ ?_
                · intro w hSw
                  obtain ⟨c0, c1, c2, c3, c4, c5⟩ := rc_cells hSw
                  go_simp
                simp only [Act.put, List.setIfInBounds_toArray, List.set_cons_zero, List.set_cons_succ]
                refine any_take 46 (some 74) (.bool false) rfl rfl (by kernel_rfl) (by kernel_rfl) (by kernel_rfl) (fun _ _ _ h => h) (by rfl) HS1 ?_ ?_
                · intro w hSw
                  obtain ⟨c0, c1, c2, c3, c4, c5⟩ := rc_cells hSw
                  go_simp
                simp only [Act.put, List.setIfInBounds_toArray, List.set_cons_zero, List.set_cons_succ]
                refine any_take 47 (some 75) (.bool false) rfl rfl (by kernel_rfl) (by kernel_rfl) (by kernel_rfl) (fun _ _ _ h => h) (by rfl) HS1 ?_ ?_
                · intro w hSw
                  obtain ⟨c0, c1, c2, c3, c4, c5⟩ := rc_cells hSw
                  go_simp
                simp only [Act.put, List.setIfInBounds_toArray, List.set_cons_zero, List.set_cons_succ]
                refine any_take 48 (some 76) (.pointer (some ⟨R, 6, none⟩)) rfl rfl (by kernel_rfl) (by kernel_rfl) (by kernel_rfl) (fun _ _ _ h => h) (by rfl) HS1 ?_ ?_
                · intro w hSw
                  obtain ⟨c0, c1, c2, c3, c4, c5⟩ := rc_cells hSw
                  go_simp
                simp only [Act.put, List.setIfInBounds_toArray, List.set_cons_zero, List.set_cons_succ]
                refine any_take 49 (some 77) (.int .i64 (t.beh)) rfl rfl (by kernel_rfl) (by kernel_rfl) (by kernel_rfl) (fun _ _ _ h => h) (by rfl) HS1 ?_ ?_
                · intro w hSw
                  obtain ⟨c0, c1, c2, c3, c4, c5⟩ := rc_cells hSw
                  go_simp
                simp only [Act.put, List.setIfInBounds_toArray, List.set_cons_zero, List.set_cons_succ]
                refine any_take 50 (some 78) (.pointer (some ⟨R, 0, none⟩)) rfl rfl (by kernel_rfl) (by kernel_rfl) (by kernel_rfl) (fun _ _ _ h => h) (by rfl) HS1 ?_ ?_
                · intro w hSw
                  obtain ⟨c0, c1, c2, c3, c4, c5⟩ := rc_cells hSw
                  go_simp
                simp only [Act.put, List.setIfInBounds_toArray, List.set_cons_zero, List.set_cons_succ]
                refine any_take 51 (some 79) (.int .i64 (t.sec)) rfl rfl (by kernel_rfl) (by kernel_rfl) (by kernel_rfl) (fun _ _ _ h => h) (by rfl) HS1 ?_ ?_
                · intro w hSw
                  obtain ⟨c0, c1, c2, c3, c4, c5⟩ := rc_cells hSw
                  go_simp
                simp only [Act.put, List.setIfInBounds_toArray, List.set_cons_zero, List.set_cons_succ]
                refine any_take 52 (some 80) (.int .i64 (t.sec - 1)) rfl rfl (by kernel_rfl) (by kernel_rfl) (by kernel_rfl) (fun _ _ _ h => h) (by rfl) HS1 ?_ ?_
                · intro w hSw
                  obtain ⟨c0, c1, c2, c3, c4, c5⟩ := rc_cells hSw
                  go_simp
                simp only [Act.put, List.setIfInBounds_toArray, List.set_cons_zero, List.set_cons_succ]
                refine any_take 53 (some 81) (.int .i64 (n : Int)) rfl rfl (by kernel_rfl) (by kernel_rfl) (by kernel_rfl) (fun _ _ _ h => h) (by rfl) HS1 ?_ ?_
                · intro w hSw
                  obtain ⟨c0, c1, c2, c3, c4, c5⟩ := rc_cells hSw
                  go_simp
                simp only [Act.put, List.setIfInBounds_toArray, List.set_cons_zero, List.set_cons_succ]
                refine wpAnyH_ready (rs := [54]) (by kernel_rfl) (by simp) ?_
                refine AllReadyH.cons (i := 54) rfl (fun K hK => ?_) AllReadyH.nil
                go_simp
                refine (HRo _).out.mono ?_
                rintro e9 wz ⟨rfl, rfl⟩
                go_simp
                refine hK.out _ _ HS1 (fun _ => ?_)
                clear hK K
                try simp only [Act.put, List.setIfInBounds_toArray, List.set_cons_zero, List.set_cons_succ]
                refine any_take 55 (some 83) (.int .i64 (t.sec - 1 - r)) rfl rfl (by kernel_rfl) (by kernel_rfl) (by kernel_rfl) (fun _ _ _ h => h) (by rfl) HS1 ?_ ?_
                · intro w hSw
                  obtain ⟨c0, c1, c2, c3, c4, c5⟩ := rc_cells hSw
                  go_simp
                simp only [Act.put, List.setIfInBounds_toArray, List.set_cons_zero, List.set_cons_succ]
                by_cases g6 : t.beh > t.sec - 1 - r
                · have d6 : decide (t.beh > t.sec - 1 - r) = true := decide_eq_true g6
                  refine any_take 56 (some 84) (.bool true) rfl rfl (by kernel_rfl) (by kernel_rfl) (by kernel_rfl) (fun _ _ _ h => h) (by rfl) HS1 ?_ ?_
                  · intro w hSw
                    obtain ⟨c0, c1, c2, c3, c4, c5⟩ := rc_cells hSw
                    go_simp
                  simp only [Act.put, List.setIfInBounds_toArray, List.set_cons_zero, List.set_cons_succ]
                  refine any_take 57 (some 85) (.bool true) rfl rfl (by kernel_rfl) (by kernel_rfl) (by kernel_rfl) (fun _ _ _ h => h) (by rfl) HS1 ?_ ?_
                  · intro w hSw
                    obtain ⟨c0, c1, c2, c3, c4, c5⟩ := rc_cells hSw
                    go_simp
                  simp only [Act.put, List.setIfInBounds_toArray, List.set_cons_zero, List.set_cons_succ]
                  have hB : B = true := by
                    have h1 := HBB.out; have h2 := HP.out
                    rw [h1]
                    exact (by simp only [Bool.not_eq_true', decide_eq_false_iff_not]; intro h3; have := h2.1 h3; omega)
                  refine any_take 58 (some 27) (.bool true) rfl rfl (by kernel_rfl) (by kernel_rfl) (by kernel_rfl) (fun _ _ _ h => h) (by rfl) HS1 ?_ ?_
                  · intro w hSw
                    obtain ⟨c0, c1, c2, c3, c4, c5⟩ := rc_cells hSw
                    go_simp
                  simp only [Act.put, List.setIfInBounds_toArray, List.set_cons_zero, List.set_cons_succ]
                  refine wpAnyH_done (by kernel_rfl) ?_ _
                  try go_wp2
                  go_meet
                  exact ⟨by rw [hB], rfl⟩
                · have d6 : decide (t.beh > t.sec - 1 - r) = false := decide_eq_false g6
                  refine any_take 56 (some 84) (.bool false) rfl rfl (by kernel_rfl) (by kernel_rfl) (by kernel_rfl) (fun _ _ _ h => h) (by rfl) HS1 ?_ ?_
                  · intro w hSw
                    obtain ⟨c0, c1, c2, c3, c4, c5⟩ := rc_cells hSw
                    go_simp
                  simp only [Act.put, List.setIfInBounds_toArray, List.set_cons_zero, List.set_cons_succ]
                  refine any_take 57 (some 85) (.bool false) rfl rfl (by kernel_rfl) (by kernel_rfl) (by kernel_rfl) (fun _ _ _ h => h) (by rfl) HS1 ?_ ?_
                  · intro w hSw
                    obtain ⟨c0, c1, c2, c3, c4, c5⟩ := rc_cells hSw
                    go_simp
                  simp only [Act.put, List.setIfInBounds_toArray, List.set_cons_zero, List.set_cons_succ]
                  have hB : B = false := by
                    have h1 := HBB.out; have h2 := HP.out
                    rw [h1]
                    exact (by simp only [Bool.not_eq_false', decide_eq_true_eq]; exact h2.2 (by omega))
                  refine any_take 58 (some 27) (.bool false) rfl rfl (by kernel_rfl) (by kernel_rfl) (by kernel_rfl) (fun _ _ _ h => h) (by rfl) HS1 ?_ ?_
                  · intro w hSw
                    obtain ⟨c0, c1, c2, c3, c4, c5⟩ := rc_cells hSw
                    go_simp
                  simp only [Act.put, List.setIfInBounds_toArray, List.set_cons_zero, List.set_cons_succ]
                  refine wpAnyH_done (by kernel_rfl) ?_ _
                  try go_wp2
                  go_meet
                  exact ⟨by rw [hB], rfl⟩
  case rest =>
    obtain ⟨rfl, hwc⟩ := hcut
    rw [hwc]
    have HK2 := hide HK1.out.drew
    have HL2 := hide (show LiesD w1.drew a t.L from HL1.out.below (Below.refl _ _).drew)
    have HB2 := hide HB1.out.drew
    generalize w1.drew = w2 at HK2 HL2 HB2 ⊢
    clear hwc HK1 HL1 HB1 HW1 c0 c1 c2 c3 c4 c5 e1 e2
    by_cases hp : t.placed
    case neg =>
      have hB : B = true := by rw [HBB.out, decide_eq_false hp]; rfl
      have hd := hide (show t.chk = 4 by rw [HD0.out, if_neg hp])
      rw [hB]
      clear hB hp
      go_wp2_with fail
      go_ret
      exact ⟨by rw [hd.out]; rfl, HB2.out⟩
    have hB : B = false := by rw [HBB.out, decide_eq_true hp]; rfl
    rw [hB]
    have HD1 := hide (HD0.out.trans (if_pos hp))
    have HPl := hide hp
    have HPn := hide (HP.out.1 hp)
    clear hB hp HD0 HP
    go_wp2_with fail
    go_loopw [4, 5] (fun v i wr => ∃ k : Nat, k ≤ n ∧ i = .int .i64 (k : Int) ∧ t.chkL (t.L.take k) = 0 ∧ OwnE wr (R + 1) v (secG t.L k) ∧ Blk wr R (t.rc vi (.slice a n cap)) 34 ∧ LiesD wr a t.L ∧ Below w.heap.size w wr) (fun _ i _ => n - (intOf i).toNat)
    case atStart => exact ⟨0, by omega, by simp, rfl, OwnE.nil _ _, HK2.out, HL2.out, HB2.out⟩
    case round =>
      obtain ⟨k, hk, rfl, hck, how, hkr, hlr, hbr⟩ := hrel
      have HCk := hide hck
      have HOw := hide how
      have HKr := hide hkr
      have HLr := hide hlr
      have HBr := hide hbr
      obtain ⟨c0, c1, c2, c3, c4, c5⟩ := rc_cells hkr
      clear hck how hkr hlr hbr HK2 HL2 HB2
      by_cases hlt : k < n
      case pos =>
        obtain ⟨x, hx⟩ : ∃ x, t.L[k]? = some x := ⟨_, List.getElem?_eq_getElem (by rw [← HHn.out]; exact hlt)⟩
        have hxm : x ∈ t.L := List.mem_of_getElem? hx
        have hxo := HOk.out x hxm
        have HXo := hide hxo
        have HTk := hide (chkL_take t t.L k x hx HCk.out)
        have HSk := hide (secG_succ t.L k x hx)
        rcases HLr.out with hnil | ⟨b, off, rfl, hb, hc⟩
        · rw [hnil] at hx; simp at hx
        obtain ⟨v1, v2, q0, q1, q2, q3, ⟨a1, d1, rfl, s1⟩, ⟨a2, d2, rfl, s2⟩⟩ := hc k x hx
        have HS1 := hide s1
        have HS2 := hide s2
        rw [hxo.1] at q0
        rw [hxo.2] at q3
        have hk0 : (0 : Int) ≤ (k : Int) := by omega
        have hk1 : (k : Int) < (n : Int) := by omega
        have hd1 : (32 : Nat) ≤ d1 := by have := s1.le; rw [hxo.1] at this; exact this
        clear hc hb hx hxm hxo s1 s2
        rcases HS1.out.lies with hnil | ⟨b1, o1, rfl, _, _⟩
        · have := HXo.out.1; rw [hnil] at this; simp at this
        have HZ1 := fun u (hu : Lies u (some ⟨b1, o1, none⟩) x.ids) => hide (show Calls Tryd.prog 31 #[.slice (some ⟨b1, o1, none⟩) 16 d1] u fun e w' => e = .returned (.bool x.none) ∧ w' = u by
          have h := IsZero_any (some ⟨b1, o1, none⟩) d1 (x.ids.take 16) u (by rw [List.length_take]; unfold maxLen; omega) (hu.takeG 16)
          have hl : (x.ids.take 16).length = 16 := by rw [List.length_take, HXo.out.1]; omega
          rw [allZ_rep, hl] at h
          exact h)
        have HZ2 := fun u (hu : Lies u (some ⟨b1, o1, none⟩) x.ids) => hide (show Calls Tryd.prog 31 #[.slice (some ⟨b1, o1, none⟩) 32 d1] u fun e w' => e = .returned (.bool (allZ x.ids)) ∧ w' = u by
          have h := IsZero_any (some ⟨b1, o1, none⟩) d1 x.ids u (by rw [HXo.out.1]; unfold maxLen; omega) hu
          rw [HXo.out.1] at h
          exact h)
        have HZ3 := fun u (hu : Lies u a2 x.rest) => hide (show Calls Tryd.prog 31 #[.slice a2 80 d2] u fun e w' => e = .returned (.bool (allZ x.rest)) ∧ w' = u by
          have h := IsZero_any a2 d2 x.rest u (by rw [HXo.out.2]; unfold maxLen; omega) hu
          rw [HXo.out.2] at h
          exact h)
        go_upto_region 11 with fail
        have hb5 : Below wr.heap.size wr (wr.alloc (.cells #[.slice (some ⟨b1, o1, none⟩) 32 d1, .int .i64 x.fi, .int .i64 x.la, .slice a2 80 d2] 72)) := (Below.refl _ _).alloc (Nat.le_refl _) _
        have hk5 := Blk.new wr #[.slice (some ⟨b1, o1, none⟩) 32 d1, .int .i64 x.fi, .int .i64 x.la, .slice a2 80 d2] 72
        have HK5 := hide (HKr.out.below hb5)
        have HL5 := hide (HLr.out.below hb5)
        have HO5 := hide (OwnE.below HOw.out hb5)
        have HB5 := hide (HBr.out.trans (hb5.mono HBr.out.size))
        have HY1 := hide (HS1.out.lies.below hb5)
        have HY2 := hide (HS2.out.lies.below hb5)
        clear hb5 q0 q1 q2 q3 c0 c1 c2 c3 c4 c5 HKr HLr HOw HBr HS1 HS2
        generalize wr.alloc (.cells #[.slice (some ⟨b1, o1, none⟩) 32 d1, .int .i64 x.fi, .int .i64 x.la, .slice a2 80 d2] 72) = w5 at hk5 HK5 HL5 HO5 HB5 HY1 HY2 ⊢
        generalize wr.heap.size = X at hk5 ⊢
        have x0 := hk5.cell 0 _ rfl
        have x1 := hk5.cell 1 _ rfl
        have x2 := hk5.cell 2 _ rfl
        have x3 := hk5.cell 3 _ rfl
        obtain ⟨c0, c1, c2, c3, c4, c5⟩ := rc_cells HK5.out
        clear hk5
        have k5 : ¬ (d1 : Int) < 16 := by omega
        go_wp2_with fail
        refine (HZ1 _ HY1.out).out.mono ?_
        rintro e9 w6 ⟨rfl, h6⟩
        rw [h6]
        clear h6 HZ1
        by_cases hnn : x.none = true
        · rw [hnn]
          have HSk := hide (show secG t.L (k + 1) = secG t.L k by rw [HSk.out, if_pos hnn, List.append_nil])
          have HE := hide (show t.chkE x = if x = E4.z then 0 else 11 by unfold Tb.chkE; rw [if_pos hnn])
          have HZi := hide (z_iff x HXo.out)
          clear hnn
          go_wp2_with fail
          refine (HZ2 _ HY1.out).out.mono ?_
          rintro e9 w6 ⟨rfl, h6⟩
          rw [h6]
          clear h6 HZ2
          by_cases z1 : allZ x.ids = true
          case neg =>
            have z1f : allZ x.ids = false := by simpa using z1
            have hd := hide (show t.chk = 11 by
              have h11 : t.chkE x = 11 := by rw [HE.out, if_neg (fun h => z1 (HZi.out.1 h).1)]
              rw [HD1.out, HTk.out.2 (by rw [h11]; decide), h11, if_neg (by decide)])
            rw [z1f]
            clear z1 z1f
            go_wp2_with fail
            go_ret
            exact ⟨by rw [hd.out]; rfl, HB5.out⟩
          rw [z1]
          by_cases z2 : x.fi = 0
          case neg =>
            have z2f : (x.fi != 0) = true := by simpa using z2
            have hd := hide (show t.chk = 11 by
              have h11 : t.chkE x = 11 := by rw [HE.out, if_neg (fun h => z2 (HZi.out.1 h).2.1)]
              rw [HD1.out, HTk.out.2 (by rw [h11]; decide), h11, if_neg (by decide)])
            clear z2
            go_wp2_with fail
            go_ret
            exact ⟨by rw [hd.out]; rfl, HB5.out⟩
          by_cases z3 : x.la = 0
          case neg =>
            have z2f : (x.fi != 0) = false := by simpa using z2
            have z3f : (x.la != 0) = true := by simpa using z3
            have hd := hide (show t.chk = 11 by
              have h11 : t.chkE x = 11 := by rw [HE.out, if_neg (fun h => z3 (HZi.out.1 h).2.2.1)]
              rw [HD1.out, HTk.out.2 (by rw [h11]; decide), h11, if_neg (by decide)])
            clear z2 z3
            go_wp2_with fail
            go_ret
            exact ⟨by rw [hd.out]; rfl, HB5.out⟩
          have z2f : (x.fi != 0) = false := by simpa using z2
          have z3f : (x.la != 0) = false := by simpa using z3
          have HZz := hide (show x = E4.z ↔ allZ x.rest = true by rw [HZi.out]; exact ⟨fun h => h.2.2.2, fun h => ⟨z1, z2, z3, h⟩⟩)
          clear z1 z2 z3
          go_wp2_with fail
          refine (HZ3 _ HY2.out).out.mono ?_
          rintro e9 w6 ⟨rfl, h6⟩
          rw [h6]
          clear h6 HZ3 z2f z3f
          by_cases z4 : allZ x.rest = true
          case neg =>
            have z4f : allZ x.rest = false := by simpa using z4
            have hd := hide (show t.chk = 11 by
              have h11 : t.chkE x = 11 := by rw [HE.out, if_neg (fun h => z4 (HZz.out.1 h))]
              rw [HD1.out, HTk.out.2 (by rw [h11]; decide), h11, if_neg (by decide)])
            rw [z4f]
            clear z4 z4f
            go_wp2_with fail
            go_ret
            exact ⟨by rw [hd.out]; rfl, HB5.out⟩
          rw [z4]
          have HT2 := hide (HTk.out.1.trans (by rw [HE.out, if_pos (HZz.out.2 z4)]))
          clear z4
          go_wp2_with fail
          go_roundw
          case rel => exact ⟨k + 1, by omega, by go_num, HT2.out, by rw [HSk.out]; exact HO5.out, HK5.out, HL5.out, HB5.out⟩
          case measure => simp [intOf]; omega
        · have hnf : x.none = false := by simpa using hnn
          rw [hnf]
          have HSk := hide (show secG t.L (k + 1) = secG t.L k ++ [(x.fi, x.la + 1)] by rw [HSk.out, if_neg hnn])
          have HE := hide (show t.chkE x = if t.fst ≤ x.fi ∧ x.la ≤ t.lst ∧ x.fi ≤ x.la then 0 else 4 by unfold Tb.chkE; rw [if_neg hnn])
          clear hnn hnf HZ2 HZ3
          by_cases g1 : x.fi < t.fst
          case pos =>
            have hd := hide (show t.chk = 4 by
              have h11 : t.chkE x = 4 := by rw [HE.out, if_neg (by omega)]
              rw [HD1.out, HTk.out.2 (by rw [h11]; decide), h11, if_neg (by decide)])
            go_wp2_with fail
            go_ret
            exact ⟨by rw [hd.out]; rfl, HB5.out⟩
          by_cases g2 : x.la > t.lst
          case pos =>
            have hd := hide (show t.chk = 4 by
              have h11 : t.chkE x = 4 := by rw [HE.out, if_neg (by omega)]
              rw [HD1.out, HTk.out.2 (by rw [h11]; decide), h11, if_neg (by decide)])
            go_wp2_with fail
            go_ret
            exact ⟨by rw [hd.out]; rfl, HB5.out⟩
          by_cases g3 : x.la < x.fi
          case pos =>
            have hd := hide (show t.chk = 4 by
              have h11 : t.chkE x = 4 := by rw [HE.out, if_neg (by omega)]
              rw [HD1.out, HTk.out.2 (by rw [h11]; decide), h11, if_neg (by decide)])
            go_wp2_with fail
            go_ret
            exact ⟨by rw [hd.out]; rfl, HB5.out⟩
          have HT2 := hide (HTk.out.1.trans (by rw [HE.out, if_pos (by omega)]))
          have e1 : IntKind.i64.wrap (x.la + 1) = x.la + 1 := wrapn _ (by have := HPn.out; have := HQ1.out; have := HRn.out; omega)
          have HLn := hide (show (secG t.L k).length + 1 ≤ 10000000 by rw [secG_len]; have := prtG_len t.L k; omega)
          have hb6 : Below w5.heap.size w5 (w5.alloc (.cells #[.int .i64 x.fi, .int .i64 (x.la + 1)] 59)) := (Below.refl _ _).alloc (Nat.le_refl _) _
          have HO6 := hide (OwnE.below HO5.out hb6)
          have HK6 := hide (HK5.out.below hb6)
          have HL6 := hide (HL5.out.below hb6)
          have HB6 := hide (HB5.out.trans (hb6.mono HB5.out.size))
          have HN6 := hide (Blk.new w5 #[.int .i64 x.fi, .int .i64 (x.la + 1)] 59)
          go_wp2_with (first | (refine wpList_isop (.call { callee := .builtin .append, args := #[.tmp 141, .tmp 148], argTypes := #[52, 52] }) rfl ?_; refine wpList_append_X rfl (.tmp 141) (.tmp 148) 52 rfl Tryd.underlying52 (R + 1) _ _ rfl HO6.out w5.heap.size 1 (x.fi, x.la + 1) rfl ?_ HLn.out HK6.out.lt ?_; (· intro j u hj; exact HN6.out.cell j u (by simpa [encE] using hj)); intro v8 w8 h8 g8))
          have hbw : w.heap.size ≤ (w5.alloc (.cells #[.int .i64 x.fi, .int .i64 (x.la + 1)] 59)).heap.size := HB6.out.size
          have HB8 := hide (show Below w.heap.size w w8 from HB6.out.trans (Chg.below w.heap.size (Chg.of_grown g8) hbw (fun i hi e => by have := OwnE.baseG HO6.out i e.symm; have := HHR.out; omega)))
          have HK8 := hide (show Blk w8 R (t.rc vi (.slice (some ⟨b, off, none⟩) n cap)) 34 from HK6.out.chg (Chg.of_grown g8) (fun e => by have := OwnE.baseG HO6.out R e.symm; omega))
          go_roundw
          case rel => exact ⟨k + 1, by omega, by go_num, HT2.out, by rw [HSk.out]; exact h8, HK8.out, HLw.out.below HB8.out, HB8.out⟩
          case measure => simp [intOf]; omega
      case neg =>
        obtain rfl : k = n := by omega
        have hcl : t.chkL t.L = 0 := by have := HCk.out; rwa [HHn.out, List.take_length] at this
        have HD2 := hide (HD1.out.trans (if_pos hcl))
        obtain ⟨a5, d5, rfl, hl5, _, _, _⟩ := OwnE.form HOw.out
        obtain ⟨EE, hEE⟩ : ∃ EE, EE = secG t.L t.L.length := ⟨_, rfl⟩
        rw [HHn.out, ← hEE] at hl5
        rw [show secG t.L k = EE by rw [hEE, HHn.out]]
        have hEl : EE.length = (prtG t.L t.L.length).length := by rw [hEE]; exact secG_len _ _
        have hE1 : EE.length ≤ 1000000 := by rw [hEl]; have := prtG_len t.L t.L.length; have := HHn.out; omega
        have HEl := hide hEl
        have HOf := hide (show EE.Pairwise Off ↔ t.plc.Pairwise Off by rw [hEE]; exact secG_off t)
        have HL5 := hide hl5
        have HE1 := hide hE1
        clear hcl hEE hEl hl5 hE1 HOw
        by_cases g4 : (EE.length : Int) > 32
        case pos =>
          have hd := hide (show t.chk = 3 by rw [HD2.out, if_neg (by rw [← HEl.out]; omega)])
          go_wp2_with fail
          go_ret
          exact ⟨by rw [hd.out]; rfl, HBr.out⟩
        have HD3 := hide (HD2.out.trans (if_pos (by rw [← HEl.out]; omega)))
        go_wp2_with fail
        refine (refapart_any _ a5 d5 EE HL5.out HE1.out).mono ?_
        rintro e9 w7 ⟨b7, rfl, hi7, h7⟩
        have HB7 := hide (HBr.out.trans (h7.mono HBr.out.size))
        clear h7
        rw [HOf.out] at hi7
        cases b7
        · have hd := hide (show t.chk = 14 by rw [HD3.out, if_neg (fun h => absurd (hi7.2 h) (by decide))])
          clear hi7
          go_wp2_with fail
          go_ret
          exact ⟨by rw [hd.out]; rfl, HB7.out⟩
        · have hd := hide (show t.chk = 0 by rw [HD3.out, if_pos (hi7.1 rfl)])
          clear hi7
          go_wp2_with fail
          go_ret
          exact ⟨by rw [hd.out]; rfl, HB7.out⟩
end Go.Proofs.YtpbnjobjjnhplaaDoor.Oct
