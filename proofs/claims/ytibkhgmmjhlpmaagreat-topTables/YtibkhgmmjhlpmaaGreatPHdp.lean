/- Where a header's parts stand, and whether it is one: the program's calls. -/
import Derived.Test.YtibkhgmmjhlpmaaGreatPHdmHdr
namespace Go.Proofs.YtibkhgmmjhlpmaaGreat.Oct
open Go.RowKit

theorem at_bd (h : Hd) (p : Nat) : 0 ≤ h.at_ p ∧ h.at_ p ≤ 24579 := by
  have h1 := h.jour_bd
  have h2 := h.refs_bd
  unfold Hd.at_
  split <;> omega

/-- The size of a part. -/
def Hd.part (h : Hd) : Nat → Int
  | 1 => h.jour
  | 2 => h.refs
  | _ => 1

theorem at_step (h : Hd) (q : Nat) (hq : q < 5) : h.at_ (q + 1) = h.at_ q + h.part q := by
  have h3 : q = 0 ∨ q = 1 ∨ q = 2 ∨ q = 3 ∨ q = 4 := by omega
  rcases h3 with rfl | rfl | rfl | rfl | rfl <;> simp [Hd.at_, Hd.part]

set_option maxHeartbeats 1000000 in
theorem behind_any (b s o j : Int) (k : Bool) (p : Nat) (hp : p ≤ 5) (w : World) : Calls Tryz.prog 22 #[.agg #[.int .i64 b, .int .i64 s, .int .i64 o, .int .i64 j, .bool k], .int .i64 p] w fun e w' => e = .returned (.int .i64 (Hd.at_ ⟨b, s, o, j, k⟩ p)) ∧ Below w.heap.size w w' := by
  have hK := Kp.new w b s o j k
  have HK := hide hK
  obtain ⟨c0, c1, c2, c3, c4⟩ := hK.box
  have HS := fun u => hide (sizes_any b s o j k u)
  have HAt := hide (at_bd ⟨b, s, o, j, k⟩)
  have HSt := hide (at_step ⟨b, s, o, j, k⟩)
  clear hK
  go_enter Tryz.func22, Tryz.ntmps22
  go_wp2_with fail
  refine ((HS _).out).mono ?_
  rintro e w2 ⟨rfl, hb2⟩
  have HB := hide (HK.out.step hb2).below
  clear hb2 HK c0 c1 c2 c3 c4
  obtain ⟨x1, hx1⟩ : ∃ x1, x1 = Hd.jour ⟨b, s, o, j, k⟩ := ⟨_, rfl⟩
  obtain ⟨x2, hx2⟩ : ∃ x2, x2 = Hd.refs ⟨b, s, o, j, k⟩ := ⟨_, rfl⟩
  have HPa : Hid (∀ q, q < 5 → #[Value.int .i64 1, .int .i64 x1, .int .i64 x2, .int .i64 1, .int .i64 1][q]? = some (.int .i64 (Hd.part ⟨b, s, o, j, k⟩ q))) := hide (fun q hq => by
    have h3 : q = 0 ∨ q = 1 ∨ q = 2 ∨ q = 3 ∨ q = 4 := by omega
    rcases h3 with rfl | rfl | rfl | rfl | rfl <;> simp [Hd.part, hx1, hx2])
  rw [← hx1, ← hx2]
  clear hx1 hx2
  go_wp2_with fail
  have hSt := heap_alloc_new w2 (.cells #[.int .i64 1, .int .i64 x1, .int .i64 x2, .int .i64 1, .int .i64 1] 107)
  have HB3 := hide (HB.out.alloc HB.out.size (.cells #[.int .i64 1, .int .i64 x1, .int .i64 x2, .int .i64 1, .int .i64 1] 107))
  generalize w2.alloc (.cells #[.int .i64 1, .int .i64 x1, .int .i64 x2, .int .i64 1, .int .i64 1] 107) = w3 at *
  have HCe : Hid (∀ q, q < 5 → w3.cell? ⟨w2.heap.size, q, none⟩ = some (.int .i64 (Hd.part ⟨b, s, o, j, k⟩ q))) := hide (fun q hq => Stay.cell (show Stay w3 w2.heap.size _ _ from hSt) q _ (HPa.out q hq))
  clear hSt HPa HB
  go_loopw [6, 11] (fun v i wr => ∃ q : Nat, q ≤ p ∧ i = .int .i64 q ∧ v = .int .i64 (Hd.at_ ⟨b, s, o, j, k⟩ q) ∧ wr = w3) (fun _ i _ => p - (intOf i).toNat)
  case atStart => exact ⟨0, by omega, rfl, rfl, rfl⟩
  case round =>
    obtain ⟨q, hq, rfl, rfl, rfl⟩ := hrel
    by_cases hlt : q < p
    · have hc := HCe.out q (by omega)
      have h1 := HAt.out q
      have h2 := HAt.out (q + 1)
      have h3 := HSt.out q (by omega)
      rw [h3] at h2
      have HS3 := hide h3
      clear h3
      generalize Hd.at_ ⟨b, s, o, j, k⟩ q = x at *
      generalize Hd.part ⟨b, s, o, j, k⟩ q = y at *
      have hq0 : (0 : Int) ≤ (q : Int) := by omega
      have hq5 : (q : Int) < 5 := by omega
      go_wp2_with fail
      go_roundw
      case rel => exact ⟨q + 1, by omega, by go_num, by rw [HS3.out], trivial⟩
      case measure => simp [intOf]; omega
    · obtain rfl : q = p := by omega
      go_wp2_with fail
      go_ret
      exact ⟨rfl, HB3.out⟩

set_option maxHeartbeats 1000000 in
theorem place_any (b s o j : Int) (k : Bool) (p : Nat) (hp : p ≤ 4) (w : World) : Calls Tryz.prog 23 #[.agg #[.int .i64 b, .int .i64 s, .int .i64 o, .int .i64 j, .bool k], .int .i64 p] w fun e w' =>
    e = .returned (.agg #[.int .i64 (Hd.at_ ⟨b, s, o, j, k⟩ p * clN b), .int .i64 (Hd.at_ ⟨b, s, o, j, k⟩ (p + 1) * clN b)]) ∧ Below w.heap.size w w' := by
  have hK := (Kp.new w b s o j k).step (u' := (w.alloc (.cells #[.int .i64 b, .int .i64 s, .int .i64 o, .int .i64 j, .bool k] 25)).alloc (.cells #[.int .i64 0, .int .i64 0] 31)) ((Below.refl _ _).alloc (Nat.le_refl _) _)
  have hR : Stay ((w.alloc (.cells #[.int .i64 b, .int .i64 s, .int .i64 o, .int .i64 j, .bool k] 25)).alloc (.cells #[.int .i64 0, .int .i64 0] 31)) (w.heap.size + 1) #[.int .i64 0, .int .i64 0] 31 := Stay.new2 w (.cells #[.int .i64 b, .int .i64 s, .int .i64 o, .int .i64 j, .bool k] 25) #[.int .i64 0, .int .i64 0] 31
  have HK := hide hK.drew
  have HR := hide hR.drew
  obtain ⟨c0, c1, c2, c3, c4⟩ := hK.box
  have HC := fun u => hide (cluster_any b s o j k u)
  have HB1 := fun u => hide (behind_any b s o j k p (by omega) u)
  have HB2 : ∀ u, Hid (Calls Tryz.prog 22 #[.agg #[.int .i64 b, .int .i64 s, .int .i64 o, .int .i64 j, .bool k], .int .i64 ((p : Int) + 1)] u fun e w' => e = .returned (.int .i64 (Hd.at_ ⟨b, s, o, j, k⟩ (p + 1))) ∧ Below u.heap.size u w') := fun u => hide (behind_any b s o j k (p + 1) (by omega) u)
  have hx := at_bd ⟨b, s, o, j, k⟩ p
  have hy := at_bd ⟨b, s, o, j, k⟩ (p + 1)
  have hc : 0 ≤ clN b ∧ clN b ≤ 4096 := by have := clN_cases b; omega
  have hx2 : 0 ≤ Hd.at_ ⟨b, s, o, j, k⟩ p * clN b ∧ Hd.at_ ⟨b, s, o, j, k⟩ p * clN b ≤ 24579 * 4096 := ⟨Int.mul_nonneg hx.1 hc.1, Int.mul_le_mul hx.2 hc.2 hc.1 (by omega)⟩
  have hy2 : 0 ≤ Hd.at_ ⟨b, s, o, j, k⟩ (p + 1) * clN b ∧ Hd.at_ ⟨b, s, o, j, k⟩ (p + 1) * clN b ≤ 24579 * 4096 := ⟨Int.mul_nonneg hy.1 hc.1, Int.mul_le_mul hy.2 hc.2 hc.1 (by omega)⟩
  have hwx := wrI (x := Hd.at_ ⟨b, s, o, j, k⟩ p * clN b) (by omega) (by omega)
  have hwy := wrI (x := Hd.at_ ⟨b, s, o, j, k⟩ (p + 1) * clN b) (by omega) (by omega)
  have hwp : IntKind.i64.wrap ((p : Int) + 1) = (p : Int) + 1 := wrI (by omega) (by omega)
  clear hK hR hx hy hx2 hy2 hc
  generalize Hd.at_ ⟨b, s, o, j, k⟩ p = x at *
  generalize Hd.at_ ⟨b, s, o, j, k⟩ (p + 1) = y at *
  generalize clN b = c at *
  obtain ⟨q, hq⟩ : ∃ q, q = (p : Int) + 1 := ⟨_, rfl⟩
  obtain ⟨xc, hxc⟩ : ∃ xc, x * c = xc := ⟨_, rfl⟩
  obtain ⟨yc, hyc⟩ : ∃ yc, y * c = yc := ⟨_, rfl⟩
  rw [hxc] at hwx ⊢
  rw [hyc] at hwy ⊢
  rw [← hq] at HB2 hwp
  rw [hq] at hwp
  rw [← hq] at hwp
  have hwq : IntKind.i64.wrap ((p : Int) + 1) = q := by rw [← hq]; exact hwp
  clear hwp hq
  go_enter Tryz.func23, Tryz.ntmps23
  go_wp2_with fail
  go_region_held3 (fun u => u.cell? ⟨w.heap.size, 0, none⟩ = some (.int .i64 b) ∧ u.cell? ⟨w.heap.size, 1, none⟩ = some (.int .i64 s) ∧ u.cell? ⟨w.heap.size, 2, none⟩ = some (.int .i64 o) ∧ u.cell? ⟨w.heap.size, 3, none⟩ = some (.int .i64 j) ∧ u.cell? ⟨w.heap.size, 4, none⟩ = some (.bool k)) (first | go_keep | (with_reducible exact HK.out.box) | exact HK.out.box) (first
    | (go_at_call 20; refine ((HC _).out).mono ?_; rintro e w2 ⟨rfl, hb2⟩; have HK := hide (HK.out.step hb2); have HR := hide (HR.out.below hb2); have d0 : _ = some (Value.int .i64 0) := HR.out.cell 0 _ rfl; have f0 := HR.out.frozen 0; have d1 : _ = some (Value.int .i64 0) := HR.out.cell 1 _ rfl; have f1 := HR.out.frozen 1; clear hb2)
    | (go_at_call_of 22 (Value.int IntKind.i64 p); refine ((HB1 _).out).mono ?_; rintro e w2 ⟨rfl, hb2⟩; have HK := hide (HK.out.step hb2); have HR := hide (HR.out.below hb2); have d0 : _ = some (Value.int .i64 0) := HR.out.cell 0 _ rfl; have f0 := HR.out.frozen 0; have d1 : _ = some (Value.int .i64 0) := HR.out.cell 1 _ rfl; have f1 := HR.out.frozen 1; clear hb2)
    | (go_at_call 22; refine ((HB2 _).out).mono ?_; rintro e w2 ⟨rfl, hb2⟩; have HK := hide (HK.out.step hb2); have HR := hide (HR.out.below hb2); have d0 : _ = some (Value.int .i64 0) := HR.out.cell 0 _ rfl; have f0 := HR.out.frozen 0; have d1 : _ = some (Value.int .i64 0) := HR.out.cell 1 _ rfl; have f1 := HR.out.frozen 1; clear hb2))
  all_goals
    go_wp2_with fail
    refine bodyPost_ret (results_cell_row rfl _ _ (w.heap.size + 1) 31 _ (0, 0) _ rfl (((HR.out.set 0 (.int .i64 xc)).set 1 (.int .i64 yc))) Tryz.underlying31 rfl (by kernel_rfl)) rfl ?_
    exact ⟨rfl, (HK.out.below.setCell (p := ⟨w.heap.size + 1, 0, none⟩) (by simp) _).setCell (p := ⟨w.heap.size + 1, 1, none⟩) (by simp) _⟩

set_option maxHeartbeats 1000000 in
theorem JournalAt_any (b s o j : Int) (k : Bool) (w : World) : Calls Tryz.prog 26 #[.agg #[.int .i64 b, .int .i64 s, .int .i64 o, .int .i64 j, .bool k]] w fun e w' => e = .returned (.agg #[.int .i64 (Hd.at_ ⟨b, s, o, j, k⟩ 1 * clN b), .int .i64 (Hd.at_ ⟨b, s, o, j, k⟩ 2 * clN b)]) ∧ Below w.heap.size w w' := by
  have hK := (Kp.new w b s o j k).step (u' := (w.alloc (.cells #[.int .i64 b, .int .i64 s, .int .i64 o, .int .i64 j, .bool k] 25)).alloc (.cells #[.int .i64 0, .int .i64 0] 31)) ((Below.refl _ _).alloc (Nat.le_refl _) _)
  have hR : Stay ((w.alloc (.cells #[.int .i64 b, .int .i64 s, .int .i64 o, .int .i64 j, .bool k] 25)).alloc (.cells #[.int .i64 0, .int .i64 0] 31)) (w.heap.size + 1) #[.int .i64 0, .int .i64 0] 31 := Stay.new2 w (.cells #[.int .i64 b, .int .i64 s, .int .i64 o, .int .i64 j, .bool k] 25) #[.int .i64 0, .int .i64 0] 31
  have HK := hide hK
  have HR := hide hR
  obtain ⟨c0, c1, c2, c3, c4⟩ := hK.box
  have HP : ∀ u, Hid (Calls Tryz.prog 23 #[.agg #[.int .i64 b, .int .i64 s, .int .i64 o, .int .i64 j, .bool k], .int .i64 1] u fun e w' => e = .returned (.agg #[.int .i64 (Hd.at_ ⟨b, s, o, j, k⟩ 1 * clN b), .int .i64 (Hd.at_ ⟨b, s, o, j, k⟩ 2 * clN b)]) ∧ Below u.heap.size u w') := fun u => hide (place_any b s o j k 1 (by omega) u)
  clear hK hR
  generalize Hd.at_ ⟨b, s, o, j, k⟩ 1 * clN b = x at *
  generalize Hd.at_ ⟨b, s, o, j, k⟩ 2 * clN b = y at *
  go_enter Tryz.func26, Tryz.ntmps26
  go_wp2_with fail
  refine ((HP _).out).mono ?_
  rintro e w2 ⟨rfl, hb2⟩
  have HK := hide (HK.out.step hb2)
  have HR := hide (HR.out.below hb2)
  have d0 : _ = some (Value.int .i64 0) := HR.out.cell 0 _ rfl
  have f0 := HR.out.frozen 0
  have d1 : _ = some (Value.int .i64 0) := HR.out.cell 1 _ rfl
  have f1 := HR.out.frozen 1
  clear hb2
  go_wp2_with fail
  refine bodyPost_ret (results_cell_row rfl _ _ (w.heap.size + 1) 31 _ (0, 0) _ rfl (((HR.out.set 0 (.int .i64 x)).set 1 (.int .i64 y))) Tryz.underlying31 rfl (by kernel_rfl)) rfl ?_
  exact ⟨rfl, (HK.out.below.setCell (p := ⟨w.heap.size + 1, 0, none⟩) (by simp) _).setCell (p := ⟨w.heap.size + 1, 1, none⟩) (by simp) _⟩

set_option maxHeartbeats 1000000 in
theorem RefsAt_any (b s o j : Int) (k : Bool) (w : World) : Calls Tryz.prog 6 #[.agg #[.int .i64 b, .int .i64 s, .int .i64 o, .int .i64 j, .bool k]] w fun e w' => e = .returned (.agg #[.int .i64 (Hd.at_ ⟨b, s, o, j, k⟩ 2 * clN b), .int .i64 (Hd.at_ ⟨b, s, o, j, k⟩ 3 * clN b)]) ∧ Below w.heap.size w w' := by
  have hK := (Kp.new w b s o j k).step (u' := (w.alloc (.cells #[.int .i64 b, .int .i64 s, .int .i64 o, .int .i64 j, .bool k] 25)).alloc (.cells #[.int .i64 0, .int .i64 0] 31)) ((Below.refl _ _).alloc (Nat.le_refl _) _)
  have hR : Stay ((w.alloc (.cells #[.int .i64 b, .int .i64 s, .int .i64 o, .int .i64 j, .bool k] 25)).alloc (.cells #[.int .i64 0, .int .i64 0] 31)) (w.heap.size + 1) #[.int .i64 0, .int .i64 0] 31 := Stay.new2 w (.cells #[.int .i64 b, .int .i64 s, .int .i64 o, .int .i64 j, .bool k] 25) #[.int .i64 0, .int .i64 0] 31
  have HK := hide hK
  have HR := hide hR
  obtain ⟨c0, c1, c2, c3, c4⟩ := hK.box
  have HP : ∀ u, Hid (Calls Tryz.prog 23 #[.agg #[.int .i64 b, .int .i64 s, .int .i64 o, .int .i64 j, .bool k], .int .i64 2] u fun e w' => e = .returned (.agg #[.int .i64 (Hd.at_ ⟨b, s, o, j, k⟩ 2 * clN b), .int .i64 (Hd.at_ ⟨b, s, o, j, k⟩ 3 * clN b)]) ∧ Below u.heap.size u w') := fun u => hide (place_any b s o j k 2 (by omega) u)
  clear hK hR
  generalize Hd.at_ ⟨b, s, o, j, k⟩ 2 * clN b = x at *
  generalize Hd.at_ ⟨b, s, o, j, k⟩ 3 * clN b = y at *
  go_enter Tryz.func6, Tryz.ntmps6
  go_wp2_with fail
  refine ((HP _).out).mono ?_
  rintro e w2 ⟨rfl, hb2⟩
  have HK := hide (HK.out.step hb2)
  have HR := hide (HR.out.below hb2)
  have d0 : _ = some (Value.int .i64 0) := HR.out.cell 0 _ rfl
  have f0 := HR.out.frozen 0
  have d1 : _ = some (Value.int .i64 0) := HR.out.cell 1 _ rfl
  have f1 := HR.out.frozen 1
  clear hb2
  go_wp2_with fail
  refine bodyPost_ret (results_cell_row rfl _ _ (w.heap.size + 1) 31 _ (0, 0) _ rfl (((HR.out.set 0 (.int .i64 x)).set 1 (.int .i64 y))) Tryz.underlying31 rfl (by kernel_rfl)) rfl ?_
  exact ⟨rfl, (HK.out.below.setCell (p := ⟨w.heap.size + 1, 0, none⟩) (by simp) _).setCell (p := ⟨w.heap.size + 1, 1, none⟩) (by simp) _⟩



set_option maxHeartbeats 1000000 in
theorem first_any (b s o j : Int) (k : Bool) (w : World) : Calls Tryz.prog 5 #[.agg #[.int .i64 b, .int .i64 s, .int .i64 o, .int .i64 j, .bool k]] w fun e w' => e = .returned (.int .i64 (Hd.at_ ⟨b, s, o, j, k⟩ 5)) ∧ Below w.heap.size w w' := by
  have hK := Kp.new w b s o j k
  have HK := hide hK
  obtain ⟨c0, c1, c2, c3, c4⟩ := hK.box
  have HB : ∀ u, Hid (Calls Tryz.prog 22 #[.agg #[.int .i64 b, .int .i64 s, .int .i64 o, .int .i64 j, .bool k], .int .i64 5] u fun e w' => e = .returned (.int .i64 (Hd.at_ ⟨b, s, o, j, k⟩ 5)) ∧ Below u.heap.size u w') := fun u => hide (behind_any b s o j k 5 (by omega) u)
  clear hK
  generalize Hd.at_ ⟨b, s, o, j, k⟩ 5 = x at *
  go_enter Tryz.func5, Tryz.ntmps5
  go_wp2_with fail
  refine ((HB _).out).mono ?_
  rintro e w2 ⟨rfl, hb2⟩
  have HK := hide (HK.out.step hb2)
  clear hb2
  go_wp2_with fail
  go_ret
  exact ⟨rfl, HK.out.below⟩

theorem run_index2 (x0 x1 x3 x4 : Value) (n : Int) (u : World) : (Instr.index 107 (.agg #[x0, x1, .int .i64 n, x3, x4]) (.int .i64 2)).run Tryz.prog u = .ok (.int .i64 n) u := by
  simp [Instr.index, go_sem, part]

set_option maxHeartbeats 1000000 in
theorem least_any (b s o j : Int) (k : Bool) (w : World) : Calls Tryz.prog 21 #[.agg #[.int .i64 b, .int .i64 s, .int .i64 o, .int .i64 j, .bool k]] w fun e w' => e = .returned (.int .i64 (Hd.least ⟨b, s, o, j, k⟩)) ∧ Below w.heap.size w w' := by
  have hK := Kp.new w b s o j k
  have HK := hide hK.drew
  obtain ⟨c0, c1, c2, c3, c4⟩ := hK.box
  have HS := fun u => hide (sizes_any b s o j k u)
  have HC := fun u => hide (cluster_any b s o j k u)
  have hrc := Hd.rc_bd ⟨b, s, o, j, k⟩
  have hrf := Hd.refs_bd ⟨b, s, o, j, k⟩
  have he : Hd.cl ⟨b, s, o, j, k⟩ = clN b := rfl
  have hz : 4608 + (Hd.refs ⟨b, s, o, j, k⟩ + 18) * clN b ≤ 1000000000 := by rw [he] at hrc; omega
  have hz0 : 0 ≤ 4608 + (Hd.refs ⟨b, s, o, j, k⟩ + 18) * clN b := by rw [he] at hrc; omega
  have HH := fun u => hide (holding_any b s o j k (4608 + (Hd.refs ⟨b, s, o, j, k⟩ + 18) * clN b) ⟨hz0, hz⟩ u)
  have hl : Hd.least ⟨b, s, o, j, k⟩ = upN (4608 + (Hd.refs ⟨b, s, o, j, k⟩ + 18) * clN b) (clN b) := rfl
  rw [hl]
  rw [he] at hrc
  clear hK he hl
  generalize Hd.jour ⟨b, s, o, j, k⟩ = x1 at *
  generalize Hd.refs ⟨b, s, o, j, k⟩ = x at *
  generalize clN b = c at *
  obtain ⟨y, hy⟩ : ∃ y, y = (x + 18) * c := ⟨_, rfl⟩
  have hw1 : IntKind.i64.wrap (18 + x) = 18 + x := wrI (by omega) (by omega)
  have hw2 : IntKind.i64.wrap ((18 + x) * c) = y := by rw [Int.add_comm 18 x, ← hy]; exact wrI (by omega) (by omega)
  rw [← hy] at hrc hz hz0 HH ⊢
  have hw3 : IntKind.i64.wrap (4608 + y) = 4608 + y := wrI (by omega) (by omega)
  obtain ⟨z, hz⟩ : ∃ z, z = 4608 + y := ⟨_, rfl⟩
  rw [← hz] at hw3 HH ⊢
  have hw4 : IntKind.i64.wrap (4608 + y) = z := by rw [← hz]; exact hw3
  generalize upN z c = r at *
  have hix := run_index2 (.int .i64 1) (.int .i64 x1) (.int .i64 1) (.int .i64 1) x
  clear hw3 hz hy hrc hz0
  go_enter Tryz.func21, Tryz.ntmps21
  go_wp2_with fail
  go_region_held3 (fun u => u.cell? ⟨w.heap.size, 0, none⟩ = some (.int .i64 b) ∧ u.cell? ⟨w.heap.size, 1, none⟩ = some (.int .i64 s) ∧ u.cell? ⟨w.heap.size, 2, none⟩ = some (.int .i64 o) ∧ u.cell? ⟨w.heap.size, 3, none⟩ = some (.int .i64 j) ∧ u.cell? ⟨w.heap.size, 4, none⟩ = some (.bool k)) (first | go_keep | (with_reducible exact HK.out.box) | exact HK.out.box) (first
    | (go_at_call 53; refine ((HS _).out).mono ?_; rintro e w2 ⟨rfl, hb2⟩; have HK := hide (HK.out.step hb2); clear hb2)
    | (go_at_call 20; refine ((HC _).out).mono ?_; rintro e w2 ⟨rfl, hb2⟩; have HK := hide (HK.out.step hb2); clear hb2)
    | (go_at_call 51; refine ((HH _).out).mono ?_; rintro e w2 ⟨rfl, hb2⟩; have HK := hide (HK.out.step hb2); clear hb2))
  all_goals
    go_wp2_with fail
    go_ret
    exact ⟨rfl, HK.out.below⟩

end Go.Proofs.YtibkhgmmjhlpmaaGreat.Oct
