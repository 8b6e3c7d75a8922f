/- What the document's header answers: its numbers. -/
import Derived.Test.YtpmljlmcfofppaaHdr
namespace Go.Proofs.Ytpmljlmcfofppaa.Oct
open Go.RowKit

theorem Kp.newR (w : World) (b s o j : Int) (k : Bool) : Kp w w.heap.size b s o j k (w.alloc (.cells #[.int .i64 b, .int .i64 s, .int .i64 o, .int .i64 j, .bool k] 24)) :=
  ⟨HBox.new _ _ _ _ _ _ _, (Below.refl _ _).alloc (Nat.le_refl _) _, by simp⟩

set_option maxHeartbeats 400000 in
theorem between_any (n most : Int) (w : World) : Calls Try.prog 36 #[.int .i64 n, .int .i64 0, .int .i64 most] w fun e w' => e = .returned (.int .i64 (cutN n most)) ∧ w' = w := by
  by_cases h1 : n < 0
  · have e : cutN n most = 0 := by unfold cutN; rw [if_pos h1]
    rw [e]; clear e
    go_enter Try.func36, Try.ntmps36
    go_wp2
    go_ret
    exact ⟨rfl, rfl⟩
  · by_cases h2 : most < n
    · have e : cutN n most = most := by unfold cutN; rw [if_neg h1, if_pos h2]
      rw [e]; clear e
      go_enter Try.func36, Try.ntmps36
      go_wp2
      go_ret
      exact ⟨rfl, rfl⟩
    · have e : cutN n most = n := by unfold cutN; rw [if_neg h1, if_neg h2]
      rw [e]; clear e
      go_enter Try.func36, Try.ntmps36
      go_wp2
      go_ret
      exact ⟨rfl, rfl⟩

set_option maxHeartbeats 400000 in
theorem units_any (n c : Int) (hn : 0 ≤ n ∧ n ≤ 1000000000) (hc : 0 < c ∧ c ≤ 1000000) (w : World) : Calls Try.prog 35 #[.int .i64 n, .int .i64 c] w fun e w' => e = .returned (.int .i64 (upN n c)) ∧ w' = w := by
  have hq0 : 0 ≤ n / c := Int.ediv_nonneg (by omega) (by omega)
  have hq1 := Int.ediv_le_self c (a := n) (by omega)
  have hm0 : 0 ≤ n % c := Int.emod_nonneg _ (by omega)
  have hc0 : c ≠ 0 := by omega
  have hn0 : 0 ≤ n := hn.1
  by_cases h : 0 < n % c
  · have e : upN n c = n / c + 1 := by rw [upN_zero_or hc.1, if_neg (by omega)]
    rw [e]; clear e
    have hd : decide (0 < n % c) = true := by simp [h]
    go_enter Try.func35, Try.ntmps35
    go_wp2
    go_ret
    exact ⟨rfl, rfl⟩
  · have e : upN n c = n / c := by rw [upN_zero_or hc.1, if_pos (by omega)]
    rw [e]; clear e
    have hd : decide (0 < n % c) = false := by simp [h]
    go_enter Try.func35, Try.ntmps35
    go_wp2
    go_ret
    exact ⟨rfl, rfl⟩

set_option maxHeartbeats 1000000 in
theorem refcluster_any (b s o j : Int) (k : Bool) (w : World) : Calls Try.prog 10 #[.agg #[.int .i64 b, .int .i64 s, .int .i64 o, .int .i64 j, .bool k]] w fun e w' => e = .returned (.int .i64 (clN b)) ∧ Below w.heap.size w w' := by
  have hK := Kp.newR w b s o j k
  have HK := hide hK
  obtain ⟨c0, c1, c2, c3, c4⟩ := hK.box
  clear hK
  by_cases h1 : b < 9
  · have e : clN b = 512 := by unfold clN; rw [if_neg (by omega), if_neg (by omega), if_neg (by omega)]
    rw [e]
    go_enter Try.func10, Try.ntmps10
    go_wp2
    go_ret
    exact ⟨rfl, HK.out.below⟩
  · by_cases h2 : 12 < b
    · have e : clN b = 512 := by unfold clN; rw [if_neg (by omega), if_neg (by omega), if_neg (by omega)]
      rw [e]
      go_enter Try.func10, Try.ntmps10
      go_wp2
      go_ret
      exact ⟨rfl, HK.out.below⟩
    · have hcl : Hid (∀ q : Nat, (q : Int) + 9 = b → clN b = 512 * 2 ^ q) := hide (fun q hq => by
        have h3 : q = 0 ∨ q = 1 ∨ q = 2 ∨ q = 3 := by omega
        rcases h3 with rfl | rfl | rfl | rfl <;> (subst hq; rfl))
      go_enter Try.func10, Try.ntmps10
      go_wp2_with fail
      generalize hW : w.alloc (.cells #[.int .i64 b, .int .i64 s, .int .i64 o, .int .i64 j, .bool k] 24) = w1 at *
      go_loopw [3, 4] (fun v i wr => ∃ q : Nat, (q : Int) + 9 ≤ b ∧ i = .int .i64 ((q : Int) + 9) ∧ v = .int .i64 (512 * 2 ^ q) ∧ wr = w1) (fun _ i _ => (b - intOf i).toNat)
      case atStart => exact ⟨0, by omega, rfl, rfl, rfl⟩
      case round =>
        obtain ⟨q, hq, rfl, rfl, rfl⟩ := hrel
        by_cases hlt : (q : Int) + 9 < b
        · have h3 : q = 0 ∨ q = 1 ∨ q = 2 := by omega
          have HP : Hid ((512 : Int) * 2 ^ (q + 1) = 512 * 2 ^ q * 2) := hide (by rw [Int.pow_succ, Int.mul_assoc])
          have hpb : 0 ≤ (512 : Int) * 2 ^ q ∧ (512 : Int) * 2 ^ q ≤ 4096 := by rcases h3 with rfl | rfl | rfl <;> decide
          generalize (512 : Int) * 2 ^ q = y at *
          go_wp2_with fail
          go_roundw
          case rel => exact ⟨q + 1, by omega, by go_num, by rw [HP.out], trivial⟩
          case measure => simp [intOf]; omega
        · have he : (q : Int) + 9 = b := by omega
          have HE2 := hide (hcl.out q he)
          clear hcl
          generalize (512 : Int) * 2 ^ q = y at *
          go_wp2_with fail
          go_ret
          exact ⟨congrArg (fun z => Ending.returned (.int .i64 z)) HE2.out.symm, HK.out.below⟩

set_option maxHeartbeats 1000000 in
theorem refguest_any (b s o j : Int) (k : Bool) (w : World) : Calls Try.prog 19 #[.agg #[.int .i64 b, .int .i64 s, .int .i64 o, .int .i64 j, .bool k]] w fun e w' => e = .returned (.int .i64 (Hd.guest ⟨b, s, o, j, k⟩)) ∧ Below w.heap.size w w' := by
  have hK := Kp.newR w b s o j k
  have HK := hide hK.drew
  obtain ⟨c0, c1, c2, c3, c4⟩ := hK.box
  have HB := fun u => hide (between_any s 16777216 u)
  have hcb := cutN_bd (n := s) (most := 16777216) (by omega)
  have HC := fun u => hide (refcluster_any b s o j k u)
  have hcc := clN_cases b
  have HU := fun u => hide (units_any (cutN s 16777216) (clN b) (by omega) (by omega) u)
  clear hK
  have he : Hd.guest ⟨b, s, o, j, k⟩ = upN (cutN s 16777216) (clN b) := rfl
  rw [he]
  clear he
  generalize cutN s 16777216 = x at *
  generalize clN b = c at *
  generalize upN x c = y at *
  go_enter Try.func19, Try.ntmps19
  go_wp2_with fail
  go_region_held3 (fun u => u.cell? ⟨w.heap.size, 0, none⟩ = some (.int .i64 b) ∧ u.cell? ⟨w.heap.size, 1, none⟩ = some (.int .i64 s) ∧ u.cell? ⟨w.heap.size, 2, none⟩ = some (.int .i64 o) ∧ u.cell? ⟨w.heap.size, 3, none⟩ = some (.int .i64 j) ∧ u.cell? ⟨w.heap.size, 4, none⟩ = some (.bool k)) (first | go_keep | (with_reducible exact HK.out.box) | exact HK.out.box) (first
    | (go_at_call 36; refine ((HB _).out).mono ?_; rintro e9 w2 ⟨rfl, rfl⟩)
    | (go_at_call 35; refine ((HU _).out).mono ?_; rintro e9 w2 ⟨rfl, rfl⟩)
    | (go_at_call 10; refine ((HC _).out).mono ?_; rintro e9 w2 ⟨rfl, hb2⟩; have HK := hide (HK.out.step hb2); clear hb2))
  all_goals
    go_wp2
    go_ret
    exact ⟨rfl, HK.out.below⟩

set_option maxHeartbeats 1000000 in
theorem refrefs_any (b s o j : Int) (k : Bool) (w : World) : Calls Try.prog 38 #[.agg #[.int .i64 b, .int .i64 s, .int .i64 o, .int .i64 j, .bool k]] w fun e w' => e = .returned (.int .i64 (Hd.refs ⟨b, s, o, j, k⟩)) ∧ Below w.heap.size w w' := by
  have hK := Kp.newR w b s o j k
  have HK := hide hK.drew
  obtain ⟨c0, c1, c2, c3, c4⟩ := hK.box
  have HB := fun u => hide (between_any o 8192 u)
  have hcb := cutN_bd (n := o) (most := 8192) (by omega)
  have HC := fun u => hide (refcluster_any b s o j k u)
  have hcc := clN_cases b
  have HU := fun u => hide (units_any (2 * cutN o 8192) (clN b) (by omega) (by omega) u)
  clear hK
  have he : Hd.refs ⟨b, s, o, j, k⟩ = upN (2 * cutN o 8192) (clN b) := rfl
  rw [he]
  clear he
  generalize cutN o 8192 = x at *
  generalize clN b = c at *
  have hw : IntKind.i64.wrap (2 * x) = 2 * x := wrI (by omega) (by omega)
  obtain ⟨z, hz⟩ : ∃ z, z = 2 * x := ⟨_, rfl⟩
  rw [← hz] at HU hw ⊢
  have hw2 : IntKind.i64.wrap (2 * x) = z := by rw [← hz]; exact hw
  generalize upN z c = y at *
  clear hw hz
  go_enter Try.func38, Try.ntmps38
  go_wp2_with fail
  go_region_held3 (fun u => u.cell? ⟨w.heap.size, 0, none⟩ = some (.int .i64 b) ∧ u.cell? ⟨w.heap.size, 1, none⟩ = some (.int .i64 s) ∧ u.cell? ⟨w.heap.size, 2, none⟩ = some (.int .i64 o) ∧ u.cell? ⟨w.heap.size, 3, none⟩ = some (.int .i64 j) ∧ u.cell? ⟨w.heap.size, 4, none⟩ = some (.bool k)) (first | go_keep | (with_reducible exact HK.out.box) | exact HK.out.box) (first
    | (go_at_call 36; refine ((HB _).out).mono ?_; rintro e9 w2 ⟨rfl, rfl⟩)
    | (go_at_call 35; refine ((HU _).out).mono ?_; rintro e9 w2 ⟨rfl, rfl⟩)
    | (go_at_call 10; refine ((HC _).out).mono ?_; rintro e9 w2 ⟨rfl, hb2⟩; have HK := hide (HK.out.step hb2); clear hb2))
  all_goals
    go_wp2
    go_ret
    exact ⟨rfl, HK.out.below⟩

set_option maxHeartbeats 1000000 in
theorem refleast_any (b s o j : Int) (k : Bool) (w : World) : Calls Try.prog 23 #[.agg #[.int .i64 b, .int .i64 s, .int .i64 o, .int .i64 j, .bool k]] w fun e w' => e = .returned (.int .i64 (Hd.least ⟨b, s, o, j, k⟩)) ∧ Below w.heap.size w w' := by
  have hK := Kp.newR w b s o j k
  have HK := hide hK.drew
  obtain ⟨c0, c1, c2, c3, c4⟩ := hK.box
  have HS := fun u => hide (refrefs_any b s o j k u)
  have HC := fun u => hide (refcluster_any b s o j k u)
  have hrc := Hd.rc_bd ⟨b, s, o, j, k⟩
  have hrf := Hd.refs_bd ⟨b, s, o, j, k⟩
  have he : Hd.cl ⟨b, s, o, j, k⟩ = clN b := rfl
  have hcc := clN_cases b
  have hz : 4608 + (Hd.refs ⟨b, s, o, j, k⟩ + 18) * clN b ≤ 1000000000 := by rw [he] at hrc; omega
  have hz0 : 0 ≤ 4608 + (Hd.refs ⟨b, s, o, j, k⟩ + 18) * clN b := by rw [he] at hrc; omega
  have HH := fun u => hide (units_any (4608 + (Hd.refs ⟨b, s, o, j, k⟩ + 18) * clN b) (clN b) ⟨hz0, hz⟩ (by omega) u)
  have hl : Hd.least ⟨b, s, o, j, k⟩ = upN (4608 + (Hd.refs ⟨b, s, o, j, k⟩ + 18) * clN b) (clN b) := rfl
  rw [hl]
  rw [he] at hrc
  clear hK he hl hcc
  generalize Hd.refs ⟨b, s, o, j, k⟩ = x at *
  generalize clN b = c at *
  obtain ⟨y, hy⟩ : ∃ y, y = (x + 18) * c := ⟨_, rfl⟩
  have hw1 : IntKind.i64.wrap (x + 18) = x + 18 := wrI (by omega) (by omega)
  have hw2 : IntKind.i64.wrap ((x + 18) * c) = y := by rw [← hy]; exact wrI (by omega) (by omega)
  rw [← hy] at hrc hz hz0 HH ⊢
  have hw3 : IntKind.i64.wrap (4608 + y) = 4608 + y := wrI (by omega) (by omega)
  obtain ⟨z, hz⟩ : ∃ z, z = 4608 + y := ⟨_, rfl⟩
  rw [← hz] at hw3 HH ⊢
  have hw4 : IntKind.i64.wrap (4608 + y) = z := by rw [← hz]; exact hw3
  generalize upN z c = r at *
  clear hw3 hz hy hrc hz0
  go_enter Try.func23, Try.ntmps23
  go_wp2_with fail
  go_region_held3 (fun u => u.cell? ⟨w.heap.size, 0, none⟩ = some (.int .i64 b) ∧ u.cell? ⟨w.heap.size, 1, none⟩ = some (.int .i64 s) ∧ u.cell? ⟨w.heap.size, 2, none⟩ = some (.int .i64 o) ∧ u.cell? ⟨w.heap.size, 3, none⟩ = some (.int .i64 j) ∧ u.cell? ⟨w.heap.size, 4, none⟩ = some (.bool k)) (first | go_keep | (with_reducible exact HK.out.box) | exact HK.out.box) (first
    | (go_at_call 38; refine ((HS _).out).mono ?_; rintro e9 w2 ⟨rfl, hb2⟩; have HK := hide (HK.out.step hb2); clear hb2)
    | (go_at_call 10; refine ((HC _).out).mono ?_; rintro e9 w2 ⟨rfl, hb2⟩; have HK := hide (HK.out.step hb2); clear hb2)
    | (go_at_call 35; refine ((HH _).out).mono ?_; rintro e9 w2 ⟨rfl, rfl⟩))
  all_goals
    go_wp2_with fail
    go_ret
    exact ⟨rfl, HK.out.below⟩

set_option maxHeartbeats 2000000 in
theorem refat_any (b s o j : Int) (k : Bool) (p : Nat) (hp : p ≤ 5) (w : World) : Calls Try.prog 21 #[.agg #[.int .i64 b, .int .i64 s, .int .i64 o, .int .i64 j, .bool k], .int .i64 p] w fun e w' => e = .returned (.int .i64 (Hd.at_ ⟨b, s, o, j, k⟩ p)) ∧ Below w.heap.size w w' := by
  have hK := Kp.newR w b s o j k
  have HK := hide hK
  obtain ⟨c0, c1, c2, c3, c4⟩ := hK.box
  have HB := fun u => hide (between_any j 8192 u)
  have HS := fun u => hide (refrefs_any b s o j k u)
  have h1 := Hd.refs_bd ⟨b, s, o, j, k⟩
  have h2 := Hd.jour_bd ⟨b, s, o, j, k⟩
  have hj : Hd.jour ⟨b, s, o, j, k⟩ = cutN j 8192 := rfl
  clear hK
  have h3 : p = 0 ∨ p = 1 ∨ p = 2 ∨ p = 3 ∨ p = 4 ∨ p = 5 := by omega
  rcases h3 with rfl | rfl | rfl | rfl | rfl | rfl
  all_goals
    simp only [Hd.at_]
    rw [hj] at h2
    try simp only [hj]
    generalize Hd.refs ⟨b, s, o, j, k⟩ = x at *
    generalize cutN j 8192 = y at *
    clear hj
    go_enter Try.func21, Try.ntmps21
    go_wp2_with (first
      | (go_at_call 36; refine ((HB _).out).mono ?_; rintro e9 w2 ⟨rfl, rfl⟩)
      | (go_at_call 38; refine ((HS _).out).mono ?_; rintro e9 w2 ⟨rfl, hb2⟩; have HK := hide (HK.out.step hb2); clear hb2))
    go_ret
    exact ⟨rfl, HK.out.below⟩

end Go.Proofs.Ytpmljlmcfofppaa.Oct
