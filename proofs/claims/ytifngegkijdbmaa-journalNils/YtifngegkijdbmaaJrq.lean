/- For every length and all places and sizes the statement JournalNils answers true and changes nothing that was there: a journal is whole sectors of a file, two at least; a nil one does nothing. No condition. -/
import Derived.Test.YtifngegkijdbmaaRows
import Derived.Test.YtifngegkijdbmaaJrp
import Derived.Test.YtifngegkijdbmaaOpen
namespace Go.Proofs.Ytifngegkijdbmaa.Oct
open Go.RowKit Go.Deep Go.ChangeShapes Go.WideShapes Go.ChangeAt

theorem nilj_none (w : World) : Calls Try.prog 32 #[.pointer none] w fun e w' => e = .returned (.bool true) ∧ w' = w := by
  go_enter Try.func32, Try.ntmps32
  go_wp2_with fail
  go_ret
  exact ⟨rfl, rfl⟩

theorem nilj_room (w : World) : Calls Try.prog 27 #[.pointer none] w fun e w' => e = .returned (.int .i64 0) ∧ w' = w := by
  go_enter Try.func27, Try.ntmps27
  go_wp2_with fail
  refine (nilj_none _).mono ?_
  rintro e9 w1 ⟨rfl, rfl⟩
  go_wp2_with fail
  go_ret
  exact ⟨rfl, rfl⟩

theorem nilj_where (w : World) : Calls Try.prog 28 #[.pointer none] w fun e w' => e = .returned (.agg #[.int .i64 0, .int .i64 0]) ∧ Below w.heap.size w w' := by
  have HX := hide (Blk.new w #[.int .i64 0, .int .i64 0] 70)
  have HB := hide ((Below.refl w.heap.size w).alloc (Nat.le_refl _) (.cells #[.int .i64 0, .int .i64 0] 70))
  go_enter Try.func28, Try.ntmps28
  go_wp2_with fail
  generalize w.alloc (.cells #[.int .i64 0, .int .i64 0] 70) = w1 at *
  refine (nilj_none _).mono ?_
  rintro e9 w2 ⟨rfl, rfl⟩
  have c0 := HX.out.cell 0 _ rfl
  have c1 := HX.out.cell 1 _ rfl
  have f0 := HX.out.frozen 0
  have f1 := HX.out.frozen 1
  go_wp2_with fail
  refine bodyPost_ret (results_cell_row rfl _ _ w.heap.size 70 _ (0, 0) _ rfl ((HX.out.set 0 (.int .i64 0)).set 1 (.int .i64 0)) Try.underlying70 rfl (by kernel_rfl)) rfl ?_
  exact ⟨rfl, (HB.out.setCell (p := ⟨w.heap.size, 0, none⟩) (Nat.le_refl _) _).setCell (p := ⟨w.heap.size, 1, none⟩) (Nat.le_refl _) _⟩

theorem nilj_commit (w : World) : Calls Try.prog 11 #[.pointer none, .slice none 0 0] w fun e w' => e = .returned (.int .i64 2) ∧ w' = w := by
  go_enter Try.func11, Try.ntmps11
  go_wp2_with fail
  refine (nilj_none _).mono ?_
  rintro e9 w1 ⟨rfl, rfl⟩
  go_wp2_with fail
  go_ret
  exact ⟨rfl, rfl⟩

theorem nilj_apply (w : World) : Calls Try.prog 12 #[.pointer none, .slice none 0 0] w fun e w' => e = .returned (.int .i64 2) ∧ w' = w := by
  go_enter Try.func12, Try.ntmps12
  go_wp2_with fail
  refine (nilj_none _).mono ?_
  rintro e9 w1 ⟨rfl, rfl⟩
  go_wp2_with fail
  go_ret
  exact ⟨rfl, rfl⟩

theorem nilj_clear (w : World) : Calls Try.prog 29 #[.pointer none] w fun e w' => e = .returned (.int .i64 2) ∧ w' = w := by
  go_enter Try.func29, Try.ntmps29
  go_wp2_with fail
  refine (nilj_none _).mono ?_
  rintro e9 w1 ⟨rfl, rfl⟩
  go_wp2_with fail
  go_ret
  exact ⟨rfl, rfl⟩

theorem nilj_pending (w : World) : Calls Try.prog 26 #[.pointer none] w fun e w' => e = .returned (.tuple #[.slice none 0 0, .bool false, .int .i64 2]) ∧ w' = w := by
  go_enter Try.func26, Try.ntmps26
  go_wp2_with fail
  refine (nilj_none _).mono ?_
  rintro e9 w1 ⟨rfl, rfl⟩
  go_wp2_with fail
  go_ret3
  exact ⟨rfl, rfl⟩

theorem nilj_replay (w : World) : Calls Try.prog 14 #[.pointer none] w fun e w' => e = .returned (.tuple #[.int .i64 0, .int .i64 2]) ∧ w' = w := by
  go_enter Try.func14, Try.ntmps14
  go_wp2_with fail
  refine (nilj_pending _).mono ?_
  rintro e9 w1 ⟨rfl, rfl⟩
  go_wp2_with fail
  go_ret2
  exact ⟨rfl, rfl⟩

theorem nilj_new (w : World) : Calls Try.prog 25 #[.pointer none, .int .i64 0, .int .i64 1024] w fun e w' => e = .returned (.tuple #[.pointer none, .int .i64 2]) ∧ w' = w := by
  go_enter Try.func25, Try.ntmps25
  go_wp2_with fail
  go_ret2
  exact ⟨rfl, rfl⟩

theorem tm512 (x : Int) : x.tmod 512 = 0 ↔ x % 512 = 0 := by
  by_cases h : 0 ≤ x
  · rw [Int.tmod_eq_emod_of_nonneg h]
  · have e : x.tmod 512 = -((-x).tmod 512) := by rw [Int.neg_tmod]; omega
    rw [e, Int.tmod_eq_emod_of_nonneg (by omega)]
    omega

set_option maxHeartbeats 1000000 in
theorem jnew_align (w : World) (F : Nat) (p s : Int) (h : p < 0 ∨ p.tmod 512 ≠ 0 ∨ s.tmod 512 ≠ 0) :
    Calls Try.prog 25 #[.pointer (some ⟨F, 0, none⟩), .int .i64 p, .int .i64 s] w fun e w' => e = .returned (.tuple #[.pointer none, .int .i64 19]) ∧ w' = w := by
  by_cases h1 : p < 0
  · clear h
    go_enter Try.func25, Try.ntmps25
    go_wp2_with fail
    go_ret2
    exact ⟨rfl, rfl⟩
  have d1 : decide (p < 0) = false := by simp; omega
  have d0 : 0 ≤ p := by omega
  by_cases h2 : p.tmod 512 ≠ 0
  · have d2 : (p.tmod 512 != 0) = true := by simpa using h2
    have e2 : (p % 512 != 0) = true := by have := tm512 p; simp; omega
    have g2 : ¬ p % 512 = 0 := by have := tm512 p; omega
    clear h
    go_enter Try.func25, Try.ntmps25
    go_wp2_with fail
    go_ret2
    exact ⟨rfl, rfl⟩
  have d2 : (p.tmod 512 != 0) = false := by simpa using h2
  have g2 : p % 512 = 0 := by have := tm512 p; simp at h2; omega
  have e2 : (p % 512 != 0) = false := by simp [g2]
  have h3 : s.tmod 512 ≠ 0 := by
    rcases h with h | h | h
    · exact absurd h h1
    · exact absurd h h2
    · exact h
  have d3 : (s.tmod 512 != 0) = true := by simpa using h3
  have e3 : (s % 512 != 0) = true := by have := tm512 s; simp; omega
  have g3 : ¬ s % 512 = 0 := by have := tm512 s; omega
  clear h h2
  go_enter Try.func25, Try.ntmps25
  go_wp2_with fail
  go_ret2
  exact ⟨rfl, rfl⟩

set_option maxHeartbeats 1000000 in
theorem jnew_range (w : World) (X : Nat → Prop) (F : Nat) (f : Fs) (A : A3) (k n : Nat) (h : Fl w X F f A k n) (p s : Int) (h1 : ¬ p < 0) (h2 : p.tmod 512 = 0) (h3 : s.tmod 512 = 0) (h4 : s < 1024 ∨ (A.S.length : Int) - s < p) (hs : s ≤ 9223372036854775807) :
    Calls Try.prog 25 #[.pointer (some ⟨F, 0, none⟩), .int .i64 p, .int .i64 s] w fun e w' => e = .returned (.tuple #[.pointer none, .int .i64 4]) ∧ w' = w := by
  have HL := hide (len_fl w X F f A k n h)
  have hl := h.s
  clear h
  generalize A.S.length = m at *
  have d1 : decide (p < 0) = false := by simp; omega
  have d0 : 0 ≤ p := by omega
  have d2 : (p.tmod 512 != 0) = false := by simp [h2]
  have g2 : p % 512 = 0 := (tm512 p).1 h2
  have e2 : (p % 512 != 0) = false := by simp [g2]
  have d3 : (s.tmod 512 != 0) = false := by simp [h3]
  have g3 : s % 512 = 0 := (tm512 s).1 h3
  have e3 : (s % 512 != 0) = false := by simp [g3]
  clear h2 h3
  by_cases h5 : s < 1024
  · have d4 : decide (s < 1024) = true := by simp; omega
    clear h4
    go_enter Try.func25, Try.ntmps25
    go_wp2_with fail
    go_ret2
    exact ⟨rfl, rfl⟩
  · have d4 : decide (s < 1024) = false := by simp; omega
    have d5 : decide ((m : Int) - s < p) = true := by simp; omega
    have d6 : wrap64 ((m : Int) - s) = (m : Int) - s := by unfold wrap64; omega
    clear h4
    go_enter Try.func25, Try.ntmps25
    go_wp2_with fail
    refine HL.out.mono ?_
    rintro e9 w2 ⟨rfl, h2⟩
    rw [h2]
    go_wp2_with fail
    go_ret2
    exact ⟨rfl, rfl⟩

set_option maxHeartbeats 8000000 in
set_option maxRecDepth 100000 in
theorem jnils_walk (x p s : Int) (hp : p ≤ 9223372036854775807) (hs : s ≤ 9223372036854775807) (w : World) : Calls Try.prog 5 #[.int .i64 x, .int .i64 p, .int .i64 s] w fun e w' => e = .returned (.bool true) ∧ Below w.heap.size w w' := by
  obtain ⟨m, hm, hm2⟩ : ∃ m : Nat, wrap64 ((IntKind.u64.wrap x).tmod 6000) = m ∧ m < 6000 := by
    have h0 : 0 ≤ IntKind.u64.wrap x := by rw [IntKind.wrap_u64]; omega
    have e : (IntKind.u64.wrap x).tmod 6000 = (IntKind.u64.wrap x) % 6000 := Int.tmod_eq_emod_of_nonneg h0
    have h1 : 0 ≤ (IntKind.u64.wrap x) % 6000 := Int.emod_nonneg _ (by omega)
    have h2 : (IntKind.u64.wrap x) % 6000 < 6000 := Int.emod_lt_of_pos _ (by omega)
    rw [e]
    generalize (IntKind.u64.wrap x) % 6000 = y at *
    refine ⟨y.toNat, ?_, by omega⟩
    unfold wrap64
    omega
  have HZ0 := hide (Zeros_any m w (by omega))
  obtain ⟨Z, hZ⟩ : ∃ Z, Z = List.replicate m (0 : Int) := ⟨_, rfl⟩
  have hZl : Z.length = m := by rw [hZ]; exact List.length_replicate
  rw [← hZ] at HZ0
  clear hZ
  go_enter Try.func5, Try.ntmps5
  go_wp2_with fail
  refine HZ0.out.mono ?_
  rintro e9 w1 ⟨v1, rfl, ho1, hb1⟩
  obtain ⟨a1, c1, rfl, hl1, _⟩ := ho1.form
  have HN1 := hide (new_fl w1 a1 c1 Z hl1 (by rw [hZl]; omega))
  rw [hZl] at HN1 ⊢
  have HB1 := hide hb1
  clear ho1 hl1 hb1
  go_wp2_with fail
  refine HN1.out.mono ?_
  rintro e9 w2 ⟨F, f, rfl, hf2, hf0, hb2⟩
  have HF2 := hide hf2
  have HB4 := hide (HB1.out.trans (hb2.mono HB1.out.size))
  have HAl := fun h => hide (jnew_align w2 F p s h)
  have HRg := fun h1 h2 h3 h4 => hide (jnew_range w2 _ F f _ _ _ hf2 p s h1 h2 h3 h4 hs)
  have HZl := hide hZl
  clear hf2 hf0 hb2 hm
  by_cases h1 : p < 0
  · have HC := hide ((HAl (Or.inl h1)).out)
    clear HAl HRg
    go_wp2_with fail
    refine (HC.out).mono ?_
    rintro e9 w4 ⟨rfl, h4⟩
    rw [h4]
    clear h4 w4
    clear HC
    go_wp2_with fail
    refine (nilj_replay _).mono ?_
    rintro e9 w5 ⟨rfl, h5⟩
    rw [h5]
    clear h5 w5
    go_wp2_with fail
    refine (nilj_pending _).mono ?_
    rintro e9 w5 ⟨rfl, h5⟩
    rw [h5]
    clear h5 w5
    go_wp2_with fail
    refine (nilj_new _).mono ?_
    rintro e9 w5 ⟨rfl, h5⟩
    rw [h5]
    clear h5 w5
    go_wp2_with fail
    refine (begun5_any _).mono ?_
    rintro e9 w5 ⟨rfl, hb5⟩
    have HB5 := hide (HB4.out.trans (hb5.mono HB4.out.size))
    clear hb5
    go_wp2_with fail
    refine (nilj_room _).mono ?_
    rintro e9 w6 ⟨rfl, h6⟩
    rw [h6]
    clear h6 w6
    go_wp2_with fail
    refine (nilj_where _).mono ?_
    rintro e9 w6 ⟨rfl, hb6⟩
    have HB6 := hide (HB5.out.trans (hb6.mono HB5.out.size))
    clear hb6
    go_wp2_with fail
    refine (nilj_commit _).mono ?_
    rintro e9 w7 ⟨rfl, h7⟩
    rw [h7]
    clear h7 w7
    go_wp2_with fail
    refine (nilj_apply _).mono ?_
    rintro e9 w7 ⟨rfl, h7⟩
    rw [h7]
    clear h7 w7
    go_wp2_with fail
    refine (nilj_clear _).mono ?_
    rintro e9 w7 ⟨rfl, h7⟩
    rw [h7]
    clear h7 w7
    go_wp2_with fail
    go_ret
    exact ⟨rfl, HB6.out⟩
  have d1 : decide (p < 0) = false := by simp; omega
  have d0 : 0 ≤ p := by omega
  by_cases h2 : p.tmod 512 = 0
  rotate_left
  · have HC := hide ((HAl (Or.inr (Or.inl h2))).out)
    have d2 : (p.tmod 512 != 0) = true := by simpa using h2
    have e2 : (p % 512 != 0) = true := by have := tm512 p; simp; omega
    have g2 : ¬ p % 512 = 0 := by have := tm512 p; omega
    clear HAl HRg h2
    go_wp2_with fail
    refine (HC.out).mono ?_
    rintro e9 w4 ⟨rfl, h4⟩
    rw [h4]
    clear h4 w4
    clear HC
    go_wp2_with fail
    refine (nilj_replay _).mono ?_
    rintro e9 w5 ⟨rfl, h5⟩
    rw [h5]
    clear h5 w5
    go_wp2_with fail
    refine (nilj_pending _).mono ?_
    rintro e9 w5 ⟨rfl, h5⟩
    rw [h5]
    clear h5 w5
    go_wp2_with fail
    refine (nilj_new _).mono ?_
    rintro e9 w5 ⟨rfl, h5⟩
    rw [h5]
    clear h5 w5
    go_wp2_with fail
    refine (begun5_any _).mono ?_
    rintro e9 w5 ⟨rfl, hb5⟩
    have HB5 := hide (HB4.out.trans (hb5.mono HB4.out.size))
    clear hb5
    go_wp2_with fail
    refine (nilj_room _).mono ?_
    rintro e9 w6 ⟨rfl, h6⟩
    rw [h6]
    clear h6 w6
    go_wp2_with fail
    refine (nilj_where _).mono ?_
    rintro e9 w6 ⟨rfl, hb6⟩
    have HB6 := hide (HB5.out.trans (hb6.mono HB5.out.size))
    clear hb6
    go_wp2_with fail
    refine (nilj_commit _).mono ?_
    rintro e9 w7 ⟨rfl, h7⟩
    rw [h7]
    clear h7 w7
    go_wp2_with fail
    refine (nilj_apply _).mono ?_
    rintro e9 w7 ⟨rfl, h7⟩
    rw [h7]
    clear h7 w7
    go_wp2_with fail
    refine (nilj_clear _).mono ?_
    rintro e9 w7 ⟨rfl, h7⟩
    rw [h7]
    clear h7 w7
    go_wp2_with fail
    go_ret
    exact ⟨rfl, HB6.out⟩
  have d2 : (p.tmod 512 != 0) = false := by simp [h2]
  have g2 : p % 512 = 0 := (tm512 p).1 h2
  have e2 : (p % 512 != 0) = false := by simp [g2]
  by_cases h3 : s.tmod 512 = 0
  rotate_left
  · have HC := hide ((HAl (Or.inr (Or.inr h3))).out)
    have d3 : (s.tmod 512 != 0) = true := by simpa using h3
    have e3 : (s % 512 != 0) = true := by have := tm512 s; simp; omega
    have g3 : ¬ s % 512 = 0 := by have := tm512 s; omega
    clear HAl HRg h2 h3
    go_wp2_with fail
    refine (HC.out).mono ?_
    rintro e9 w4 ⟨rfl, h4⟩
    rw [h4]
    clear h4 w4
    clear HC
    go_wp2_with fail
    refine (nilj_replay _).mono ?_
    rintro e9 w5 ⟨rfl, h5⟩
    rw [h5]
    clear h5 w5
    go_wp2_with fail
    refine (nilj_pending _).mono ?_
    rintro e9 w5 ⟨rfl, h5⟩
    rw [h5]
    clear h5 w5
    go_wp2_with fail
    refine (nilj_new _).mono ?_
    rintro e9 w5 ⟨rfl, h5⟩
    rw [h5]
    clear h5 w5
    go_wp2_with fail
    refine (begun5_any _).mono ?_
    rintro e9 w5 ⟨rfl, hb5⟩
    have HB5 := hide (HB4.out.trans (hb5.mono HB4.out.size))
    clear hb5
    go_wp2_with fail
    refine (nilj_room _).mono ?_
    rintro e9 w6 ⟨rfl, h6⟩
    rw [h6]
    clear h6 w6
    go_wp2_with fail
    refine (nilj_where _).mono ?_
    rintro e9 w6 ⟨rfl, hb6⟩
    have HB6 := hide (HB5.out.trans (hb6.mono HB5.out.size))
    clear hb6
    go_wp2_with fail
    refine (nilj_commit _).mono ?_
    rintro e9 w7 ⟨rfl, h7⟩
    rw [h7]
    clear h7 w7
    go_wp2_with fail
    refine (nilj_apply _).mono ?_
    rintro e9 w7 ⟨rfl, h7⟩
    rw [h7]
    clear h7 w7
    go_wp2_with fail
    refine (nilj_clear _).mono ?_
    rintro e9 w7 ⟨rfl, h7⟩
    rw [h7]
    clear h7 w7
    go_wp2_with fail
    go_ret
    exact ⟨rfl, HB6.out⟩
  have d3 : (s.tmod 512 != 0) = false := by simp [h3]
  have g3 : s % 512 = 0 := (tm512 s).1 h3
  have e3 : (s % 512 != 0) = false := by simp [g3]
  by_cases h4 : s < 1024
  · have HC := hide ((HRg h1 h2 h3 (Or.inl h4)).out)
    have d4 : decide (s < 1024) = true := by simp; omega
    clear HAl HRg h2 h3
    go_wp2_with fail
    refine (HC.out).mono ?_
    rintro e9 w4 ⟨rfl, h4⟩
    rw [h4]
    clear h4 w4
    clear HC
    go_wp2_with fail
    refine (nilj_replay _).mono ?_
    rintro e9 w5 ⟨rfl, h5⟩
    rw [h5]
    clear h5 w5
    go_wp2_with fail
    refine (nilj_pending _).mono ?_
    rintro e9 w5 ⟨rfl, h5⟩
    rw [h5]
    clear h5 w5
    go_wp2_with fail
    refine (nilj_new _).mono ?_
    rintro e9 w5 ⟨rfl, h5⟩
    rw [h5]
    clear h5 w5
    go_wp2_with fail
    refine (begun5_any _).mono ?_
    rintro e9 w5 ⟨rfl, hb5⟩
    have HB5 := hide (HB4.out.trans (hb5.mono HB4.out.size))
    clear hb5
    go_wp2_with fail
    refine (nilj_room _).mono ?_
    rintro e9 w6 ⟨rfl, h6⟩
    rw [h6]
    clear h6 w6
    go_wp2_with fail
    refine (nilj_where _).mono ?_
    rintro e9 w6 ⟨rfl, hb6⟩
    have HB6 := hide (HB5.out.trans (hb6.mono HB5.out.size))
    clear hb6
    go_wp2_with fail
    refine (nilj_commit _).mono ?_
    rintro e9 w7 ⟨rfl, h7⟩
    rw [h7]
    clear h7 w7
    go_wp2_with fail
    refine (nilj_apply _).mono ?_
    rintro e9 w7 ⟨rfl, h7⟩
    rw [h7]
    clear h7 w7
    go_wp2_with fail
    refine (nilj_clear _).mono ?_
    rintro e9 w7 ⟨rfl, h7⟩
    rw [h7]
    clear h7 w7
    go_wp2_with fail
    go_ret
    exact ⟨rfl, HB6.out⟩
  have d4 : decide (s < 1024) = false := by simp; omega
  by_cases h5 : (m : Int) < p
  · have HC := hide ((HRg h1 h2 h3 (Or.inr (by show (Z.length : Int) - s < p; rw [HZl.out]; omega))).out)
    have d5 : decide ((m : Int) < p) = true := by simp; omega
    clear HAl HRg h2 h3
    go_wp2_with fail
    refine (HC.out).mono ?_
    rintro e9 w4 ⟨rfl, h4⟩
    rw [h4]
    clear h4 w4
    clear HC
    go_wp2_with fail
    refine (nilj_replay _).mono ?_
    rintro e9 w5 ⟨rfl, h5⟩
    rw [h5]
    clear h5 w5
    go_wp2_with fail
    refine (nilj_pending _).mono ?_
    rintro e9 w5 ⟨rfl, h5⟩
    rw [h5]
    clear h5 w5
    go_wp2_with fail
    refine (nilj_new _).mono ?_
    rintro e9 w5 ⟨rfl, h5⟩
    rw [h5]
    clear h5 w5
    go_wp2_with fail
    refine (begun5_any _).mono ?_
    rintro e9 w5 ⟨rfl, hb5⟩
    have HB5 := hide (HB4.out.trans (hb5.mono HB4.out.size))
    clear hb5
    go_wp2_with fail
    refine (nilj_room _).mono ?_
    rintro e9 w6 ⟨rfl, h6⟩
    rw [h6]
    clear h6 w6
    go_wp2_with fail
    refine (nilj_where _).mono ?_
    rintro e9 w6 ⟨rfl, hb6⟩
    have HB6 := hide (HB5.out.trans (hb6.mono HB5.out.size))
    clear hb6
    go_wp2_with fail
    refine (nilj_commit _).mono ?_
    rintro e9 w7 ⟨rfl, h7⟩
    rw [h7]
    clear h7 w7
    go_wp2_with fail
    refine (nilj_apply _).mono ?_
    rintro e9 w7 ⟨rfl, h7⟩
    rw [h7]
    clear h7 w7
    go_wp2_with fail
    refine (nilj_clear _).mono ?_
    rintro e9 w7 ⟨rfl, h7⟩
    rw [h7]
    clear h7 w7
    go_wp2_with fail
    go_ret
    exact ⟨rfl, HB6.out⟩
  have d5 : decide ((m : Int) < p) = false := by simp; omega
  have d6 : wrap64 ((m : Int) - p) = (m : Int) - p := by unfold wrap64; omega
  by_cases h6 : (m : Int) - p < s
  · have HC := hide ((HRg h1 h2 h3 (Or.inr (by show (Z.length : Int) - s < p; rw [HZl.out]; omega))).out)
    have d7 : decide ((m : Int) - p < s) = true := by simp; omega
    clear HAl HRg h2 h3
    go_wp2_with fail
    refine (HC.out).mono ?_
    rintro e9 w4 ⟨rfl, h4⟩
    rw [h4]
    clear h4 w4
    clear HC
    go_wp2_with fail
    refine (nilj_replay _).mono ?_
    rintro e9 w5 ⟨rfl, h5⟩
    rw [h5]
    clear h5 w5
    go_wp2_with fail
    refine (nilj_pending _).mono ?_
    rintro e9 w5 ⟨rfl, h5⟩
    rw [h5]
    clear h5 w5
    go_wp2_with fail
    refine (nilj_new _).mono ?_
    rintro e9 w5 ⟨rfl, h5⟩
    rw [h5]
    clear h5 w5
    go_wp2_with fail
    refine (begun5_any _).mono ?_
    rintro e9 w5 ⟨rfl, hb5⟩
    have HB5 := hide (HB4.out.trans (hb5.mono HB4.out.size))
    clear hb5
    go_wp2_with fail
    refine (nilj_room _).mono ?_
    rintro e9 w6 ⟨rfl, h6⟩
    rw [h6]
    clear h6 w6
    go_wp2_with fail
    refine (nilj_where _).mono ?_
    rintro e9 w6 ⟨rfl, hb6⟩
    have HB6 := hide (HB5.out.trans (hb6.mono HB5.out.size))
    clear hb6
    go_wp2_with fail
    refine (nilj_commit _).mono ?_
    rintro e9 w7 ⟨rfl, h7⟩
    rw [h7]
    clear h7 w7
    go_wp2_with fail
    refine (nilj_apply _).mono ?_
    rintro e9 w7 ⟨rfl, h7⟩
    rw [h7]
    clear h7 w7
    go_wp2_with fail
    refine (nilj_clear _).mono ?_
    rintro e9 w7 ⟨rfl, h7⟩
    rw [h7]
    clear h7 w7
    go_wp2_with fail
    go_ret
    exact ⟨rfl, HB6.out⟩
  have d7 : decide ((m : Int) - p < s) = false := by simp; omega
  obtain ⟨pn, rfl⟩ := Int.eq_ofNat_of_zero_le (show 0 ≤ p by omega)
  obtain ⟨sn, rfl⟩ := Int.eq_ofNat_of_zero_le (show 0 ≤ s by omega)
  have hp9 : pn % 512 = 0 := by rw [Int.tmod_eq_emod_of_nonneg (by omega)] at h2; omega
  have hs9 : sn % 512 = 0 := by rw [Int.tmod_eq_emod_of_nonneg (by omega)] at h3; omega
  have HC := hide (jnew_fl w2 _ F f _ _ _ HF2.out pn sn hp9 hs9 (by omega) (by show pn + sn ≤ Z.length; rw [HZl.out]; omega))
  clear HAl HRg h2 h3
  go_wp2_with fail
  refine HC.out.mono ?_
  rintro e9 w4 ⟨J, rfl, _, _, hb4⟩
  have HB4 := hide (HB4.out.trans (hb4.mono HB4.out.size))
  clear hb4
  clear HC
  go_wp2_with fail
  refine (nilj_replay _).mono ?_
  rintro e9 w5 ⟨rfl, h5⟩
  rw [h5]
  clear h5 w5
  go_wp2_with fail
  refine (nilj_pending _).mono ?_
  rintro e9 w5 ⟨rfl, h5⟩
  rw [h5]
  clear h5 w5
  go_wp2_with fail
  refine (nilj_new _).mono ?_
  rintro e9 w5 ⟨rfl, h5⟩
  rw [h5]
  clear h5 w5
  go_wp2_with fail
  refine (begun5_any _).mono ?_
  rintro e9 w5 ⟨rfl, hb5⟩
  have HB5 := hide (HB4.out.trans (hb5.mono HB4.out.size))
  clear hb5
  go_wp2_with fail
  refine (nilj_room _).mono ?_
  rintro e9 w6 ⟨rfl, h6⟩
  rw [h6]
  clear h6 w6
  go_wp2_with fail
  refine (nilj_where _).mono ?_
  rintro e9 w6 ⟨rfl, hb6⟩
  have HB6 := hide (HB5.out.trans (hb6.mono HB5.out.size))
  clear hb6
  go_wp2_with fail
  refine (nilj_commit _).mono ?_
  rintro e9 w7 ⟨rfl, h7⟩
  rw [h7]
  clear h7 w7
  go_wp2_with fail
  refine (nilj_apply _).mono ?_
  rintro e9 w7 ⟨rfl, h7⟩
  rw [h7]
  clear h7 w7
  go_wp2_with fail
  refine (nilj_clear _).mono ?_
  rintro e9 w7 ⟨rfl, h7⟩
  rw [h7]
  clear h7 w7
  go_wp2_with fail
  go_ret
  exact ⟨rfl, HB6.out⟩

set_option maxRecDepth 100000 in
theorem journalNils_lifted (os : Os) (started : os.Started) (H : Type) (enc : TypeId × Value → H) :
    ReturnsInHanded {} Try.checked os 5 .any (Rows.journalNilsSpec.pre6 enc Try.prog Try.f5 Rows.journalNilsRow.domain false) (Rows.journalNilsSpec.post enc Try.prog Try.f5 false true false false) := by
  refine returnsInHanded_of_change (C := Try.checked) own started (by kernel_rfl) Try.func5
    (ChangeSpec.witness6 (enc := enc) (C := Try.checked) false ⟨#[], #[.int .i64 0, .int .i64 0, .int .i64 0], []⟩ 8 (by kernel_rfl) (by kernel_rfl) (by kernel_rfl) (by kernel_rfl)) ?_
  intro W base args ds gs before hval0 hW _ _
  have hval : ∀ (j : Nat) t v, Try.f5.params[j]? = some t → args[j]? = some v → Value.okWide Try.prog W .any base t v := hval0
  have hW' := hW
  obtain ⟨p, q, hA0, hV, rfl, hfz, hnd⟩ := hW
  have hA : DataW.TrodAll enc Try.prog W 0 (fun _ => true) true Try.f5.params.toList args.toList ds p := hA0
  rw [Try.params5] at hA hval
  obtain ⟨v0, vs0, d0, ds0, p0, q0, hargs0, rfl, rfl, h0, r0⟩ := trodAll_cons hA
  obtain ⟨v1, vs1, d1, ds1, p1, q1, hargs1, rfl, rfl, h1, r1⟩ := trodAll_cons r0
  obtain ⟨v2, vs2, d2, ds2, p2, q2, hargs2, rfl, rfl, h2, r2⟩ := trodAll_cons r1
  obtain ⟨rfl, rfl, rfl⟩ := trodAll_nil r2
  subst hargs2
  subst hargs1
  obtain rfl : args = #[v0, v1, v2] := by cases args; simp_all
  obtain ⟨rfl, rfl⟩ := trodVars_none hV
  simp only [List.append_nil] at hW'
  obtain ⟨x0, rfl, rfl, rfl, w0⟩ := open_int Try.underlying3 (hval 0 3 v0 rfl rfl) h0
  obtain ⟨x1, rfl, rfl, rfl, w1⟩ := open_int Try.underlying2 (hval 1 2 v1 rfl rfl) h1
  obtain ⟨x2, rfl, rfl, rfl, w2⟩ := open_int Try.underlying2 (hval 2 2 v2 rfl rfl) h2
  clear hA0
  refine (jnils_walk x0 x1 x2 (wf_i64 w1).2 (wf_i64 w2).2 W).mono fun e W' ⟨he, hb⟩ => ?_
  subst he
  refine ⟨_, rfl, _, _, _, [], ([] ++ ([] ++ ([] ++ []))), [], hW', ?_, ?_, rfl, hb.frame _, fun h => by cases h⟩
  · exact trodAll_cons_mk (shut_bool Try.underlying4 _) trodAll_mk0
  · exact trodAll_cons_mk (shut_int Try.underlying3 w0) (trodAll_cons_mk (shut_int Try.underlying2 w1) (trodAll_cons_mk (shut_int Try.underlying2 w2) (trodAll_mk0)))

theorem journalNils_holds : Rows.JournalNilsSaid :=
  OpenClaim.holds_of_wide 5 Try.f5 rfl rfl rfl rfl rfl rfl rfl ⟨rfl, rfl, rfl, rfl, rfl⟩ rfl rfl rfl rfl rfl (by kernel_rfl) Try.func5 (by kernel_rfl)
    (of_decide_eq_true (by kernel_rfl)) (by unfold Func.isWrapper; first | (rw [if_pos (by decide +kernel)]; kernel_rfl) | (rw [if_neg (by decide +kernel)]; exact ⟨rfl, rfl⟩))
    (fun os started H enc _ => journalNils_lifted os started H enc)
end Go.Proofs.Ytifngegkijdbmaa.Oct
