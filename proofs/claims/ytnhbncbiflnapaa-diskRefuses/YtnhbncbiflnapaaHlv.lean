/- A write of two sectors may be kept half: the example that each statement asks. -/
import Derived.Test.YtnhbncbiflnapaaCrs
namespace Go.Proofs.Ytnhbncbiflnapaa.Oct
open Go.RowKit Go.Deep

theorem run_make_u8 (w : World) (n : Nat) (hn : n ≤ 100000000) : (Instr.makeSlice 22 (.int .i64 n) (.int .i64 n)).run Try.prog w = .ok (.slice (some ⟨w.heap.size, 0, none⟩) n n) (w.alloc (.cells (madeCells #[.int .u8 0] n) 5)) := by
  obtain ⟨i0, hi, hz0, hz1, hz2⟩ := info_parts info5
  have h := run_make (P := Try.prog) w 22 5 i0 (.int .u8 0) Try.underlying22 hi hz0 .i64 .i64 (n : Int) (n : Int) (by omega) (Int.le_refl _) (by rw [hz2]; omega) (by omega)
  simpa [hz1, Value.cells] using h

set_option maxRecDepth 100000 in
theorem zeros_made (n : Nat) (w : World) (hn : n ≤ 1000000) :
    Calls Try.prog 28 #[.int .i64 n] w fun e w' => ∃ v, e = .returned v ∧ Own w' w.heap.size v (List.replicate n 0) ∧ Below w.heap.size w w' := by
  have hmk := run_make_u8 w n (by omega)
  have ho := Own.made w n (by unfold maxLen; omega)
  have HO := hide ho
  clear ho
  go_enter Try.func28, Try.ntmps28
  go_wp2
  go_ret
  exact ⟨.slice (some ⟨_, 0, none⟩) n n, rfl, HO.out, (Below.refl _ _).alloc (Nat.le_refl _) _⟩

theorem zeros_some (n : Nat) (i : Int) (hi : (n : Int) = i) (w : World) (hn : n ≤ 1000000) : ∃ T : List Int, T.length = n ∧ (∀ k : Nat, T.getD k 0 = 0) ∧
    Calls Try.prog 28 #[.int .i64 i] w fun e w' => ∃ v, e = .returned v ∧ Own w' w.heap.size v T ∧ Below w.heap.size w w' := by
  subst hi
  refine ⟨List.replicate n 0, List.length_replicate, fun k => ?_, zeros_made n w hn⟩
  rw [List.getD_eq_getElem?_getD, List.getElem?_replicate]
  split <;> rfl

theorem lies3 (w : World) (x y z : Int) : Lies (w.alloc (.cells #[.int .u8 x, .int .u8 y, .int .u8 z] 5)) (some ⟨w.heap.size, 0, none⟩) [x, y, z] := by
  obtain ⟨h0, h1, h2⟩ := box3 w 5 (.int .u8 x) (.int .u8 y) (.int .u8 z)
  refine Lies.mk fun k hk => ?_
  rw [Nat.zero_add]
  match k, hk with
  | 0, _ => exact h0
  | 1, _ => exact h1
  | 2, _ => exact h2
  | _ + 3, hk => simp at hk; omega

theorem box2 (w : World) (t : TypeId) (x y : Value) : (w.alloc (.cells #[x, y] t)).cell? ⟨w.heap.size, 0, none⟩ = some x ∧ (w.alloc (.cells #[x, y] t)).cell? ⟨w.heap.size, 1, none⟩ = some y := by
  have h : (w.alloc (.cells #[x, y] t)).heap[w.heap.size]? = some (.cells #[x, y] t) := heap_alloc_new w _
  simp only [World.cell?, h]
  exact ⟨rfl, rfl⟩

theorem liesB2 (w : World) (x y : Bool) : LiesB (w.alloc (.cells #[.bool x, .bool y] 4)) (some ⟨w.heap.size, 0, none⟩) [x, y] := by
  obtain ⟨h0, h1⟩ := box2 w 4 (.bool x) (.bool y)
  refine Or.inr ⟨w.heap.size, 0, rfl, by simp, fun k hk => ?_⟩
  rw [Nat.zero_add]
  match k, hk with
  | 0, _ => exact h0
  | 1, _ => exact h1
  | _ + 2, hk => simp at hk; omega

theorem cuts_example : cuts 510 [1, 2, 3] = [(510, [1, 2], false), (512, [3], false)] := by
  rw [cuts_step 510 [1, 2, 3] 2 (by simp) (by simp)]
  simp only [List.take, List.drop, Nat.reduceAdd]
  rw [cuts_step 512 [3] 1 (by simp) (by simp)]
  simp [cuts_nil]

theorem Wr.small_of {ps : List Wr} {at_ : Nat} {p : List Int} (h : ps.map Wr.dat = cuts at_ p) (hle : at_ + p.length ≤ 4194304) : Small ps := by
  have key : ∀ (n : Nat) (at_ : Nat) (p : List Int), p.length ≤ n → at_ + p.length ≤ 4194304 → ∀ d ∈ cuts at_ p, d.1 + d.2.1.length ≤ 4194304 := by
    intro n
    induction n with
    | zero =>
      intro at_ p hn _ d hd
      have : p = [] := List.length_eq_zero_iff.1 (by omega)
      subst this
      rw [cuts_nil] at hd
      simp at hd
    | succ n ih =>
      intro at_ p hn hle d hd
      by_cases hp : p = []
      · subst hp
        rw [cuts_nil] at hd
        simp at hd
      · have hpl := List.length_pos_iff.2 hp
        rw [cuts_step at_ p _ hp rfl] at hd
        rcases List.mem_cons.1 hd with rfl | hd
        · simp; omega
        · exact ih _ _ (by simp; omega) (by simp; omega) d hd
  intro r hr
  have := key p.length at_ p (Nat.le_refl _) hle r.dat (by rw [← h]; exact List.mem_map.2 ⟨r, hr, rfl⟩)
  exact this

theorem example_left (ps : List Wr) (T : List Int) (hT : T.length = 600) (h0 : ∀ k : Nat, T.getD k 0 = 0) (h : ps.map Wr.dat = [(510, [1, 2], false), (512, [3], false)]) :
    ps.length = 2 ∧ (left T ps [false, true] ps.length).length = 600 ∧ (left T ps [false, true] ps.length).getD 510 0 = 0 ∧ (left T ps [false, true] ps.length).getD 511 0 = 0 ∧ (left T ps [false, true] ps.length).getD 512 0 = 3 := by
  have hlen : ps.length = 2 := by simpa using congrArg List.length h
  obtain ⟨r0, r1, rfl⟩ : ∃ r0 r1, ps = [r0, r1] := by
    match ps, hlen with
    | [a, b], _ => exact ⟨a, b, rfl⟩
  simp only [List.map_cons, List.map_nil, Wr.dat, List.cons.injEq, Prod.mk.injEq, and_true] at h
  obtain ⟨_, h1, h2, h3⟩ := h
  have e : left T [r0, r1] [false, true] [r0, r1].length = laid r1 T := by simp [left]
  have e2 : laid r1 T = T.take 512 ++ (3 :: T.drop 513) := by
    unfold laid
    rw [h1, h2, h3, if_neg (by simp), hT]
    simp [over]
  have ht : (T.take 512).length = 512 := by rw [List.length_take, hT]; rfl
  rw [e, e2]
  refine ⟨rfl, ?_, ?_, ?_, ?_⟩
  · rw [List.length_append, ht, List.length_cons, List.length_drop, hT]
  · rw [List.getD_eq_getElem?_getD, List.getElem?_append_left (by rw [ht]; omega), List.getElem?_take_of_lt (by omega), ← List.getD_eq_getElem?_getD]
    exact h0 510
  · rw [List.getD_eq_getElem?_getD, List.getElem?_append_left (by rw [ht]; omega), List.getElem?_take_of_lt (by omega), ← List.getD_eq_getElem?_getD]
    exact h0 511
  · rw [List.getD_eq_getElem?_getD, List.getElem?_append_right (by rw [ht]; omega), ht]
    rfl

theorem Fil.new_block {w : World} {X : Nat → Prop} {F : Nat} {f : Fs} {S T : List Int} {R : List Wr} (h : Fil w X F f S T R) (o : Obj) : Fil (w.alloc o) X F f S T R :=
  h.chg (Y := fun _ => False) ((Chg.refl _ _).alloc _) (fun _ _ _ h => h)

theorem Fil.below_keeps {w w' : World} {X : Nat → Prop} {F : Nat} {f : Fs} {S T : List Int} {R : List Wr} (h : Fil w X F f S T R) (hb : Below w.heap.size w w') : Fil w' X F f S T R :=
  h.chg (Y := fun _ => False) (Chg.of_below hb) (fun _ _ _ h => h)

set_option maxHeartbeats 4000000 in
set_option maxRecDepth 100000 in
theorem halved_true (w : World) : Calls Try.prog 8 #[] w fun e w' => e = .returned (.bool true) ∧ Below w.heap.size w w' := by
  go_enter Try.func8, Try.ntmps8
  go_wp2_with fail
  obtain ⟨T, hTl, hT0, hz⟩ := zeros_some 600 600 rfl w (by omega)
  have HT0 := hide hT0
  have HTl := hide hTl
  clear hT0 hTl
  refine hz.mono ?_
  clear hz
  rintro e w1 ⟨v1, rfl, ho1, hb1⟩
  obtain ⟨a1, c1, e1, hs1, _⟩ := ho1.sl
  subst e1
  go_wp2_with fail
  refine (new_file w1 a1 c1 T hs1.lies (by rw [HTl.out]; omega)).mono ?_
  clear hs1 ho1
  rintro e w2 ⟨F, u1, u2, rfl, hf2, hb2⟩
  have HF2 : Hid (Fil w2 (fun k => w1.heap.size ≤ k ∧ k < w2.heap.size) F ⟨u1, u2, .slice none 0 0, 0, 0, 0, 0, false⟩ T T []) := hide (hf2.mono (fun k hk h => ⟨h, hk⟩))
  have HB2 : Hid (Below w.heap.size w w2) := hide (hb1.trans (hb2.mono hb1.size))
  have HS1 := hide hb1.size
  clear hf2 hb2 hb1
  go_wp2_with fail
  have HF3 := hide (HF2.out.new_block (.cells #[.int .u8 1, .int .u8 2, .int .u8 3] 5))
  have HB3 := hide (HB2.out.alloc HB2.out.size (.cells #[.int .u8 1, .int .u8 2, .int .u8 3] 5))
  have hL3 := lies3 w2 1 2 3
  have hw3 : (w2.alloc (.cells #[.int .u8 1, .int .u8 2, .int .u8 3] 5)).heap.size = w2.heap.size + 1 := by simp
  have hC := write_ok (w2.alloc (.cells #[.int .u8 1, .int .u8 2, .int .u8 3] 5)) _ F _ T T [] HF3.out 510 _ 3 [1, 2, 3] hL3 (fun _ x hx h => by cases hx; have := h.2; simp at this) (by simp) (by simp) (by simp) (by rw [HTl.out]; omega) (by simp) (by simp [Fs.said])
  refine hC.mono ?_
  clear hC hL3
  rintro e w4 ⟨rfl, ps, vs, vr, hps, hf4, hc4⟩
  have HPS := hide (hps.trans cuts_example)
  have HSm := hide (Wr.small_of hps (by simp))
  obtain ⟨f4, hf4e⟩ : ∃ f4 : Fs, f4 = { (Fs.asked ⟨u1, u2, .slice none 0 0, 0, 0, 0, 0, false⟩) with wrote := (0 : Int) + 1, vs := vs, vr := vr } := ⟨_, rfl⟩
  have hf4' : Fil w4 (fun k => (w1.heap.size ≤ k ∧ k < w2.heap.size) ∨ w2.heap.size + 1 ≤ k) F f4 (laidAll T ps) T ps := by
    rw [hf4e, ← hw3]
    simpa using hf4
  have HF4 := hide hf4'
  have HB4 : Hid (Below w.heap.size w w4) := hide (HB3.out.trans (hc4.below w.heap.size HB3.out.size (fun i hi h => by have := HS1.out; omega)))
  clear hps hf4 hf4' hf4e hc4 HF2 HF3
  go_wp2_with fail
  have HF5 := hide (HF4.out.new_block (.cells #[.bool false, .bool true] 4))
  have HB5 := hide (HB4.out.alloc HB4.out.size (.cells #[.bool false, .bool true] 4))
  have hK5 := liesB2 w4 false true
  have hps2 : ps.length = 2 := by simpa using congrArg List.length HPS.out
  obtain ⟨_, x1, x2, x3, x4⟩ := example_left ps T HTl.out HT0.out HPS.out
  have hC := crash_file (w4.alloc (.cells #[.bool false, .bool true] 4)) _ F f4 _ T ps HF5.out _ 2 [false, true] hK5 (by rw [HTl.out]; omega) HSm.out (by omega)
  obtain ⟨L, hL⟩ : ∃ L, L = left T ps [false, true] ps.length := ⟨_, rfl⟩
  rw [← hL] at hC x1 x2 x3 x4
  have HX1 := hide x1
  have HX := hide (And.intro x2 (And.intro x3 x4))
  have HPL := hide hps2
  clear hL hK5 x1 x2 x3 x4 hps2
  refine hC.mono ?_
  clear hC
  rintro e w6 ⟨v6, rfl, ho6, hb6⟩
  have HF6 := hide (HF5.out.below_keeps hb6)
  have HB6 := hide (HB5.out.trans (hb6.mono HB5.out.size))
  have hne : L ≠ [] := fun e => by have := HX1.out; rw [e] at this; simp at this
  obtain ⟨a6, c6, e6, hs6, hg6⟩ := ho6.sl
  obtain ⟨g6, rfl, _, _⟩ := hg6 hne
  subst e6
  have hcell : ∀ k, k < L.length → w6.cell? ⟨g6, 0 + k, none⟩ = some (.int .u8 (L.getD k 0)) := Own.lies ho6
  have y0 := hcell 510 (by rw [HX1.out]; omega)
  have y1 := hcell 511 (by rw [HX1.out]; omega)
  have y2 := hcell 512 (by rw [HX1.out]; omega)
  rw [HX.out.1, Nat.zero_add] at y0
  rw [HX.out.2.1, Nat.zero_add] at y1
  rw [HX.out.2.2, Nat.zero_add] at y2
  clear hcell hs6 ho6 hb6 hne
  obtain ⟨n6, hn6⟩ : ∃ n6, n6 = L.length := ⟨_, rfl⟩
  rw [← hn6]
  have hn600 : n6 = 600 := by rw [hn6]; exact HX1.out
  subst hn600
  clear hn6
  go_wp2_with fail
  have hwt := waiting_file w6 _ F f4 _ T ps HF6.out
  rw [HPL.out] at hwt
  refine hwt.mono ?_
  clear hwt
  rintro e w7 ⟨rfl, rfl⟩
  go_wp2_with fail
  go_ret
  exact ⟨rfl, HB6.out⟩

end Go.Proofs.Ytnhbncbiflnapaa.Oct
