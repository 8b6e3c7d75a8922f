/- For all numbers, places and bytes the statement DiskNils answers true and changes nothing that was there: a nil file refuses all; a file may not be longer than the most. No condition. -/
import Derived.Test.YtnhbncbiflnapaaRows
import Derived.Test.YtnhbncbiflnapaaNil2
import Derived.Test.YtnhbncbiflnapaaOpen
namespace Go.Proofs.Ytnhbncbiflnapaa.Oct
open Go.RowKit Go.Deep Go.ChangeShapes Go.WideShapes Go.ChangeAt

theorem lies1 (w : World) (x : Int) : Lies (w.alloc (.cells #[.int .u8 x] 5)) (some ⟨w.heap.size, 0, none⟩) [x] := by
  refine Lies.mk fun k hk => ?_
  rw [Nat.zero_add]
  match k, hk with
  | 0, _ =>
    have h : (w.alloc (.cells #[.int .u8 x] 5)).heap[w.heap.size]? = some (.cells #[.int .u8 x] 5) := heap_alloc_new w _
    simp only [World.cell?, h]
    rfl
  | _ + 1, hk => simp at hk

theorem made_some (w : World) (n : Nat) (hn : n ≤ 100000000) : ∃ T : List Int, T.length = n ∧ (Instr.makeSlice 22 (.int .i64 n) (.int .i64 n)).run Try.prog w = .ok (.slice (some ⟨w.heap.size, 0, none⟩) n n) (w.alloc (.cells (madeCells #[.int .u8 0] n) 5)) ∧
    Lies (w.alloc (.cells (madeCells #[.int .u8 0] n) 5)) (some ⟨w.heap.size, 0, none⟩) T := by
  refine ⟨List.replicate n 0, List.length_replicate, run_make_u8 w n hn, ?_⟩
  have := Own.made w n (by unfold maxLen; omega)
  refine Lies.mk ?_
  have h2 : Own (w.alloc (.cells (madeCells #[.int .u8 0] n) 5)) w.heap.size (.slice (some ⟨w.heap.size, 0, none⟩) (List.replicate n (0 : Int)).length n) (List.replicate n 0) := by rw [List.length_replicate]; exact this
  exact Own.lies h2

theorem made_at (w : World) (n : Nat) (i : Int) (hi : (n : Int) = i) (hn : n ≤ 100000000) : ∃ (T : List Int) (w' : World), T.length = n ∧ (Instr.makeSlice 22 (.int .i64 i) (.int .i64 i)).run Try.prog w = .ok (.slice (some ⟨w.heap.size, 0, none⟩) n n) w' ∧
    Lies w' (some ⟨w.heap.size, 0, none⟩) T ∧ Below w.heap.size w w' := by
  subst hi
  obtain ⟨T, h1, h2, h3⟩ := made_some w n hn
  exact ⟨T, _, h1, h2, h3, (Below.refl _ _).alloc (Nat.le_refl _) _⟩

set_option maxHeartbeats 4000000 in
set_option maxRecDepth 100000 in
theorem nils_walk (n at_ : Int) (a : Option Addr) (cap : Nat) (l : List Int) (w : World) :
    Calls Try.prog 6 #[.int .i64 n, .int .i64 at_, .slice a l.length cap] w fun e w' => e = .returned (.bool true) ∧ Below w.heap.size w w' := by
  go_enter Try.func6, Try.ntmps6
  go_wp2_with (first
    | (go_at_call 24; refine (nil_Refuse _ _).mono ?_; rintro e w' ⟨rfl, rfl⟩)
    | (go_at_call 25; refine (nil_Stop _ _).mono ?_; rintro e w' ⟨rfl, rfl⟩)
    | (go_at_call 26; refine (nil_read _ _ _).mono ?_; rintro e w' ⟨rfl, rfl⟩))
  refine (halved_true _).mono ?_
  rintro e w1 ⟨rfl, hb1⟩
  have HB1 := hide hb1
  clear hb1
  go_wp2_with (first
    | (go_at_call 23; refine (nil_write _ _ _).mono ?_; rintro e w' ⟨rfl, rfl⟩)
    | (go_at_call 27; refine (nil_trunc _ _).mono ?_; rintro e w' ⟨rfl, rfl⟩)
    | (go_at_call 22; refine (nil_flush _).mono ?_; rintro e w' ⟨rfl, rfl⟩)
    | (go_at_call 19; refine (nil_Len _).mono ?_; rintro e w' ⟨rfl, rfl⟩)
    | (go_at_call 18; refine (nil_Bytes _).mono ?_; rintro e w' ⟨rfl, rfl⟩)
    | (go_at_call 20; refine (nil_Crash _ _).mono ?_; rintro e w' ⟨rfl, rfl⟩)
    | (go_at_call 12; refine (nil_Ops _).mono ?_; rintro e w' ⟨rfl, rfl⟩)
    | (go_at_call 13; refine (nil_Wrote _).mono ?_; rintro e w' ⟨rfl, rfl⟩)
    | (go_at_call 14; refine (nil_Waiting _).mono ?_; rintro e w' ⟨rfl, rfl⟩)
    | (go_at_call 15; refine (nil_Stopped _).mono ?_; rintro e w' ⟨rfl, rfl⟩))
  · go_ret
    exact ⟨rfl, HB1.out.alloc HB1.out.size _⟩
  · have HB2 := hide (HB1.out.alloc HB1.out.size (.cells #[.bool true] 4))
    obtain ⟨W, hW⟩ : ∃ W, W = w'.alloc (.cells #[.bool true] 4) := ⟨_, rfl⟩
    rw [← hW] at HB2 ⊢
    clear hW
    obtain ⟨T, w3, hTl, hmk, hL3, hb3⟩ := made_at W 4194305 4194305 rfl (by omega)
    have HL3 : Hid (Lies w3 (some ⟨W.heap.size, 1, none⟩) (T.drop 1)) := hide (by
      have := hL3.of_part 1 T.length
      rw [List.take_of_length_le (by simp)] at this
      simpa using this)
    have HTl : Hid ((T.drop 1).length = 4194304) := hide (by rw [List.length_drop, hTl])
    have HB3 := hide (HB2.out.trans (hb3.mono HB2.out.size))
    clear hTl hL3 hb3
    rw [hmk]
    clear hmk
    go_wp2_with fail
    refine (new_big _ _ _ 4194305 (by omega) (by omega)).mono ?_
    rintro e w4 ⟨rfl, hw4⟩
    subst hw4
    go_wp2_with fail
    have hN := new_file w4 (some ⟨W.heap.size, 1, none⟩) 4194304 (T.drop 1) HL3.out (by rw [HTl.out]; omega)
    rw [HTl.out] at hN
    refine hN.mono ?_
    clear hN
    rintro e w5 ⟨F, u1, u2, rfl, hf5, hb5⟩
    have HF5 : Hid (Fil w5 (fun k => w4.heap.size ≤ k ∧ k < w5.heap.size) F ⟨u1, u2, .slice none 0 0, 0, 0, 0, 0, false⟩ (T.drop 1) (T.drop 1) []) := hide (hf5.mono (fun k hk h => ⟨h, hk⟩))
    have HS4 := hide HB3.out.size
    have HB5 := hide (HB3.out.trans (hb5.mono HB3.out.size))
    clear hf5 hb5
    go_wp2_with fail
    have HF6 := hide (HF5.out.new_block (.cells #[.int .u8 1] 5))
    have HB6 := hide (HB5.out.alloc HB5.out.size (.cells #[.int .u8 1] 5))
    have hC := write_big (w5.alloc (.cells #[.int .u8 1] 5)) _ F _ _ _ [] HF6.out (by simp) (by simp [Fs.said]) 4194304 (some ⟨w5.heap.size, 0, none⟩) 1 1 (by omega) (by omega) (by omega)
    refine hC.mono ?_
    clear hC
    rintro e w7 ⟨rfl, hf7, hc7⟩
    have HF7 : Hid (Fil w7 (fun k => w4.heap.size ≤ k ∧ k < w5.heap.size) F ⟨u1, u2, .slice none 0 0, 1, 0, 0, 0, false⟩ (T.drop 1) (T.drop 1) []) := hide (by simpa [Fs.asked] using hf7)
    have HB7 := hide (HB6.out.trans (hc7.below _ HB6.out.size (fun i hi h => by have := HS4.out; have := HF5.out.xF.1; omega)))
    have hw5 : w5.heap.size ≤ w7.heap.size := by have := hc7.size; simp at this; omega
    have HW5 := hide hw5
    clear hf7 hc7 hw5 HF6 HB6
    go_wp2_with fail
    have HF8 := hide (HF7.out.new_block (.cells #[.int .u8 1] 5))
    have HB8 := hide (HB7.out.alloc HB7.out.size (.cells #[.int .u8 1] 5))
    have hL8 := lies1 w7 1
    have hC := write_ok (w7.alloc (.cells #[.int .u8 1] 5)) _ F _ (T.drop 1) (T.drop 1) [] HF8.out 4194303 _ 1 [1] hL8 (fun x hx h => by cases hx; have := h.2; have := HW5.out; simp at *; omega) (by simp) (by simp) (by simp) (by rw [HTl.out]; exact Nat.le_refl _) (by simp) (by simp [Fs.said])
    refine hC.mono ?_
    clear hC hL8
    rintro e w9 ⟨rfl, ps, vs, vr, hps, hf9, hc9⟩
    have HF9 := hide hf9
    have HB9 := hide (HB8.out.trans (hc9.below _ HB8.out.size (fun i hi h => by have := HS4.out; omega)))
    clear hps hf9 hc9
    go_wp2_with fail
    have hC := trunc_big w9 _ F _ _ _ _ HF9.out (by simp [Fs.asked]) (by simp [Fs.said, Fs.asked]) 4194305 (by omega)
    refine hC.mono ?_
    clear hC
    rintro e w10 ⟨rfl, hf10, hc10⟩
    have HB10 := hide (HB9.out.trans (hc10.below _ HB9.out.size (fun i hi h => by have := HS4.out; have := HF5.out.xF.1; omega)))
    clear hf10 hc10
    go_wp2_with fail
    go_ret
    exact ⟨rfl, HB10.out⟩

set_option maxRecDepth 100000 in
theorem diskNils_lifted (os : Os) (started : os.Started) (H : Type) (enc : TypeId × Value → H) :
    ReturnsInHanded {} Try.checked os 6 .any (Rows.diskNilsSpec.pre6 enc Try.prog Try.f6 Rows.diskNilsRow.domain false) (Rows.diskNilsSpec.post enc Try.prog Try.f6 false true false false) := by
  refine returnsInHanded_of_change (C := Try.checked) own started (by kernel_rfl) Try.func6
    (ChangeSpec.witness6 (enc := enc) (C := Try.checked) false ⟨#[], #[.int .i64 0, .int .i64 0, .slice none 0 0], []⟩ 8 (by kernel_rfl) (by kernel_rfl) (by kernel_rfl) (by kernel_rfl)) ?_
  intro W base args ds gs before hval0 hW _ _
  have hval : ∀ (j : Nat) t v, Try.f6.params[j]? = some t → args[j]? = some v → Value.okWide Try.prog W .any base t v := hval0
  have hW' := hW
  obtain ⟨p, q, hA0, hV, rfl, hfz, hnd⟩ := hW
  have hA : DataW.TrodAll enc Try.prog W 0 (fun _ => true) true Try.f6.params.toList args.toList ds p := hA0
  rw [Try.params6] at hA hval
  obtain ⟨v0, vs0, d0, ds0, p0, q0, hargs0, rfl, rfl, h0, r0⟩ := trodAll_cons hA
  obtain ⟨v1, vs1, d1, ds1, p1, q1, hargs1, rfl, rfl, h1, r1⟩ := trodAll_cons r0
  obtain ⟨v2, vs2, d2, ds2, p2, q2, hargs2, rfl, rfl, h2, r2⟩ := trodAll_cons r1
  obtain ⟨rfl, rfl, rfl⟩ := trodAll_nil r2
  subst hargs2
  subst hargs1
  obtain rfl : args = #[v0, v1, v2] := by cases args; simp_all
  obtain ⟨rfl, rfl⟩ := trodVars_none hV
  simp only [List.append_nil] at hW'
  have hlt2 : ∀ x ∈ p2, x.block < W.heap.size := fun x hx => by simpa using hW'.lt x (by simp [hx])
  obtain ⟨x0, rfl, rfl, rfl, w0⟩ := open_int Try.underlying3 (hval 0 3 v0 rfl rfl) h0
  obtain ⟨x1, rfl, rfl, rfl, w1⟩ := open_int Try.underlying2 (hval 1 2 v1 rfl rfl) h1
  obtain ⟨a2, cap2, l2, rfl, hn2, hb2, hl2, hs2⟩ := open_bytes (hval 2 22 v2 rfl rfl) h2
  clear hA0
  refine (nils_walk x0 x1 a2 cap2 l2 W).mono fun e W' ⟨he, hb⟩ => ?_
  subst he
  refine ⟨_, rfl, _, _, _, [], ([] ++ ([] ++ (p2 ++ []))), [], hW', ?_, ?_, rfl, hb.frame _, fun h => by cases h⟩
  · exact trodAll_cons_mk (shut_bool Try.underlying4 _) trodAll_mk0
  · exact trodAll_cons_mk (shut_int Try.underlying3 w0) (trodAll_cons_mk (shut_int Try.underlying2 w1) (trodAll_cons_mk (Below.trod laidOut (by kernel_rfl) (of_decide_eq_true (by kernel_rfl)) h2 hb hlt2) (trodAll_mk0)))

theorem diskNils_holds : Rows.DiskNilsSaid :=
  OpenClaim.holds_of_wide 6 Try.f6 rfl rfl rfl rfl rfl rfl rfl ⟨rfl, rfl, rfl, rfl, rfl⟩ rfl rfl rfl rfl rfl (by kernel_rfl) Try.func6 (by kernel_rfl)
    (of_decide_eq_true (by kernel_rfl)) (by unfold Func.isWrapper; first | (rw [if_pos (by decide +kernel)]; kernel_rfl) | (rw [if_neg (by decide +kernel)]; exact ⟨rfl, rfl⟩))
    (fun os started H enc _ => diskNils_lifted os started H enc)

end Go.Proofs.Ytnhbncbiflnapaa.Oct
