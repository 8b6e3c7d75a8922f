/- For all sets, places and parts the statement ExtentAsks answers true and changes nothing that was there: whether a byte, or a part, is in a set is what the reference says. No condition. -/
import Derived.Test.YtgfdcgkaponlfaaRows
import Derived.Test.YtgfdcgkaponlfaaMts
import Derived.Test.YtgfdcgkaponlfaaHsx
import Derived.Test.YtgfdcgkaponlfaaBth
import Derived.Test.YtgfdcgkaponlfaaLgh
import Derived.Test.YtgfdcgkaponlfaaOpe
import Derived.Test.YtgfdcgkaponlfaaSrt
import Derived.Lib.SmallJoins
namespace Go.Proofs.Ytgfdcgkaponlfaa.Oct
open Go.RowKit Go.Shelf Go.ChangeShapes Go.WideShapes Go.ChangeAt

theorem cellsX : Try.prog.cellsOf 32 = 2 := by kernel_rfl

theorem open_ext {H : Type} {enc : TypeId × Value → H} {W : World} {r : Reach} {b0 : Nat} {v : Value} {d : DataW H} {p : List MemPlace}
    (hv : Value.okWide Try.prog W r b0 32 v) (h : DataW.Trod enc Try.prog W 0 (fun _ => true) true 32 v d p) : ∃ x y, v = .agg #[.int .i64 x, .int .i64 y] ∧ (Lit.int .i64 x).wf = true ∧ (Lit.int .i64 y).wf = true := by
  obtain ⟨u0, u1, y0, y1, n, rfl, _, _, t0, t1⟩ := Joins.open_agg2 Try.underlying32 (by kernel_rfl) cellsX hv h
  obtain ⟨k0, e0, w0⟩ := open_int_trod Try.underlying2 t0
  obtain ⟨k1, e1, w1⟩ := open_int_trod Try.underlying2 t1
  subst e0 e1
  exact ⟨k0, k1, rfl, w0, w1⟩

theorem bool_of (p : Prop) : ∃ b : Bool, b = true ↔ p := by
  by_cases h : p
  · exact ⟨true, by simp [h]⟩
  · exact ⟨false, by simp [h]⟩

theorem bool_same {b c : Bool} {p q : Prop} (hb : b = true ↔ p) (hc : c = true ↔ q) (h : p ↔ q) : b = c := by
  have : b = true ↔ c = true := hb.trans (h.trans hc.symm)
  cases b <;> cases c <;> simp_all

theorem lies_box (w : World) (x1 x2 : Int) : LiesE (w.alloc (.cells #[.int .i64 x1, .int .i64 x2] 32)) (some ⟨w.heap.size, 0, none⟩) [(x1, x2)] := by
  have h9 := heap_alloc_new w (.cells #[.int .i64 x1, .int .i64 x2] 32)
  refine Or.inr ⟨w.heap.size, 0, rfl, by simp, fun k hk => ?_⟩
  obtain rfl : k = 0 := by simpa using hk
  simp only [World.cell?, h9]
  exact ⟨rfl, rfl⟩

theorem lies_two (w : World) (x1 x2 p : Int) : LiesE (w.alloc (.cells #[.int .i64 x1, .int .i64 x2, .int .i64 p, .int .i64 0] 32)) (some ⟨w.heap.size, 0, none⟩) [(x1, x2), (p, 0)] := by
  have h9 := heap_alloc_new w (.cells #[.int .i64 x1, .int .i64 x2, .int .i64 p, .int .i64 0] 32)
  refine Or.inr ⟨w.heap.size, 0, rfl, by simp, fun k hk => ?_⟩
  have : k = 0 ∨ k = 1 := by simp at hk; omega
  rcases this with rfl | rfl <;> (simp only [World.cell?, h9]; exact ⟨rfl, rfl⟩)

set_option maxRecDepth 100000 in
set_option maxHeartbeats 8000000 in
theorem asks_walk (a : Option Addr) (c : Nat) (L : List (Int × Int)) (p x1 x2 : Int) (w : World) (hn : L.length ≤ maxLen) (hL : LiesE w a L) :
    Calls Try.prog 4 #[.slice a L.length c, .int .i64 p, .agg #[.int .i64 x1, .int .i64 x2]] w fun e w' => e = .returned (.bool true) ∧ Below w.heap.size w w' := by
  have HJ := fun u => hide (joined_any sort_says u)
  unfold maxLen at hn
  have hb1 := (Below.refl w.heap.size w).alloc (Nat.le_refl _) (.cells #[.int .i64 x1, .int .i64 x2] 32)
  have HL := hide hL
  have hc9 := heap_alloc_new w (.cells #[.int .i64 x1, .int .i64 x2] 32)
  have HLi := hide (light_says _ a c L (hL.below hb1))
  have HB1 := hide hb1
  have HX1 : Hid ((w.alloc (.cells #[.int .i64 x1, .int .i64 x2] 32)).heap[w.heap.size]? = some (.cells #[.int .i64 x1, .int .i64 x2] 32)) := hide hc9
  have hs1 : (w.alloc (.cells #[.int .i64 x1, .int .i64 x2] 32)).heap.size = w.heap.size + 1 := by simp
  clear hL hb1 hc9
  go_enter Try.func4, Try.ntmps4
  go_wp2_with fail
  generalize w.alloc (.cells #[.int .i64 x1, .int .i64 x2] 32) = w1 at *
  refine HLi.out.mono ?_
  rintro e w2 (⟨rfl, hw2⟩ | ⟨rfl, hw2, h30, _⟩)
  · have he := hw2.symm
    clear hw2
    subst he
    go_wp2_with fail
    refine ((HJ _).out).mono ?_
    rintro e w3 ⟨rfl, hb3⟩
    have HB := hide (HB1.out.trans (hb3.mono HB1.out.size))
    clear hb3
    go_wp2_with fail
    go_ret
    exact ⟨rfl, HB.out⟩
  have he := hw2.symm
  clear hw2
  subst he
  obtain ⟨cX0, cX1⟩ : w1.cell? ⟨w.heap.size, 0, none⟩ = some (.int .i64 x1) ∧ w1.cell? ⟨w.heap.size, 1, none⟩ = some (.int .i64 x2) := by have := HX1.out; simp only [World.cell?, this]; exact ⟨rfl, rfl⟩
  have HL2 : Hid (Calls Try.prog 9 #[.slice (some ⟨w1.heap.size, 0, none⟩) 2 2] (w1.alloc (.cells #[.int .i64 x1, .int .i64 x2, .int .i64 p, .int .i64 0] 32)) fun e w' => (e = .returned (.bool false) ∧ w' = w1.alloc (.cells #[.int .i64 x1, .int .i64 x2, .int .i64 p, .int .i64 0] 32)) ∨ (e = .returned (.bool true) ∧ w' = w1.alloc (.cells #[.int .i64 x1, .int .i64 x2, .int .i64 p, .int .i64 0] 32))) := hide (by
    refine (light_says _ (some ⟨w1.heap.size, 0, none⟩) 2 [(x1, x2), (p, 0)] (lies_two w1 x1 x2 p)).mono ?_
    rintro e w' (h | h)
    · exact Or.inl h
    · exact Or.inr ⟨h.1, h.2.1⟩)
  have HB2 := hide (HB1.out.alloc HB1.out.size (.cells #[.int .i64 x1, .int .i64 x2, .int .i64 p, .int .i64 0] 32))
  have HX2 : Hid ((w1.alloc (.cells #[.int .i64 x1, .int .i64 x2, .int .i64 p, .int .i64 0] 32)).heap[w.heap.size]? = some (.cells #[.int .i64 x1, .int .i64 x2] 32)) := hide ((((Below.refl w1.heap.size w1).alloc (Nat.le_refl _) (.cells #[.int .i64 x1, .int .i64 x2, .int .i64 p, .int .i64 0] 32)).block w.heap.size (by omega)).trans HX1.out)
  have HLL := hide (HL.out.below HB2.out)
  have hs2 : w.heap.size < (w1.alloc (.cells #[.int .i64 x1, .int .i64 x2, .int .i64 p, .int .i64 0] 32)).heap.size := by simp; omega
  clear hs1
  go_wp2_with fail
  generalize w1.alloc (.cells #[.int .i64 x1, .int .i64 x2, .int .i64 p, .int .i64 0] 32) = w3 at *
  refine HL2.out.mono ?_
  rintro e w4 (⟨rfl, hw4⟩ | ⟨rfl, hw4⟩)
  · have he := hw4.symm
    clear hw4
    subst he
    go_wp2_with fail
    refine ((HJ _).out).mono ?_
    rintro e w5 ⟨rfl, hb5⟩
    have HB := hide (HB2.out.trans (hb5.mono HB2.out.size))
    clear hb5
    go_wp2_with fail
    go_ret
    exact ⟨rfl, HB.out⟩
  have he := hw4.symm
  clear hw4
  subst he
  obtain ⟨bh, hbh⟩ := bool_of (InE L p)
  obtain ⟨bc, hbc⟩ := bool_of (∀ x, InE [(x1, x2)] x → InE L x)
  have HHa : ∀ u, Below w.heap.size w u → Hid (Calls Try.prog 17 #[.slice a L.length c, .int .i64 p] u fun e w' => e = .returned (.bool bh) ∧ Below u.heap.size u w') := fun u hu => hide (by
    refine (has_any u a c L p (HL.out.below hu) (by omega)).mono ?_
    rintro e w' ⟨b, rfl, hb, h2⟩
    exact ⟨by rw [bool_same hb hbh Iff.rfl], h2⟩)
  have HRh : ∀ u, Below w.heap.size w u → Hid (Calls Try.prog 18 #[.slice a L.length c, .int .i64 p] u fun e w' => e = .returned (.bool bh) ∧ Below u.heap.size u w') := fun u hu => hide (by
    refine (refhas_any u a c L p (HL.out.below hu) (by omega)).mono ?_
    rintro e w' ⟨b, rfl, hb, rfl⟩
    exact ⟨by rw [bool_same hb hbh Iff.rfl], Below.refl _ _⟩)
  have HCo : ∀ u, Below w.heap.size w u → Hid (Calls Try.prog 19 #[.slice a L.length c, .agg #[.int .i64 x1, .int .i64 x2]] u fun e w' => e = .returned (.bool bc) ∧ Below u.heap.size u w') := fun u hu => hide (by
    refine (covers_any sort_says u a c L x1 x2 (HL.out.below hu) (by omega)).mono ?_
    rintro e w' ⟨⟨b, rfl, hb⟩, h2⟩
    exact ⟨by rw [bool_same hb hbc Iff.rfl], h2⟩)
  have HBo : ∀ u q, Below w.heap.size w u → LiesE u (some q) [(x1, x2)] → Hid (Calls Try.prog 13 #[.slice (some q) 1 1, .slice a L.length c, .int .i64 1] u fun e w' => ∃ av n cv, e = .returned (.slice av n cv) ∧ ((n : Int) == 0) = bc ∧ Below u.heap.size u w') := fun u q hu hq => hide (by
    refine (refboth1_any u (some q) a 1 c [(x1, x2)] L hq (HL.out.below hu) (by simp) (by omega)).mono ?_
    rintro e w' ⟨v, N, rfl, ho, ⟨hf, hs⟩, _, h2⟩
    obtain ⟨av, cv, rfl, _⟩ := ho.form
    refine ⟨av, N.length, cv, rfl, ?_, h2⟩
    refine bool_same (p := N.length = 0) (by simp) hbc (hf.empty.trans ⟨fun hh x hx => Classical.byContradiction fun hn => hh x ((hs x).2 ⟨hx, hn⟩), fun hh x hx => ((hs x).1 hx).2 (hh x ((hs x).1 hx).1)⟩))
  have hbb : (bh == bh) = true := by simp
  have hcc : (bc == bc) = true := by simp
  have HBk := hide HB2.out.drew
  have HXk : Hid (w3.drew.heap[w.heap.size]? = some (.cells #[.int .i64 x1, .int .i64 x2] 32)) := hide HX2.out
  have hl30 : L.length ≤ 30 := h30
  clear hbh hbc HB1 HX1 HLi HL2 HLL h30
  obtain ⟨cY0, cY1⟩ : w3.cell? ⟨w.heap.size, 0, none⟩ = some (.int .i64 x1) ∧ w3.cell? ⟨w.heap.size, 1, none⟩ = some (.int .i64 x2) := by have := HX2.out; simp only [World.cell?, this]; exact ⟨rfl, rfl⟩
  clear cX0 cX1
  go_wp2_with fail
  go_region_held3 (fun u => u.cell? ⟨w.heap.size, 0, none⟩ = some (.int .i64 x1) ∧ u.cell? ⟨w.heap.size, 1, none⟩ = some (.int .i64 x2)) (first | go_keep | (have h9 := HXk.out; simp only [World.cell?, h9]; exact ⟨rfl, rfl⟩)) (first
    | (go_at_call 10; refine ((HJ _).out).mono ?_; rintro e w5 ⟨rfl, hb5⟩; have HXk := hide ((hb5.block w.heap.size (Array.getElem?_eq_some_iff.1 HXk.out).1).trans HXk.out); have HBk := hide (HBk.out.trans (hb5.mono HBk.out.size)); clear hb5)
    | (go_at_call 17; refine ((HHa _ (by first | exact HBk.out | exact HBk.out.alloc HBk.out.size _)).out).mono ?_; rintro e w5 ⟨rfl, hb5⟩; have HXk := hide ((hb5.block w.heap.size (Array.getElem?_eq_some_iff.1 HXk.out).1).trans HXk.out); have HBk := hide (HBk.out.trans (hb5.mono HBk.out.size)); clear hb5)
    | (go_at_call 18; refine ((HRh _ (by first | exact HBk.out | exact HBk.out.alloc HBk.out.size _)).out).mono ?_; rintro e w5 ⟨rfl, hb5⟩; have HXk := hide ((hb5.block w.heap.size (Array.getElem?_eq_some_iff.1 HXk.out).1).trans HXk.out); have HBk := hide (HBk.out.trans (hb5.mono HBk.out.size)); clear hb5)
    | (go_at_call 19; refine ((HCo _ (by first | exact HBk.out | exact HBk.out.alloc HBk.out.size _)).out).mono ?_; rintro e w5 ⟨rfl, hb5⟩; have HZ := hide hb5; have hlx := (Array.getElem?_eq_some_iff.1 HXk.out).1; have HXk := hide ((hb5.block w.heap.size (by first | exact hlx | (simp; omega))).trans (by first | exact HXk.out | exact (((Below.refl _ _).alloc (Nat.le_refl _) _).block w.heap.size hlx).trans HXk.out)); have HBk := hide (Below.trans (b := _) (by first | exact HBk.out | exact HBk.out.alloc HBk.out.size _) (hb5.mono (by first | exact HBk.out.size | (have := HBk.out.size; simp; omega)))); clear hb5)
    | (go_at_call 13; refine ((HBo _ _ (by first | exact HBk.out | exact HBk.out.alloc HBk.out.size _) (by first | exact lies_box _ _ _ | exact (lies_box _ _ _).below HZ.out)).out).mono ?_; rintro e w6 ⟨av, n, cv, rfl, hn6, hb6⟩; have HBf : Hid (Below w.heap.size w w6) := hide (Below.trans (by first | exact HBk.out | exact HBk.out.alloc HBk.out.size _) (hb6.mono (by first | exact HBk.out.size | (have := HBk.out.size; simp; omega)))); have hlx := (Array.getElem?_eq_some_iff.1 HXk.out).1; have HXk := hide ((hb6.block w.heap.size (by first | exact hlx | (simp; omega))).trans (by first | exact HXk.out | exact (((Below.refl _ _).alloc (Nat.le_refl _) _).block w.heap.size hlx).trans HXk.out)); clear hb6))
  all_goals
    go_wp2_with fail
    go_ret
    exact ⟨rfl, HBf.out⟩

set_option maxRecDepth 100000 in
theorem extentAsks_lifted (os : Os) (started : os.Started) (H : Type) (enc : TypeId × Value → H) :
    ReturnsInHanded {} Try.checked os 4 .any (Rows.extentAsksSpec.pre6 enc Try.prog Try.f4 Rows.extentAsksRow.domain false) (Rows.extentAsksSpec.post enc Try.prog Try.f4 false true false false) := by
  refine returnsInHanded_of_change (C := Try.checked) own started (by kernel_rfl) Try.func4
    (ChangeSpec.witness6 (enc := enc) (C := Try.checked) false ⟨#[], #[.slice none 0 0, .int .i64 0, .agg #[.int .i64 0, .int .i64 0]], []⟩ 8 (by kernel_rfl) (by kernel_rfl) (by kernel_rfl) (by kernel_rfl)) ?_
  intro W base args ds gs before hval0 hW _ _
  have hval : ∀ (j : Nat) t v, Try.f4.params[j]? = some t → args[j]? = some v → Value.okWide Try.prog W .any base t v := hval0
  have hW' := hW
  obtain ⟨p, q, hA0, hV, rfl, hfz, hnd⟩ := hW
  have hA : DataW.TrodAll enc Try.prog W 0 (fun _ => true) true Try.f4.params.toList args.toList ds p := hA0
  rw [Try.params4] at hA hval
  obtain ⟨v0, vs0, d0, ds0, p0, q0, hargs0, rfl, rfl, h0, r0⟩ := trodAll_cons hA
  obtain ⟨v1, vs1, d1, ds1, p1, q1, hargs1, rfl, rfl, h1, r1⟩ := trodAll_cons r0
  obtain ⟨v2, vs2, d2, ds2, p2, q2, hargs2, rfl, rfl, h2, r2⟩ := trodAll_cons r1
  obtain ⟨rfl, rfl, rfl⟩ := trodAll_nil r2
  subst hargs2
  subst hargs1
  obtain rfl : args = #[v0, v1, v2] := by cases args; simp_all
  obtain ⟨rfl, rfl⟩ := trodVars_none hV
  simp only [List.append_nil] at hW'
  have hlt0 : ∀ x ∈ p0, x.block < W.heap.size := fun x hx => by simpa using hW'.lt x (by simp [hx])
  have hlt2 : ∀ x ∈ p2, x.block < W.heap.size := fun x hx => by simpa using hW'.lt x (by simp [hx])
  obtain ⟨a0, cap0, l0, rfl, hn0, hl0⟩ := open_exts (hval 0 22 v0 rfl rfl) h0
  obtain ⟨x1, rfl, rfl, rfl, w1⟩ := open_int Try.underlying2 (hval 1 2 v1 rfl rfl) h1
  obtain ⟨x2, y2, rfl, hx2, hy2⟩ := open_ext (hval 2 32 v2 rfl rfl) h2
  clear hA0
  refine (asks_walk a0 cap0 l0 x1 x2 y2 W hn0 hl0).mono fun e W' ⟨he, hb⟩ => ?_
  subst he
  refine ⟨_, rfl, _, _, _, [], (p0 ++ ([] ++ (p2 ++ []))), [], hW', ?_, ?_, rfl, hb.frame _, fun h => by cases h⟩
  · exact trodAll_cons_mk (shut_bool Try.underlying4 _) trodAll_mk0
  · exact trodAll_cons_mk (Below.trod laidOut (by kernel_rfl) (of_decide_eq_true (by kernel_rfl)) h0 hb hlt0) (trodAll_cons_mk (shut_int Try.underlying2 w1) (trodAll_cons_mk (Below.trod laidOut (by kernel_rfl) (of_decide_eq_true (by kernel_rfl)) h2 hb hlt2) (trodAll_mk0)))

theorem extentAsks_holds : Rows.ExtentAsksSaid :=
  OpenClaim.holds_of_wide 4 Try.f4 rfl rfl rfl rfl rfl rfl rfl ⟨rfl, rfl, rfl, rfl, rfl⟩ rfl rfl rfl rfl rfl (by kernel_rfl) Try.func4 (by kernel_rfl)
    (of_decide_eq_true (by kernel_rfl)) (by unfold Func.isWrapper; first | (rw [if_pos (by decide +kernel)]; kernel_rfl) | (rw [if_neg (by decide +kernel)]; exact ⟨rfl, rfl⟩))
    (fun os started H enc _ => extentAsks_lifted os started H enc)
end Go.Proofs.Ytgfdcgkaponlfaa.Oct
