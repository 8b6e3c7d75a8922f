/- For all numbers the statement HeaderLeasts answers true and changes nothing that was there: with the least journal, and clusters enough, a header is one; with one cluster less of either it isn't. No condition. -/
import Derived.Test.YtpmljlmcfofppaaRows
import Derived.Test.YtpmljlmcfofppaaHdl
import Derived.Test.YtpmljlmcfofppaaHdo
namespace Go.Proofs.Ytpmljlmcfofppaa.Oct
open Go.RowKit Go.ChangeShapes Go.WideShapes Go.ChangeAt

theorem Stay.box {u : World} {R : Nat} {b s o j : Int} {k : Bool} {t : TypeId} (h : Stay u R #[.int .i64 b, .int .i64 s, .int .i64 o, .int .i64 j, .bool k] t) : HBox u R b s o j k :=
  ⟨h.cell 0 _ rfl, h.cell 1 _ rfl, h.cell 2 _ rfl, h.cell 3 _ rfl, h.cell 4 _ rfl⟩

theorem Stay.other {u : World} {R B i : Nat} {v : Value} {cs : Array Value} {t : TypeId} (h : Stay u R cs t) (hne : R ≠ B) : Stay (u.setCell ⟨B, i, none⟩ v) R cs t :=
  (heap_setCell_other u ⟨B, i, none⟩ R v hne).trans h

theorem umod_bd (x n : Int) (hn : 0 < n) (hn2 : n ≤ 100000) : 0 ≤ (IntKind.u64.wrap x).tmod n ∧ (IntKind.u64.wrap x).tmod n < n := by
  have h0 : 0 ≤ IntKind.u64.wrap x := by rw [IntKind.wrap_u64]; omega
  rw [Int.tmod_eq_emod_of_nonneg h0]
  exact ⟨Int.emod_nonneg _ (by omega), Int.emod_lt_of_pos _ hn⟩

theorem least_eq (h : Hd) : h.least = h.refs + 18 + upN 4608 h.cl := by
  unfold Hd.least upN
  have hc := h.cl_bd
  rw [show 4608 + (h.refs + 18) * h.cl + h.cl - 1 = (4608 + h.cl - 1) + (h.refs + 18) * h.cl by omega, Int.add_mul_ediv_right _ _ (by omega)]
  omega

theorem up4608 (h : Hd) : 0 ≤ upN 4608 h.cl := (upN_bd (by omega) (by have := h.cl_bd; omega)).1

theorem guest_small (b s o j : Int) (k : Bool) (hs : 512 ≤ s ∧ s ≤ 1024000) : Hd.guest ⟨b, s, o, j, k⟩ ≤ 2000 := by
  have e : cutN s 16777216 = s := by unfold cutN; rw [if_neg (by omega), if_neg (by omega)]
  unfold Hd.guest
  simp only [e]
  unfold upN
  have hc := Hd.cl_bd ⟨b, s, o, j, k⟩
  generalize Hd.cl ⟨b, s, o, j, k⟩ = c at *
  refine Int.le_of_lt_add_one (Int.ediv_lt_of_lt_mul (by omega) ?_)
  have : (2000 + 1) * 512 ≤ (2000 + 1) * c := Int.mul_le_mul_of_nonneg_left (by omega) (by omega)
  have h2 : 2000 * 512 ≤ 2000 * c := Int.mul_le_mul_of_nonneg_left (by omega) (by omega)
  rw [Int.add_mul, Int.one_mul]
  omega

theorem fine_form (b s o j : Int) (k : Bool) (hb : 9 ≤ b ∧ b ≤ 12) (hs : 512 ≤ s ∧ s ≤ 1024000) (hm : s % 512 = 0) : ¬ ((⟨b, s, o, j, k⟩ : Hd).bits < 9 ∨ 12 < (⟨b, s, o, j, k⟩ : Hd).bits ∨ (⟨b, s, o, j, k⟩ : Hd).size < 512 ∨ 16777216 < (⟨b, s, o, j, k⟩ : Hd).size ∨ (⟨b, s, o, j, k⟩ : Hd).size % 512 ≠ 0) := by
  dsimp only
  omega

theorem fine_limit (b s o j : Int) (k : Bool) (hs : 512 ≤ s ∧ s ≤ 1024000) (ho : 1 ≤ o ∧ o ≤ 1000) : ¬ (Hd.cl ⟨b, s, o, j, k⟩ / 8 * (Hd.cl ⟨b, s, o, j, k⟩ / 8) < Hd.guest ⟨b, s, o, j, k⟩ ∨ (⟨b, s, o, j, k⟩ : Hd).host < 1 ∨ 8192 < (⟨b, s, o, j, k⟩ : Hd).host ∨ 4194304 / Hd.cl ⟨b, s, o, j, k⟩ < (⟨b, s, o, j, k⟩ : Hd).host) := by
  have hg := guest_small b s o j k hs
  dsimp only
  rcases Hd.cl_cases ⟨b, s, o, j, k⟩ with h | h | h | h <;> (rw [h]; omega)

theorem leasts_ok (b s o l : Int) (k : Bool) (hb : 9 ≤ b ∧ b ≤ 12) (hs : 512 ≤ s ∧ s ≤ 1024000) (hm : s % 512 = 0) (ho : 1 ≤ o ∧ o ≤ 1000) (hl : l = Hd.least ⟨b, s, o, 0, k⟩) (hf : Hd.at_ ⟨b, s, o, l, k⟩ 5 ≤ o) : Hd.check ⟨b, s, o, l, k⟩ = 0 := by
  refine check_ok (fine_form b s o l k hb hs hm) (fine_limit b s o l k hs ho) ?_
  have e : Hd.least ⟨b, s, o, l, k⟩ = l := hl.symm
  have hl0 : 0 ≤ l := by rw [hl, least_eq]; have := Hd.refs_bd ⟨b, s, o, 0, k⟩; have := up4608 ⟨b, s, o, 0, k⟩; omega
  have hr := Hd.refs_bd ⟨b, s, o, l, k⟩
  have hj : Hd.at_ ⟨b, s, o, l, k⟩ 5 = 1 + cutN l 8192 + Hd.refs ⟨b, s, o, l, k⟩ + 1 + 1 := rfl
  have hc : 8192 < l → cutN l 8192 = 8192 := fun h => by unfold cutN; rw [if_neg (by omega), if_pos h]
  rw [e]
  dsimp only
  rintro (h | h | h)
  · omega
  · have := hc h; omega
  · omega

theorem leasts_less (b s o l : Int) (k : Bool) (hb : 9 ≤ b ∧ b ≤ 12) (hs : 512 ≤ s ∧ s ≤ 1024000) (hm : s % 512 = 0) (ho : 1 ≤ o ∧ o ≤ 1000) (hl : l = Hd.least ⟨b, s, o, 0, k⟩) : Hd.check ⟨b, s, o, l - 1, k⟩ = 11 := by
  refine check_small (fine_form b s o _ k hb hs hm) (fine_limit b s o _ k hs ho) (Or.inl ?_)
  have e : Hd.least ⟨b, s, o, l - 1, k⟩ = l := hl.symm
  rw [e]
  dsimp only
  omega

theorem leasts_small (b s o l : Int) (k : Bool) (hb : 9 ≤ b ∧ b ≤ 12) (hs : 512 ≤ s ∧ s ≤ 1024000) (hm : s % 512 = 0) (ho : 1 ≤ o ∧ o ≤ 1000) (hf : Hd.at_ ⟨b, s, o, l, k⟩ 5 ≤ o)
    (he : Hd.least ⟨b, s, Hd.at_ ⟨b, s, o, l, k⟩ 5 - 1, l, k⟩ = Hd.least ⟨b, s, o, l, k⟩) : Hd.check ⟨b, s, Hd.at_ ⟨b, s, o, l, k⟩ 5 - 1, l, k⟩ = 11 := by
  have hj : Hd.at_ ⟨b, s, o, l, k⟩ 5 = 1 + cutN l 8192 + Hd.refs ⟨b, s, o, l, k⟩ + 1 + 1 := rfl
  have hr := Hd.refs_bd ⟨b, s, o, l, k⟩
  have hc := cutN_bd (n := l) (most := 8192) (by omega)
  rw [least_eq, least_eq] at he
  have hcl : ∀ x, Hd.cl ⟨b, s, x, l, k⟩ = Hd.cl ⟨b, s, o, l, k⟩ := fun x => rfl
  rw [hcl] at he
  refine check_small (fine_form b s _ l k hb hs hm) (fine_limit b s _ l k hs (by omega)) (Or.inr (Or.inr ?_))
  have hj2 : Hd.at_ ⟨b, s, Hd.at_ ⟨b, s, o, l, k⟩ 5 - 1, l, k⟩ 5 = 1 + cutN l 8192 + Hd.refs ⟨b, s, Hd.at_ ⟨b, s, o, l, k⟩ 5 - 1, l, k⟩ + 1 + 1 := rfl
  rw [hj2]
  dsimp only
  omega

set_option maxHeartbeats 2000000 in
theorem hleasts_walk (x0 x1 x2 : Int) (h0 : I64 x0) (h1 : I64 x1) (h2 : I64 x2) (w : World) : Calls Try.prog 8 #[.int .i64 x0, .int .i64 x1, .int .i64 x2] w fun e w' => e = .returned (.bool true) ∧ Below w.heap.size w w' := by
  have HL := fun u => hide (laid_any u)
  have hb0 := h0.1
  have hb1 := h0.2
  have hs0 := h1.1
  have hs1 := h1.2
  have hm0 := h2.1
  have hm1 := h2.2
  clear h0 h1 h2
  go_enter Try.func8, Try.ntmps8
  go_wp2_with fail
  refine ((HL _).out).mono ?_
  rintro e9 w1 ⟨rfl, hb1⟩
  have HB1 := hide hb1
  clear hb1
  go_wp2_with fail
  have u0 := umod_bd x0 4 (by omega) (by omega)
  have u1 := umod_bd x1 2000 (by omega) (by omega)
  have u2 := umod_bd x2 500 (by omega) (by omega)
  obtain ⟨b, hb⟩ : ∃ b, b = wrap64 (9 + wrap64 ((IntKind.u64.wrap x0).tmod 4)) := ⟨_, rfl⟩
  obtain ⟨s, hs⟩ : ∃ s, s = wrap64 (512 * wrap64 (1 + wrap64 ((IntKind.u64.wrap x1).tmod 2000))) := ⟨_, rfl⟩
  obtain ⟨o, ho⟩ : ∃ o, o = wrap64 (200 + wrap64 ((IntKind.u64.wrap x2).tmod 500)) := ⟨_, rfl⟩
  have fb : 9 ≤ b ∧ b ≤ 12 := by rw [hb]; simp only [wrap64]; omega
  have fs : 512 ≤ s ∧ s ≤ 1024000 := by rw [hs]; simp only [wrap64]; omega
  have fm : s % 512 = 0 := by rw [hs]; simp only [wrap64]; omega
  have fo : 1 ≤ o ∧ o ≤ 1000 := by rw [ho]; simp only [wrap64]; omega
  rw [← hb, ← hs, ← ho]
  clear hb hs ho u0 u1 u2
  have HFm := hide fm
  clear fm
  have HLe := fun u => hide (least_any b s o 0 false u)
  obtain ⟨l, hl⟩ : ∃ l, l = Hd.least ⟨b, s, o, 0, false⟩ := ⟨_, rfl⟩
  rw [← hl] at HLe
  have HLl := hide hl
  have HLe2 : ∀ u, Hid (Calls Try.prog 22 #[.agg #[.int .i64 b, .int .i64 s, .int .i64 o, .int .i64 l, .bool false]] u fun e w' => e = .returned (.int .i64 l) ∧ Below u.heap.size u w') := fun u => hide (by have := least_any b s o l false u; rw [show Hd.least ⟨b, s, o, l, false⟩ = l from hl.symm] at this; exact this)
  clear hl
  have HFi := fun u => hide (first_any b s o l false u)
  obtain ⟨f, hf⟩ : ∃ f, f = Hd.at_ ⟨b, s, o, l, false⟩ 5 := ⟨_, rfl⟩
  have hfb := at_bd ⟨b, s, o, l, false⟩ 5
  rw [← hf] at HFi hfb
  have HSm := fun u => hide (least_any b s (f - 1) l false u)
  have M1 : Hid (f ≤ o → Hd.check ⟨b, s, o, l, false⟩ = 0) := hide (fun h => leasts_ok b s o l false fb fs HFm.out fo HLl.out (by rw [← hf]; exact h))
  have M2 : Hid (Hd.check ⟨b, s, o, l - 1, false⟩ = 11) := hide (leasts_less b s o l false fb fs HFm.out fo HLl.out)
  have M3 : Hid (f ≤ o → Hd.least ⟨b, s, f - 1, l, false⟩ = l → Hd.check ⟨b, s, f - 1, l, false⟩ = 11) := hide (fun h he => by
    have e : Hd.least ⟨b, s, o, l, false⟩ = l := HLl.out.symm
    have := leasts_small b s o l false fb fs HFm.out fo (by rw [← hf]; exact h) (by rw [← hf, he, e])
    rw [← hf] at this
    exact this)
  have hl0 : 0 ≤ l ∧ l ≤ 20000 := by
    rw [HLl.out, least_eq]
    have h1 := Hd.refs_bd ⟨b, s, o, 0, false⟩
    have h2 := up4608 ⟨b, s, o, 0, false⟩
    have h3 : upN 4608 (Hd.cl ⟨b, s, o, 0, false⟩) ≤ 100 := by
      rcases Hd.cl_cases ⟨b, s, o, 0, false⟩ with h | h | h | h <;> (rw [h]; decide)
    omega
  have HC0 := fun u => hide (check_any b s o l false u)
  have HC1 := fun u => hide (check_any b s o (l - 1) false u)
  have HC2 := fun u => hide (check_any b s (f - 1) l false u)
  rw [M2.out] at HC1
  clear hf HFm HLl M2
  have HA := hide (heap_alloc_new w1 (.cells #[.int .i64 b, .int .i64 s, .int .i64 o, .int .i64 0, .bool false] 23))
  have HBA := hide (HB1.out.alloc HB1.out.size (.cells #[.int .i64 b, .int .i64 s, .int .i64 o, .int .i64 0, .bool false] 23))
  refine ((HLe _).out).mono ?_
  rintro e9 w2 ⟨rfl, hb2⟩
  have HS7 : Hid (Stay w2 w1.heap.size #[.int .i64 b, .int .i64 s, .int .i64 o, .int .i64 0, .bool false] 23) := hide (Stay.below (show Stay _ w1.heap.size #[.int .i64 b, .int .i64 s, .int .i64 o, .int .i64 0, .bool false] 23 from HA.out) hb2)
  have HBA := hide (HBA.out.trans (hb2.mono HBA.out.size))
  have d3 : w2.cell? ⟨w1.heap.size, 3, none⟩ = some (.int .i64 0) := HS7.out.cell 3 _ rfl
  have f3 := HS7.out.frozen 3
  have hsz : w1.heap.size < w2.heap.size := (Array.getElem?_eq_some_iff.1 HS7.out).1
  clear hb2 HA
  go_wp2_with fail
  have HS7 : Hid (Stay (w2.setCell ⟨w1.heap.size, 3, none⟩ (.int .i64 l)) w1.heap.size #[.int .i64 b, .int .i64 s, .int .i64 o, .int .i64 l, .bool false] 23) := hide (HS7.out.set 3 (.int .i64 l))
  have HBA := hide (HBA.out.setCell (p := ⟨w1.heap.size, 3, none⟩) HB1.out.size (.int .i64 l))
  clear d3 f3
  generalize w2.setCell ⟨w1.heap.size, 3, none⟩ (.int .i64 l) = w3 at *
  have hsz3 : w1.heap.size < w3.heap.size := (Array.getElem?_eq_some_iff.1 HS7.out).1
  obtain ⟨c0, c1, c2, c3, c4⟩ := HS7.out.box
  by_cases hfo : o < f
  · have hd : decide (o < f) = true := by simp [hfo]
    have HBd := hide HBA.out.drew
    have HSd := hide HS7.out.drew
    go_region_held3 (fun u => u.cell? ⟨w1.heap.size, 0, none⟩ = some (.int .i64 b) ∧ u.cell? ⟨w1.heap.size, 1, none⟩ = some (.int .i64 s) ∧ u.cell? ⟨w1.heap.size, 2, none⟩ = some (.int .i64 o) ∧ u.cell? ⟨w1.heap.size, 3, none⟩ = some (.int .i64 l) ∧ u.cell? ⟨w1.heap.size, 4, none⟩ = some (.bool false)) (first | go_keep | exact HSd.out.box) (first
      | (go_at_call 20; refine ((HFi _).out).mono ?_; rintro e9 w4 ⟨rfl, hb4⟩; have HBd := hide (HBd.out.trans (hb4.mono HBd.out.size)); have HSd := hide (HSd.out.below hb4); clear hb4))
    all_goals
      go_wp2_with fail
      go_ret
      exact ⟨rfl, HBd.out⟩
  have hd : decide (o < f) = false := by simp [hfo]
  have HBd := hide HBA.out.drew
  have HSd := hide HS7.out.drew
  go_region_held3 (fun u => u.cell? ⟨w1.heap.size, 0, none⟩ = some (.int .i64 b) ∧ u.cell? ⟨w1.heap.size, 1, none⟩ = some (.int .i64 s) ∧ u.cell? ⟨w1.heap.size, 2, none⟩ = some (.int .i64 o) ∧ u.cell? ⟨w1.heap.size, 3, none⟩ = some (.int .i64 l) ∧ u.cell? ⟨w1.heap.size, 4, none⟩ = some (.bool false)) (first | go_keep | exact HSd.out.box) (first
    | (go_at_call 20; refine ((HFi _).out).mono ?_; rintro e9 w4 ⟨rfl, hb4⟩; have HBd := hide (HBd.out.trans (hb4.mono HBd.out.size)); have HSd := hide (HSd.out.below hb4); clear hb4))
  go_wp2_with fail
  clear c0 c1 c2 c3 c4 HS7 HBA HLe HL HB1 hsz hsz3
  obtain ⟨c0, c1, c2, c3, c4⟩ := HSd.out.box
  have hlt4 : w1.heap.size < w4.heap.size := (Array.getElem?_eq_some_iff.1 HSd.out).1
  go_region_held3 (fun u => u.cell? ⟨w1.heap.size, 0, none⟩ = some (.int .i64 b) ∧ u.cell? ⟨w1.heap.size, 1, none⟩ = some (.int .i64 s) ∧ u.cell? ⟨w1.heap.size, 2, none⟩ = some (.int .i64 o) ∧ u.cell? ⟨w1.heap.size, 3, none⟩ = some (.int .i64 l) ∧ u.cell? ⟨w1.heap.size, 4, none⟩ = some (.bool false)) (go_keep) (fail)
  all_goals
    have HS7 : Hid (Stay ((w4.alloc (.cells #[.int .i64 b, .int .i64 s, .int .i64 o, .int .i64 l, .bool false] 23)).alloc (.cells #[.int .i64 b, .int .i64 s, .int .i64 o, .int .i64 l, .bool false] 23)).drew w1.heap.size #[.int .i64 b, .int .i64 s, .int .i64 o, .int .i64 l, .bool false] 23) := hide (Stay.below HSd.out (((Below.refl _ _).alloc (Nat.le_refl _) _).alloc (by simp) _).drew)
    have HBw := hide HBd.out.size
    have HBd : Hid (Below w.heap.size w ((w4.alloc (.cells #[.int .i64 b, .int .i64 s, .int .i64 o, .int .i64 l, .bool false] 23)).alloc (.cells #[.int .i64 b, .int .i64 s, .int .i64 o, .int .i64 l, .bool false] 23)).drew) := hide ((HBd.out.alloc HBd.out.size _).alloc (by have := HBd.out.size; simp; omega) _).drew
    have HN8 : Hid (Stay ((w4.alloc (.cells #[.int .i64 b, .int .i64 s, .int .i64 o, .int .i64 l, .bool false] 23)).alloc (.cells #[.int .i64 b, .int .i64 s, .int .i64 o, .int .i64 l, .bool false] 23)).drew w4.heap.size #[.int .i64 b, .int .i64 s, .int .i64 o, .int .i64 l, .bool false] 23) := hide (heap_alloc2_old w4 (.cells #[.int .i64 b, .int .i64 s, .int .i64 o, .int .i64 l, .bool false] 23) (.cells #[.int .i64 b, .int .i64 s, .int .i64 o, .int .i64 l, .bool false] 23))
    have HN9 : Hid (Stay ((w4.alloc (.cells #[.int .i64 b, .int .i64 s, .int .i64 o, .int .i64 l, .bool false] 23)).alloc (.cells #[.int .i64 b, .int .i64 s, .int .i64 o, .int .i64 l, .bool false] 23)).drew (w4.heap.size + 1) #[.int .i64 b, .int .i64 s, .int .i64 o, .int .i64 l, .bool false] 23) := hide (heap_alloc2_new w4 (.cells #[.int .i64 b, .int .i64 s, .int .i64 o, .int .i64 l, .bool false] 23) (.cells #[.int .i64 b, .int .i64 s, .int .i64 o, .int .i64 l, .bool false] 23))
  rotate_left
  · have HNs := HN8
    have HN8 := HN9
    have HN9 := HNs
    clear HNs
    have HS8 : Hid (Stay ((w4.alloc (.cells #[.int .i64 b, .int .i64 s, .int .i64 o, .int .i64 l, .bool false] 23)).alloc (.cells #[.int .i64 b, .int .i64 s, .int .i64 o, .int .i64 l, .bool false] 23)).drew (w4.heap.size + 1) #[.int .i64 b, .int .i64 s, .int .i64 o, .int .i64 l, .bool false] 23) := hide HN8.out
    have HS9 : Hid (Stay ((w4.alloc (.cells #[.int .i64 b, .int .i64 s, .int .i64 o, .int .i64 l, .bool false] 23)).alloc (.cells #[.int .i64 b, .int .i64 s, .int .i64 o, .int .i64 l, .bool false] 23)).drew w4.heap.size #[.int .i64 b, .int .i64 s, .int .i64 o, .int .i64 l, .bool false] 23) := hide HN9.out
    generalize ((w4.alloc (.cells #[.int .i64 b, .int .i64 s, .int .i64 o, .int .i64 l, .bool false] 23)).alloc (.cells #[.int .i64 b, .int .i64 s, .int .i64 o, .int .i64 l, .bool false] 23)).drew = w5 at *
    clear c0 c1 c2 c3 c4
    obtain ⟨B8, hB8⟩ : ∃ B8, B8 = (w4.heap.size + 1) := ⟨_, rfl⟩
    obtain ⟨B9, hB9⟩ : ∃ B9, B9 = w4.heap.size := ⟨_, rfl⟩
    rw [← hB8] at HS8
    rw [← hB9] at HS9
    have n87 : w1.heap.size ≠ B8 := by omega
    have n97 : w1.heap.size ≠ B9 := by omega
    have n89 : B9 ≠ B8 := by omega
    have g8 : w.heap.size ≤ B8 := by have := HBw.out; omega
    have g9 : w.heap.size ≤ B9 := by have := HBw.out; omega
    rw [← hB8, ← hB9]
    clear hB8 hB9 hlt4 HSd HBw
    have d3 : w5.cell? ⟨B8, 3, none⟩ = some (.int .i64 l) := HS8.out.cell 3 _ rfl
    have f3 := HS8.out.frozen 3
    go_wp2_with fail
    have HS8 : Hid (Stay (w5.setCell ⟨B8, 3, none⟩ (.int .i64 (l - 1))) B8 #[.int .i64 b, .int .i64 s, .int .i64 o, .int .i64 (l - 1), .bool false] 23) := hide (HS8.out.set 3 _)
    have HS7 := hide (HS7.out.other (i := 3) (v := .int .i64 (l - 1)) n87)
    have HS9 := hide (HS9.out.other (i := 3) (v := .int .i64 (l - 1)) n89)
    have HBd := hide (HBd.out.setCell (p := ⟨B8, 3, none⟩) g8 (.int .i64 (l - 1)))
    clear d3 f3
    generalize w5.setCell ⟨B8, 3, none⟩ (.int .i64 (l - 1)) = w6 at *
    obtain ⟨c0, c1, c2, c3, c4⟩ := HS7.out.box
    go_wp2_with fail
    refine ((HFi _).out).mono ?_
    rintro e9 w7 ⟨rfl, hb7⟩
    have HBd := hide (HBd.out.trans (hb7.mono HBd.out.size))
    have HS7 := hide (HS7.out.below hb7)
    have HS8 := hide (HS8.out.below hb7)
    have HS9 := hide (HS9.out.below hb7)
    clear hb7
    clear c0 c1 c2 c3 c4
    have d2 : w7.cell? ⟨B9, 2, none⟩ = some (.int .i64 o) := HS9.out.cell 2 _ rfl
    have f2 := HS9.out.frozen 2
    go_wp2_with fail
    have HS9 : Hid (Stay (w7.setCell ⟨B9, 2, none⟩ (.int .i64 (f - 1))) B9 #[.int .i64 b, .int .i64 s, .int .i64 (f - 1), .int .i64 l, .bool false] 23) := hide (HS9.out.set 2 _)
    have HS7 := hide (HS7.out.other (i := 2) (v := .int .i64 (f - 1)) n97)
    have HS8 := hide (HS8.out.other (i := 2) (v := .int .i64 (f - 1)) n89.symm)
    have HBd := hide (HBd.out.setCell (p := ⟨B9, 2, none⟩) g9 (.int .i64 (f - 1)))
    clear d2 f2
    generalize w7.setCell ⟨B9, 2, none⟩ (.int .i64 (f - 1)) = w8 at *
    obtain ⟨c0, c1, c2, c3, c4⟩ := HS7.out.box
    obtain ⟨i0, i1, i2, i3, i4⟩ := HS9.out.box
    have HBd := hide HBd.out.drew
    have HS7 := hide HS7.out.drew
    have HS8 := hide HS8.out.drew
    have HS9 := hide HS9.out.drew
    rw [M1.out (by omega)] at HC0
    have M3 := hide (M3.out (by omega))
    obtain ⟨y, hy⟩ : ∃ y, y = Hd.least ⟨b, s, f - 1, l, false⟩ := ⟨_, rfl⟩
    rw [← hy] at HSm M3
    clear M1 hy
    by_cases hyl : y = l
    · subst hyl
      rw [M3.out rfl] at HC2
      have hb9 : (y == y) = true := by simp
      go_region_held3 (fun u => (u.cell? ⟨w1.heap.size, 0, none⟩ = some (.int .i64 b) ∧ u.cell? ⟨w1.heap.size, 1, none⟩ = some (.int .i64 s) ∧ u.cell? ⟨w1.heap.size, 2, none⟩ = some (.int .i64 o) ∧ u.cell? ⟨w1.heap.size, 3, none⟩ = some (.int .i64 y) ∧ u.cell? ⟨w1.heap.size, 4, none⟩ = some (.bool false)) ∧ (u.cell? ⟨B9, 0, none⟩ = some (.int .i64 b) ∧ u.cell? ⟨B9, 1, none⟩ = some (.int .i64 s) ∧ u.cell? ⟨B9, 2, none⟩ = some (.int .i64 (f - 1)) ∧ u.cell? ⟨B9, 3, none⟩ = some (.int .i64 y) ∧ u.cell? ⟨B9, 4, none⟩ = some (.bool false))) (first | go_keep | exact ⟨HS7.out.box, HS9.out.box⟩) (first
        | (go_at_call_of 22 (Value.agg #[Value.int IntKind.i64 b, Value.int IntKind.i64 s, Value.int IntKind.i64 o, Value.int IntKind.i64 y, Value.bool false]); refine ((HLe2 _).out).mono ?_; rintro e9 w9 ⟨rfl, hb7⟩; have HBd := hide (HBd.out.trans (hb7.mono HBd.out.size)); have HS7 := hide (HS7.out.below hb7); have HS8 := hide (HS8.out.below hb7); have HS9 := hide (HS9.out.below hb7); clear hb7)
        | (go_at_call 22; refine ((HSm _).out).mono ?_; rintro e9 w9 ⟨rfl, hb7⟩; have HBd := hide (HBd.out.trans (hb7.mono HBd.out.size)); have HS7 := hide (HS7.out.below hb7); have HS8 := hide (HS8.out.below hb7); have HS9 := hide (HS9.out.below hb7); clear hb7))
      clear c0 c1 c2 c3 c4 i0 i1 i2 i3 i4
      obtain ⟨c0, c1, c2, c3, c4⟩ := HS7.out.box
      obtain ⟨p0, p1, p2, p3, p4⟩ := HS8.out.box
      obtain ⟨i0, i1, i2, i3, i4⟩ := HS9.out.box
      go_wp2_with fail
      refine ((HC0 _).out).mono ?_
      rintro e9 wa0 ⟨rfl, hb7⟩
      have HBd := hide (HBd.out.trans (hb7.mono HBd.out.size))
      have HS7 := hide (HS7.out.below hb7)
      have HS8 := hide (HS8.out.below hb7)
      have HS9 := hide (HS9.out.below hb7)
      clear hb7
      obtain ⟨c0, c1, c2, c3, c4⟩ := HS7.out.box
      obtain ⟨p0, p1, p2, p3, p4⟩ := HS8.out.box
      obtain ⟨i0, i1, i2, i3, i4⟩ := HS9.out.box
      go_wp2_with fail
      refine ((HC1 _).out).mono ?_
      rintro e9 wa1 ⟨rfl, hb7⟩
      have HBd := hide (HBd.out.trans (hb7.mono HBd.out.size))
      have HS7 := hide (HS7.out.below hb7)
      have HS8 := hide (HS8.out.below hb7)
      have HS9 := hide (HS9.out.below hb7)
      clear hb7
      obtain ⟨c0, c1, c2, c3, c4⟩ := HS7.out.box
      obtain ⟨p0, p1, p2, p3, p4⟩ := HS8.out.box
      obtain ⟨i0, i1, i2, i3, i4⟩ := HS9.out.box
      go_wp2_with fail
      refine ((HC2 _).out).mono ?_
      rintro e9 wa2 ⟨rfl, hb7⟩
      have HBd := hide (HBd.out.trans (hb7.mono HBd.out.size))
      have HS7 := hide (HS7.out.below hb7)
      have HS8 := hide (HS8.out.below hb7)
      have HS9 := hide (HS9.out.below hb7)
      clear hb7
      obtain ⟨c0, c1, c2, c3, c4⟩ := HS7.out.box
      obtain ⟨p0, p1, p2, p3, p4⟩ := HS8.out.box
      obtain ⟨i0, i1, i2, i3, i4⟩ := HS9.out.box
      go_wp2_with fail
      go_ret
      exact ⟨rfl, HBd.out⟩
    · have hb9 : (y == l) = false := by simp [hyl]
      go_region_held3 (fun u => (u.cell? ⟨w1.heap.size, 0, none⟩ = some (.int .i64 b) ∧ u.cell? ⟨w1.heap.size, 1, none⟩ = some (.int .i64 s) ∧ u.cell? ⟨w1.heap.size, 2, none⟩ = some (.int .i64 o) ∧ u.cell? ⟨w1.heap.size, 3, none⟩ = some (.int .i64 l) ∧ u.cell? ⟨w1.heap.size, 4, none⟩ = some (.bool false)) ∧ (u.cell? ⟨B9, 0, none⟩ = some (.int .i64 b) ∧ u.cell? ⟨B9, 1, none⟩ = some (.int .i64 s) ∧ u.cell? ⟨B9, 2, none⟩ = some (.int .i64 (f - 1)) ∧ u.cell? ⟨B9, 3, none⟩ = some (.int .i64 l) ∧ u.cell? ⟨B9, 4, none⟩ = some (.bool false))) (first | go_keep | exact ⟨HS7.out.box, HS9.out.box⟩) (first
        | (go_at_call_of 22 (Value.agg #[Value.int IntKind.i64 b, Value.int IntKind.i64 s, Value.int IntKind.i64 o, Value.int IntKind.i64 l, Value.bool false]); refine ((HLe2 _).out).mono ?_; rintro e9 w9 ⟨rfl, hb7⟩; have HBd := hide (HBd.out.trans (hb7.mono HBd.out.size)); have HS7 := hide (HS7.out.below hb7); have HS8 := hide (HS8.out.below hb7); have HS9 := hide (HS9.out.below hb7); clear hb7)
        | (go_at_call 22; refine ((HSm _).out).mono ?_; rintro e9 w9 ⟨rfl, hb7⟩; have HBd := hide (HBd.out.trans (hb7.mono HBd.out.size)); have HS7 := hide (HS7.out.below hb7); have HS8 := hide (HS8.out.below hb7); have HS9 := hide (HS9.out.below hb7); clear hb7))
      clear c0 c1 c2 c3 c4 i0 i1 i2 i3 i4
      obtain ⟨c0, c1, c2, c3, c4⟩ := HS7.out.box
      obtain ⟨p0, p1, p2, p3, p4⟩ := HS8.out.box
      obtain ⟨i0, i1, i2, i3, i4⟩ := HS9.out.box
      go_wp2_with fail
      refine ((HC0 _).out).mono ?_
      rintro e9 wa0 ⟨rfl, hb7⟩
      have HBd := hide (HBd.out.trans (hb7.mono HBd.out.size))
      have HS7 := hide (HS7.out.below hb7)
      have HS8 := hide (HS8.out.below hb7)
      have HS9 := hide (HS9.out.below hb7)
      clear hb7
      obtain ⟨c0, c1, c2, c3, c4⟩ := HS7.out.box
      obtain ⟨p0, p1, p2, p3, p4⟩ := HS8.out.box
      obtain ⟨i0, i1, i2, i3, i4⟩ := HS9.out.box
      go_wp2_with fail
      refine ((HC1 _).out).mono ?_
      rintro e9 wa1 ⟨rfl, hb7⟩
      have HBd := hide (HBd.out.trans (hb7.mono HBd.out.size))
      have HS7 := hide (HS7.out.below hb7)
      have HS8 := hide (HS8.out.below hb7)
      have HS9 := hide (HS9.out.below hb7)
      clear hb7
      obtain ⟨c0, c1, c2, c3, c4⟩ := HS7.out.box
      obtain ⟨p0, p1, p2, p3, p4⟩ := HS8.out.box
      obtain ⟨i0, i1, i2, i3, i4⟩ := HS9.out.box
      go_wp2_with fail
      go_ret
      exact ⟨rfl, HBd.out⟩
  · skip
    have HS8 : Hid (Stay ((w4.alloc (.cells #[.int .i64 b, .int .i64 s, .int .i64 o, .int .i64 l, .bool false] 23)).alloc (.cells #[.int .i64 b, .int .i64 s, .int .i64 o, .int .i64 l, .bool false] 23)).drew w4.heap.size #[.int .i64 b, .int .i64 s, .int .i64 o, .int .i64 l, .bool false] 23) := hide HN8.out
    have HS9 : Hid (Stay ((w4.alloc (.cells #[.int .i64 b, .int .i64 s, .int .i64 o, .int .i64 l, .bool false] 23)).alloc (.cells #[.int .i64 b, .int .i64 s, .int .i64 o, .int .i64 l, .bool false] 23)).drew (w4.heap.size + 1) #[.int .i64 b, .int .i64 s, .int .i64 o, .int .i64 l, .bool false] 23) := hide HN9.out
    generalize ((w4.alloc (.cells #[.int .i64 b, .int .i64 s, .int .i64 o, .int .i64 l, .bool false] 23)).alloc (.cells #[.int .i64 b, .int .i64 s, .int .i64 o, .int .i64 l, .bool false] 23)).drew = w5 at *
    clear c0 c1 c2 c3 c4
    obtain ⟨B8, hB8⟩ : ∃ B8, B8 = w4.heap.size := ⟨_, rfl⟩
    obtain ⟨B9, hB9⟩ : ∃ B9, B9 = (w4.heap.size + 1) := ⟨_, rfl⟩
    rw [← hB8] at HS8
    rw [← hB9] at HS9
    have n87 : w1.heap.size ≠ B8 := by omega
    have n97 : w1.heap.size ≠ B9 := by omega
    have n89 : B9 ≠ B8 := by omega
    have g8 : w.heap.size ≤ B8 := by have := HBw.out; omega
    have g9 : w.heap.size ≤ B9 := by have := HBw.out; omega
    rw [← hB9, ← hB8]
    clear hB8 hB9 hlt4 HSd HBw
    have d3 : w5.cell? ⟨B8, 3, none⟩ = some (.int .i64 l) := HS8.out.cell 3 _ rfl
    have f3 := HS8.out.frozen 3
    go_wp2_with fail
    have HS8 : Hid (Stay (w5.setCell ⟨B8, 3, none⟩ (.int .i64 (l - 1))) B8 #[.int .i64 b, .int .i64 s, .int .i64 o, .int .i64 (l - 1), .bool false] 23) := hide (HS8.out.set 3 _)
    have HS7 := hide (HS7.out.other (i := 3) (v := .int .i64 (l - 1)) n87)
    have HS9 := hide (HS9.out.other (i := 3) (v := .int .i64 (l - 1)) n89)
    have HBd := hide (HBd.out.setCell (p := ⟨B8, 3, none⟩) g8 (.int .i64 (l - 1)))
    clear d3 f3
    generalize w5.setCell ⟨B8, 3, none⟩ (.int .i64 (l - 1)) = w6 at *
    obtain ⟨c0, c1, c2, c3, c4⟩ := HS7.out.box
    go_wp2_with fail
    refine ((HFi _).out).mono ?_
    rintro e9 w7 ⟨rfl, hb7⟩
    have HBd := hide (HBd.out.trans (hb7.mono HBd.out.size))
    have HS7 := hide (HS7.out.below hb7)
    have HS8 := hide (HS8.out.below hb7)
    have HS9 := hide (HS9.out.below hb7)
    clear hb7
    clear c0 c1 c2 c3 c4
    have d2 : w7.cell? ⟨B9, 2, none⟩ = some (.int .i64 o) := HS9.out.cell 2 _ rfl
    have f2 := HS9.out.frozen 2
    go_wp2_with fail
    have HS9 : Hid (Stay (w7.setCell ⟨B9, 2, none⟩ (.int .i64 (f - 1))) B9 #[.int .i64 b, .int .i64 s, .int .i64 (f - 1), .int .i64 l, .bool false] 23) := hide (HS9.out.set 2 _)
    have HS7 := hide (HS7.out.other (i := 2) (v := .int .i64 (f - 1)) n97)
    have HS8 := hide (HS8.out.other (i := 2) (v := .int .i64 (f - 1)) n89.symm)
    have HBd := hide (HBd.out.setCell (p := ⟨B9, 2, none⟩) g9 (.int .i64 (f - 1)))
    clear d2 f2
    generalize w7.setCell ⟨B9, 2, none⟩ (.int .i64 (f - 1)) = w8 at *
    obtain ⟨c0, c1, c2, c3, c4⟩ := HS7.out.box
    obtain ⟨i0, i1, i2, i3, i4⟩ := HS9.out.box
    have HBd := hide HBd.out.drew
    have HS7 := hide HS7.out.drew
    have HS8 := hide HS8.out.drew
    have HS9 := hide HS9.out.drew
    rw [M1.out (by omega)] at HC0
    have M3 := hide (M3.out (by omega))
    obtain ⟨y, hy⟩ : ∃ y, y = Hd.least ⟨b, s, f - 1, l, false⟩ := ⟨_, rfl⟩
    rw [← hy] at HSm M3
    clear M1 hy
    by_cases hyl : y = l
    · subst hyl
      rw [M3.out rfl] at HC2
      have hb9 : (y == y) = true := by simp
      go_region_held3 (fun u => (u.cell? ⟨w1.heap.size, 0, none⟩ = some (.int .i64 b) ∧ u.cell? ⟨w1.heap.size, 1, none⟩ = some (.int .i64 s) ∧ u.cell? ⟨w1.heap.size, 2, none⟩ = some (.int .i64 o) ∧ u.cell? ⟨w1.heap.size, 3, none⟩ = some (.int .i64 y) ∧ u.cell? ⟨w1.heap.size, 4, none⟩ = some (.bool false)) ∧ (u.cell? ⟨B9, 0, none⟩ = some (.int .i64 b) ∧ u.cell? ⟨B9, 1, none⟩ = some (.int .i64 s) ∧ u.cell? ⟨B9, 2, none⟩ = some (.int .i64 (f - 1)) ∧ u.cell? ⟨B9, 3, none⟩ = some (.int .i64 y) ∧ u.cell? ⟨B9, 4, none⟩ = some (.bool false))) (first | go_keep | exact ⟨HS7.out.box, HS9.out.box⟩) (first
        | (go_at_call_of 22 (Value.agg #[Value.int IntKind.i64 b, Value.int IntKind.i64 s, Value.int IntKind.i64 o, Value.int IntKind.i64 y, Value.bool false]); refine ((HLe2 _).out).mono ?_; rintro e9 w9 ⟨rfl, hb7⟩; have HBd := hide (HBd.out.trans (hb7.mono HBd.out.size)); have HS7 := hide (HS7.out.below hb7); have HS8 := hide (HS8.out.below hb7); have HS9 := hide (HS9.out.below hb7); clear hb7)
        | (go_at_call 22; refine ((HSm _).out).mono ?_; rintro e9 w9 ⟨rfl, hb7⟩; have HBd := hide (HBd.out.trans (hb7.mono HBd.out.size)); have HS7 := hide (HS7.out.below hb7); have HS8 := hide (HS8.out.below hb7); have HS9 := hide (HS9.out.below hb7); clear hb7))
      clear c0 c1 c2 c3 c4 i0 i1 i2 i3 i4
      obtain ⟨c0, c1, c2, c3, c4⟩ := HS7.out.box
      obtain ⟨p0, p1, p2, p3, p4⟩ := HS8.out.box
      obtain ⟨i0, i1, i2, i3, i4⟩ := HS9.out.box
      go_wp2_with fail
      refine ((HC0 _).out).mono ?_
      rintro e9 wa0 ⟨rfl, hb7⟩
      have HBd := hide (HBd.out.trans (hb7.mono HBd.out.size))
      have HS7 := hide (HS7.out.below hb7)
      have HS8 := hide (HS8.out.below hb7)
      have HS9 := hide (HS9.out.below hb7)
      clear hb7
      obtain ⟨c0, c1, c2, c3, c4⟩ := HS7.out.box
      obtain ⟨p0, p1, p2, p3, p4⟩ := HS8.out.box
      obtain ⟨i0, i1, i2, i3, i4⟩ := HS9.out.box
      go_wp2_with fail
      refine ((HC1 _).out).mono ?_
      rintro e9 wa1 ⟨rfl, hb7⟩
      have HBd := hide (HBd.out.trans (hb7.mono HBd.out.size))
      have HS7 := hide (HS7.out.below hb7)
      have HS8 := hide (HS8.out.below hb7)
      have HS9 := hide (HS9.out.below hb7)
      clear hb7
      obtain ⟨c0, c1, c2, c3, c4⟩ := HS7.out.box
      obtain ⟨p0, p1, p2, p3, p4⟩ := HS8.out.box
      obtain ⟨i0, i1, i2, i3, i4⟩ := HS9.out.box
      go_wp2_with fail
      refine ((HC2 _).out).mono ?_
      rintro e9 wa2 ⟨rfl, hb7⟩
      have HBd := hide (HBd.out.trans (hb7.mono HBd.out.size))
      have HS7 := hide (HS7.out.below hb7)
      have HS8 := hide (HS8.out.below hb7)
      have HS9 := hide (HS9.out.below hb7)
      clear hb7
      obtain ⟨c0, c1, c2, c3, c4⟩ := HS7.out.box
      obtain ⟨p0, p1, p2, p3, p4⟩ := HS8.out.box
      obtain ⟨i0, i1, i2, i3, i4⟩ := HS9.out.box
      go_wp2_with fail
      go_ret
      exact ⟨rfl, HBd.out⟩
    · have hb9 : (y == l) = false := by simp [hyl]
      go_region_held3 (fun u => (u.cell? ⟨w1.heap.size, 0, none⟩ = some (.int .i64 b) ∧ u.cell? ⟨w1.heap.size, 1, none⟩ = some (.int .i64 s) ∧ u.cell? ⟨w1.heap.size, 2, none⟩ = some (.int .i64 o) ∧ u.cell? ⟨w1.heap.size, 3, none⟩ = some (.int .i64 l) ∧ u.cell? ⟨w1.heap.size, 4, none⟩ = some (.bool false)) ∧ (u.cell? ⟨B9, 0, none⟩ = some (.int .i64 b) ∧ u.cell? ⟨B9, 1, none⟩ = some (.int .i64 s) ∧ u.cell? ⟨B9, 2, none⟩ = some (.int .i64 (f - 1)) ∧ u.cell? ⟨B9, 3, none⟩ = some (.int .i64 l) ∧ u.cell? ⟨B9, 4, none⟩ = some (.bool false))) (first | go_keep | exact ⟨HS7.out.box, HS9.out.box⟩) (first
        | (go_at_call_of 22 (Value.agg #[Value.int IntKind.i64 b, Value.int IntKind.i64 s, Value.int IntKind.i64 o, Value.int IntKind.i64 l, Value.bool false]); refine ((HLe2 _).out).mono ?_; rintro e9 w9 ⟨rfl, hb7⟩; have HBd := hide (HBd.out.trans (hb7.mono HBd.out.size)); have HS7 := hide (HS7.out.below hb7); have HS8 := hide (HS8.out.below hb7); have HS9 := hide (HS9.out.below hb7); clear hb7)
        | (go_at_call 22; refine ((HSm _).out).mono ?_; rintro e9 w9 ⟨rfl, hb7⟩; have HBd := hide (HBd.out.trans (hb7.mono HBd.out.size)); have HS7 := hide (HS7.out.below hb7); have HS8 := hide (HS8.out.below hb7); have HS9 := hide (HS9.out.below hb7); clear hb7))
      clear c0 c1 c2 c3 c4 i0 i1 i2 i3 i4
      obtain ⟨c0, c1, c2, c3, c4⟩ := HS7.out.box
      obtain ⟨p0, p1, p2, p3, p4⟩ := HS8.out.box
      obtain ⟨i0, i1, i2, i3, i4⟩ := HS9.out.box
      go_wp2_with fail
      refine ((HC0 _).out).mono ?_
      rintro e9 wa0 ⟨rfl, hb7⟩
      have HBd := hide (HBd.out.trans (hb7.mono HBd.out.size))
      have HS7 := hide (HS7.out.below hb7)
      have HS8 := hide (HS8.out.below hb7)
      have HS9 := hide (HS9.out.below hb7)
      clear hb7
      obtain ⟨c0, c1, c2, c3, c4⟩ := HS7.out.box
      obtain ⟨p0, p1, p2, p3, p4⟩ := HS8.out.box
      obtain ⟨i0, i1, i2, i3, i4⟩ := HS9.out.box
      go_wp2_with fail
      refine ((HC1 _).out).mono ?_
      rintro e9 wa1 ⟨rfl, hb7⟩
      have HBd := hide (HBd.out.trans (hb7.mono HBd.out.size))
      have HS7 := hide (HS7.out.below hb7)
      have HS8 := hide (HS8.out.below hb7)
      have HS9 := hide (HS9.out.below hb7)
      clear hb7
      obtain ⟨c0, c1, c2, c3, c4⟩ := HS7.out.box
      obtain ⟨p0, p1, p2, p3, p4⟩ := HS8.out.box
      obtain ⟨i0, i1, i2, i3, i4⟩ := HS9.out.box
      go_wp2_with fail
      go_ret
      exact ⟨rfl, HBd.out⟩

set_option maxRecDepth 100000 in
theorem headerLeasts_lifted (os : Os) (started : os.Started) (H : Type) (enc : TypeId × Value → H) :
    ReturnsInHanded {} Try.checked os 8 .any (Rows.headerLeastsSpec.pre6 enc Try.prog Try.f8 Rows.headerLeastsRow.domain false) (Rows.headerLeastsSpec.post enc Try.prog Try.f8 false true false false) := by
  refine returnsInHanded_of_change (C := Try.checked) own started (by kernel_rfl) Try.func8
    (ChangeSpec.witness6 (enc := enc) (C := Try.checked) false ⟨#[], #[.int .i64 0, .int .i64 0, .int .i64 0], []⟩ 8 (by kernel_rfl) (by kernel_rfl) (by kernel_rfl) (by kernel_rfl)) ?_
  intro W base args ds gs before hval0 hW _ _
  have hval : ∀ (j : Nat) t v, Try.f8.params[j]? = some t → args[j]? = some v → Value.okWide Try.prog W .any base t v := hval0
  have hW' := hW
  obtain ⟨p, q, hA0, hV, rfl, hfz, hnd⟩ := hW
  have hA : DataW.TrodAll enc Try.prog W 0 (fun _ => true) true Try.f8.params.toList args.toList ds p := hA0
  rw [Try.params8] at hA hval
  obtain ⟨v0, vs0, d0, ds0, p0, q0, hargs0, rfl, rfl, h0, r0⟩ := trodAll_cons hA
  obtain ⟨v1, vs1, d1, ds1, p1, q1, hargs1, rfl, rfl, h1, r1⟩ := trodAll_cons r0
  obtain ⟨v2, vs2, d2, ds2, p2, q2, hargs2, rfl, rfl, h2, r2⟩ := trodAll_cons r1
  obtain ⟨rfl, rfl, rfl⟩ := trodAll_nil r2
  subst hargs2
  subst hargs1
  obtain rfl : args = #[v0, v1, v2] := by cases args; simp_all
  obtain ⟨rfl, rfl⟩ := trodVars_none hV
  simp only [List.append_nil] at hW'
  obtain ⟨x0, rfl, rfl, rfl, w0⟩ := open_int Try.underlying3 (hval 0 3 v0 rfl rfl) h0
  obtain ⟨x1, rfl, rfl, rfl, w1⟩ := open_int Try.underlying2 (hval 1 2 v1 rfl rfl) h1
  obtain ⟨x2, rfl, rfl, rfl, w2⟩ := open_int Try.underlying2 (hval 2 2 v2 rfl rfl) h2
  clear hA0
  refine (hleasts_walk x0 x1 x2 (i64_wf w0) (i64_wf w1) (i64_wf w2) W).mono fun e W' ⟨he, hb⟩ => ?_
  subst he
  refine ⟨_, rfl, _, _, _, [], ([] ++ ([] ++ ([] ++ []))), [], hW', ?_, ?_, rfl, hb.frame _, fun h => by cases h⟩
  · exact trodAll_cons_mk (shut_bool Try.underlying4 _) trodAll_mk0
  · exact trodAll_cons_mk (shut_int Try.underlying3 w0) (trodAll_cons_mk (shut_int Try.underlying2 w1) (trodAll_cons_mk (shut_int Try.underlying2 w2) (trodAll_mk0)))

theorem headerLeasts_holds : Rows.HeaderLeastsSaid :=
  OpenClaim.holds_of_wide 8 Try.f8 rfl rfl rfl rfl rfl rfl rfl ⟨rfl, rfl, rfl, rfl, rfl⟩ rfl rfl rfl rfl rfl (by kernel_rfl) Try.func8 (by kernel_rfl)
    (of_decide_eq_true (by kernel_rfl)) (by unfold Func.isWrapper; first | (rw [if_pos (by decide +kernel)]; kernel_rfl) | (rw [if_neg (by decide +kernel)]; exact ⟨rfl, rfl⟩))
    (fun os started H enc _ => headerLeasts_lifted os started H enc)
end Go.Proofs.Ytpmljlmcfofppaa.Oct
