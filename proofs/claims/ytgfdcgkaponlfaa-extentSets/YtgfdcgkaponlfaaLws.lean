/- For all triples of sets the statement ExtentSets answers true and changes nothing that was there: the laws of sets. No condition. -/
import Derived.Test.YtgfdcgkaponlfaaRows
import Derived.Test.YtgfdcgkaponlfaaHlv
namespace Go.Proofs.Ytgfdcgkaponlfaa.Oct
open Go.RowKit Go.Shelf Go.ChangeShapes Go.WideShapes Go.ChangeAt

theorem minus_r (w : World) (a b : Option Addr) (c d : Nat) (A B : List (Int × Int)) (hA : LiesE w a A) (hB : LiesE w b B) (n : Nat) (hl : A.length ≤ 10000) (hm : B.length ≤ 10000) (hn : A.length * (B.length + 1) ≤ n) (hn1 : n ≤ 1000000) :
    Calls Try.prog 14 #[.slice a A.length c, .slice b B.length d] w fun e w' => ∃ aR cR R, e = .returned (.slice aR R.length cR) ∧ LiesE w' aR R ∧ Form R ∧ (∀ x, InE R x ↔ InE A x ∧ ¬ InE B x) ∧ R.length ≤ n ∧ Below w.heap.size w w' := by
  refine (minus_set sort_says w a b c d A B hA hB (by omega) (by omega) (by omega)).mono ?_
  rintro e w' ⟨v, R, rfl, ho, hf, hs, hl9, hb⟩
  obtain ⟨aR, cR, rfl, hlr, _, _, _⟩ := ho.form
  exact ⟨aR, cR, R, rfl, hlr, hf, hs, by omega, hb⟩

theorem meet_r (w : World) (a b : Option Addr) (c d : Nat) (A B : List (Int × Int)) (hA : LiesE w a A) (hB : LiesE w b B) (n : Nat) (hl : A.length ≤ 10000) (hm : B.length ≤ 10000) (hn : A.length * B.length ≤ n) (hn1 : n ≤ 1000000) :
    Calls Try.prog 12 #[.slice a A.length c, .slice b B.length d] w fun e w' => ∃ aR cR R, e = .returned (.slice aR R.length cR) ∧ LiesE w' aR R ∧ Form R ∧ (∀ x, InE R x ↔ InE A x ∧ InE B x) ∧ R.length ≤ n ∧ Below w.heap.size w w' := by
  refine (meet_set sort_says w a b c d A B hA hB (by omega) (by omega) (by omega)).mono ?_
  rintro e w' ⟨v, R, rfl, ho, hf, hs, hl9, hb⟩
  obtain ⟨aR, cR, rfl, hlr, _, _, _⟩ := ho.form
  exact ⟨aR, cR, R, rfl, hlr, hf, hs, by omega, hb⟩

theorem union_r (w : World) (a b : Option Addr) (c d : Nat) (A B : List (Int × Int)) (hA : LiesE w a A) (hB : LiesE w b B) (n : Nat) (hn : A.length + B.length ≤ n) (hn1 : n ≤ 1000000) :
    Calls Try.prog 15 #[.slice (some ⟨w.heap.size, 0, none⟩) 2 2] (w.alloc (.cells #[.slice a A.length c, .slice b B.length d] 26)) fun e w' => ∃ aR cR R, e = .returned (.slice aR R.length cR) ∧ LiesE w' aR R ∧ Form R ∧ (∀ x, InE R x ↔ InE A x ∨ InE B x) ∧ R.length ≤ n ∧ Below w.heap.size w w' := by
  refine (union_any sort_says _ (some ⟨w.heap.size, 0, none⟩) 2 [⟨a, c, A⟩, ⟨b, d, B⟩] (lies_sets w a b c d A B hA hB) (by simp) (by simp [totS]; omega)).mono ?_
  rintro e w' ⟨v, R, rfl, ho, hn9, hb⟩
  have e9 : catS [⟨a, c, A⟩, ⟨b, d, B⟩] = A ++ B := by simp [catS]
  rw [e9] at hn9
  obtain ⟨aR, cR, rfl, hlr, _, _, _⟩ := ho.form
  have hb0 : Below w.heap.size w (w.alloc (.cells #[.slice a A.length c, .slice b B.length d] 26)) := (Below.refl _ _).alloc (Nat.le_refl _) _
  have hl9 := hn9.len
  rw [List.length_append] at hl9
  exact ⟨aR, cR, R, rfl, hlr, hn9.form, fun x => (hn9.set x).trans (inE_append A B x), by omega, hb0.trans (hb.mono hb0.size)⟩

theorem norm_r (w : World) (a : Option Addr) (c : Nat) (A : List (Int × Int)) (hA : LiesE w a A) (n : Nat) (hn : A.length ≤ n) (hn1 : n ≤ 1000000) :
    Calls Try.prog 23 #[.slice a A.length c] w fun e w' => ∃ aR cR R, e = .returned (.slice aR R.length cR) ∧ LiesE w' aR R ∧ Form R ∧ (∀ x, InE R x ↔ InE A x) ∧ R.length ≤ n ∧ Below w.heap.size w w' := by
  refine (norm_any sort_says w a c A hA (by omega)).mono ?_
  rintro e w' ⟨v, R, rfl, ho, hn9, hb⟩
  obtain ⟨aR, cR, rfl, hlr, _, _, _⟩ := ho.form
  exact ⟨aR, cR, R, rfl, hlr, hn9.form, hn9.set, Nat.le_trans hn9.len hn, hb⟩

theorem within_is (w : World) (a b : Option Addr) (c d : Nat) (A B : List (Int × Int)) (hA : LiesE w a A) (hB : LiesE w b B) (hl : A.length ≤ 10000) (hm : B.length ≤ 10000) (hn : A.length * (B.length + 1) ≤ 1000000) (h : ∀ x, InE A x → InE B x) :
    Calls Try.prog 16 #[.slice a A.length c, .slice b B.length d] w fun e w' => e = .returned (.bool true) ∧ Below w.heap.size w w' := by
  refine (within_any sort_says w a b c d A B hA hB (by omega) (by omega) hn).mono ?_
  rintro e w' ⟨⟨b9, rfl, hb9⟩, h2⟩
  exact ⟨by rw [hb9.2 h], h2⟩

set_option maxRecDepth 100000 in
set_option maxHeartbeats 16000000 in
theorem sets_walk (a b g : Option Addr) (c d k : Nat) (A B C : List (Int × Int)) (w : World) (hnA : A.length ≤ maxLen) (hnB : B.length ≤ maxLen) (hnC : C.length ≤ maxLen) (hA : LiesE w a A) (hB : LiesE w b B) (hC : LiesE w g C) :
    Calls Try.prog 6 #[.slice a A.length c, .slice b B.length d, .slice g C.length k] w fun e w' => e = .returned (.bool true) ∧ Below w.heap.size w w' := by
  have HJ := fun u => hide (joined_any sort_says u)
  have HL_A := hide hA
  have HL_B := hide hB
  have HL_C := hide hC
  unfold maxLen at hnA hnB hnC
  clear hA hB hC
  go_enter Try.func6, Try.ntmps6
  go_wp2_with fail
  refine ((HJ _).out).mono ?_
  rintro e w1 ⟨rfl, hb9⟩
  have HB := hide hb9
  clear hb9
  have HLA := hide (near_says w1 a c A (HL_A.out.below HB.out) (by omega))
  go_wp2_with fail
  refine HLA.out.mono ?_
  rintro e w2 (⟨rfl, hw2⟩ | ⟨rfl, hw2, hl_A, hnrA⟩)
  · have he := hw2.symm
    clear hw2
    subst he
    go_wp2_with fail
    refine ((HJ _).out).mono ?_
    rintro e w3 ⟨rfl, hb3⟩
    have HB := hide (HB.out.trans (hb3.mono HB.out.size))
    clear hb3
    go_wp2_with fail
    go_ret
    exact ⟨rfl, HB.out⟩
  have he := hw2.symm
  clear hw2
  subst he
  have HNrA := hide hnrA
  clear HLA hnrA
  have HLA := hide (near_says w1 b d B (HL_B.out.below HB.out) (by omega))
  go_wp2_with fail
  refine HLA.out.mono ?_
  rintro e w2 (⟨rfl, hw2⟩ | ⟨rfl, hw2, hl_B, hnrB⟩)
  · have he := hw2.symm
    clear hw2
    subst he
    go_wp2_with fail
    refine ((HJ _).out).mono ?_
    rintro e w3 ⟨rfl, hb3⟩
    have HB := hide (HB.out.trans (hb3.mono HB.out.size))
    clear hb3
    go_wp2_with fail
    go_ret
    exact ⟨rfl, HB.out⟩
  have he := hw2.symm
  clear hw2
  subst he
  have HNrB := hide hnrB
  clear HLA hnrB
  have HLA := hide (near_says w1 g k C (HL_C.out.below HB.out) (by omega))
  go_wp2_with fail
  refine HLA.out.mono ?_
  rintro e w2 (⟨rfl, hw2⟩ | ⟨rfl, hw2, hl_C, hnrC⟩)
  · have he := hw2.symm
    clear hw2
    subst he
    go_wp2_with fail
    refine ((HJ _).out).mono ?_
    rintro e w3 ⟨rfl, hb3⟩
    have HB := hide (HB.out.trans (hb3.mono HB.out.size))
    clear hb3
    go_wp2_with fail
    go_ret
    exact ⟨rfl, HB.out⟩
  have he := hw2.symm
  clear hw2
  subst he
  have HNrC := hide hnrC
  clear HLA hnrC
  have HM := hide (minus_r w1 a b c d A B (HL_A.out.below HB.out) (HL_B.out.below HB.out) 930 (by omega) (by omega) (Nat.le_trans (Nat.mul_le_mul hl_A (Nat.succ_le_succ hl_B)) (by omega)) (by omega))
  go_wp2_with fail
  refine HM.out.mono ?_
  rintro e u11 ⟨aD1, cD1, D1, rfl, hlr, hf9, hs9, hl_D1, hb9⟩
  have HB := hide (HB.out.trans (hb9.mono HB.out.size))
  have HL_D1 := hide hlr
  have HF_D1 := hide hf9
  have HS_D1 := hide hs9
  clear HM hlr hf9 hs9 hb9
  have HM := hide (meet_r u11 a b c d A B (HL_A.out.below HB.out) (HL_B.out.below HB.out) 900 (by omega) (by omega) (Nat.le_trans (Nat.mul_le_mul hl_A hl_B) (by omega)) (by omega))
  go_wp2_with fail
  refine HM.out.mono ?_
  rintro e u12 ⟨aM1, cM1, M1, rfl, hlr, hf9, hs9, hl_M1, hb9⟩
  have HB := hide (HB.out.trans (hb9.mono HB.out.size))
  have HL_D1 := hide (HL_D1.out.below hb9)
  have HL_M1 := hide hlr
  have HF_M1 := hide hf9
  have HS_M1 := hide hs9
  clear HM hlr hf9 hs9 hb9
  have HM := hide (union_r u12 aD1 aM1 cD1 cM1 D1 M1 HL_D1.out HL_M1.out 1830 (by omega) (by omega))
  go_wp2_with fail
  refine HM.out.mono ?_
  rintro e u13 ⟨aU1, cU1, U1, rfl, hlr, hf9, hs9, hl_U1, hb9⟩
  have HB := hide (HB.out.trans (hb9.mono HB.out.size))
  have HL_D1 := hide (HL_D1.out.below hb9)
  have HL_M1 := hide (HL_M1.out.below hb9)
  have HL_U1 := hide hlr
  have HF_U1 := hide hf9
  have HS_U1 := hide hs9
  clear HM hlr hf9 hs9 hb9
  have HM := hide (norm_r u13 a c A (HL_A.out.below HB.out) 30 (by omega) (by omega))
  go_wp2_with fail
  refine HM.out.mono ?_
  rintro e u14 ⟨aN1, cN1, N1, rfl, hlr, hf9, hs9, hl_N1, hb9⟩
  have HB := hide (HB.out.trans (hb9.mono HB.out.size))
  have HL_D1 := hide (HL_D1.out.below hb9)
  have HL_M1 := hide (HL_M1.out.below hb9)
  have HL_U1 := hide (HL_U1.out.below hb9)
  have HL_N1 := hide hlr
  have HF_N1 := hide hf9
  have HS_N1 := hide hs9
  clear HM hlr hf9 hs9 hb9
  have HM := hide (same_yes u14 aU1 aN1 cU1 cN1 U1 N1 HL_U1.out HL_N1.out (by omega) (Form.unique _ _ HF_U1.out HF_N1.out (fun q => by rw [HS_U1.out q, HS_D1.out q, HS_M1.out q, HS_N1.out q]; by_cases h : InE B q <;> simp [h])))
  go_wp2_with fail
  refine HM.out.mono ?_
  rintro e u15 ⟨rfl, hb9⟩
  have HB := hide (HB.out.trans (hb9.mono HB.out.size))
  have HL_D1 := hide (HL_D1.out.below hb9)
  have HL_M1 := hide (HL_M1.out.below hb9)
  have HL_U1 := hide (HL_U1.out.below hb9)
  have HL_N1 := hide (HL_N1.out.below hb9)
  clear HM hb9
  clear HL_N1
  clear HL_U1 HF_U1 HS_U1
  clear HL_D1 HF_D1 HS_D1
  clear HL_M1 HF_M1 HS_M1
  have HM := hide (minus_r u15 a b c d A B (HL_A.out.below HB.out) (HL_B.out.below HB.out) 930 (by omega) (by omega) (Nat.le_trans (Nat.mul_le_mul hl_A (Nat.succ_le_succ hl_B)) (by omega)) (by omega))
  go_wp2_with fail
  refine HM.out.mono ?_
  rintro e u16 ⟨aD2, cD2, D2, rfl, hlr, hf9, hs9, hl_D2, hb9⟩
  have HB := hide (HB.out.trans (hb9.mono HB.out.size))
  have HL_D2 := hide hlr
  have HF_D2 := hide hf9
  have HS_D2 := hide hs9
  clear HM hlr hf9 hs9 hb9
  have HM := hide (meet_r u16 aD2 b cD2 d D2 B HL_D2.out (HL_B.out.below HB.out) 27900 (by omega) (by omega) (Nat.le_trans (Nat.mul_le_mul hl_D2 hl_B) (by omega)) (by omega))
  go_wp2_with fail
  refine HM.out.mono ?_
  rintro e u17 ⟨aE2, cE2, E2, rfl, hlr, hf9, hs9, hl_E2, hb9⟩
  have HB := hide (HB.out.trans (hb9.mono HB.out.size))
  have HL_D2 := hide (HL_D2.out.below hb9)
  have HL_E2 := hide hlr
  have HF_E2 := hide hf9
  have HS_E2 := hide hs9
  clear HM hlr hf9 hs9 hb9
  have h0 : E2.length = 0 := HF_E2.out.empty.2 (fun q hq => by have h1 := (HS_E2.out q).1 hq; have h2 := (HS_D2.out q).1 h1.1; exact h2.2 h1.2)
  rw [h0]
  clear h0
  clear HL_E2 HF_E2 HS_E2
  clear HL_D2 HF_D2 HS_D2
  have HM := hide (minus_r u17 a b c d A B (HL_A.out.below HB.out) (HL_B.out.below HB.out) 930 (by omega) (by omega) (Nat.le_trans (Nat.mul_le_mul hl_A (Nat.succ_le_succ hl_B)) (by omega)) (by omega))
  go_wp2_with fail
  refine HM.out.mono ?_
  rintro e u18 ⟨aD3, cD3, D3, rfl, hlr, hf9, hs9, hl_D3, hb9⟩
  have HB := hide (HB.out.trans (hb9.mono HB.out.size))
  have HL_D3 := hide hlr
  have HF_D3 := hide hf9
  have HS_D3 := hide hs9
  clear HM hlr hf9 hs9 hb9
  have HN_D := hide (near_sub HF_D3.out (fun q hq => ((HS_D3.out q).1 hq).1) HNrA.out)
  have HN_N := hide (near_sub HF_N1.out (fun q hq => (HS_N1.out q).1 hq) HNrA.out)
  obtain ⟨sa, hsa⟩ : ∃ z, sumE 0 D3 = z := ⟨_, rfl⟩
  obtain ⟨sn, hsn⟩ : ∃ z, sumE 0 N1 = z := ⟨_, rfl⟩
  have hbd1 := sum_bound HN_D.out (by omega)
  have HM := hide (bytes_is u18 aD3 cD3 D3 D3 HL_D3.out (by omega) HN_D.out HF_D3.out (fun _ => Iff.rfl))
  rw [hsa] at HM hbd1
  go_wp2_with fail
  refine HM.out.mono ?_
  rintro e u19 ⟨rfl, hb9⟩
  have HB := hide (HB.out.trans (hb9.mono HB.out.size))
  have HL_D3 := hide (HL_D3.out.below hb9)
  clear HM hb9
  have HM := hide (meet_r u19 a b c d A B (HL_A.out.below HB.out) (HL_B.out.below HB.out) 900 (by omega) (by omega) (Nat.le_trans (Nat.mul_le_mul hl_A hl_B) (by omega)) (by omega))
  go_wp2_with fail
  refine HM.out.mono ?_
  rintro e u20 ⟨aM3, cM3, M3, rfl, hlr, hf9, hs9, hl_M3, hb9⟩
  have HB := hide (HB.out.trans (hb9.mono HB.out.size))
  have HL_D3 := hide (HL_D3.out.below hb9)
  have HL_M3 := hide hlr
  have HF_M3 := hide hf9
  have HS_M3 := hide hs9
  clear HM hlr hf9 hs9 hb9
  have HN_M := hide (near_sub HF_M3.out (fun q hq => ((HS_M3.out q).1 hq).1) HNrA.out)
  obtain ⟨sb, hsb⟩ : ∃ z, sumE 0 M3 = z := ⟨_, rfl⟩
  have hbd2 := sum_bound HN_M.out (by omega)
  have hsum := sum_parts HF_D3.out HF_M3.out HF_N1.out HN_D.out HN_M.out HN_N.out (fun q => by rw [HS_N1.out q, HS_D3.out q, HS_M3.out q]; by_cases h : InE B q <;> simp [h]) (fun q h1 h2 => ((HS_D3.out q).1 h1).2 ((HS_M3.out q).1 h2).2)
  rw [hsa, hsb, hsn] at hsum
  have HM := hide (bytes_is u20 aM3 cM3 M3 M3 HL_M3.out (by omega) HN_M.out HF_M3.out (fun _ => Iff.rfl))
  rw [hsb] at HM hbd2
  go_wp2_with fail
  refine HM.out.mono ?_
  rintro e u21 ⟨rfl, hb9⟩
  have HB := hide (HB.out.trans (hb9.mono HB.out.size))
  have HL_D3 := hide (HL_D3.out.below hb9)
  have HL_M3 := hide (HL_M3.out.below hb9)
  clear HM hb9
  have hs0 : ¬ (sa + sb < -9223372036854775808) := by omega
  have hs1 : ¬ (sa + sb > 9223372036854775807) := by omega
  have HM := hide (bytes_is u21 a c A N1 (HL_A.out.below HB.out) (by omega) HNrA.out HF_N1.out HS_N1.out)
  rw [hsn] at HM
  go_wp2_with fail
  refine HM.out.mono ?_
  rintro e u22 ⟨rfl, hb9⟩
  have HB := hide (HB.out.trans (hb9.mono HB.out.size))
  have HL_D3 := hide (HL_D3.out.below hb9)
  have HL_M3 := hide (HL_M3.out.below hb9)
  clear HM hb9
  clear hsa hsb hsn HN_D HN_M HN_N
  subst hsum
  clear HL_D3 HF_D3 HS_D3
  clear HL_M3 HF_M3 HS_M3
  have HM := hide (meet_r u22 a b c d A B (HL_A.out.below HB.out) (HL_B.out.below HB.out) 900 (by omega) (by omega) (Nat.le_trans (Nat.mul_le_mul hl_A hl_B) (by omega)) (by omega))
  go_wp2_with fail
  refine HM.out.mono ?_
  rintro e u23 ⟨aM4, cM4, M4, rfl, hlr, hf9, hs9, hl_M4, hb9⟩
  have HB := hide (HB.out.trans (hb9.mono HB.out.size))
  have HL_M4 := hide hlr
  have HF_M4 := hide hf9
  have HS_M4 := hide hs9
  clear HM hlr hf9 hs9 hb9
  have HM := hide (within_is u23 aM4 a cM4 c M4 A HL_M4.out (HL_A.out.below HB.out) (by omega) (by omega) (Nat.le_trans (Nat.mul_le_mul hl_M4 (Nat.succ_le_succ hl_A)) (by omega)) (fun q hq => ((HS_M4.out q).1 hq).1))
  go_wp2_with fail
  refine HM.out.mono ?_
  rintro e u24 ⟨rfl, hb9⟩
  have HB := hide (HB.out.trans (hb9.mono HB.out.size))
  have HL_M4 := hide (HL_M4.out.below hb9)
  clear HM hb9
  clear HL_M4 HF_M4 HS_M4
  have HM := hide (union_r u24 a b c d A B (HL_A.out.below HB.out) (HL_B.out.below HB.out) 60 (by omega) (by omega))
  go_wp2_with fail
  refine HM.out.mono ?_
  rintro e u25 ⟨aU5, cU5, U5, rfl, hlr, hf9, hs9, hl_U5, hb9⟩
  have HB := hide (HB.out.trans (hb9.mono HB.out.size))
  have HL_U5 := hide hlr
  have HF_U5 := hide hf9
  have HS_U5 := hide hs9
  clear HM hlr hf9 hs9 hb9
  have HM := hide (within_is u25 a aU5 c cU5 A U5 (HL_A.out.below HB.out) HL_U5.out (by omega) (by omega) (Nat.le_trans (Nat.mul_le_mul hl_A (Nat.succ_le_succ hl_U5)) (by omega)) (fun q hq => (HS_U5.out q).2 (Or.inl hq)))
  go_wp2_with fail
  refine HM.out.mono ?_
  rintro e u26 ⟨rfl, hb9⟩
  have HB := hide (HB.out.trans (hb9.mono HB.out.size))
  have HL_U5 := hide (HL_U5.out.below hb9)
  clear HM hb9
  clear HL_U5 HF_U5 HS_U5
  have HM := hide (union_r u26 b g d k B C (HL_B.out.below HB.out) (HL_C.out.below HB.out) 60 (by omega) (by omega))
  go_wp2_with fail
  refine HM.out.mono ?_
  rintro e u27 ⟨aU6, cU6, U6, rfl, hlr, hf9, hs9, hl_U6, hb9⟩
  have HB := hide (HB.out.trans (hb9.mono HB.out.size))
  have HL_U6 := hide hlr
  have HF_U6 := hide hf9
  have HS_U6 := hide hs9
  clear HM hlr hf9 hs9 hb9
  have HM := hide (minus_r u27 a aU6 c cU6 A U6 (HL_A.out.below HB.out) HL_U6.out 1830 (by omega) (by omega) (Nat.le_trans (Nat.mul_le_mul hl_A (Nat.succ_le_succ hl_U6)) (by omega)) (by omega))
  go_wp2_with fail
  refine HM.out.mono ?_
  rintro e u28 ⟨aD6, cD6, D6, rfl, hlr, hf9, hs9, hl_D6, hb9⟩
  have HB := hide (HB.out.trans (hb9.mono HB.out.size))
  have HL_U6 := hide (HL_U6.out.below hb9)
  have HL_D6 := hide hlr
  have HF_D6 := hide hf9
  have HS_D6 := hide hs9
  clear HM hlr hf9 hs9 hb9
  have HM := hide (minus_r u28 a b c d A B (HL_A.out.below HB.out) (HL_B.out.below HB.out) 930 (by omega) (by omega) (Nat.le_trans (Nat.mul_le_mul hl_A (Nat.succ_le_succ hl_B)) (by omega)) (by omega))
  go_wp2_with fail
  refine HM.out.mono ?_
  rintro e u29 ⟨aF6, cF6, F6, rfl, hlr, hf9, hs9, hl_F6, hb9⟩
  have HB := hide (HB.out.trans (hb9.mono HB.out.size))
  have HL_U6 := hide (HL_U6.out.below hb9)
  have HL_D6 := hide (HL_D6.out.below hb9)
  have HL_F6 := hide hlr
  have HF_F6 := hide hf9
  have HS_F6 := hide hs9
  clear HM hlr hf9 hs9 hb9
  have HM := hide (minus_r u29 aF6 g cF6 k F6 C HL_F6.out (HL_C.out.below HB.out) 28830 (by omega) (by omega) (Nat.le_trans (Nat.mul_le_mul hl_F6 (Nat.succ_le_succ hl_C)) (by omega)) (by omega))
  go_wp2_with fail
  refine HM.out.mono ?_
  rintro e u30 ⟨aG6, cG6, G6, rfl, hlr, hf9, hs9, hl_G6, hb9⟩
  have HB := hide (HB.out.trans (hb9.mono HB.out.size))
  have HL_U6 := hide (HL_U6.out.below hb9)
  have HL_D6 := hide (HL_D6.out.below hb9)
  have HL_F6 := hide (HL_F6.out.below hb9)
  have HL_G6 := hide hlr
  have HF_G6 := hide hf9
  have HS_G6 := hide hs9
  clear HM hlr hf9 hs9 hb9
  have HM := hide (same_yes u30 aD6 aG6 cD6 cG6 D6 G6 HL_D6.out HL_G6.out (by omega) (Form.unique _ _ HF_D6.out HF_G6.out (fun q => by rw [HS_D6.out q, HS_U6.out q, HS_G6.out q, HS_F6.out q]; by_cases h : InE B q <;> simp [h])))
  go_wp2_with fail
  refine HM.out.mono ?_
  rintro e u31 ⟨rfl, hb9⟩
  have HB := hide (HB.out.trans (hb9.mono HB.out.size))
  have HL_U6 := hide (HL_U6.out.below hb9)
  have HL_D6 := hide (HL_D6.out.below hb9)
  have HL_F6 := hide (HL_F6.out.below hb9)
  have HL_G6 := hide (HL_G6.out.below hb9)
  clear HM hb9
  clear HL_U6 HF_U6 HS_U6
  clear HL_D6 HF_D6 HS_D6
  clear HL_F6 HF_F6 HS_F6
  clear HL_G6 HF_G6 HS_G6
  have HM := hide (union_r u31 b g d k B C (HL_B.out.below HB.out) (HL_C.out.below HB.out) 60 (by omega) (by omega))
  go_wp2_with fail
  refine HM.out.mono ?_
  rintro e u32 ⟨aU7, cU7, U7, rfl, hlr, hf9, hs9, hl_U7, hb9⟩
  have HB := hide (HB.out.trans (hb9.mono HB.out.size))
  have HL_U7 := hide hlr
  have HF_U7 := hide hf9
  have HS_U7 := hide hs9
  clear HM hlr hf9 hs9 hb9
  have HM := hide (meet_r u32 a aU7 c cU7 A U7 (HL_A.out.below HB.out) HL_U7.out 1800 (by omega) (by omega) (Nat.le_trans (Nat.mul_le_mul hl_A hl_U7) (by omega)) (by omega))
  go_wp2_with fail
  refine HM.out.mono ?_
  rintro e u33 ⟨aM7, cM7, M7, rfl, hlr, hf9, hs9, hl_M7, hb9⟩
  have HB := hide (HB.out.trans (hb9.mono HB.out.size))
  have HL_U7 := hide (HL_U7.out.below hb9)
  have HL_M7 := hide hlr
  have HF_M7 := hide hf9
  have HS_M7 := hide hs9
  clear HM hlr hf9 hs9 hb9
  have HM := hide (meet_r u33 a b c d A B (HL_A.out.below HB.out) (HL_B.out.below HB.out) 900 (by omega) (by omega) (Nat.le_trans (Nat.mul_le_mul hl_A hl_B) (by omega)) (by omega))
  go_wp2_with fail
  refine HM.out.mono ?_
  rintro e u34 ⟨aP7, cP7, P7, rfl, hlr, hf9, hs9, hl_P7, hb9⟩
  have HB := hide (HB.out.trans (hb9.mono HB.out.size))
  have HL_U7 := hide (HL_U7.out.below hb9)
  have HL_M7 := hide (HL_M7.out.below hb9)
  have HL_P7 := hide hlr
  have HF_P7 := hide hf9
  have HS_P7 := hide hs9
  clear HM hlr hf9 hs9 hb9
  have HM := hide (meet_r u34 a g c k A C (HL_A.out.below HB.out) (HL_C.out.below HB.out) 900 (by omega) (by omega) (Nat.le_trans (Nat.mul_le_mul hl_A hl_C) (by omega)) (by omega))
  go_wp2_with fail
  refine HM.out.mono ?_
  rintro e u35 ⟨aQ7, cQ7, Q7, rfl, hlr, hf9, hs9, hl_Q7, hb9⟩
  have HB := hide (HB.out.trans (hb9.mono HB.out.size))
  have HL_U7 := hide (HL_U7.out.below hb9)
  have HL_M7 := hide (HL_M7.out.below hb9)
  have HL_P7 := hide (HL_P7.out.below hb9)
  have HL_Q7 := hide hlr
  have HF_Q7 := hide hf9
  have HS_Q7 := hide hs9
  clear HM hlr hf9 hs9 hb9
  have HM := hide (union_r u35 aP7 aQ7 cP7 cQ7 P7 Q7 HL_P7.out HL_Q7.out 1800 (by omega) (by omega))
  go_wp2_with fail
  refine HM.out.mono ?_
  rintro e u36 ⟨aV7, cV7, V7, rfl, hlr, hf9, hs9, hl_V7, hb9⟩
  have HB := hide (HB.out.trans (hb9.mono HB.out.size))
  have HL_U7 := hide (HL_U7.out.below hb9)
  have HL_M7 := hide (HL_M7.out.below hb9)
  have HL_P7 := hide (HL_P7.out.below hb9)
  have HL_Q7 := hide (HL_Q7.out.below hb9)
  have HL_V7 := hide hlr
  have HF_V7 := hide hf9
  have HS_V7 := hide hs9
  clear HM hlr hf9 hs9 hb9
  have HM := hide (same_yes u36 aM7 aV7 cM7 cV7 M7 V7 HL_M7.out HL_V7.out (by omega) (Form.unique _ _ HF_M7.out HF_V7.out (fun q => by rw [HS_M7.out q, HS_U7.out q, HS_V7.out q, HS_P7.out q, HS_Q7.out q]; by_cases h : InE A q <;> simp [h])))
  go_wp2_with fail
  refine HM.out.mono ?_
  rintro e u37 ⟨rfl, hb9⟩
  have HB := hide (HB.out.trans (hb9.mono HB.out.size))
  have HL_U7 := hide (HL_U7.out.below hb9)
  have HL_M7 := hide (HL_M7.out.below hb9)
  have HL_P7 := hide (HL_P7.out.below hb9)
  have HL_Q7 := hide (HL_Q7.out.below hb9)
  have HL_V7 := hide (HL_V7.out.below hb9)
  clear HM hb9
  go_wp2_with fail
  go_ret
  exact ⟨rfl, HB.out⟩

set_option maxRecDepth 100000 in
theorem extentSets_lifted (os : Os) (started : os.Started) (H : Type) (enc : TypeId × Value → H) :
    ReturnsInHanded {} Try.checked os 6 .any (Rows.extentSetsSpec.pre6 enc Try.prog Try.f6 Rows.extentSetsRow.domain false) (Rows.extentSetsSpec.post enc Try.prog Try.f6 false true false false) := by
  refine returnsInHanded_of_change (C := Try.checked) own started (by kernel_rfl) Try.func6
    (ChangeSpec.witness6 (enc := enc) (C := Try.checked) false ⟨#[], #[.slice none 0 0, .slice none 0 0, .slice none 0 0], []⟩ 8 (by kernel_rfl) (by kernel_rfl) (by kernel_rfl) (by kernel_rfl)) ?_
  intro W base args ds gs before hval0 hW _ _
  have hval : ∀ (j : Nat) t v, Try.f6.params[j]? = some t → args[j]? = some v → Value.okWide Try.prog W .any base t v := hval0
  have hW' := hW
  obtain ⟨p, q, hA0, hV, rfl, hfz, hnd⟩ := hW
  have hA : DataW.TrodAll enc Try.prog W 0 (fun _ => true) true Try.f6.params.toList args.toList ds p := hA0
  rw [Try.params6] at hA hval
  obtain ⟨v0, vs0, d0, ds0, p0, q0, hargs0, rfl, rfl, h0, r0⟩ := trodAll_cons hA
  obtain ⟨v1, vs1, d1, ds1, p1, q1, hargs1, rfl, rfl, h1, r1⟩ := trodAll_cons r0
  obtain ⟨v2, vs2, d2, ds2, p2, q2, hargs2, rfl, rfl, h2, r2⟩ := trodAll_cons r1
  obtain ⟨rfl, rfl, rfl⟩ := trodAll_nil r2
  subst hargs2
  subst hargs1
  obtain rfl : args = #[v0, v1, v2] := by cases args; simp_all
  obtain ⟨rfl, rfl⟩ := trodVars_none hV
  simp only [List.append_nil] at hW'
  have hlt0 : ∀ x ∈ p0, x.block < W.heap.size := fun x hx => by simpa using hW'.lt x (by simp [hx])
  have hlt1 : ∀ x ∈ p1, x.block < W.heap.size := fun x hx => by simpa using hW'.lt x (by simp [hx])
  have hlt2 : ∀ x ∈ p2, x.block < W.heap.size := fun x hx => by simpa using hW'.lt x (by simp [hx])
  obtain ⟨a0, cap0, l0, rfl, hn0, hl0⟩ := open_exts (hval 0 22 v0 rfl rfl) h0
  obtain ⟨a1, cap1, l1, rfl, hn1, hl1⟩ := open_exts (hval 1 22 v1 rfl rfl) h1
  obtain ⟨a2, cap2, l2, rfl, hn2, hl2⟩ := open_exts (hval 2 22 v2 rfl rfl) h2
  clear hA0
  refine (sets_walk a0 a1 a2 cap0 cap1 cap2 l0 l1 l2 W hn0 hn1 hn2 hl0 hl1 hl2).mono fun e W' ⟨he, hb⟩ => ?_
  subst he
  refine ⟨_, rfl, _, _, _, [], (p0 ++ (p1 ++ (p2 ++ []))), [], hW', ?_, ?_, rfl, hb.frame _, fun h => by cases h⟩
  · exact trodAll_cons_mk (shut_bool Try.underlying4 _) trodAll_mk0
  · exact trodAll_cons_mk (Below.trod laidOut (by kernel_rfl) (of_decide_eq_true (by kernel_rfl)) h0 hb hlt0) (trodAll_cons_mk (Below.trod laidOut (by kernel_rfl) (of_decide_eq_true (by kernel_rfl)) h1 hb hlt1) (trodAll_cons_mk (Below.trod laidOut (by kernel_rfl) (of_decide_eq_true (by kernel_rfl)) h2 hb hlt2) (trodAll_mk0)))

theorem extentSets_holds : Rows.ExtentSetsSaid :=
  OpenClaim.holds_of_wide 6 Try.f6 rfl rfl rfl rfl rfl rfl rfl ⟨rfl, rfl, rfl, rfl, rfl⟩ rfl rfl rfl rfl rfl (by kernel_rfl) Try.func6 (by kernel_rfl)
    (of_decide_eq_true (by kernel_rfl)) (by unfold Func.isWrapper; first | (rw [if_pos (by decide +kernel)]; kernel_rfl) | (rw [if_neg (by decide +kernel)]; exact ⟨rfl, rfl⟩))
    (fun os started H enc _ => extentSets_lifted os started H enc)
end Go.Proofs.Ytgfdcgkaponlfaa.Oct
