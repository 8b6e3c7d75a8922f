/- For all sets, cuts and bytes the statement ExtentHalves answers true and changes nothing that was there: a set that is cut at a byte is both halves. No condition. -/
import Derived.Test.YtgfdcgkaponlfaaRows
import Derived.Test.YtgfdcgkaponlfaaPar
import Derived.Test.YtgfdcgkaponlfaaCnt
namespace Go.Proofs.Ytgfdcgkaponlfaa.Oct
open Go.RowKit Go.Shelf Go.ChangeShapes Go.WideShapes Go.ChangeAt

theorem inE_near {S : List (Int × Int)} (hn : Near S) {x : Int} (hx : InE S x) : -1125899906842624 ≤ x ∧ x < 1125899906842624 := by
  obtain ⟨p, hp, h1, h2⟩ := hx
  have := hn p hp
  omega

theorem bytes_is (w : World) (a : Option Addr) (c : Nat) (L M : List (Int × Int)) (h : LiesE w a L) (hl : L.length ≤ 1000) (hne : Near L) (hf : Form M) (hs : ∀ x, InE M x ↔ InE L x) :
    Calls Try.prog 24 #[.slice a L.length c] w fun e w' => e = .returned (.int .i64 (sumE 0 M)) ∧ Below w.heap.size w w' := by
  refine (bytes_any sort_says w a c L h hl hne).mono ?_
  rintro e w' ⟨N, rfl, hn, hb⟩
  rw [hn.one hf hs]
  exact ⟨rfl, hb⟩

theorem has_is (w : World) (a : Option Addr) (c : Nat) (L : List (Int × Int)) (x : Int) (b : Bool) (h : LiesE w a L) (hl : L.length ≤ 1000000) (hb : b = true ↔ InE L x) :
    Calls Try.prog 17 #[.slice a L.length c, .int .i64 x] w fun e w' => e = .returned (.bool b) ∧ Below w.heap.size w w' := by
  refine (has_any w a c L x h hl).mono ?_
  rintro e w' ⟨b9, rfl, hb9, h2⟩
  exact ⟨by rw [bool_same hb9 hb Iff.rfl], h2⟩

set_option maxRecDepth 100000 in
set_option maxHeartbeats 8000000 in
theorem halves_walk3 (s : Option Addr) (c : Nat) (S : List (Int × Int)) (p x : Int) (w : World) (hnS : S.length ≤ maxLen) (hS : LiesE w s S) :
    Calls Try.prog 8 #[.slice s S.length c, .int .i64 p, .int .i64 x] w fun e w' => e = .returned (.bool true) ∧ Below w.heap.size w w' := by
  have HJ := fun u => hide (joined_any sort_says u)
  have HS := hide hS
  unfold maxLen at hnS
  clear hS
  go_enter Try.func8, Try.ntmps8
  go_wp2_with fail
  refine ((HJ _).out).mono ?_
  rintro e w1 ⟨rfl, hb9⟩
  have HB := hide hb9
  clear hb9
  have HLA := hide (near_says w1 s c S (HS.out.below HB.out) (by omega))
  go_wp2_with fail
  refine HLA.out.mono ?_
  rintro e w2 (⟨rfl, hw2⟩ | ⟨rfl, hw2, hS30, hnr⟩)
  · have he := hw2.symm
    clear hw2
    subst he
    go_wp2_with fail
    refine ((HJ _).out).mono ?_
    rintro e w3 ⟨rfl, hb3⟩
    have HB := hide (HB.out.trans (hb3.mono HB.out.size))
    clear hb3
    go_wp2_with fail
    go_ret
    exact ⟨rfl, HB.out⟩
  have he := hw2.symm
  clear hw2
  subst he
  have HNr := hide hnr
  have HLA := hide (near_says (w1.alloc (.cells #[.int .i64 p, .int .i64 x] 32)) (some ⟨w1.heap.size, 0, none⟩) 1 [(p, x)] (lies_box w1 p x) (by simp))
  have HBn := hide (HB.out.alloc HB.out.size (.cells #[.int .i64 p, .int .i64 x] 32))
  clear hnr
  go_wp2_with fail
  generalize w1.alloc (.cells #[.int .i64 p, .int .i64 x] 32) = w2 at *
  have HB := HBn
  clear HBn
  refine HLA.out.mono ?_
  rintro e w3 (⟨rfl, hw2⟩ | ⟨rfl, hw2, _, hpx⟩)
  · have he := hw2.symm
    clear hw2
    subst he
    go_wp2_with fail
    refine ((HJ _).out).mono ?_
    rintro e w3 ⟨rfl, hb3⟩
    have HB := hide (HB.out.trans (hb3.mono HB.out.size))
    clear hb3
    go_wp2_with fail
    go_ret
    exact ⟨rfl, HB.out⟩
  have he := hw2.symm
  clear hw2
  subst he
  have hpn := hpx (p, x) (by simp)
  dsimp only at hpn
  clear hpx HLA
  have HN := hide (norm_any sort_says _ (some ⟨w2.heap.size, 0, none⟩) 1 [(-4503599627370496, p)] (lies_box w2 _ p) (by simp))
  have HBn := hide (HB.out.alloc HB.out.size (.cells #[.int .i64 (-4503599627370496), .int .i64 p] 32))
  go_wp2_with fail
  generalize w2.alloc (.cells #[.int .i64 (-4503599627370496), .int .i64 p] 32) = w3 at *
  refine HN.out.mono ?_
  rintro e w4 ⟨v4, N4, rfl, ho9, hn9, hb9⟩
  have HB := hide (HBn.out.trans (hb9.mono HBn.out.size))
  obtain ⟨a4, c4, rfl, hl4, _, _, _⟩ := ho9.form
  have HN4 := hide (And.intro hn9.len hn9.set)
  clear HN HBn ho9 hn9 hb9
  have h4 : N4.length ≤ 1 := HN4.out.1
  have HM := hide (meet_set sort_says w4 s a4 c c4 S N4 (HS.out.below HB.out) hl4 (by omega) (by omega) (Nat.le_trans (Nat.mul_le_mul hS30 h4) (by omega)))
  clear hl4
  go_wp2_with fail
  refine HM.out.mono ?_
  rintro e w5 ⟨vA, A, rfl, ho9, hf9, hs9, hl9, hb9⟩
  have HB := hide (HB.out.trans (hb9.mono HB.out.size))
  obtain ⟨aA, cA, rfl, hlA, _, _, _⟩ := ho9.form
  have HA := hide hlA
  have HAF := hide hf9
  have HAS : Hid (∀ y, InE A y ↔ InE S y ∧ (-4503599627370496 ≤ y ∧ y < p)) := hide (fun y => by rw [hs9 y, HN4.out.2 y, inE_one])
  have hA30 : A.length ≤ 30 := Nat.le_trans hl9 (Nat.le_trans (Nat.mul_le_mul hS30 h4) (by omega))
  clear HM ho9 hf9 hs9 hl9 hb9 hlA HN4 h4
  have HN := hide (norm_any sort_says _ (some ⟨w5.heap.size, 0, none⟩) 1 [(p, 4503599627370496)] (lies_box w5 p _) (by simp))
  have hb5 : Below w5.heap.size w5 (w5.alloc (.cells #[.int .i64 p, .int .i64 4503599627370496] 32)) := (Below.refl _ _).alloc (Nat.le_refl _) _
  have HBn := hide (HB.out.trans (hb5.mono HB.out.size))
  have HAn := hide (HA.out.below hb5)
  clear HA hb5
  go_wp2_with fail
  generalize w5.alloc (.cells #[.int .i64 p, .int .i64 4503599627370496] 32) = w6 at *
  refine HN.out.mono ?_
  rintro e w7 ⟨v7, N7, rfl, ho9, hn9, hb9⟩
  have HB := hide (HBn.out.trans (hb9.mono HBn.out.size))
  have HA := hide (HAn.out.below hb9)
  obtain ⟨a7, c7, rfl, hl7, _, _, _⟩ := ho9.form
  have HN7 := hide (And.intro hn9.len hn9.set)
  clear HN HBn HAn ho9 hn9 hb9
  have h7 : N7.length ≤ 1 := HN7.out.1
  have HM := hide (meet_set sort_says w7 s a7 c c7 S N7 (HS.out.below HB.out) hl7 (by omega) (by omega) (Nat.le_trans (Nat.mul_le_mul hS30 h7) (by omega)))
  clear hl7
  go_wp2_with fail
  refine HM.out.mono ?_
  rintro e w8 ⟨vB, B, rfl, ho9, hf9, hs9, hl9, hb9⟩
  have HB := hide (HB.out.trans (hb9.mono HB.out.size))
  have HA := hide (HA.out.below hb9)
  obtain ⟨aB, cB, rfl, hlB, _, _, _⟩ := ho9.form
  have HBb := hide hlB
  have HBF := hide hf9
  have HBS : Hid (∀ y, InE B y ↔ InE S y ∧ (p ≤ y ∧ y < 4503599627370496)) := hide (fun y => by rw [hs9 y, HN7.out.2 y, inE_one])
  have hB30 : B.length ≤ 30 := Nat.le_trans hl9 (Nat.le_trans (Nat.mul_le_mul hS30 h7) (by omega))
  clear HM ho9 hf9 hs9 hl9 hb9 hlB HN7 h7
  have HD : Hid (∀ y, InE A y → ¬ InE B y) := hide (fun y h1 h2 => by have := (HAS.out y).1 h1; have := (HBS.out y).1 h2; omega)
  have HAll : Hid (∀ y, InE S y ↔ InE A y ∨ InE B y) := hide (fun y => by
    rw [HAS.out y, HBS.out y]
    constructor
    · intro h
      have := inE_near HNr.out h
      by_cases h2 : y < p
      · exact Or.inl ⟨h, by omega, h2⟩
      · exact Or.inr ⟨h, by omega, by omega⟩
    · rintro (h | h) <;> exact h.1)
  have HNA := hide (near_sub HAF.out (fun y hy => ((HAS.out y).1 hy).1) HNr.out)
  have HNB := hide (near_sub HBF.out (fun y hy => ((HBS.out y).1 hy).1) HNr.out)
  clear HAS HBS
  have HM := hide (meet_set sort_says w8 aA aB cA cB A B HA.out HBb.out (by omega) (by omega) (Nat.le_trans (Nat.mul_le_mul hA30 hB30) (by omega)))
  go_wp2_with fail
  refine HM.out.mono ?_
  rintro e w9 ⟨v9, R9, rfl, ho9, hf9, hs9, _, hb9⟩
  have HB := hide (HB.out.trans (hb9.mono HB.out.size))
  have HA := hide (HA.out.below hb9)
  have HBb := hide (HBb.out.below hb9)
  obtain ⟨a9, c9, rfl, _, _, _, _⟩ := ho9.form
  have h0 : R9.length = 0 := hf9.empty.2 (fun y hy => HD.out y ((hs9 y).1 hy).1 ((hs9 y).1 hy).2)
  rw [h0]
  clear HM ho9 hf9 hs9 hb9 h0
  have HU : Hid (Calls Try.prog 15 #[.slice (some ⟨w9.heap.size, 0, none⟩) 2 2] (w9.alloc (.cells #[.slice aA A.length cA, .slice aB B.length cB] 26)) fun e w' => ∃ v R, e = .returned v ∧ OwnE w' (w9.alloc (.cells #[.slice aA A.length cA, .slice aB B.length cB] 26)).heap.size v R ∧ Form R ∧ (∀ x, InE R x ↔ InE A x ∨ InE B x) ∧ R.length ≤ 1000 ∧ Below (w9.alloc (.cells #[.slice aA A.length cA, .slice aB B.length cB] 26)).heap.size (w9.alloc (.cells #[.slice aA A.length cA, .slice aB B.length cB] 26)) w') := hide (by
    refine (union_any sort_says _ (some ⟨w9.heap.size, 0, none⟩) 2 [⟨aA, cA, A⟩, ⟨aB, cB, B⟩] (lies_sets w9 aA aB cA cB A B HA.out HBb.out) (by simp) (by simp [totS]; omega)).mono ?_
    rintro e w' ⟨v, R, rfl, ho, hn, hb⟩
    have e9 : catS [⟨aA, cA, A⟩, ⟨aB, cB, B⟩] = A ++ B := by simp [catS]
    rw [e9] at hn
    exact ⟨v, R, rfl, ho, hn.form, fun x => (hn.set x).trans (inE_append A B x), Nat.le_trans hn.len (by simp; omega), hb⟩)
  have hb8 : Below w9.heap.size w9 (w9.alloc (.cells #[.slice aA A.length cA, .slice aB B.length cB] 26)) := (Below.refl _ _).alloc (Nat.le_refl _) _
  have HBn := hide (HB.out.trans (hb8.mono HB.out.size))
  have HAn := hide (HA.out.below hb8)
  have HBbn := hide (HBb.out.below hb8)
  clear hb8 HA HBb
  go_wp2_with fail
  generalize w9.alloc (.cells #[.slice aA A.length cA, .slice aB B.length cB] 26) = w10 at *
  refine HU.out.mono ?_
  rintro e w11 ⟨v11, R, rfl, ho9, hf9, hs9, hl9, hb9⟩
  have HB := hide (HBn.out.trans (hb9.mono HBn.out.size))
  have HA := hide (HAn.out.below hb9)
  have HBb := hide (HBbn.out.below hb9)
  obtain ⟨aR, cR, rfl, hlR, _, _, _⟩ := ho9.form
  have HR := hide hlR
  have HRF := hide hf9
  have HRS := hide hs9
  clear HU HBn HAn HBbn ho9 hf9 hs9 hb9 hlR
  have HN := hide (norm_any sort_says w11 s c S (HS.out.below HB.out) (by omega))
  go_wp2_with fail
  refine HN.out.mono ?_
  rintro e w12 ⟨v12, N, rfl, ho9, hn9, hb9⟩
  have HB := hide (HB.out.trans (hb9.mono HB.out.size))
  have HA := hide (HA.out.below hb9)
  have HBb := hide (HBb.out.below hb9)
  obtain ⟨aN, cN, rfl, hlN, _, _, _⟩ := ho9.form
  have HNm := hide hn9
  have HY := hide (same_yes w12 aR aN cR cN R N (HR.out.below hb9) hlN (by omega) (Form.unique _ _ HRF.out hn9.form (fun y => (HRS.out y).trans ((HAll.out y).symm.trans (hn9.set y).symm))))
  clear HN ho9 hn9 hb9 hlN HR
  go_wp2_with fail
  refine HY.out.mono ?_
  rintro e w13 ⟨rfl, hb9⟩
  have HB := hide (HB.out.trans (hb9.mono HB.out.size))
  have HA := hide (HA.out.below hb9)
  have HBb := hide (HBb.out.below hb9)
  clear HY hb9
  have HNn := hide (near_sub HNm.out.form (fun y hy => (HNm.out.set y).1 hy) HNr.out)
  have hsum := sum_parts HAF.out HBF.out HNm.out.form HNA.out HNB.out HNn.out (fun y => (HNm.out.set y).trans (HAll.out y)) HD.out
  have hbd1 := sum_bound HNA.out (by omega)
  have hbd2 := sum_bound HNB.out (by omega)
  obtain ⟨sa, hsa⟩ : ∃ z, sumE 0 A = z := ⟨_, rfl⟩
  obtain ⟨sb, hsb⟩ : ∃ z, sumE 0 B = z := ⟨_, rfl⟩
  obtain ⟨sn, hsn⟩ : ∃ z, sumE 0 N = z := ⟨_, rfl⟩
  have HYa := hide (bytes_is w13 aA cA A A HA.out (by omega) HNA.out HAF.out (fun _ => Iff.rfl))
  rw [hsa] at HYa hsum hbd1
  go_wp2_with fail
  refine HYa.out.mono ?_
  rintro e w14 ⟨rfl, hb9⟩
  have HB := hide (HB.out.trans (hb9.mono HB.out.size))
  have HA := hide (HA.out.below hb9)
  have HBb := hide (HBb.out.below hb9)
  clear HYa hb9
  have HYa := hide (bytes_is w14 aB cB B B HBb.out (by omega) HNB.out HBF.out (fun _ => Iff.rfl))
  rw [hsb] at HYa hsum hbd2
  go_wp2_with fail
  refine HYa.out.mono ?_
  rintro e w15 ⟨rfl, hb9⟩
  have HB := hide (HB.out.trans (hb9.mono HB.out.size))
  have HA := hide (HA.out.below hb9)
  have HBb := hide (HBb.out.below hb9)
  clear HYa hb9
  have HYa := hide (bytes_is w15 s c S N (HS.out.below HB.out) (by omega) HNr.out HNm.out.form HNm.out.set)
  rw [hsn] at HYa hsum
  have hs0 : ¬ (sa + sb < -9223372036854775808) := by omega
  have hs1 : ¬ (sa + sb > 9223372036854775807) := by omega
  go_wp2_with fail
  refine HYa.out.mono ?_
  rintro e w16 ⟨rfl, hb9⟩
  have HB := hide (HB.out.trans (hb9.mono HB.out.size))
  have HA := hide (HA.out.below hb9)
  have HBb := hide (HBb.out.below hb9)
  clear HYa hb9 hsa hsb hsn
  subst hsum
  by_cases hxA : InE A x
  · have HxA : Hid (InE A x) := hide (by simp [hxA])
    have HxB : Hid (¬ InE B x) := hide (by simp [HD.out x hxA])
    have HxS : Hid (InE S x) := hide (by simp [HAll.out x, hxA])
    have HC := hide (has_is _ aA cA A x true HA.out (by omega) (by simp [HxA.out]))
    go_wp2_with fail
    refine HC.out.mono ?_
    rintro e W20 ⟨rfl, hb9⟩
    have HB := hide (HB.out.trans (hb9.mono HB.out.size))
    have HA := hide (HA.out.below hb9)
    have HBb := hide (HBb.out.below hb9)
    clear HC hb9
    have HC := hide (has_is _ s c S x true (HS.out.below HB.out) (by omega) (by simp [HxS.out]))
    go_wp2_with fail
    refine HC.out.mono ?_
    rintro e W21 ⟨rfl, hb9⟩
    have HB := hide (HB.out.trans (hb9.mono HB.out.size))
    have HA := hide (HA.out.below hb9)
    have HBb := hide (HBb.out.below hb9)
    clear HC hb9
    have HC := hide (has_is _ aA cA A x true HA.out (by omega) (by simp [HxA.out]))
    go_wp2_with fail
    refine HC.out.mono ?_
    rintro e W22 ⟨rfl, hb9⟩
    have HB := hide (HB.out.trans (hb9.mono HB.out.size))
    have HA := hide (HA.out.below hb9)
    have HBb := hide (HBb.out.below hb9)
    clear HC hb9
    have HC := hide (has_is _ aB cB B x false HBb.out (by omega) (by simp [HxB.out]))
    go_wp2_with fail
    refine HC.out.mono ?_
    rintro e W23 ⟨rfl, hb9⟩
    have HB := hide (HB.out.trans (hb9.mono HB.out.size))
    have HA := hide (HA.out.below hb9)
    have HBb := hide (HBb.out.below hb9)
    clear HC hb9
    go_wp2_with fail
    go_ret
    exact ⟨rfl, HB.out⟩
  by_cases hxB : InE B x
  · have HxA : Hid (¬ InE A x) := hide (by simp [hxA])
    have HxB : Hid (InE B x) := hide (by simp [hxB])
    have HxS : Hid (InE S x) := hide (by simp [HAll.out x, hxB])
    have HC := hide (has_is _ aA cA A x false HA.out (by omega) (by simp [HxA.out]))
    go_wp2_with fail
    refine HC.out.mono ?_
    rintro e W24 ⟨rfl, hb9⟩
    have HB := hide (HB.out.trans (hb9.mono HB.out.size))
    have HA := hide (HA.out.below hb9)
    have HBb := hide (HBb.out.below hb9)
    clear HC hb9
    have HC := hide (has_is _ aB cB B x true HBb.out (by omega) (by simp [HxB.out]))
    go_wp2_with fail
    refine HC.out.mono ?_
    rintro e W25 ⟨rfl, hb9⟩
    have HB := hide (HB.out.trans (hb9.mono HB.out.size))
    have HA := hide (HA.out.below hb9)
    have HBb := hide (HBb.out.below hb9)
    clear HC hb9
    have HC := hide (has_is _ s c S x true (HS.out.below HB.out) (by omega) (by simp [HxS.out]))
    go_wp2_with fail
    refine HC.out.mono ?_
    rintro e W26 ⟨rfl, hb9⟩
    have HB := hide (HB.out.trans (hb9.mono HB.out.size))
    have HA := hide (HA.out.below hb9)
    have HBb := hide (HBb.out.below hb9)
    clear HC hb9
    have HC := hide (has_is _ aA cA A x false HA.out (by omega) (by simp [HxA.out]))
    go_wp2_with fail
    refine HC.out.mono ?_
    rintro e W27 ⟨rfl, hb9⟩
    have HB := hide (HB.out.trans (hb9.mono HB.out.size))
    have HA := hide (HA.out.below hb9)
    have HBb := hide (HBb.out.below hb9)
    clear HC hb9
    go_wp2_with fail
    go_ret
    exact ⟨rfl, HB.out⟩
  · have HxA : Hid (¬ InE A x) := hide (by simp [hxA])
    have HxB : Hid (¬ InE B x) := hide (by simp [hxB])
    have HxS : Hid (¬ InE S x) := hide (by simp [HAll.out x, hxA, hxB])
    have HC := hide (has_is _ aA cA A x false HA.out (by omega) (by simp [HxA.out]))
    go_wp2_with fail
    refine HC.out.mono ?_
    rintro e W28 ⟨rfl, hb9⟩
    have HB := hide (HB.out.trans (hb9.mono HB.out.size))
    have HA := hide (HA.out.below hb9)
    have HBb := hide (HBb.out.below hb9)
    clear HC hb9
    have HC := hide (has_is _ aB cB B x false HBb.out (by omega) (by simp [HxB.out]))
    go_wp2_with fail
    refine HC.out.mono ?_
    rintro e W29 ⟨rfl, hb9⟩
    have HB := hide (HB.out.trans (hb9.mono HB.out.size))
    have HA := hide (HA.out.below hb9)
    have HBb := hide (HBb.out.below hb9)
    clear HC hb9
    have HC := hide (has_is _ s c S x false (HS.out.below HB.out) (by omega) (by simp [HxS.out]))
    go_wp2_with fail
    refine HC.out.mono ?_
    rintro e W30 ⟨rfl, hb9⟩
    have HB := hide (HB.out.trans (hb9.mono HB.out.size))
    have HA := hide (HA.out.below hb9)
    have HBb := hide (HBb.out.below hb9)
    clear HC hb9
    have HC := hide (has_is _ aA cA A x false HA.out (by omega) (by simp [HxA.out]))
    go_wp2_with fail
    refine HC.out.mono ?_
    rintro e W31 ⟨rfl, hb9⟩
    have HB := hide (HB.out.trans (hb9.mono HB.out.size))
    have HA := hide (HA.out.below hb9)
    have HBb := hide (HBb.out.below hb9)
    clear HC hb9
    go_wp2_with fail
    go_ret
    exact ⟨rfl, HB.out⟩

set_option maxRecDepth 100000 in
theorem extentHalves_lifted (os : Os) (started : os.Started) (H : Type) (enc : TypeId × Value → H) :
    ReturnsInHanded {} Try.checked os 8 .any (Rows.extentHalvesSpec.pre6 enc Try.prog Try.f8 Rows.extentHalvesRow.domain false) (Rows.extentHalvesSpec.post enc Try.prog Try.f8 false true false false) := by
  refine returnsInHanded_of_change (C := Try.checked) own started (by kernel_rfl) Try.func8
    (ChangeSpec.witness6 (enc := enc) (C := Try.checked) false ⟨#[], #[.slice none 0 0, .int .i64 0, .int .i64 0], []⟩ 8 (by kernel_rfl) (by kernel_rfl) (by kernel_rfl) (by kernel_rfl)) ?_
  intro W base args ds gs before hval0 hW _ _
  have hval : ∀ (j : Nat) t v, Try.f8.params[j]? = some t → args[j]? = some v → Value.okWide Try.prog W .any base t v := hval0
  have hW' := hW
  obtain ⟨p, q, hA0, hV, rfl, hfz, hnd⟩ := hW
  have hA : DataW.TrodAll enc Try.prog W 0 (fun _ => true) true Try.f8.params.toList args.toList ds p := hA0
  rw [Try.params8] at hA hval
  obtain ⟨v0, vs0, d0, ds0, p0, q0, hargs0, rfl, rfl, h0, r0⟩ := trodAll_cons hA
  obtain ⟨v1, vs1, d1, ds1, p1, q1, hargs1, rfl, rfl, h1, r1⟩ := trodAll_cons r0
  obtain ⟨v2, vs2, d2, ds2, p2, q2, hargs2, rfl, rfl, h2, r2⟩ := trodAll_cons r1
  obtain ⟨rfl, rfl, rfl⟩ := trodAll_nil r2
  subst hargs2
  subst hargs1
  obtain rfl : args = #[v0, v1, v2] := by cases args; simp_all
  obtain ⟨rfl, rfl⟩ := trodVars_none hV
  simp only [List.append_nil] at hW'
  have hlt0 : ∀ x ∈ p0, x.block < W.heap.size := fun x hx => by simpa using hW'.lt x (by simp [hx])
  obtain ⟨a0, cap0, l0, rfl, hn0, hl0⟩ := open_exts (hval 0 22 v0 rfl rfl) h0
  obtain ⟨x1, rfl, rfl, rfl, w1⟩ := open_int Try.underlying2 (hval 1 2 v1 rfl rfl) h1
  obtain ⟨x2, rfl, rfl, rfl, w2⟩ := open_int Try.underlying2 (hval 2 2 v2 rfl rfl) h2
  clear hA0
  refine (halves_walk3 a0 cap0 l0 x1 x2 W hn0 hl0).mono fun e W' ⟨he, hb⟩ => ?_
  subst he
  refine ⟨_, rfl, _, _, _, [], (p0 ++ ([] ++ ([] ++ []))), [], hW', ?_, ?_, rfl, hb.frame _, fun h => by cases h⟩
  · exact trodAll_cons_mk (shut_bool Try.underlying4 _) trodAll_mk0
  · exact trodAll_cons_mk (Below.trod laidOut (by kernel_rfl) (of_decide_eq_true (by kernel_rfl)) h0 hb hlt0) (trodAll_cons_mk (shut_int Try.underlying2 w1) (trodAll_cons_mk (shut_int Try.underlying2 w2) (trodAll_mk0)))

theorem extentHalves_holds : Rows.ExtentHalvesSaid :=
  OpenClaim.holds_of_wide 8 Try.f8 rfl rfl rfl rfl rfl rfl rfl ⟨rfl, rfl, rfl, rfl, rfl⟩ rfl rfl rfl rfl rfl (by kernel_rfl) Try.func8 (by kernel_rfl)
    (of_decide_eq_true (by kernel_rfl)) (by unfold Func.isWrapper; first | (rw [if_pos (by decide +kernel)]; kernel_rfl) | (rw [if_neg (by decide +kernel)]; exact ⟨rfl, rfl⟩))
    (fun os started H enc _ => extentHalves_lifted os started H enc)
end Go.Proofs.Ytgfdcgkaponlfaa.Oct
