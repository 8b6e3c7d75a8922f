/- Meet, Minus, Within, Covers: what they make, as sets. -/
import Derived.Test.YtgfdcgkaponlfaaMns
namespace Go.Proofs.Ytgfdcgkaponlfaa.Oct
open Go.RowKit Go.Shelf

theorem upto_eq (N : List (Int × Int)) : upto N N.length = (List.range N.length).map (fun j => (j, N.getD j (0, 0))) := rfl

theorem meet_set (hS : SortSays) (w : World) (a a1 : Option Addr) (c c1 : Nat) (L M : List (Int × Int)) (h : LiesE w a L) (h1 : LiesE w a1 M) (hl : L.length ≤ 100000) (hm : M.length ≤ 100000) (hlm : L.length * M.length ≤ 1000000) :
    Calls Try.prog 12 #[.slice a L.length c, .slice a1 M.length c1] w fun e w' => ∃ v R, e = .returned v ∧ OwnE w' w.heap.size v R ∧ Form R ∧ (∀ x, InE R x ↔ InE L x ∧ InE M x) ∧ R.length ≤ L.length * M.length ∧ Below w.heap.size w w' := by
  refine (meet_any hS w a a1 c c1 L M h h1 hl hm hlm).mono ?_
  rintro e w' ⟨v, N, T, R, rfl, hN, hT, hR, ho, hb⟩
  refine ⟨v, R, rfl, ho, hR.form, fun x => ?_, ?_, hb⟩
  · rw [hR.set, upto_eq, meetL_set hT.form hN.form, hN.set, hT.set]
  · refine Nat.le_trans hR.len (Nat.le_trans (meetL_len T _) ?_)
    rw [upto_length]
    exact Nat.mul_le_mul hN.len hT.len

theorem minus_set (hS : SortSays) (w : World) (a a1 : Option Addr) (c c1 : Nat) (L M : List (Int × Int)) (h : LiesE w a L) (h1 : LiesE w a1 M) (hl : L.length ≤ 100000) (hm : M.length ≤ 100000) (hlm : L.length * (M.length + 1) ≤ 1000000) :
    Calls Try.prog 14 #[.slice a L.length c, .slice a1 M.length c1] w fun e w' => ∃ v R, e = .returned v ∧ OwnE w' w.heap.size v R ∧ Form R ∧ (∀ x, InE R x ↔ InE L x ∧ ¬ InE M x) ∧ R.length ≤ L.length * (M.length + 1) ∧ Below w.heap.size w w' := by
  refine (minus_any hS w a a1 c c1 L M h h1 hl hm hlm).mono ?_
  rintro e w' ⟨v, N, T, R, rfl, hN, hT, hR, ho, hb⟩
  refine ⟨v, R, rfl, ho, hR.form, fun x => ?_, ?_, hb⟩
  · rw [hR.set, upto_eq, aloneL_set hT.form hN.form, hN.set, hT.set]
  · refine Nat.le_trans hR.len (Nat.le_trans (aloneL_len T _) ?_)
    rw [upto_length]
    exact Nat.mul_le_mul hN.len (Nat.succ_le_succ hT.len)

/-- The one form of nothing is nothing. -/
theorem Form.empty {R : List (Int × Int)} (h : Form R) : R.length = 0 ↔ ∀ x, ¬ InE R x := by
  constructor
  · intro e x
    rw [List.length_eq_zero_iff.1 e]
    exact InE.nil x
  · intro hn
    cases R with
    | nil => rfl
    | cons p R => exact absurd ((inE_cons _ _ _).2 (Or.inl ⟨Int.le_refl _, h.1 p (by simp)⟩)) (hn p.1)

/-- A truth value that says so. -/
def Says (e : Ending) (p : Prop) : Prop := ∃ b, e = .returned (.bool b) ∧ (b = true ↔ p)

set_option maxHeartbeats 1000000 in
theorem within_any (hS : SortSays) (w : World) (a a1 : Option Addr) (c c1 : Nat) (L M : List (Int × Int)) (h : LiesE w a L) (h1 : LiesE w a1 M) (hl : L.length ≤ 100000) (hm : M.length ≤ 100000) (hlm : L.length * (M.length + 1) ≤ 1000000) :
    Calls Try.prog 16 #[.slice a L.length c, .slice a1 M.length c1] w fun e w' => Says e (∀ x, InE L x → InE M x) ∧ Below w.heap.size w w' := by
  have HM := hide (minus_set hS w a a1 c c1 L M h h1 hl hm hlm)
  clear hS h h1
  go_enter Try.func16, Try.ntmps16
  go_wp2_with fail
  refine HM.out.mono ?_
  rintro e w2 ⟨v, R, rfl, ho, hf, hs, _, hb⟩
  obtain ⟨a2, c2, rfl, _, _, _, _⟩ := ho.form
  have HB := hide hb
  have HE : Hid (R.length = 0 ↔ ∀ x, InE L x → InE M x) := hide (hf.empty.trans ⟨fun hh x hx => Classical.byContradiction fun hn => hh x ((hs x).2 ⟨hx, hn⟩), fun hh x hx => ((hs x).1 hx).2 (hh x ((hs x).1 hx).1)⟩)
  clear ho hf hs hb HM
  go_wp2_with fail
  go_ret
  refine ⟨⟨_, rfl, ?_⟩, HB.out⟩
  rw [← HE.out]
  simp

set_option maxHeartbeats 1000000 in
theorem covers_any (hS : SortSays) (w : World) (a : Option Addr) (c : Nat) (L : List (Int × Int)) (x1 x2 : Int) (h : LiesE w a L) (hl : L.length ≤ 100000) :
    Calls Try.prog 19 #[.slice a L.length c, .agg #[.int .i64 x1, .int .i64 x2]] w fun e w' => Says e (∀ x, InE [(x1, x2)] x → InE L x) ∧ Below w.heap.size w w' := by
  have hb1 := ((Below.refl w.heap.size w).alloc (Nat.le_refl _) (.cells #[.int .i64 x1, .int .i64 x2] 32)).alloc (by simp) (.cells #[.int .i64 x1, .int .i64 x2] 32)
  have hl1 : LiesE ((w.alloc (.cells #[.int .i64 x1, .int .i64 x2] 32)).alloc (.cells #[.int .i64 x1, .int .i64 x2] 32)) (some ⟨w.heap.size + 1, 0, none⟩) [(x1, x2)] := by
    have h9 := heap_alloc2_new w (.cells #[.int .i64 x1, .int .i64 x2] 32) (.cells #[.int .i64 x1, .int .i64 x2] 32)
    refine Or.inr ⟨w.heap.size + 1, 0, rfl, by simp, fun k hk => ?_⟩
    obtain rfl : k = 0 := by simpa using hk
    simp only [World.cell?, h9]
    exact ⟨rfl, rfl⟩
  have HN := hide (norm_any hS _ (some ⟨w.heap.size + 1, 0, none⟩) 1 [(x1, x2)] hl1 (by simp))
  have HL := hide h
  have HB := hide hb1
  have HS := hide hS
  clear hS h hb1 hl1
  simp only [List.length_singleton] at HN
  go_enter Try.func19, Try.ntmps19
  go_wp2_with fail
  refine HN.out.mono ?_
  rintro e w2 ⟨v, N, rfl, ho, hn, hb⟩
  obtain ⟨a2, c2, rfl, hl2, _, _, _⟩ := ho.form
  have HB := hide (HB.out.trans (hb.mono HB.out.size))
  have hnl : N.length ≤ 1 := hn.len
  have HW := hide (within_any HS.out w2 a2 a c2 c N L hl2 (HL.out.below HB.out) (by omega) (by omega) (Nat.le_trans (Nat.mul_le_mul_right _ hnl) (by omega)))
  have HSt := hide hn.set
  clear ho hl2 hn hb HN
  go_wp2_with fail
  refine HW.out.mono ?_
  rintro e w3 ⟨⟨b, rfl, hbs⟩, hb3⟩
  have HB := hide (HB.out.trans (hb3.mono HB.out.size))
  have HBs := hide hbs
  clear hbs hb3 HW
  go_wp2_with fail
  go_ret
  refine ⟨⟨b, rfl, ?_⟩, HB.out⟩
  rw [HBs.out]
  exact ⟨fun hh x hx => hh x ((HSt.out x).2 hx), fun hh x hx => hh x ((HSt.out x).1 hx)⟩
end Go.Proofs.Ytgfdcgkaponlfaa.Oct
