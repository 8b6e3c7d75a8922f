/- A header out of its bytes by the document: Decode. -/
import Derived.Test.YtpmljlmcfofppaaHdd
import Derived.Test.YtpmljlmcfofppaaHdx
import Derived.Test.YtpmljlmcfofppaaRef
namespace Go.Proofs.Ytpmljlmcfofppaa.Oct
open Go.RowKit

set_option maxHeartbeats 400000 in
theorem int_at (a : Option Addr) (cap : Nat) (l : List Int) (p : Nat) (w : World) (h5 : l.length ≤ 1000000) (hb : Byts l) (hl : Lies w a l) (hp : p + 4 ≤ l.length) :
    Calls Try.prog 48 #[.slice a l.length cap, .int .i64 p, .int .i64 4] w fun e w' => e = .returned (.int .i64 (num l p 4)) ∧ w' = w := by
  have HN : Hid (Calls Try.prog 47 #[.slice a l.length cap, .int .i64 p, .int .i64 4] w fun e w' => e = .returned (.tuple #[.int .u64 (num l p 4), .bool true]) ∧ w' = w) := hide (by
    have := Num_any a cap l p 4 (by omega) (by omega) w (by unfold maxLen; omega) hb hl (by omega) (by omega)
    rw [thereB_yes (by omega) (by omega) (by omega), numAt_yes hp] at this
    exact this)
  have hn := num_lt l p hb 4
  have p4 : (256 : Int) ^ 4 = 4294967296 := by decide
  rw [p4] at hn
  clear p4 hl hb
  generalize num l p 4 = v at *
  go_enter Try.func48, Try.ntmps48
  go_wp2_with fail
  refine HN.out.mono ?_
  rintro e9 w2 ⟨rfl, rfl⟩
  go_wp2_with fail
  go_ret
  exact ⟨rfl, rfl⟩

theorem num_at (a : Option Addr) (cap : Nat) (l : List Int) (p : Nat) (w : World) (h5 : l.length ≤ 1000000) (hb : Byts l) (hl : Lies w a l) (hp : p + 8 ≤ l.length) :
    Calls Try.prog 47 #[.slice a l.length cap, .int .i64 p, .int .i64 8] w fun e w' => e = .returned (.tuple #[.int .u64 (num l p 8), .bool true]) ∧ w' = w := by
  have := Num_any a cap l p 8 (by omega) (by omega) w (by unfold maxLen; omega) hb hl (by omega) (by omega)
  rw [thereB_yes (by omega) (by omega) (by omega), numAt_yes hp] at this
  exact this

/-- A result of a header and a number: the header lies in a block. -/
theorem ret_hdw {fn : Func} {p u : Tmp} (hr : fn.results = #[.cell p 24, .tmp u]) (tmps : Array Value) (w : World) (R : Nat) (b s o j : Int) (k : Bool) (z : Value)
    (hp : tmps.getD p undef = .pointer (some ⟨R, 0, none⟩)) (hz : tmps.getD u undef = z) (hs : Stay w R #[.int .i64 b, .int .i64 s, .int .i64 o, .int .i64 j, .bool k] 24) :
    (results fn tmps).run Try.prog w = .ok (.tuple #[.agg #[.int .i64 b, .int .i64 s, .int .i64 o, .int .i64 j, .bool k], z]) w := by
  rw [results_cell_tmp hr, hp, hz]
  simp only [asAddr, Sem.run_pure, Result.andThen_ok]
  rw [run_loadVar_row w R 24 24 _ (0, 0) _ hs Try.underlying24 rfl (by kernel_rfl)]
  rfl

set_option maxHeartbeats 4000000 in
theorem refdecode_any (a : Option Addr) (cap : Nat) (l : List Int) (w : World) (h5 : l.length ≤ 1000000) (hb : Byts l) (hl : Sl w a cap l) :
    Calls Try.prog 31 #[.slice a l.length cap] w fun e w' => e = .returned (.tuple #[vH (decN l).2, .int .i64 (decN l).1]) ∧ Below w.heap.size w w' := by
  have HR : Hid (Stay (w.alloc (.cells #[.int .i64 0, .int .i64 0, .int .i64 0, .int .i64 0, .bool false] 24)) w.heap.size #[.int .i64 0, .int .i64 0, .int .i64 0, .int .i64 0, .bool false] 24) := hide (heap_alloc_new w (.cells #[.int .i64 0, .int .i64 0, .int .i64 0, .int .i64 0, .bool false] 24))
  have HB := hide ((Below.refl w.heap.size w).alloc (Nat.le_refl _) (.cells #[.int .i64 0, .int .i64 0, .int .i64 0, .int .i64 0, .bool false] 24))
  have HS := hide (hl.below ((Below.refl _ _).alloc (Nat.le_refl _) (.cells #[.int .i64 0, .int .i64 0, .int .i64 0, .int .i64 0, .bool false] 24)))
  have HBy := hide hb
  have hcap := hl.le
  have hcm := hl.max
  unfold maxLen at hcm
  clear hl hb
  by_cases h28 : l.length < 28
  · rw [dec1 h28]
    go_enter Try.func31, Try.ntmps31
    go_wp2_with fail
    refine bodyPost_ret (ret_hdw rfl _ _ w.heap.size 0 0 0 0 false _ rfl rfl HR.out) rfl ⟨rfl, HB.out⟩
  have CN : ∀ u, Sl u a cap l → Hid (Calls Try.prog 47 #[.slice a l.length cap, .int .i64 8, .int .i64 8] u fun e w' => e = .returned (.tuple #[.int .u64 (num l 8 8), .bool true]) ∧ w' = u) := fun u hu => hide (num_at a cap l 8 u h5 HBy.out hu.lies (by omega))
  have C0 : ∀ u, Sl u a cap l → Hid (Calls Try.prog 48 #[.slice a l.length cap, .int .i64 0, .int .i64 4] u fun e w' => e = .returned (.int .i64 (num l 0 4)) ∧ w' = u) := fun u hu => hide (int_at a cap l 0 u h5 HBy.out hu.lies (by omega))
  have C4 : ∀ u, Sl u a cap l → Hid (Calls Try.prog 48 #[.slice a l.length cap, .int .i64 4, .int .i64 4] u fun e w' => e = .returned (.int .i64 (num l 4 4)) ∧ w' = u) := fun u hu => hide (int_at a cap l 4 u h5 HBy.out hu.lies (by omega))
  have C16 : ∀ u, Sl u a cap l → Hid (Calls Try.prog 48 #[.slice a l.length cap, .int .i64 16, .int .i64 4] u fun e w' => e = .returned (.int .i64 (num l 16 4)) ∧ w' = u) := fun u hu => hide (int_at a cap l 16 u h5 HBy.out hu.lies (by omega))
  have C20 : ∀ u, Sl u a cap l → Hid (Calls Try.prog 48 #[.slice a l.length cap, .int .i64 20, .int .i64 4] u fun e w' => e = .returned (.int .i64 (num l 20 4)) ∧ w' = u) := fun u hu => hide (int_at a cap l 20 u h5 HBy.out hu.lies (by omega))
  have C24 : ∀ u, Sl u a cap l → Hid (Calls Try.prog 48 #[.slice a l.length cap, .int .i64 24, .int .i64 4] u fun e w' => e = .returned (.int .i64 (num l 24 4)) ∧ w' = u) := fun u hu => hide (int_at a cap l 24 u h5 HBy.out hu.lies (by omega))

  have n1 := num_lt l 4 HBy.out 4
  have n2 := num_lt l 8 HBy.out 8
  have n3 := num_lt l 16 HBy.out 4
  have n4 := num_lt l 20 HBy.out 4
  have n5 := num_lt l 24 HBy.out 4
  have p4 : (256 : Int) ^ 4 = 4294967296 := by decide
  have p8 : (256 : Int) ^ 8 = 18446744073709551616 := by decide
  rw [p4] at n1 n3 n4 n5
  rw [p8] at n2
  clear p4 p8
  have D2 := hide (fun h => dec2 h28 (l := l) h)
  have D3 := hide (fun h2 h => dec3 h28 h2 (l := l) h)
  have D4 := hide (fun h2 h h4 => dec4 h28 h2 (l := l) h h4)
  have D5 := hide (fun h2 h h4 h5 => dec5 h28 h2 (l := l) h h4 h5)
  have D6 := hide (fun h2 h h4 h5 h6 => dec6 h28 h2 (l := l) h h4 h5 h6)
  have D7 := hide (fun h2 h h4 h5 h6 => dec7 h28 h2 (l := l) h h4 h5 h6)
  have HBad : Hid ((12 < num l 4 4 ∨ 16777216 < num l 8 8 ∨ 1 < num l 24 4) → badF l) := hide (fun h => h)
  have HGood : Hid (¬ (12 < num l 4 4 ∨ 16777216 < num l 8 8 ∨ 1 < num l 24 4) → ¬ badF l) := hide (fun h => h)
  have HV : Hid (hdF l = ⟨num l 4 4, num l 8 8, num l 16 4, num l 20 4, num l 24 4 == 1⟩) := hide rfl
  obtain ⟨dn, hdn⟩ : ∃ dn, dn = decN l := ⟨_, rfl⟩
  rw [← hdn] at D2 D3 D4 D5 D6 D7 ⊢
  clear hdn
  generalize num l 0 4 = v0 at *
  generalize num l 4 4 = v1 at *
  generalize num l 8 8 = v2 at *
  generalize num l 16 4 = v3 at *
  generalize num l 20 4 = v4 at *
  generalize num l 24 4 = v5 at *
  go_enter Try.func31, Try.ntmps31
  go_wp2_with fail
  refine ((CN _ HS.out).out).mono ?_
  rintro e9 w2 ⟨rfl, h2⟩
  subst h2
  go_wp2_with fail
  refine ((C0 _ HS.out).out).mono ?_
  rintro e9 w2 ⟨rfl, h2⟩
  subst h2
  by_cases hm : v0 = 1280591174
  rotate_left
  · have hbm : (v0 != 1280591174) = true := by simp [hm]
    go_wp2_with fail
    refine bodyPost_ret (ret_hdw rfl _ _ w.heap.size 0 0 0 0 false _ rfl rfl HR.out) rfl ⟨?_, HB.out⟩
    rw [D2.out hm]
    rfl
  subst hm
  have D3 := hide (D3.out (by simp))
  have D4 := hide (D4.out (by simp))
  have D5 := hide (D5.out (by simp))
  have D6 := hide (D6.out (by simp))
  have D7 := hide (D7.out (by simp))
  clear D2
  go_wp2_with fail
  refine ((C4 _ HS.out).out).mono ?_
  rintro e9 w2 ⟨rfl, h2⟩
  subst h2
  by_cases b1 : 12 < v1
  · go_wp2_with fail
    refine bodyPost_ret (ret_hdw rfl _ _ w.heap.size 0 0 0 0 false _ rfl rfl HR.out) rfl ⟨?_, HB.out⟩
    rw [D3.out (HBad.out (Or.inl b1))]
    rfl
  by_cases b2 : 16777216 < v2
  · go_wp2_with fail
    refine bodyPost_ret (ret_hdw rfl _ _ w.heap.size 0 0 0 0 false _ rfl rfl HR.out) rfl ⟨?_, HB.out⟩
    rw [D3.out (HBad.out (Or.inr (Or.inl b2)))]
    rfl
  go_wp2_with fail
  refine ((C24 _ HS.out).out).mono ?_
  rintro e9 w2 ⟨rfl, h2⟩
  subst h2
  by_cases b3 : 1 < v5
  · go_wp2_with fail
    refine bodyPost_ret (ret_hdw rfl _ _ w.heap.size 0 0 0 0 false _ rfl rfl HR.out) rfl ⟨?_, HB.out⟩
    rw [D3.out (HBad.out (Or.inr (Or.inr b3)))]
    rfl
  have hgood := HGood.out (by omega)
  have D4 := hide (D4.out hgood)
  have D5 := hide (D5.out hgood)
  have D6 := hide (D6.out hgood)
  have D7 := hide (D7.out hgood)
  clear hgood HBad HGood D3
  go_wp2_with fail
  refine ((C4 _ HS.out).out).mono ?_
  rintro e9 w2 ⟨rfl, h2⟩
  subst h2
  go_wp2_with fail
  refine ((C16 _ HS.out).out).mono ?_
  rintro e9 w2 ⟨rfl, h2⟩
  subst h2
  go_wp2_with fail
  refine ((C20 _ HS.out).out).mono ?_
  rintro e9 w2 ⟨rfl, h2⟩
  subst h2
  go_wp2_with fail
  refine ((C24 _ HS.out).out).mono ?_
  rintro e9 w2 ⟨rfl, h2⟩
  subst h2
  obtain ⟨k, hk⟩ : ∃ k, k = (v5 == 1) := ⟨_, rfl⟩
  rw [← hk] at HV
  have HHh := HV
  go_wp2_with fail
  rw [← hk]
  clear hk HV C0 C4 C16 C20 C24 CN b1 b2 b3 n3 n4 n5
  obtain ⟨b, hb⟩ : ∃ b, b = v1 := ⟨_, rfl⟩
  obtain ⟨s, hs⟩ : ∃ s, s = v2 := ⟨_, rfl⟩
  obtain ⟨o, ho⟩ : ∃ o, o = v3 := ⟨_, rfl⟩
  obtain ⟨j, hj⟩ : ∃ j, j = v4 := ⟨_, rfl⟩
  subst hb hs ho hj
  rw [HHh.out] at D4 D5 D6 D7
  have hcl : Hd.cl ⟨b, s, o, j, k⟩ = clN b := rfl
  rw [hcl] at D5 D6 D7
  clear hcl
  have HR := hide (HR.out.below ((Below.refl _ _).alloc (Nat.le_refl _) (.cells #[.int .i64 b, .int .i64 s, .int .i64 o, .int .i64 j, .bool k] 24)))
  have HB := hide (HB.out.alloc HB.out.size (.cells #[.int .i64 b, .int .i64 s, .int .i64 o, .int .i64 j, .bool k] 24))
  have HS := hide (HS.out.below ((Below.refl _ _).alloc (Nat.le_refl _) (.cells #[.int .i64 b, .int .i64 s, .int .i64 o, .int .i64 j, .bool k] 24)))
  have HT : Hid (Stay ((w.alloc (.cells #[.int .i64 0, .int .i64 0, .int .i64 0, .int .i64 0, .bool false] 24)).alloc (.cells #[.int .i64 b, .int .i64 s, .int .i64 o, .int .i64 j, .bool k] 24)) (w.heap.size + 1) #[.int .i64 b, .int .i64 s, .int .i64 o, .int .i64 j, .bool k] 24) := hide (heap_alloc2_new w (.cells #[.int .i64 0, .int .i64 0, .int .i64 0, .int .i64 0, .bool false] 24) (.cells #[.int .i64 b, .int .i64 s, .int .i64 o, .int .i64 j, .bool k] 24))
  have HCk := fun u => hide (refcheck_any b s o j k u)
  have HCl := fun u => hide (refcluster_any b s o j k u)
  have hcc := clN_cases b
  generalize Hd.check ⟨b, s, o, j, k⟩ = c at *
  generalize (w.alloc (.cells #[.int .i64 0, .int .i64 0, .int .i64 0, .int .i64 0, .bool false] 24)).alloc (.cells #[.int .i64 b, .int .i64 s, .int .i64 o, .int .i64 j, .bool k] 24) = w3 at *
  refine ((HCk _).out).mono ?_
  rintro e9 w4 ⟨rfl, hb4⟩
  have HR := hide (HR.out.below hb4)
  have HB := hide (HB.out.trans (hb4.mono HB.out.size))
  have HS := hide (HS.out.below hb4)
  have HT := hide (HT.out.below hb4)
  clear hb4
  by_cases hc : c = 0
  rotate_left
  · have hcb : (c != 0) = true := by simp [hc]
    have d0 : _ = some _ := HR.out.cell 0 _ rfl
    have f0 := HR.out.frozen 0
    have d1 : _ = some _ := HR.out.cell 1 _ rfl
    have f1 := HR.out.frozen 1
    have d2 : _ = some _ := HR.out.cell 2 _ rfl
    have f2 := HR.out.frozen 2
    have d3 : _ = some _ := HR.out.cell 3 _ rfl
    have f3 := HR.out.frozen 3
    have d4 : _ = some _ := HR.out.cell 4 _ rfl
    have f4 := HR.out.frozen 4
    go_wp2_with fail
    refine bodyPost_ret (ret_hdw rfl _ _ w.heap.size 0 0 0 0 false _ rfl rfl (set5 _ _ _ _ _ _ _ _ _ _ _ _ _ HR.out)) rfl ⟨?_, below5 HB.out (Nat.le_refl _) _ _ _ _ _⟩
    rw [D4.out hc]
    rfl
  subst hc
  have D5 := hide (D5.out (by simp))
  have D6 := hide (D6.out (by simp))
  have D7 := hide (D7.out (by simp))
  clear D4
  obtain ⟨t0, t1, t2, t3, t4⟩ := HT.out.box9
  go_wp2_with fail
  refine ((HCl _).out).mono ?_
  rintro e9 w5 ⟨rfl, hb4⟩
  have HR := hide (HR.out.below hb4)
  have HB := hide (HB.out.trans (hb4.mono HB.out.size))
  have HS := hide (HS.out.below hb4)
  have HT := hide (HT.out.below hb4)
  clear hb4 t0 t1 t2 t3 t4
  generalize clN b = m at *
  by_cases hlm : (l.length : Int) < m
  · have hdm : decide ((l.length : Int) < m) = true := by simp [hlm]
    have d0 : _ = some _ := HR.out.cell 0 _ rfl
    have f0 := HR.out.frozen 0
    have d1 : _ = some _ := HR.out.cell 1 _ rfl
    have f1 := HR.out.frozen 1
    have d2 : _ = some _ := HR.out.cell 2 _ rfl
    have f2 := HR.out.frozen 2
    have d3 : _ = some _ := HR.out.cell 3 _ rfl
    have f3 := HR.out.frozen 3
    have d4 : _ = some _ := HR.out.cell 4 _ rfl
    have f4 := HR.out.frozen 4
    go_wp2_with fail
    refine bodyPost_ret (ret_hdw rfl _ _ w.heap.size 0 0 0 0 false _ rfl rfl (set5 _ _ _ _ _ _ _ _ _ _ _ _ _ HR.out)) rfl ⟨?_, below5 HB.out (Nat.le_refl _) _ _ _ _ _⟩
    rw [D5.out hlm]
    rfl
  have hdm : decide ((l.length : Int) < m) = false := by simp [hlm]
  have D6 := hide (D6.out (by omega))
  have D7 := hide (D7.out (by omega))
  clear D5
  obtain ⟨t0, t1, t2, t3, t4⟩ := HT.out.box9
  go_wp2_with fail
  refine ((HCl _).out).mono ?_
  rintro e9 w6 ⟨rfl, hb4⟩
  have HR := hide (HR.out.below hb4)
  have HB := hide (HB.out.trans (hb4.mono HB.out.size))
  have HS := hide (HS.out.below hb4)
  have HT := hide (HT.out.below hb4)
  clear hb4 t0 t1 t2 t3 t4
  obtain ⟨q, hq⟩ : ∃ q : Nat, (q : Int) = m := ⟨m.toNat, by omega⟩
  rw [← hq] at D6 D7 hdm hlm ⊢
  have hqt : ((q : Int)).toNat = q := by omega
  rw [hqt] at D6 D7
  have hqb : 512 ≤ q ∧ q ≤ 4096 := by omega
  have hql : q ≤ l.length := by omega
  have hc28 : ¬ cap = 28 := by omega
  clear hq hqt hcc hdm hlm
  rcases HS.out.lies with hnil | ⟨bb, off, hab, _, hcell⟩
  · rw [hnil] at h28; simp at h28
  subst hab
  have HZ : ∀ u, Below w6.heap.size w6 u → Hid (Calls Try.prog 49 #[.slice (some ⟨bb, off + 28, none⟩) (q - 28) (cap - 28)] u fun e w' => e = .returned (.bool (allZ ((l.drop 28).take (q - 28)))) ∧ w' = u) := fun u hu => hide (by
    have hL := ((HS.out.below hu).lies).of_part 28 (q - 28)
    have := IsZero_any (some ⟨bb, off + 28, none⟩) (cap - 28) ((l.drop 28).take (q - 28)) u (by simp; unfold maxLen; omega) hL
    rw [show ((l.drop 28).take (q - 28)).length = q - 28 by simp; omega] at this
    exact this)
  clear hcell
  go_wp2_with fail
  refine ((HZ _ (Below.refl _ _)).out).mono ?_
  rintro e9 w7 ⟨rfl, h7⟩
  subst h7
  generalize allZ ((l.drop 28).take (q - 28)) = z at *
  cases z
  · have d0 : _ = some _ := HR.out.cell 0 _ rfl
    have f0 := HR.out.frozen 0
    have d1 : _ = some _ := HR.out.cell 1 _ rfl
    have f1 := HR.out.frozen 1
    have d2 : _ = some _ := HR.out.cell 2 _ rfl
    have f2 := HR.out.frozen 2
    have d3 : _ = some _ := HR.out.cell 3 _ rfl
    have f3 := HR.out.frozen 3
    have d4 : _ = some _ := HR.out.cell 4 _ rfl
    have f4 := HR.out.frozen 4
    go_wp2_with fail
    refine bodyPost_ret (ret_hdw rfl _ _ w.heap.size 0 0 0 0 false _ rfl rfl (set5 _ _ _ _ _ _ _ _ _ _ _ _ _ HR.out)) rfl ⟨?_, below5 HB.out (Nat.le_refl _) _ _ _ _ _⟩
    rw [D6.out trivial]
    rfl
  · have d0 : _ = some _ := HR.out.cell 0 _ rfl
    have f0 := HR.out.frozen 0
    have d1 : _ = some _ := HR.out.cell 1 _ rfl
    have f1 := HR.out.frozen 1
    have d2 : _ = some _ := HR.out.cell 2 _ rfl
    have f2 := HR.out.frozen 2
    have d3 : _ = some _ := HR.out.cell 3 _ rfl
    have f3 := HR.out.frozen 3
    have d4 : _ = some _ := HR.out.cell 4 _ rfl
    have f4 := HR.out.frozen 4
    obtain ⟨t0, t1, t2, t3, t4⟩ := HT.out.box9
    have D7 := hide (D7.out (by simp))
    rw [← HHh.out] at D7
    go_wp2_with fail
    refine bodyPost_ret (ret_hdw rfl _ _ w.heap.size b s o j k _ rfl rfl (set5 _ _ _ _ _ _ _ _ _ _ _ _ _ HR.out)) rfl ⟨?_, below5 HB.out (Nat.le_refl _) _ _ _ _ _⟩
    rw [D7.out, HHh.out]
    rfl

end Go.Proofs.Ytpmljlmcfofppaa.Oct
