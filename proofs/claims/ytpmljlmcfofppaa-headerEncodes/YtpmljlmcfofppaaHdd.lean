/- A header out of its bytes: Decode. -/
import Derived.Test.YtpmljlmcfofppaaHde
namespace Go.Proofs.Ytpmljlmcfofppaa.Oct
open Go.RowKit

/-- What Decode answers: the error, the header. -/
def decN (l : List Int) : Int × Hd :=
  if l.length < 28 then (4, zH)
  else if num l 0 4 ≠ 1280591174 then (10, zH)
  else if 12 < num l 4 4 ∨ 16777216 < num l 8 8 ∨ 1 < num l 24 4 then (11, zH)
  else if (hdF l).check ≠ 0 then ((hdF l).check, zH)
  else if (l.length : Int) < (hdF l).cl then (4, zH)
  else if allZ ((l.drop 28).take ((hdF l).cl.toNat - 28)) = false then (11, zH)
  else (0, hdF l)

theorem dec1 {l : List Int} (h : l.length < 28) : decN l = (4, zH) := if_pos h
theorem dec2 {l : List Int} (h : ¬ l.length < 28) (h2 : num l 0 4 ≠ 1280591174) : decN l = (10, zH) := by unfold decN; rw [if_neg h, if_pos h2]
theorem dec3 {l : List Int} (h : ¬ l.length < 28) (h2 : ¬ num l 0 4 ≠ 1280591174) (h3 : badF l) : decN l = (11, zH) := by unfold decN; rw [if_neg h, if_neg h2, if_pos (show (12 < num l 4 4 ∨ 16777216 < num l 8 8 ∨ 1 < num l 24 4) from h3)]
theorem dec4 {l : List Int} (h : ¬ l.length < 28) (h2 : ¬ num l 0 4 ≠ 1280591174) (h3 : ¬ badF l) (h4 : (hdF l).check ≠ 0) : decN l = ((hdF l).check, zH) := by unfold decN; rw [if_neg h, if_neg h2, if_neg (show ¬ (12 < num l 4 4 ∨ 16777216 < num l 8 8 ∨ 1 < num l 24 4) from h3), if_pos h4]
theorem dec5 {l : List Int} (h : ¬ l.length < 28) (h2 : ¬ num l 0 4 ≠ 1280591174) (h3 : ¬ badF l) (h4 : ¬ (hdF l).check ≠ 0) (h5 : (l.length : Int) < (hdF l).cl) : decN l = (4, zH) := by unfold decN; rw [if_neg h, if_neg h2, if_neg (show ¬ (12 < num l 4 4 ∨ 16777216 < num l 8 8 ∨ 1 < num l 24 4) from h3), if_neg h4, if_pos h5]
theorem dec6 {l : List Int} (h : ¬ l.length < 28) (h2 : ¬ num l 0 4 ≠ 1280591174) (h3 : ¬ badF l) (h4 : ¬ (hdF l).check ≠ 0) (h5 : ¬ (l.length : Int) < (hdF l).cl) (h6 : allZ ((l.drop 28).take ((hdF l).cl.toNat - 28)) = false) : decN l = (11, zH) := by
  unfold decN; rw [if_neg h, if_neg h2, if_neg (show ¬ (12 < num l 4 4 ∨ 16777216 < num l 8 8 ∨ 1 < num l 24 4) from h3), if_neg h4, if_neg h5, if_pos h6]
theorem dec7 {l : List Int} (h : ¬ l.length < 28) (h2 : ¬ num l 0 4 ≠ 1280591174) (h3 : ¬ badF l) (h4 : ¬ (hdF l).check ≠ 0) (h5 : ¬ (l.length : Int) < (hdF l).cl) (h6 : ¬ allZ ((l.drop 28).take ((hdF l).cl.toNat - 28)) = false) : decN l = (0, hdF l) := by
  unfold decN; rw [if_neg h, if_neg h2, if_neg (show ¬ (12 < num l 4 4 ∨ 16777216 < num l 8 8 ∨ 1 < num l 24 4) from h3), if_neg h4, if_neg h5, if_neg h6]

theorem Stay.box9 {u : World} {R : Nat} {b s o j : Int} {k : Bool} {t : TypeId} (h : Stay u R #[.int .i64 b, .int .i64 s, .int .i64 o, .int .i64 j, .bool k] t) : HBox u R b s o j k :=
  ⟨h.cell 0 _ rfl, h.cell 1 _ rfl, h.cell 2 _ rfl, h.cell 3 _ rfl, h.cell 4 _ rfl⟩

theorem set5 (u : World) (R : Nat) (t : TypeId) (z0 z1 z2 z3 z4 x0 x1 x2 x3 x4 : Value) (h : Stay u R #[z0, z1, z2, z3, z4] t) :
    Stay (((((u.setCell ⟨R, 0, none⟩ x0).setCell ⟨R, 1, none⟩ x1).setCell ⟨R, 2, none⟩ x2).setCell ⟨R, 3, none⟩ x3).setCell ⟨R, 4, none⟩ x4) R #[x0, x1, x2, x3, x4] t :=
  ((((h.set 0 x0).set 1 x1).set 2 x2).set 3 x3).set 4 x4

theorem below5 {w u : World} {R : Nat} (h : Below w.heap.size w u) (hR : w.heap.size ≤ R) (x0 x1 x2 x3 x4 : Value) :
    Below w.heap.size w (((((u.setCell ⟨R, 0, none⟩ x0).setCell ⟨R, 1, none⟩ x1).setCell ⟨R, 2, none⟩ x2).setCell ⟨R, 3, none⟩ x3).setCell ⟨R, 4, none⟩ x4) :=
  ((((h.setCell (p := ⟨R, 0, none⟩) hR _).setCell (p := ⟨R, 1, none⟩) hR _).setCell (p := ⟨R, 2, none⟩) hR _).setCell (p := ⟨R, 3, none⟩) hR _).setCell (p := ⟨R, 4, none⟩) hR _

/-- A result of a header and a number: the header lies in a block. -/
theorem ret_hdr {fn : Func} {p u : Tmp} (hr : fn.results = #[.cell p 23, .tmp u]) (tmps : Array Value) (w : World) (R : Nat) (b s o j : Int) (k : Bool) (z : Value)
    (hp : tmps.getD p undef = .pointer (some ⟨R, 0, none⟩)) (hz : tmps.getD u undef = z) (hs : Stay w R #[.int .i64 b, .int .i64 s, .int .i64 o, .int .i64 j, .bool k] 23) :
    (results fn tmps).run Try.prog w = .ok (.tuple #[.agg #[.int .i64 b, .int .i64 s, .int .i64 o, .int .i64 j, .bool k], z]) w := by
  rw [results_cell_tmp hr, hp, hz]
  simp only [asAddr, Sem.run_pure, Result.andThen_ok]
  rw [run_loadVar_row w R 23 23 _ (0, 0) _ hs Try.underlying23 rfl (by kernel_rfl)]
  rfl

set_option maxHeartbeats 4000000 in
theorem decode_any (a : Option Addr) (cap : Nat) (l : List Int) (w : World) (h5 : l.length ≤ 1000000) (hb : Byts l) (hl : Sl w a cap l) :
    Calls Try.prog 27 #[.slice a l.length cap] w fun e w' => e = .returned (.tuple #[vH (decN l).2, .int .i64 (decN l).1]) ∧ Below w.heap.size w w' := by
  have HR : Hid (Stay (w.alloc (.cells #[.int .i64 0, .int .i64 0, .int .i64 0, .int .i64 0, .bool false] 23)) w.heap.size #[.int .i64 0, .int .i64 0, .int .i64 0, .int .i64 0, .bool false] 23) := hide (heap_alloc_new w (.cells #[.int .i64 0, .int .i64 0, .int .i64 0, .int .i64 0, .bool false] 23))
  have HB := hide ((Below.refl w.heap.size w).alloc (Nat.le_refl _) (.cells #[.int .i64 0, .int .i64 0, .int .i64 0, .int .i64 0, .bool false] 23))
  have HS := hide (hl.below ((Below.refl _ _).alloc (Nat.le_refl _) (.cells #[.int .i64 0, .int .i64 0, .int .i64 0, .int .i64 0, .bool false] 23)))
  have HBy := hide hb
  have hcap := hl.le
  have hcm := hl.max
  unfold maxLen at hcm
  clear hl hb
  by_cases h28 : l.length < 28
  · rw [dec1 h28]
    go_enter Try.func27, Try.ntmps27
    go_wp2_with fail
    refine bodyPost_ret (ret_hdr rfl _ _ w.heap.size 0 0 0 0 false _ rfl rfl HR.out) rfl ⟨rfl, HB.out⟩
  have C1 : ∀ u, Sl u a cap l → Hid (Calls Try.prog 42 #[.slice a l.length cap, .int .i64 0] u fun e w' => e = .returned (.tuple #[.int .u32 (num l 0 4), .bool true]) ∧ w' = u) := fun u hu => hide (u32_at a cap l 0 u h5 HBy.out hu.lies (by omega))
  have C2 : ∀ u, Sl u a cap l → Hid (Calls Try.prog 43 #[.slice a l.length cap] u fun e w' => ((badF l ∧ e = .returned (.tuple #[vH zH, .int .i64 11])) ∨ (¬ badF l ∧ e = .returned (.tuple #[vH (hdF l), .int .i64 0]))) ∧ Below u.heap.size u w') := fun u hu => hide (fields_any a cap l u h5 HBy.out hu.lies (by omega))
  obtain ⟨v0, hv0⟩ : ∃ v0, v0 = num l 0 4 := ⟨_, rfl⟩
  rw [← hv0] at C1
  by_cases hm : v0 = 1280591174
  rotate_left
  · rw [dec2 h28 (by rw [← hv0]; exact hm)]
    have hbm : (v0 != 1280591174) = true := by simp [hm]
    go_enter Try.func27, Try.ntmps27
    go_wp2_with fail
    refine ((C1 _ HS.out).out).mono ?_
    rintro e9 w2 ⟨rfl, h2⟩
    subst h2
    go_wp2_with fail
    refine bodyPost_ret (ret_hdr rfl _ _ w.heap.size 0 0 0 0 false _ rfl rfl HR.out) rfl ⟨rfl, HB.out⟩
  have hM : Hid (¬ num l 0 4 ≠ 1280591174) := hide (by rw [← hv0]; simp [hm])
  subst hm
  clear hv0
  have D3 := hide (fun h => dec3 h28 hM.out (l := l) h)
  have D4 := hide (fun h h4 => dec4 h28 hM.out (l := l) h h4)
  have D5 := hide (fun h h4 h5 => dec5 h28 hM.out (l := l) h h4 h5)
  have D6 := hide (fun h h4 h5 h6 => dec6 h28 hM.out (l := l) h h4 h5 h6)
  have D7 := hide (fun h h4 h5 h6 => dec7 h28 hM.out (l := l) h h4 h5 h6)
  obtain ⟨dn, hdn⟩ : ∃ dn, dn = decN l := ⟨_, rfl⟩
  rw [← hdn] at D3 D4 D5 D6 D7 ⊢
  go_enter Try.func27, Try.ntmps27
  go_wp2_with fail
  refine ((C1 _ HS.out).out).mono ?_
  rintro e9 w2 ⟨rfl, h2⟩
  subst h2
  go_wp2_with fail
  refine ((C2 _ HS.out).out).mono ?_
  rintro e9 w2 ⟨hcase, hb2⟩
  have HR := hide (HR.out.below hb2)
  have HB := hide (HB.out.trans (hb2.mono HB.out.size))
  have HS := hide (HS.out.below hb2)
  have hwsz : w.heap.size < w2.heap.size := (Array.getElem?_eq_some_iff.1 HR.out).1
  clear hb2
  rcases hcase with ⟨hbad, rfl⟩ | ⟨hgood, rfl⟩
  · have d0 : _ = some _ := HR.out.cell 0 _ rfl
    have f0 := HR.out.frozen 0
    have d1 : _ = some _ := HR.out.cell 1 _ rfl
    have f1 := HR.out.frozen 1
    have d2 : _ = some _ := HR.out.cell 2 _ rfl
    have f2 := HR.out.frozen 2
    have d3 : _ = some _ := HR.out.cell 3 _ rfl
    have f3 := HR.out.frozen 3
    have d4 : _ = some _ := HR.out.cell 4 _ rfl
    have f4 := HR.out.frozen 4
    unfold vH zH
    dsimp only
    go_wp2_with fail
    have hb5 := below5 HB.out (Nat.le_refl _) (.int .i64 0) (.int .i64 0) (.int .i64 0) (.int .i64 0) (.bool false)
    refine bodyPost_ret (ret_hdr rfl _ _ w.heap.size 0 0 0 0 false _ rfl rfl ((set5 _ _ _ _ _ _ _ _ _ _ _ _ _ HR.out).below ((Below.refl _ _).alloc (Nat.le_refl _) _))) rfl ⟨?_, hb5.alloc hb5.size _⟩
    rw [D3.out hbad]
    rfl
  obtain ⟨b, s, o, j, k, hh⟩ : ∃ b s o j k, hdF l = ⟨b, s, o, j, k⟩ := ⟨_, _, _, _, _, rfl⟩
  have D4 := hide (D4.out hgood)
  have D5 := hide (D5.out hgood)
  have D6 := hide (D6.out hgood)
  have D7 := hide (D7.out hgood)
  have hvh : vH (hdF l) = .agg #[.int .i64 b, .int .i64 s, .int .i64 o, .int .i64 j, .bool k] := by rw [hh]; rfl
  rw [hvh]
  rw [hh] at D4 D5 D6 D7
  have hcl : Hd.cl ⟨b, s, o, j, k⟩ = clN b := rfl
  rw [hcl] at D5 D6 D7
  have HHh := hide hh
  clear hvh hcl hh hgood C1 C2
  have HR := hide (HR.out.below ((Below.refl _ _).alloc (Nat.le_refl _) (.cells #[.int .i64 b, .int .i64 s, .int .i64 o, .int .i64 j, .bool k] 23)))
  have HB := hide (HB.out.alloc HB.out.size (.cells #[.int .i64 b, .int .i64 s, .int .i64 o, .int .i64 j, .bool k] 23))
  have HS := hide (HS.out.below ((Below.refl _ _).alloc (Nat.le_refl _) (.cells #[.int .i64 b, .int .i64 s, .int .i64 o, .int .i64 j, .bool k] 23)))
  have HT : Hid (Stay (w2.alloc (.cells #[.int .i64 b, .int .i64 s, .int .i64 o, .int .i64 j, .bool k] 23)) w2.heap.size #[.int .i64 b, .int .i64 s, .int .i64 o, .int .i64 j, .bool k] 23) := hide (heap_alloc_new w2 (.cells #[.int .i64 b, .int .i64 s, .int .i64 o, .int .i64 j, .bool k] 23))
  have HCk := fun u => hide (check_any b s o j k u)
  have HCl := fun u => hide (cluster_any b s o j k u)
  have hcc := clN_cases b
  generalize Hd.check ⟨b, s, o, j, k⟩ = c at *
  go_wp2_with fail
  generalize w2.alloc (.cells #[.int .i64 b, .int .i64 s, .int .i64 o, .int .i64 j, .bool k] 23) = w3 at *
  refine ((HCk _).out).mono ?_
  rintro e9 w4 ⟨rfl, hb4⟩
  have HR := hide (HR.out.below hb4)
  have HB := hide (HB.out.trans (hb4.mono HB.out.size))
  have HS := hide (HS.out.below hb4)
  have HT := hide (HT.out.below hb4)
  clear hb4
  by_cases hc : c = 0
  rotate_left
  · have hcb : (c != 0) = true := by simp [hc]
    have d0 : _ = some _ := HR.out.cell 0 _ rfl
    have f0 := HR.out.frozen 0
    have d1 : _ = some _ := HR.out.cell 1 _ rfl
    have f1 := HR.out.frozen 1
    have d2 : _ = some _ := HR.out.cell 2 _ rfl
    have f2 := HR.out.frozen 2
    have d3 : _ = some _ := HR.out.cell 3 _ rfl
    have f3 := HR.out.frozen 3
    have d4 : _ = some _ := HR.out.cell 4 _ rfl
    have f4 := HR.out.frozen 4
    go_wp2_with fail
    refine bodyPost_ret (ret_hdr rfl _ _ w.heap.size 0 0 0 0 false _ rfl rfl (set5 _ _ _ _ _ _ _ _ _ _ _ _ _ HR.out)) rfl ⟨?_, below5 HB.out (Nat.le_refl _) _ _ _ _ _⟩
    rw [D4.out hc]
    rfl
  subst hc
  have D5 := hide (D5.out (by simp))
  have D6 := hide (D6.out (by simp))
  have D7 := hide (D7.out (by simp))
  clear D3 D4
  obtain ⟨t0, t1, t2, t3, t4⟩ := HT.out.box9
  go_wp2_with fail
  refine ((HCl _).out).mono ?_
  rintro e9 w5 ⟨rfl, hb4⟩
  have HR := hide (HR.out.below hb4)
  have HB := hide (HB.out.trans (hb4.mono HB.out.size))
  have HS := hide (HS.out.below hb4)
  have HT := hide (HT.out.below hb4)
  clear hb4 t0 t1 t2 t3 t4
  generalize clN b = m at *
  by_cases hlm : (l.length : Int) < m
  · have hdm : decide ((l.length : Int) < m) = true := by simp [hlm]
    have d0 : _ = some _ := HR.out.cell 0 _ rfl
    have f0 := HR.out.frozen 0
    have d1 : _ = some _ := HR.out.cell 1 _ rfl
    have f1 := HR.out.frozen 1
    have d2 : _ = some _ := HR.out.cell 2 _ rfl
    have f2 := HR.out.frozen 2
    have d3 : _ = some _ := HR.out.cell 3 _ rfl
    have f3 := HR.out.frozen 3
    have d4 : _ = some _ := HR.out.cell 4 _ rfl
    have f4 := HR.out.frozen 4
    go_wp2_with fail
    refine bodyPost_ret (ret_hdr rfl _ _ w.heap.size 0 0 0 0 false _ rfl rfl (set5 _ _ _ _ _ _ _ _ _ _ _ _ _ HR.out)) rfl ⟨?_, below5 HB.out (Nat.le_refl _) _ _ _ _ _⟩
    rw [D5.out hlm]
    rfl
  have hdm : decide ((l.length : Int) < m) = false := by simp [hlm]
  have D6 := hide (D6.out (by omega))
  have D7 := hide (D7.out (by omega))
  clear D5
  obtain ⟨t0, t1, t2, t3, t4⟩ := HT.out.box9
  go_wp2_with fail
  refine ((HCl _).out).mono ?_
  rintro e9 w6 ⟨rfl, hb4⟩
  have HR := hide (HR.out.below hb4)
  have HB := hide (HB.out.trans (hb4.mono HB.out.size))
  have HS := hide (HS.out.below hb4)
  have HT := hide (HT.out.below hb4)
  clear hb4 t0 t1 t2 t3 t4
  obtain ⟨q, hq⟩ : ∃ q : Nat, (q : Int) = m := ⟨m.toNat, by omega⟩
  rw [← hq] at D6 D7 hdm hlm ⊢
  have hqt : ((q : Int)).toNat = q := by omega
  rw [hqt] at D6 D7
  have hqb : 512 ≤ q ∧ q ≤ 4096 := by omega
  have hql : q ≤ l.length := by omega
  have hc28 : ¬ cap = 28 := by omega
  clear hq hqt hcc hdm hlm
  rcases HS.out.lies with hnil | ⟨bb, off, hab, _, hcell⟩
  · rw [hnil] at h28; simp at h28
  subst hab
  have HZ : ∀ u, Below w6.heap.size w6 u → Hid (Calls Try.prog 44 #[.slice (some ⟨bb, off + 28, none⟩) (q - 28) (cap - 28)] u fun e w' => e = .returned (.bool (allZ ((l.drop 28).take (q - 28)))) ∧ w' = u) := fun u hu => hide (by
    have hL := ((HS.out.below hu).lies).of_part 28 (q - 28)
    have := Zero_any (some ⟨bb, off + 28, none⟩) (cap - 28) ((l.drop 28).take (q - 28)) u (by simp; unfold maxLen; omega) hL
    rw [show ((l.drop 28).take (q - 28)).length = q - 28 by simp; omega] at this
    exact this)
  clear hcell
  go_wp2_with fail
  refine ((HZ _ (Below.refl _ _)).out).mono ?_
  rintro e9 w7 ⟨rfl, h7⟩
  subst h7
  generalize allZ ((l.drop 28).take (q - 28)) = z at *
  cases z
  · have d0 : _ = some _ := HR.out.cell 0 _ rfl
    have f0 := HR.out.frozen 0
    have d1 : _ = some _ := HR.out.cell 1 _ rfl
    have f1 := HR.out.frozen 1
    have d2 : _ = some _ := HR.out.cell 2 _ rfl
    have f2 := HR.out.frozen 2
    have d3 : _ = some _ := HR.out.cell 3 _ rfl
    have f3 := HR.out.frozen 3
    have d4 : _ = some _ := HR.out.cell 4 _ rfl
    have f4 := HR.out.frozen 4
    go_wp2_with fail
    refine bodyPost_ret (ret_hdr rfl _ _ w.heap.size 0 0 0 0 false _ rfl rfl (set5 _ _ _ _ _ _ _ _ _ _ _ _ _ HR.out)) rfl ⟨?_, below5 HB.out (Nat.le_refl _) _ _ _ _ _⟩
    rw [D6.out trivial]
    rfl
  · have d0 : _ = some _ := HR.out.cell 0 _ rfl
    have f0 := HR.out.frozen 0
    have d1 : _ = some _ := HR.out.cell 1 _ rfl
    have f1 := HR.out.frozen 1
    have d2 : _ = some _ := HR.out.cell 2 _ rfl
    have f2 := HR.out.frozen 2
    have d3 : _ = some _ := HR.out.cell 3 _ rfl
    have f3 := HR.out.frozen 3
    have d4 : _ = some _ := HR.out.cell 4 _ rfl
    have f4 := HR.out.frozen 4
    obtain ⟨t0, t1, t2, t3, t4⟩ := HT.out.box9
    have D7 := hide (D7.out (by simp))
    rw [← HHh.out] at D7
    go_wp2_with fail
    refine bodyPost_ret (ret_hdr rfl _ _ w.heap.size b s o j k _ rfl rfl (set5 _ _ _ _ _ _ _ _ _ _ _ _ _ HR.out)) rfl ⟨?_, below5 HB.out (Nat.le_refl _) _ _ _ _ _⟩
    rw [D7.out, HHh.out]
    rfl

end Go.Proofs.Ytpmljlmcfofppaa.Oct
