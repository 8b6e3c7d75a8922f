/- FatMakes: a volume that is made is the bytes that the document says, and is opened; all but its root is free. -/
import Derived.Test.YtbldkebolmellaaDoorFnz
import Derived.Test.YtbldkebolmellaaDoorFmd
import Derived.Test.YtbldkebolmellaaDoorAlb
import Derived.Test.YtbldkebolmellaaDoorOpen
import Derived.Test.YtbldkebolmellaaDoorRows
import Derived.Test.YtbldkebolmellaaDoorCards
import Derived.Test.YtbldkebolmellaaDoorTie
import Derived.LaidMore
import Derived.Stop.Joined
import Derived.SevenTiedAt
namespace Go.Proofs.YtbldkebolmellaaDoor.Oct
open Go.RowKit Go.ChangeShapes Go.WideShapes Go.ChangeAt

theorem sameF (a a' : Option Addr) (c c' : Nat) (l : List Int) (w : World) (h : Lies w a l) (h' : Lies w a' l) (hb : Byts l) :
    Calls Tryd.prog 21 #[.slice a l.length c, .slice a' l.length c'] w fun e w' => e = .returned (.bool true) ∧ w' = w := by
  have := Same_any a a' c c' l l w h h' hb hb
  rw [decide_eq_true rfl] at this
  exact this

theorem sum_frM (b : Bt) (j : Nat) : sumE 0 (frM b j) = (j : Int) * (512 * b.each) := by
  unfold frM sumE
  split
  · rename_i h
    subst h
    simp
  · simp
    omega

set_option maxHeartbeats 16000000 in
set_option maxRecDepth 100000 in
theorem makes_ok (s e : Nat) (h1 : 16 ≤ s) (h2 : s ≤ 2000) (e1 : 1 ≤ e) (e2 : e ≤ 8) (S E Q L K : Int) (N P j : Nat) (hS : S = (s : Int)) (hE : E = (e : Int)) (hQ : Q = ((s / e : Nat) : Int)) (hL : L = (lgM s e : Int)) (hN : N = 512 * s) (hP : P = 2048 + 512 * lgM s e) (hbm : bM s e = (Bt.mk E 4 2 S L 2 1 2)) (hk : (Bt.mk E 4 2 S L 2 1 2).chk = 0) (hK : K = (Bt.mk E 4 2 S L 2 1 2).clus) (hj : K = ((j + 1 : Nat) : Int)) (w : World) (hV : Vars w) :
    Calls Tryd.prog 6 #[.int .i64 S, .int .i64 E] w fun e w' => e = .returned (.bool true) ∧ Below w.heap.size w w' := by
  have HV := hide hV
  have hcs := chk_says hk
  have hcl := (Bt.clus_says hcs.1)
  rw [← hK] at hcl
  have HMk := hide (make_core s e h1 h2 e1 e2 S E Q L K N hS hE hQ hL hN hbm hk hK w hV)
  have HRm := fun u => hide (rmade_ok s e h1 h2 e1 e2 S E Q L K N P hS hE hQ hL hN hP hbm hk hK u)
  have hBy := bytsM s e ⟨e1, e2⟩
  have HByt := hide hBy
  have hLen : (m5 s e).length = N := by rw [m5_len h1 h2 e1 e2]; omega
  have HLen := hide hLen
  have HSm := fun a a' c c' u h h' => hide (sameF a a' c c' (m5 s e) u h h' hBy)
  rw [hLen] at HSm
  have hvol : Vol (m5 s e) (Bt.mk E 4 2 S L 2 1 2) (j + 1) (((j + 1 : Nat) : Int) - 1) 3 := by rw [← hbm]; exact volM h1 h2 e1 e2 (by rw [hbm]; exact hk) (j + 1) (by rw [hbm, ← hK]; exact hj) (by omega)
  have HOp := fun a c u (hc : N ≤ c) (hno : a = none → c = 0) (hl : Lies u a (m5 s e)) (hv : Vars u) => hide (open_ok a c (m5 s e) (Bt.mk E 4 2 S L 2 1 2) (j + 1) (((j + 1 : Nat) : Int) - 1) 3 u (by rw [hLen]; omega) (by rw [hLen]; exact hc) hno hl hBy hv hvol)
  rw [hLen] at HOp
  have HTa : Hid (secs (m5 s e) (Bt.mk E 4 2 S L 2 1 2).ahead (Bt.mk E 4 2 S L 2 1 2).long = tM s e) := hide (by show secs (m5 s e) 4 L = _; rw [hL]; exact sM_4 h1 h2 e1 e2)
  have hea : 1 ≤ (Bt.mk E 4 2 S L 2 1 2).each := by show 1 ≤ E; omega
  have HSp : ∀ u R g, Blk u R (volC (Bt.mk E 4 2 S L 2 1 2) g (j + 1) (((j + 1 : Nat) : Int) - 1) 3) 66 → (∀ i, i < j + 1 → u.cell? ⟨g, i, none⟩ = some (.int .u32 ((numsF (tM s e) (j + 1)).getD i 0))) → Hid (Calls Tryd.prog 30 #[.pointer (some ⟨R, 0, none⟩)] u fun e w' => (∃ a c, e = .returned (.slice a (frM (Bt.mk E 4 2 S L 2 1 2) j).length c) ∧ LiesE w' a (frM (Bt.mk E 4 2 S L 2 1 2) j)) ∧ Below u.heap.size u w') := fun u R g hR hl => hide ((space_ok sort_says (Bt.mk E 4 2 S L 2 1 2) R g (j + 1) _ _ (numsF (tM s e) (j + 1)) u hcs.1 (by omega) hR hl).mono fun e' w' ⟨⟨v, M, h1', h2', h3'⟩, h4'⟩ => by
    rw [← hbm] at h3'
    have hM := normM h1 h2 e1 e2 j h3'
    rw [hbm] at hM
    subst hM
    obtain ⟨a, c, h5, h6, _⟩ := h2'.form
    exact ⟨⟨a, c, by rw [h1', h5], h6⟩, h4'⟩)
  have hat : 0 ≤ (Bt.mk E 4 2 S L 2 1 2).at 3 ∧ (Bt.mk E 4 2 S L 2 1 2).at 3 ≤ 1000000000 := by
    have hlg := lg_says h1 h2 e1 e2
    show 0 ≤ (4 + 2 * L) * 512 + (3 - 2) * (512 * E) ∧ (4 + 2 * L) * 512 + (3 - 2) * (512 * E) ≤ 1000000000
    omega
  have hjE : 0 ≤ (j : Int) * (512 * E) ∧ (j : Int) * (512 * E) ≤ 200000000 := by
    have he : E = 1 ∨ E = 2 ∨ E = 3 ∨ E = 4 ∨ E = 5 ∨ E = 6 ∨ E = 7 ∨ E = 8 := by omega
    rcases he with r | r | r | r | r | r | r | r <;> rw [r] <;> omega
  have hpr : (j : Int) * (512 * E) = 512 * E * (K - 1) := by rw [hj, show (((j + 1 : Nat) : Int) - 1) = (j : Int) by omega, Int.mul_comm]
  have HBy : ∀ u a c, LiesE u a (frM (Bt.mk E 4 2 S L 2 1 2) j) → Hid (Calls Tryd.prog 31 #[.slice a (frM (Bt.mk E 4 2 S L 2 1 2) j).length c] u fun e w' => e = .returned (.int .i64 (512 * E * (K - 1))) ∧ Below u.heap.size u w') := fun u a c hl => hide ((bytes_any sort_says u a c (frM (Bt.mk E 4 2 S L 2 1 2) j) hl (by unfold frM; split <;> simp) (by
    intro p hp
    unfold frM at hp
    split at hp
    · simp at hp
    · simp only [List.mem_singleton] at hp
      subst hp
      show (_ ∧ _) ∧ (_ ≤ (Bt.mk E 4 2 S L 2 1 2).at 3 + (j : Int) * (512 * E) ∧ (Bt.mk E 4 2 S L 2 1 2).at 3 + (j : Int) * (512 * E) ≤ _)
      simp only
      omega)).mono fun e' w' ⟨M, g1, g2, g3⟩ => ⟨by rw [g1, normF (Bt.mk E 4 2 S L 2 1 2) j hea g2, sum_frM]; show _ = Ending.returned (.int .i64 (512 * E * (K - 1))); rw [← hpr], g3⟩)
  have HCl : ∀ u, Hid (Calls Tryd.prog 12 #[.agg #[.int .i64 E, .int .i64 4, .int .i64 2, .int .i64 S, .int .i64 L, .int .i64 2, .int .i64 1, .int .i64 2]] u fun e w' => e = .returned (.int .i64 K) ∧ Below u.heap.size u w') := fun u => hide (by
    have h := clus_any (Bt.mk E 4 2 S L 2 1 2) u (Bt.form_near hcs.1).1
    rw [← hK] at h
    exact h)
  have d1 : decide (2000 < S) = false := by simp; omega
  have u1 : IntKind.i64.wrap (512 * E) = 512 * E := by rw [IntKind.wrap_i64]; omega
  have u2 : IntKind.i64.wrap (K - 1) = K - 1 := by rw [IntKind.wrap_i64]; omega
  have u3 : IntKind.i64.wrap (512 * E * (K - 1)) = 512 * E * (K - 1) := by rw [← hpr, IntKind.wrap_i64]; omega
  clear hV hcs hcl hBy hLen hvol hea hat hjE hpr hj hK hk hbm hP hN hL hQ hE hS h1 h2 e1 e2
  go_enter Tryd.func6, Tryd.ntmps6
  go_wp2_with fail
  refine HMk.out.mono ?_
  rintro e9 w2 ⟨⟨g1, rfl, ho1⟩, hb2⟩
  have HL1 := hide (show Lies w2 (some ⟨g1, 0, none⟩) (m5 s e) from Lies.mk (Own.lies (B := w.heap.size) (cap := N) (by rw [HLen.out]; exact ho1)))
  have HB := hide hb2
  clear hb2 ho1 HMk
  go_wp2_with fail
  refine (HRm _).out.mono ?_
  rintro e9 w3 ⟨⟨a3, c3, rfl, hl3⟩, hb3⟩
  have HL1 := hide (HL1.out.below hb3)
  have HL3 := hide hl3
  have HB := hide (HB.out.trans (hb3.mono HB.out.size))
  have HM := hide (made_any w3 (HV.out.below HB.out))
  clear hb3 hl3 HRm
  go_wp2_with fail
  refine HM.out.mono ?_
  rintro e9 w4 ⟨rfl, hb4⟩
  have HL1 := hide (HL1.out.below hb4)
  have HL3 := hide (HL3.out.below hb4)
  have HB := hide (HB.out.trans (hb4.mono HB.out.size))
  have HSa := HSm (some ⟨g1, 0, none⟩) a3 N c3 w4 HL1.out HL3.out
  clear hb4 HM HSm
  go_wp2_with fail
  refine HSa.out.mono ?_
  rintro e9 w5 ⟨rfl, h5⟩
  rw [h5]
  clear h5
  have HO := HOp (some ⟨g1, 0, none⟩) N w4 (Nat.le_refl _) (fun e => by cases e) HL1.out (HV.out.below HB.out)
  clear HOp HSa
  go_wp2_with fail
  refine HO.out.mono ?_
  rintro e9 w5 ⟨⟨R, g, rfl, hR, hL5, _, _⟩, hb5⟩
  have HR := hide hR
  have HB := hide (HB.out.trans (hb5.mono HB.out.size))
  rw [HTa.out] at hL5
  have HLx := hide hL5
  have HSp := fun u => HSp u R g
  clear hR hL5 hb5 HO HTa
  go_wp2_with fail
  have HR := hide HR.out.drew
  have HB := hide HB.out.drew
  have HLx := hide (show ∀ i, i < j + 1 → w5.drew.cell? ⟨g, i, none⟩ = some (.int .u32 ((numsF (tM s e) (j + 1)).getD i 0)) from HLx.out)
  refine wp_region_held_drew (S := (fun u => u.cell? ⟨R, 0, none⟩ = some (.int .i64 E) ∧ u.cell? ⟨R, 1, none⟩ = some (.int .i64 4) ∧ u.cell? ⟨R, 2, none⟩ = some (.int .i64 2) ∧ u.cell? ⟨R, 3, none⟩ = some (.int .i64 S) ∧ u.cell? ⟨R, 4, none⟩ = some (.int .i64 L) ∧ u.cell? ⟨R, 5, none⟩ = some (.int .i64 2) ∧ u.cell? ⟨R, 6, none⟩ = some (.int .i64 1) ∧ u.cell? ⟨R, 7, none⟩ = some (.int .i64 2))) (by kernel_rfl) ⟨HR.out.cell 0 _ rfl, HR.out.cell 1 _ rfl, HR.out.cell 2 _ rfl, HR.out.cell 3 _ rfl, HR.out.cell 4 _ rfl, HR.out.cell 5 _ rfl, HR.out.cell 6 _ rfl, HR.out.cell 7 _ rfl⟩ (fun _ => ?_)
  refine any_take 0 (some 51) (.int .i64 0) rfl rfl (by kernel_rfl) (by kernel_rfl) (by kernel_rfl) (fun _ _ _ h => h) (by rfl) ⟨HR.out.cell 0 _ rfl, HR.out.cell 1 _ rfl, HR.out.cell 2 _ rfl, HR.out.cell 3 _ rfl, HR.out.cell 4 _ rfl, HR.out.cell 5 _ rfl, HR.out.cell 6 _ rfl, HR.out.cell 7 _ rfl⟩ ?_ ?_
  · intro w hSw
    obtain ⟨s0, s1, s2, s3, s4, s5, s6, s7⟩ := hSw
    go_simp
  simp only [Act.put, List.setIfInBounds_toArray, List.set_cons_zero, List.set_cons_succ]
  refine any_take 1 (some 52) (.bool true) rfl rfl (by kernel_rfl) (by kernel_rfl) (by kernel_rfl) (fun _ _ _ h => h) (by rfl) ⟨HR.out.cell 0 _ rfl, HR.out.cell 1 _ rfl, HR.out.cell 2 _ rfl, HR.out.cell 3 _ rfl, HR.out.cell 4 _ rfl, HR.out.cell 5 _ rfl, HR.out.cell 6 _ rfl, HR.out.cell 7 _ rfl⟩ ?_ ?_
  · intro w hSw
    obtain ⟨s0, s1, s2, s3, s4, s5, s6, s7⟩ := hSw
    go_simp
  simp only [Act.put, List.setIfInBounds_toArray, List.set_cons_zero, List.set_cons_succ]
  refine any_take 2 (some 53) (.bool true) rfl rfl (by kernel_rfl) (by kernel_rfl) (by kernel_rfl) (fun _ _ _ h => h) (by rfl) ⟨HR.out.cell 0 _ rfl, HR.out.cell 1 _ rfl, HR.out.cell 2 _ rfl, HR.out.cell 3 _ rfl, HR.out.cell 4 _ rfl, HR.out.cell 5 _ rfl, HR.out.cell 6 _ rfl, HR.out.cell 7 _ rfl⟩ ?_ ?_
  · intro w hSw
    obtain ⟨s0, s1, s2, s3, s4, s5, s6, s7⟩ := hSw
    go_simp
  simp only [Act.put, List.setIfInBounds_toArray, List.set_cons_zero, List.set_cons_succ]
  refine any_take 3 (some 54) (.pointer (some ⟨R, 0, none⟩)) rfl rfl (by kernel_rfl) (by kernel_rfl) (by kernel_rfl) (fun _ _ _ h => h) (by rfl) ⟨HR.out.cell 0 _ rfl, HR.out.cell 1 _ rfl, HR.out.cell 2 _ rfl, HR.out.cell 3 _ rfl, HR.out.cell 4 _ rfl, HR.out.cell 5 _ rfl, HR.out.cell 6 _ rfl, HR.out.cell 7 _ rfl⟩ ?_ ?_
  · intro w hSw
    obtain ⟨s0, s1, s2, s3, s4, s5, s6, s7⟩ := hSw
    go_simp
  simp only [Act.put, List.setIfInBounds_toArray, List.set_cons_zero, List.set_cons_succ]
  refine any_take 6 (some 57) (.int .i64 E) rfl rfl (by kernel_rfl) (by kernel_rfl) (by kernel_rfl) (fun _ _ _ h => h) (by rfl) ⟨HR.out.cell 0 _ rfl, HR.out.cell 1 _ rfl, HR.out.cell 2 _ rfl, HR.out.cell 3 _ rfl, HR.out.cell 4 _ rfl, HR.out.cell 5 _ rfl, HR.out.cell 6 _ rfl, HR.out.cell 7 _ rfl⟩ ?_ ?_
  · intro w hSw
    obtain ⟨s0, s1, s2, s3, s4, s5, s6, s7⟩ := hSw
    go_simp
  simp only [Act.put, List.setIfInBounds_toArray, List.set_cons_zero, List.set_cons_succ]
  refine any_take 7 (some 58) (.int .i64 (512 * E)) rfl rfl (by kernel_rfl) (by kernel_rfl) (by kernel_rfl) (fun _ _ _ h => h) (by rfl) ⟨HR.out.cell 0 _ rfl, HR.out.cell 1 _ rfl, HR.out.cell 2 _ rfl, HR.out.cell 3 _ rfl, HR.out.cell 4 _ rfl, HR.out.cell 5 _ rfl, HR.out.cell 6 _ rfl, HR.out.cell 7 _ rfl⟩ ?_ ?_
  · intro w hSw
    obtain ⟨s0, s1, s2, s3, s4, s5, s6, s7⟩ := hSw
    go_simp
  simp only [Act.put, List.setIfInBounds_toArray, List.set_cons_zero, List.set_cons_succ]
  refine any_take 8 (some 59) (.pointer (some ⟨R, 0, none⟩)) rfl rfl (by kernel_rfl) (by kernel_rfl) (by kernel_rfl) (fun _ _ _ h => h) (by rfl) ⟨HR.out.cell 0 _ rfl, HR.out.cell 1 _ rfl, HR.out.cell 2 _ rfl, HR.out.cell 3 _ rfl, HR.out.cell 4 _ rfl, HR.out.cell 5 _ rfl, HR.out.cell 6 _ rfl, HR.out.cell 7 _ rfl⟩ ?_ ?_
  · intro w hSw
    obtain ⟨s0, s1, s2, s3, s4, s5, s6, s7⟩ := hSw
    go_simp
  simp only [Act.put, List.setIfInBounds_toArray, List.set_cons_zero, List.set_cons_succ]
  refine any_take 9 (some 60) (.pointer (some ⟨R, 0, none⟩)) rfl rfl (by kernel_rfl) (by kernel_rfl) (by kernel_rfl) (fun _ _ _ h => h) (by rfl) ⟨HR.out.cell 0 _ rfl, HR.out.cell 1 _ rfl, HR.out.cell 2 _ rfl, HR.out.cell 3 _ rfl, HR.out.cell 4 _ rfl, HR.out.cell 5 _ rfl, HR.out.cell 6 _ rfl, HR.out.cell 7 _ rfl⟩ ?_ ?_
  · intro w hSw
    obtain ⟨s0, s1, s2, s3, s4, s5, s6, s7⟩ := hSw
    go_simp
  simp only [Act.put, List.setIfInBounds_toArray, List.set_cons_zero, List.set_cons_succ]
  refine any_take 10 (some 61) (.pointer (some ⟨R, 0, none⟩)) rfl rfl (by kernel_rfl) (by kernel_rfl) (by kernel_rfl) (fun _ _ _ h => h) (by rfl) ⟨HR.out.cell 0 _ rfl, HR.out.cell 1 _ rfl, HR.out.cell 2 _ rfl, HR.out.cell 3 _ rfl, HR.out.cell 4 _ rfl, HR.out.cell 5 _ rfl, HR.out.cell 6 _ rfl, HR.out.cell 7 _ rfl⟩ ?_ ?_
  · intro w hSw
    obtain ⟨s0, s1, s2, s3, s4, s5, s6, s7⟩ := hSw
    go_simp
  simp only [Act.put, List.setIfInBounds_toArray, List.set_cons_zero, List.set_cons_succ]
  refine any_take 11 (some 62) (.agg #[.int .i64 E, .int .i64 4, .int .i64 2, .int .i64 S, .int .i64 L, .int .i64 2, .int .i64 1, .int .i64 2]) rfl rfl (by kernel_rfl) (by kernel_rfl) (by kernel_rfl) (fun _ _ _ h => h) (by rfl) ⟨HR.out.cell 0 _ rfl, HR.out.cell 1 _ rfl, HR.out.cell 2 _ rfl, HR.out.cell 3 _ rfl, HR.out.cell 4 _ rfl, HR.out.cell 5 _ rfl, HR.out.cell 6 _ rfl, HR.out.cell 7 _ rfl⟩ ?_ ?_
  · intro w hSw
    obtain ⟨s0, s1, s2, s3, s4, s5, s6, s7⟩ := hSw
    go_simp
  simp only [Act.put, List.setIfInBounds_toArray, List.set_cons_zero, List.set_cons_succ]
  refine wpAnyH_ready (rs := [4]) (by kernel_rfl) (by simp) ?_
  refine AllReadyH.cons (i := 4) rfl (fun K hK => ?_) AllReadyH.nil
  go_simp
  refine (HSp _ HR.out HLx.out).out.mono ?_
  rintro e9 w6 ⟨⟨a6, c6, rfl, hl6⟩, hb8⟩
  have HR := hide (HR.out.below hb8)
  have HB := hide (HB.out.trans (hb8.mono HB.out.size))
  have HE6 := hide hl6
  clear hb8 hl6
  go_simp
  refine hK.out _ _ ⟨HR.out.cell 0 _ rfl, HR.out.cell 1 _ rfl, HR.out.cell 2 _ rfl, HR.out.cell 3 _ rfl, HR.out.cell 4 _ rfl, HR.out.cell 5 _ rfl, HR.out.cell 6 _ rfl, HR.out.cell 7 _ rfl⟩ (fun _ => ?_)
  clear hK K
  try simp only [Act.put, List.setIfInBounds_toArray, List.set_cons_zero, List.set_cons_succ]
  refine wpAnyH_ready (rs := [5]) (by kernel_rfl) (by simp) ?_
  refine AllReadyH.cons (i := 5) rfl (fun K hK => ?_) AllReadyH.nil
  go_simp
  refine (HBy _ _ _ HE6.out).out.mono ?_
  rintro e9 w7 ⟨rfl, hb8⟩
  have HR := hide (HR.out.below hb8)
  have HB := hide (HB.out.trans (hb8.mono HB.out.size))
  clear hb8
  go_simp
  refine hK.out _ _ ⟨HR.out.cell 0 _ rfl, HR.out.cell 1 _ rfl, HR.out.cell 2 _ rfl, HR.out.cell 3 _ rfl, HR.out.cell 4 _ rfl, HR.out.cell 5 _ rfl, HR.out.cell 6 _ rfl, HR.out.cell 7 _ rfl⟩ (fun _ => ?_)
  clear hK K
  try simp only [Act.put, List.setIfInBounds_toArray, List.set_cons_zero, List.set_cons_succ]
  refine wpAnyH_ready (rs := [12]) (by kernel_rfl) (by simp) ?_
  refine AllReadyH.cons (i := 12) rfl (fun K hK => ?_) AllReadyH.nil
  go_simp
  refine (HCl _).out.mono ?_
  rintro e9 w8 ⟨rfl, hb8⟩
  have HR := hide (HR.out.below hb8)
  have HB := hide (HB.out.trans (hb8.mono HB.out.size))
  clear hb8
  go_simp
  refine hK.out _ _ ⟨HR.out.cell 0 _ rfl, HR.out.cell 1 _ rfl, HR.out.cell 2 _ rfl, HR.out.cell 3 _ rfl, HR.out.cell 4 _ rfl, HR.out.cell 5 _ rfl, HR.out.cell 6 _ rfl, HR.out.cell 7 _ rfl⟩ (fun _ => ?_)
  clear hK K
  try simp only [Act.put, List.setIfInBounds_toArray, List.set_cons_zero, List.set_cons_succ]
  refine any_take 13 (some 64) (.int .i64 (K - 1)) rfl rfl (by kernel_rfl) (by kernel_rfl) (by kernel_rfl) (fun _ _ _ h => h) (by rfl) ⟨HR.out.cell 0 _ rfl, HR.out.cell 1 _ rfl, HR.out.cell 2 _ rfl, HR.out.cell 3 _ rfl, HR.out.cell 4 _ rfl, HR.out.cell 5 _ rfl, HR.out.cell 6 _ rfl, HR.out.cell 7 _ rfl⟩ ?_ ?_
  · intro w hSw
    obtain ⟨s0, s1, s2, s3, s4, s5, s6, s7⟩ := hSw
    go_simp
  simp only [Act.put, List.setIfInBounds_toArray, List.set_cons_zero, List.set_cons_succ]
  refine any_take 14 (some 65) (.int .i64 (512 * E * (K - 1))) rfl rfl (by kernel_rfl) (by kernel_rfl) (by kernel_rfl) (fun _ _ _ h => h) (by rfl) ⟨HR.out.cell 0 _ rfl, HR.out.cell 1 _ rfl, HR.out.cell 2 _ rfl, HR.out.cell 3 _ rfl, HR.out.cell 4 _ rfl, HR.out.cell 5 _ rfl, HR.out.cell 6 _ rfl, HR.out.cell 7 _ rfl⟩ ?_ ?_
  · intro w hSw
    obtain ⟨s0, s1, s2, s3, s4, s5, s6, s7⟩ := hSw
    go_simp
  simp only [Act.put, List.setIfInBounds_toArray, List.set_cons_zero, List.set_cons_succ]
  refine any_take 15 (some 66) (.bool true) rfl rfl (by kernel_rfl) (by kernel_rfl) (by kernel_rfl) (fun _ _ _ h => h) (by rfl) ⟨HR.out.cell 0 _ rfl, HR.out.cell 1 _ rfl, HR.out.cell 2 _ rfl, HR.out.cell 3 _ rfl, HR.out.cell 4 _ rfl, HR.out.cell 5 _ rfl, HR.out.cell 6 _ rfl, HR.out.cell 7 _ rfl⟩ ?_ ?_
  · intro w hSw
    obtain ⟨s0, s1, s2, s3, s4, s5, s6, s7⟩ := hSw
    go_simp
  simp only [Act.put, List.setIfInBounds_toArray, List.set_cons_zero, List.set_cons_succ]
  refine any_take 16 (some 67) (.bool true) rfl rfl (by kernel_rfl) (by kernel_rfl) (by kernel_rfl) (fun _ _ _ h => h) (by rfl) ⟨HR.out.cell 0 _ rfl, HR.out.cell 1 _ rfl, HR.out.cell 2 _ rfl, HR.out.cell 3 _ rfl, HR.out.cell 4 _ rfl, HR.out.cell 5 _ rfl, HR.out.cell 6 _ rfl, HR.out.cell 7 _ rfl⟩ ?_ ?_
  · intro w hSw
    obtain ⟨s0, s1, s2, s3, s4, s5, s6, s7⟩ := hSw
    go_simp
  simp only [Act.put, List.setIfInBounds_toArray, List.set_cons_zero, List.set_cons_succ]
  refine any_take 17 (some 4) (.bool true) rfl rfl (by kernel_rfl) (by kernel_rfl) (by kernel_rfl) (fun _ _ _ h => h) (by rfl) ⟨HR.out.cell 0 _ rfl, HR.out.cell 1 _ rfl, HR.out.cell 2 _ rfl, HR.out.cell 3 _ rfl, HR.out.cell 4 _ rfl, HR.out.cell 5 _ rfl, HR.out.cell 6 _ rfl, HR.out.cell 7 _ rfl⟩ ?_ ?_
  · intro w hSw
    obtain ⟨s0, s1, s2, s3, s4, s5, s6, s7⟩ := hSw
    go_simp
  simp only [Act.put, List.setIfInBounds_toArray, List.set_cons_zero, List.set_cons_succ]
  refine wpAnyH_done (by kernel_rfl) ?_ _
  go_wp2_with fail
  go_ret
  exact ⟨rfl, HB.out⟩

set_option maxHeartbeats 16000000 in
set_option maxRecDepth 100000 in
theorem makes_walk (S E : Int) (w : World) (hV : Vars w) :
    Calls Tryd.prog 6 #[.int .i64 S, .int .i64 E] w fun e w' => e = .returned (.bool true) ∧ Below w.heap.size w w' := by
  have HV := hide hV
  by_cases hA : 2000 < S ∧ S ≤ 32768
  · have d1 : decide (2000 < S) = true := by simp; omega
    have d2 : decide (S ≤ 32768) = true := by simp; omega
    have HM := hide (made_any w hV)
    clear hV hA
    go_enter Tryd.func6, Tryd.ntmps6
    go_wp2_with fail
    refine HM.out.mono ?_
    rintro e9 w2 ⟨rfl, hb2⟩
    have HB := hide hb2
    clear hb2
    go_wp2_with fail
    go_ret
    exact ⟨rfl, HB.out⟩
  have hd : decide (2000 < S) = false ∨ (decide (2000 < S) = true ∧ decide (S ≤ 32768) = false) := by simp; omega
  by_cases hw : witN 16 32768 S = false ∨ witN 1 8 E = false
  · have HM1 := hide (make_off S E w hw)
    have HM2 := hide (rmade_off S E w hw)
    have HM := hide (made_any w hV)
    have HSm := fun u => hide (sameF none none 0 0 [] u (Lies.nil _ _) (Lies.nil _ _) (by intro k; simp))
    clear hV hA hw
    rcases hd with d1 | ⟨d1, d2⟩
    all_goals
      go_enter Tryd.func6, Tryd.ntmps6
      go_wp2_with fail
      refine HM1.out.mono ?_
      rintro e9 w2 ⟨rfl, h2⟩
      rw [h2]
      clear h2
      go_wp2_with fail
      refine HM2.out.mono ?_
      rintro e9 w2 ⟨rfl, h2⟩
      rw [h2]
      clear h2
      go_wp2_with fail
      refine HM.out.mono ?_
      rintro e9 w4 ⟨rfl, hb4⟩
      have HB4 := hide hb4
      clear hb4
      go_wp2_with fail
      refine (HSm _).out.mono ?_
      rintro e9 w5 ⟨rfl, h5⟩
      rw [h5]
      clear h5
      go_wp2_with fail
      go_ret
      exact ⟨rfl, HB4.out⟩
  have hr : 16 ≤ S ∧ S ≤ 2000 ∧ 1 ≤ E ∧ E ≤ 8 := by
    simp [witN] at hw
    omega
  clear hw hA hd
  obtain ⟨s, hs⟩ : ∃ s : Nat, S = (s : Int) := ⟨S.toNat, by omega⟩
  obtain ⟨e, he⟩ : ∃ e : Nat, E = (e : Int) := ⟨E.toNat, by omega⟩
  obtain ⟨L, hL⟩ : ∃ L : Int, L = (lgM s e : Int) := ⟨_, rfl⟩
  obtain ⟨Q, hQ⟩ : ∃ Q : Int, Q = ((s / e : Nat) : Int) := ⟨_, rfl⟩
  have hbm : bM s e = (Bt.mk E 4 2 S L 2 1 2) := by unfold bM; rw [← hs, ← he, ← hL]
  obtain ⟨ck, hck⟩ : ∃ ck, ck = (Bt.mk E 4 2 S L 2 1 2).chk := ⟨_, rfl⟩
  by_cases hk : ck = 0
  · obtain ⟨K, hK⟩ : ∃ K, K = (Bt.mk E 4 2 S L 2 1 2).clus := ⟨_, rfl⟩
    have h0 : (Bt.mk E 4 2 S L 2 1 2).chk = 0 := by rw [← hck]; exact hk
    have h1 := (chk_says h0).2.1
    rw [← hK] at h1
    obtain ⟨j, hj⟩ : ∃ j : Nat, K = ((j + 1 : Nat) : Int) := ⟨(K - 1).toNat, by omega⟩
    exact makes_ok s e (by omega) (by omega) (by omega) (by omega) S E Q L K (512 * s) (2048 + 512 * lgM s e) j hs he hQ hL rfl rfl hbm h0 hK hj w hV
  · have HM1 := hide (make_no s e (by omega) (by omega) (by omega) (by omega) S E Q L ck hs he hQ hL hck hk w)
    have HM2 := fun u => hide (rmade_no s e (by omega) (by omega) (by omega) (by omega) S E Q L ck hs he hQ hL hck hk u)
    have HSm := fun u => hide (sameF none none 0 0 [] u (Lies.nil _ _) (Lies.nil _ _) (by intro k; simp))
    have d1 : decide (2000 < S) = false := by simp; omega
    have hkn : (ck != 0) = true := by simpa using hk
    clear hV hr hs he hL hQ hbm hck hk
    go_enter Tryd.func6, Tryd.ntmps6
    go_wp2_with fail
    refine HM1.out.mono ?_
    rintro e9 w2 ⟨rfl, hb2⟩
    have HB := hide hb2
    clear hb2
    go_wp2_with fail
    refine (HM2 _).out.mono ?_
    rintro e9 w3 ⟨rfl, hb3⟩
    have HB := hide (HB.out.trans (hb3.mono HB.out.size))
    have HM := hide (made_any w3 (HV.out.below HB.out))
    clear hb3
    go_wp2_with fail
    refine HM.out.mono ?_
    rintro e9 w4 ⟨rfl, hb4⟩
    have HB := hide (HB.out.trans (hb4.mono HB.out.size))
    clear hb4
    go_wp2_with fail
    refine (HSm _).out.mono ?_
    rintro e9 w5 ⟨rfl, h5⟩
    rw [h5]
    clear h5
    go_wp2_with fail
    go_ret
    exact ⟨rfl, HB.out⟩

set_option maxRecDepth 100000 in
theorem fatMakes_door (os : Os) (args : Array Value) : laidMetH Tryd.prog Rows.fatMakesRow.laid ((World.doorLaid Tryd.prog 400 os).forCall (fun _ _ => 0) ⟨#[], args, []⟩).memory :=
  laidMetH_of_parts3 (fuel := 8) (laidMet_of_run' 8 (by kernel_rfl) (by kernel_rfl)) (by kernel_rfl) (by kernel_rfl)

set_option maxRecDepth 100000 in
theorem fatMakes_lifted (os : Os) (started : os.Started) (H : Type) (enc : TypeId × Value → H) :
    ReturnsInHanded {} Tryd.checked os 6 .any (fun w args => (Rows.fatMakesSpec.pre enc Tryd.prog Tryd.f6 [] false w args ∧ laidMetH Tryd.prog Rows.fatMakesRow.laid w) ∧ sizedMet enc Tryd.prog Tryd.f6 (OpenSpec.ofChange Rows.fatMakesSpec) false w args) (Rows.fatMakesSpec.post enc Tryd.prog Tryd.f6 false true false false) := by
  refine returnsInHanded_of_change_and (C := Tryd.checked) (X := (fun w _ => laidMetH Tryd.prog Rows.fatMakesRow.laid w)) (fun _ _ _ hh h => h.of_heap hh) own started (by kernel_rfl) Tryd.func6
    (ChangeSpec.witness_shaped (enc := enc) (C := Tryd.checked) (os := os) (X := (fun w _ => laidMetH Tryd.prog Rows.fatMakesRow.laid w)) false (World.doorLaid Tryd.prog 400 os) #[.int .i64 0, .int .i64 0] 8 rfl (World.shaped_of_RefB (by kernel_rfl) (by kernel_rfl)) (by kernel_rfl) (by kernel_rfl) (by kernel_rfl) (fatMakes_door os _)) ?_
  intro W base args ds gs before hval0 hW _ hsz0 hL _
  have hval : ∀ (j : Nat) t v, Tryd.f6.params[j]? = some t → args[j]? = some v → Value.okWide Tryd.prog W .any base t v := hval0
  have hW' := hW
  obtain ⟨p, q, hA0, hV, rfl, hfz, hnd⟩ := hW
  have hA : DataW.TrodAll enc Tryd.prog W 0 (fun _ => true) true Tryd.f6.params.toList args.toList ds p := hA0
  rw [Tryd.params6] at hA hval
  obtain ⟨v0, vs0, d0, ds0, p0, q0, hargs0, rfl, rfl, h0, r0⟩ := trodAll_cons hA
  obtain ⟨v1, vs1, d1, ds1, p1, q1, hargs1, rfl, rfl, h1, r1⟩ := trodAll_cons r0
  obtain ⟨rfl, rfl, rfl⟩ := trodAll_nil r1
  subst hargs1
  obtain rfl : args = #[v0, v1] := by cases args; simp_all
  obtain ⟨rfl, rfl⟩ := trodVars_none hV
  simp only [List.append_nil] at hW'
  obtain ⟨x0, rfl, rfl, rfl, w0⟩ := open_int Tryd.underlying2 (hval 0 2 v0 rfl rfl) h0
  obtain ⟨x1, rfl, rfl, rfl, w1⟩ := open_int Tryd.underlying2 (hval 1 2 v1 rfl rfl) h1
  clear hA0
  refine (makes_walk x0 x1 W (of_laid hL)).mono fun e W' ⟨he, hb⟩ => ?_
  subst he
  refine ⟨_, rfl, _, _, _, [], ([] ++ ([] ++ [])), [], hW', ?_, ?_, rfl, hb.frame _, fun h => by cases h⟩
  · exact trodAll_cons_mk (shut_bool Tryd.underlying4 _) trodAll_mk0
  · exact trodAll_cons_mk (shut_int Tryd.underlying2 w0) (trodAll_cons_mk (shut_int Tryd.underlying2 w1) (trodAll_mk0))

theorem fatMakes_row : Rows.FatMakesSaid :=
  OpenClaim.holds_of_wide 6 Tryd.f6 rfl rfl rfl rfl rfl rfl rfl ⟨rfl, rfl, rfl, rfl, rfl⟩ rfl rfl rfl rfl rfl (by kernel_rfl) Tryd.func6 (by kernel_rfl)
    (of_decide_eq_true (by kernel_rfl)) (by unfold Func.isWrapper; first | (rw [if_pos (by decide +kernel)]; kernel_rfl) | (rw [if_neg (by decide +kernel)]; exact ⟨rfl, rfl⟩))
    (fun os started H enc _ => fatMakes_lifted os started H enc)

theorem fatMakes_holds : Rows.FatMakesCardSaid :=
  Claim7.holds_tied_plain_at .later [] [.data, .data] true (true, "cef4f92033b86b756cdeb854791cba9f6c3b4615937b91e7b466014a9569903c") false
    fatMakes_row (fun _ h => by cases h) (by kernel_rfl) (fun _ h => by cases h) fatMakes_row_tie rfl ⟨rfl, rfl⟩ (by kernel_rfl) rfl
    (fun f fn hf hfn => by
      obtain rfl : f = 6 := Option.some.inj ((show Tryd.prog.funcNamed "fettle/fettlelaw16.FatMakes" = some 6 by kernel_rfl).symm.trans hf) |>.symm
      obtain rfl : fn = Tryd.f6 := (Option.some.inj (Tryd.func6.symm.trans hfn)).symm
      exact ⟨by kernel_rfl, fun j t ht => by
        rw [Tryd.params6] at ht
        have hm : t ∈ [2, 2] := by simpa using Array.mem_of_getElem? ht
        have hall : ([2, 2].all fun u => !Tryd.prog.wantsStandIn u) = true := by kernel_rfl
        exact (show Tryd.prog.wantsStandIn t = false by simpa using List.all_eq_true.1 hall t hm)⟩)
    (by kernel_rfl)
end Go.Proofs.YtbldkebolmellaaDoor.Oct
