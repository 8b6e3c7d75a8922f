/- Records as bytes. -/
import Derived.Test.YtkhknfohcebicaaJra
import Derived.Test.YtkhknfohcebicaaLow
namespace Go.Proofs.Ytkhknfohcebicaa.Oct
open Go.RowKit Go.Deep

theorem encR_eq (r : JR) : encR r.dat = leB (IntKind.u64.wrap r.at_) 8 ++ (leB r.b.length 4 ++ r.b) := rfl

set_option maxRecDepth 100000 in
set_option maxHeartbeats 8000000 in
theorem Encode_any (a : Option Addr) (cap : Nat) (R : List JR) (w : World) (h : LiesJ w a R) (hn : R.length ≤ 1000000) (hlen : lenD (R.map JR.dat) ≤ 1000000) :
    Calls Try.prog 54 #[.slice a R.length cap] w fun e w' => ∃ v, e = .returned v ∧ Own w' w.heap.size v (encD (R.map JR.dat)) ∧ Below w.heap.size w w' := by
  have HR := hide h
  have HM := hide (fun k => lenD_mono (R.map JR.dat) k)
  have HL := hide (length_any a cap R w h hn (by omega))
  have HEl := hide (fun k => encD_length ((R.map JR.dat).take k))
  obtain ⟨T, hT⟩ : ∃ T, lenD (R.map JR.dat) = T := ⟨_, rfl⟩
  rw [hT] at HL hlen
  have HT := hide hT
  clear h hT
  go_enter Try.func54, Try.ntmps54
  go_wp2_with fail
  refine HL.out.mono ?_
  rintro e9 w1 ⟨rfl, hb1⟩
  have hmk := run_make_bytes w1 T (by omega)
  have HO := hide (Own.made w1 T (by unfold maxLen; omega))
  have hbm : Below w1.heap.size w1 (w1.alloc (.cells (madeCells #[.int .u8 0] T) 5)) := (Below.refl _ _).alloc (Nat.le_refl _) _
  have HB := hide (hb1.trans (hbm.mono hb1.size))
  have hs1 := hb1.size
  clear hb1 hbm HL
  go_wp2_with fail
  clear hmk
  have HO0 : Hid (Own (w1.alloc (.cells (madeCells #[.int .u8 0] T) 5)) w.heap.size (.slice (some ⟨w1.heap.size, 0, none⟩) T T) (encD ((R.map JR.dat).take 0) ++ List.replicate (T - (encD ((R.map JR.dat).take 0)).length) 0)) := hide (by simpa [encD] using HO.out.mono hs1)
  clear HO
  generalize w1.alloc (.cells (madeCells #[.int .u8 0] T) 5) = w2 at *
  go_loopw [5, 16] (fun t i wr => ∃ k : Nat, k ≤ R.length ∧ i = .int .i64 (k : Int) ∧ t = .int .i64 (lenD ((R.map JR.dat).take k)) ∧ Own wr w.heap.size (.slice (some ⟨w1.heap.size, 0, none⟩) T T) (encD ((R.map JR.dat).take k) ++ List.replicate (T - (encD ((R.map JR.dat).take k)).length) 0) ∧ Below w.heap.size w wr) (fun _ i _ => R.length - (intOf i).toNat)
  case atStart => exact ⟨0, by omega, rfl, rfl, HO0.out, HB.out⟩
  case round =>
    obtain ⟨k, hk, rfl, rfl, ho, hbel⟩ := hrel
    have HBl := hide hbel
    have HOw := hide ho
    clear hbel ho
    by_cases hlt : k < R.length
    · rcases HR.out with hE | ⟨b, off, rfl, hblt, hc⟩
      · rw [hE] at hlt; simp at hlt
      obtain ⟨q0, q1, q2⟩ := hc k hlt
      have r0 := (HBl.out.cell (p := ⟨b, off + k * 2, none⟩) hblt).trans q0
      have r1 := (HBl.out.cell (p := ⟨b, off + k * 2 + 1, none⟩) hblt).trans q1
      have HQ2 := hide q2
      have HS := hide (lenJ_step R k hlt)
      have HSE := hide (encJ_step R k hlt)
      have h1 := HM.out (k + 1)
      have hXl := HEl.out k
      rw [HS.out, HT.out] at h1
      clear hc q0 q1 q2
      generalize hr : R.getD k JR.z = r at *
      clear hr
      generalize lenD ((R.map JR.dat).take k) = t at *
      generalize encD ((R.map JR.dat).take k) = X at *
      subst hXl
      have HB2 := hide (HBl.out.alloc HBl.out.size (.cells #[.int .i64 r.at_, .slice r.a r.b.length r.cap] 75))
      have HO2 := hide (HOw.out.alloc (.cells #[.int .i64 r.at_, .slice r.a r.b.length r.cap] 75))
      obtain ⟨x0, x1⟩ := box2 wr 75 (.int .i64 r.at_) (.slice r.a r.b.length r.cap)
      have hXT : X.length + 12 + r.b.length ≤ T := by omega
      go_wp2_with fail
      have hsz3 : (wr.alloc (.cells #[.int .i64 r.at_, .slice r.a r.b.length r.cap] 75)).heap.size = wr.heap.size + 1 := by simp
      have hwr1 : w1.heap.size < wr.heap.size := by
        have := HOw.out.lt w1.heap.size rfl
        exact this.2
      generalize wr.alloc (.cells #[.int .i64 r.at_, .slice r.a r.b.length r.cap] 75) = w3 at *
      have hl1 : (X ++ List.replicate (T - X.length) (0 : Int)).length = T := rep_length X T (by omega)
      have HP1 := hide (Put64_yes w.heap.size w1.heap.size T (X ++ List.replicate (T - X.length) 0) X.length (IntKind.u64.wrap r.at_) w3 (by rw [hl1]; unfold maxLen; omega) (by rw [hl1]; omega) (by rw [hl1]; exact HO2.out))
      rw [hl1, enc_step1 X T _ (by omega)] at HP1
      refine HP1.out.mono ?_
      rintro e9 w4 ⟨rfl, ho4, hg4⟩
      have HO4 := hide ho4
      have HB4 := hide (HB2.out.grown hg4 HB2.out.size (by intro j hj; simp at hj; omega))
      have y0 := hg4.cell x0 (by simp; omega)
      have y1 := hg4.cell x1 (by simp; omega)
      clear ho4 hg4 HP1 x0 x1
      have e8 : X.length + 8 = (X ++ leB (IntKind.u64.wrap r.at_) 8).length := by simp [leB_length]
      have HE8 := hide e8
      have HE0 : Hid ((X ++ leB (IntKind.u64.wrap r.at_) 8) ++ leB (r.b.length : Int) 4 = X ++ (leB (IntKind.u64.wrap r.at_) 8 ++ leB (r.b.length : Int) 4)) := hide (List.append_assoc _ _ _)
      generalize X ++ leB (IntKind.u64.wrap r.at_) 8 = X2 at *
      clear e8
      have hu32 : IntKind.u32.wrap (r.b.length : Int) = (r.b.length : Int) := by rw [IntKind.wrap_u32]; omega
      go_wp2_with fail
      have hl2 : (X2 ++ List.replicate (T - X2.length) (0 : Int)).length = T := rep_length X2 T (by have := HE8.out; omega)
      have hx28 : ((X.length : Int) + 8) = ((X2.length : Nat) : Int) := by have := HE8.out; omega
      have HP2 := hide (Put32_yes w.heap.size w1.heap.size T (X2 ++ List.replicate (T - X2.length) 0) X2.length (r.b.length : Int) w4 (by rw [hl2]; unfold maxLen; omega) (by rw [hl2]; have := HE8.out; omega) (by rw [hl2]; exact HO4.out))
      rw [hl2, enc_step2 X2 T _ (by have := HE8.out; omega), ← hx28] at HP2
      refine HP2.out.mono ?_
      rintro e9 w5 ⟨rfl, ho5, hg5⟩
      have HO5 := hide ho5
      have HB5 := hide (HB4.out.grown hg5 HB4.out.size (by intro j hj; simp at hj; omega))
      have z0 := hg5.cell y0 (by simp; omega)
      have z1 := hg5.cell y1 (by simp; omega)
      clear ho5 hg5 HP2 y0 y1 hl2 hx28
      have e12 : X.length + 12 = (X2 ++ leB (r.b.length : Int) 4).length := by have := HE8.out; simp [leB_length]; omega
      have HE12 := hide e12
      have HEr : Hid (X ++ encR r.dat = (X2 ++ leB (r.b.length : Int) 4) ++ r.b) := hide (by
        rw [HE0.out, encR_eq]
        simp only [List.append_assoc])
      generalize X2 ++ leB (r.b.length : Int) 4 = X3 at *
      clear e12 HE0 HE8
      have hrb2 := (HQ2.out.below HB5.out).lies
      have HRB : Hid (Lies w5 r.a r.b) := hide hrb2
      have HLE : Hid (X.length + 12 + r.b.length ≤ (X3 ++ List.replicate (T - X3.length) (0 : Int)).length) := hide (by rw [rep_length X3 T (by have := HE12.out; omega)]; have := HE12.out; omega)
      have HG5 : Hid (∀ w8, w5.drew.grownBy w8 (Value.slice (some ⟨w1.heap.size, 0, none⟩) T T).ownBlock → w8.cell? ⟨wr.heap.size, 1, none⟩ = some (.slice r.a r.b.length r.cap) ∧ Below w.heap.size w w8) := hide (fun w8 h8 => by
        have h9 : w5.drew.grownBy w8 (some w1.heap.size) := h8
        refine ⟨h9.cell (a := ⟨wr.heap.size, 1, none⟩) z1 (by simp; omega), ?_⟩
        exact HB5.out.drew.grown h9 HB5.out.drew.size (by intro j hj; simp at hj; omega))
      have HFin : Hid (over (X3 ++ List.replicate (T - X3.length) 0) (X.length + 12) r.b = encD ((R.map JR.dat).take (k + 1)) ++ List.replicate (T - (encD ((R.map JR.dat).take (k + 1))).length) 0) := hide (by
        rw [HE12.out, enc_step3 X3 r.b T (by have := HE12.out; omega), HSE.out, HEr.out])
      have hw12 : IntKind.i64.wrap ((X.length : Int) + 12) = (X.length : Int) + 12 := by rw [IntKind.wrap_i64]; omega
      have hz1 : w5.drew.cell? ⟨wr.heap.size, 1, none⟩ = some (.slice r.a r.b.length r.cap) := z1
      clear hrb2 z0 z1 hl1
      have hwf : IntKind.i64.wrap (12 + (r.b.length : Int)) = 12 + (r.b.length : Int) := by rw [IntKind.wrap_i64]; omega
      have hwg : IntKind.i64.wrap ((X.length : Int) + (12 + (r.b.length : Int))) = (X.length : Int) + (12 + (r.b.length : Int)) := by rw [IntKind.wrap_i64]; omega
      have hq1 : (0 : Int) ≤ (X.length : Int) + 12 := by omega
      have hq2 : (X.length : Int) + 12 ≤ (T : Int) := by omega
      have hq3 : ((X.length : Int) + 12).toNat = X.length + 12 := by omega
      by_cases hend : T = X.length + 12
      · have hr0 : r.b = [] := List.length_eq_zero_iff.1 (by omega)
        have HR0 := hide hr0
        have HDL : Hid (r.b.length = Nat.min r.b.length 0) := hide (by rw [hr0]; rfl)
        clear hr0
        have HN := hide (show X.length + 12 = T from hend.symm)
        have HZ := hide (show (X.length : Int) + 12 = (T : Int) by omega)
        go_wp2_with fail
        go_region_held3 (fun w' => w'.cell? ⟨wr.heap.size, 1, none⟩ = some (.slice r.a r.b.length r.cap)) (first | go_keep | exact HKC.out.1)
          ((refine step_copy_any (by rfl) _ _ 30 30 (by rfl) Try.underlying30 size5 _ _ _ _ _ _ (by rfl) (by rfl) w.heap.size (X.length + 12) _ r.b (X3 ++ List.replicate (T - X3.length) 0) HO5.out.drew HRB.out.drew (fun g hq _ => absurd HR0.out hq) HDL.out HLE.out ?_; intro w8 ho8 hg8; have HKC := hide (HG5.out w8 hg8); have HO8 := hide ho8; clear hg8 ho8))
        all_goals
          rw [HZ.out, HN.out]
          clear hend
          go_wp2_with fail
          exact ⟨⟨k + 1, by omega, by congr 1 <;> omega, by rw [HS.out]; congr 1 <;> omega, by rw [← HFin.out]; exact HO8.out, HKC.out.2⟩, by simp [intOf]; omega⟩
      · have hend2 : ¬ ((T : Int) = (X.length : Int) + 12) := by omega
        have hend3 : ¬ (T = X.length + 12) := by omega
        have HDL : Hid (r.b.length = Nat.min r.b.length (T - (X.length + 12))) := hide (Nat.min_eq_left (by omega)).symm
        go_wp2_with fail
        go_region_held3 (fun w' => w'.cell? ⟨wr.heap.size, 1, none⟩ = some (.slice r.a r.b.length r.cap)) (first | go_keep | exact HKC.out.1)
          ((refine step_copy_any (by rfl) _ _ 30 30 (by rfl) Try.underlying30 size5 _ _ _ _ _ _ (by rfl) (by rfl) w.heap.size (X.length + 12) _ r.b (X3 ++ List.replicate (T - X3.length) 0) HO5.out.drew HRB.out.drew (fun g _ h => by simp [Value.ownBlock] at h; subst h; first | rfl | simp [Go.WideShapes.add_plain]) HDL.out HLE.out ?_; intro w8 ho8 hg8; have HKC := hide (HG5.out w8 hg8); have HO8 := hide ho8; clear hg8 ho8))
        all_goals
          go_wp2_with fail
          exact ⟨⟨k + 1, by omega, by congr 1 <;> omega, by rw [HS.out]; congr 1 <;> omega, by rw [← HFin.out]; exact HO8.out, HKC.out.2⟩, by simp [intOf]; omega⟩
    · obtain rfl : k = R.length := by omega
      have e : (R.map JR.dat).take R.length = R.map JR.dat := by rw [List.take_of_length_le (by simp)]
      rw [e] at HOw ⊢
      have e2 : (encD (R.map JR.dat)).length = T := by rw [encD_length, HT.out]
      rw [e2, Nat.sub_self, List.replicate_zero, List.append_nil] at HOw
      clear e e2
      go_wp2_with fail
      go_ret
      exact ⟨_, rfl, HOw.out, HBl.out⟩
end Go.Proofs.Ytkhknfohcebicaa.Oct
