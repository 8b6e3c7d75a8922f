/- A file with records done, by the document's words. -/
import Derived.Test.YtifngegkijdbmaaJxa
namespace Go.Proofs.Ytifngegkijdbmaa.Oct
open Go.RowKit Go.Deep Go.WideShapes Go.ChangeShapes Go.ChangeAt

theorem putS_snoc (D : List RD) (r : RD) : ∀ S, putS S (D ++ [r]) = laidsD (putS S D) (cuts r.1.toNat r.2) := by
  induction D with
  | nil => intro S; rfl
  | cons x D ih => intro S; exact ih _

set_option maxRecDepth 100000 in
set_option maxHeartbeats 8000000 in
theorem Done_any (a : Option Addr) (cap : Nat) (S : List Int) (ar : Option Addr) (cr : Nat) (R : List JR) (p : Nat) (w : World) (hs : Sl w a cap S) (hR : LiesJ w ar R) (hS : S.length ≤ 30000) (hp : p + 512 ≤ S.length) (hn : R.length ≤ 1000)
    (hat : ∀ r ∈ R, 0 ≤ r.at_ ∧ r.at_ ≤ S.length ∧ r.b.length ≤ 2000) :
    Calls Try.prog 18 #[.slice a S.length cap, .slice ar R.length cr, .int .i64 p] w fun e w' => ∃ v, e = .returned v ∧ Own w' w.heap.size v (appS S p (R.map JR.dat)) ∧ Below w.heap.size w w' := by
  have HS := hide hs
  have HR := hide hR
  have HA := hide hat
  clear hs hR hat
  go_enter Try.func18, Try.ntmps18
  go_wp2_with fail
  have HZ : Hid (∀ k, k ≤ R.length → S.length ≤ (putS S ((R.take k).map JR.dat)).length ∧ (putS S ((R.take k).map JR.dat)).length ≤ S.length + 2000) := hide (fun k _ => by
    rw [putS_len]
    have h : endD ((R.take k).map JR.dat) ≤ S.length + 2000 := by
      have hx : ∀ r ∈ (R.take k).map JR.dat, 0 ≤ r.1 ∧ r.1 ≤ S.length ∧ r.2.length ≤ 2000 := fun r hr => by
        obtain ⟨x, hx, rfl⟩ := List.mem_map.1 hr
        exact HA.out x (List.mem_of_mem_take hx)
      generalize (R.take k).map JR.dat = D at hx
      induction D with
      | nil => simp [endD]
      | cons r D ih =>
        rw [endD]
        have h1 := hx r (List.mem_cons_self ..)
        have h2 := ih (fun x h => hx x (List.mem_cons_of_mem _ h))
        split <;> omega
    omega)
  go_loopw [7, 8] (fun v i wr => ∃ k : Nat, k ≤ R.length ∧ i = .int .i64 (k : Int) ∧ (∃ c a', v = .slice a' (putS S ((R.take k).map JR.dat)).length c ∧ Sl wr a' c (putS S ((R.take k).map JR.dat))) ∧ Below w.heap.size w wr) (fun _ i _ => R.length - (intOf i).toNat)
  case atStart => exact ⟨0, by omega, rfl, ⟨cap, a, rfl, HS.out⟩, Below.refl _ _⟩
  case round =>
    obtain ⟨k, hk, rfl, ⟨c0, a0, rfl, hs0⟩, hbel⟩ := hrel
    have HS0 := hide hs0
    have HB := hide hbel
    have hz := HZ.out k hk
    clear hs0 hbel
    by_cases hlt : k < R.length
    · rcases HR.out with hE | ⟨b, off, rfl, hblt, hc⟩
      · rw [hE] at hlt; simp at hlt
      obtain ⟨q0, q1, q2⟩ := hc k hlt
      have HTk : Hid (putS S ((R.take (k + 1)).map JR.dat) = laidsD (putS S ((R.take k).map JR.dat)) (cuts (R.getD k JR.z).at_.toNat (R.getD k JR.z).b)) := hide (by
        rw [take_get R k hlt JR.z, List.map_append]
        exact putS_snoc _ _ _)
      have hmem : R.getD k JR.z ∈ R := by
        have : R.getD k JR.z = R[k] := by simp [hlt]
        rw [this]
        exact List.getElem_mem _
      have hrf := HA.out _ hmem
      have HQ2 := hide q2
      have HC := hide (And.intro q0 q1)
      clear hc q0 q1 q2 hmem
      generalize hr : R.getD k JR.z = r at *
      clear hr
      obtain ⟨t, ra, rc, rb⟩ := r
      simp only at *
      obtain ⟨t, rfl⟩ := Int.eq_ofNat_of_zero_le hrf.1
      rw [Int.toNat_natCast] at HTk
      generalize putS S ((R.take k).map JR.dat) = B at *
      have HWo := hide (wr_over t rb B (by omega))
      have r0 := (HB.out.cell (p := ⟨b, off + k * 2, none⟩) hblt).trans HC.out.1
      have r1 := (HB.out.cell (p := ⟨b, off + k * 2 + 1, none⟩) hblt).trans HC.out.2
      obtain ⟨wo, hwo⟩ : ∃ wo, wo = wr := ⟨_, rfl⟩
      subst hwo
      go_wp2_with fail
      go_loopw [7] (fun v wq => ∃ j : Nat, j ≤ t + rb.length - B.length ∧ (∃ c a', v = .slice a' (B ++ List.replicate j 0).length c ∧ Sl wq a' c (B ++ List.replicate j 0)) ∧ Below wo.heap.size wo wq) (fun v _ => t + rb.length - (match v with | .slice _ n _ => n | _ => 0))
      case atStart => exact ⟨0, by omega, ⟨c0, a0, by simp, by simpa using HS0.out⟩, Below.refl _ _⟩
      case round =>
        obtain ⟨j, hj, ⟨c1, a1, rfl, hs1⟩, hb1⟩ := hrel
        have hbb : b < wo.heap.size := Nat.lt_of_lt_of_le hblt HB.out.size
        have x0 := (hb1.cell (p := ⟨b, off + k * 2, none⟩) hbb).trans r0
        have x1 := (hb1.cell (p := ⟨b, off + k * 2 + 1, none⟩) hbb).trans r1
        have HS1 := hide hs1
        have HB1 := hide hb1
        have HCl : Hid ((B ++ List.replicate j (0 : Int)).length = B.length + j) := hide (by simp)
        have HCn : Hid (B ++ List.replicate j (0 : Int) ++ [0] = B ++ List.replicate (j + 1) 0) := hide (by rw [List.append_assoc, ← List.replicate_succ'])
        have HCe : Hid (j = t + rb.length - B.length → over (B ++ List.replicate j 0) t rb = laidsD B (cuts t rb)) := hide (fun h => by rw [h, HWo.out])
        clear hs1 hb1 r0 r1
        generalize B ++ List.replicate j (0 : Int) = C at *
        have hCb : C.length ≤ 40000 := by have := HCl.out; omega
        have hwt : IntKind.i64.wrap ((t : Int) + rb.length) = (t : Int) + rb.length := by rw [IntKind.wrap_i64]; omega
        by_cases hless : C.length < t + rb.length
        · have hdl : decide ((C.length : Int) < (t : Int) + rb.length) = true := by simp; omega
          go_wp2_with fail
          go_quiet (fail)
          have HBq : Hid (Below wr.heap.size wr (wr.drewN nq)) := hide (drewB (Below.refl _ _) nq)
          have HP := hide (Part_any a1 c1 C (wr.drewN nq) (by omega) (HS1.out.below HBq.out))
          generalize wr.drewN nq = w2 at *
          go_wp2_with fail
          refine HP.out.mono ?_
          rintro e9 w3 ⟨v3, rfl, ho3, hb3⟩
          have HB3 := hide hb3
          have HO3 := hide ho3
          have hs23 := hb3.size
          clear ho3 hb3 HP
          go_wp2_with (at_builtin; refine wpList_append_bytes rfl _ _ 22 rfl Try.underlying22 info5 w2.heap.size _ C rfl (by exact HO3.out.alloc _) _ _ _ [0] rfl rfl (by exact lies_one _ _) (by simp; omega) (by simp; omega) ?_; intro v4 w4 ho4 hg4; have HO4 := hide ho4; have HB4 := hide (Own.behind (HO3.out.alloc _) (HB3.out.alloc HB3.out.size _) hg4 (by simp; omega)); clear ho4 hg4)
          have hO4 := HO4.out
          rw [HCn.out] at hO4
          obtain ⟨a4, c4, rfl, hs4, _⟩ := hO4.sl
          refine ⟨⟨j + 1, by have := HCl.out; omega, ⟨c4, a4, rfl, hs4⟩, HB1.out.trans ((HBq.out.trans (HB4.out.mono HBq.out.size)).mono HB1.out.size)⟩, ?_⟩
          have h1 := HCl.out
          have h2 : (B ++ List.replicate (j + 1) (0 : Int)).length = B.length + (j + 1) := by simp
          simp only [h2]
          omega
        · have hdl : decide ((C.length : Int) < (t : Int) + rb.length) = false := by simp; omega
          go_wp2_with fail
          go_quiet (fail)
          have HBq : Hid (Below wr.heap.size wr (wr.drewN nq)) := hide (drewB (Below.refl _ _) nq)
          have hbw : b < wr.heap.size := Nat.lt_of_lt_of_le hbb HB1.out.size
          have y0 := (HBq.out.cell (p := ⟨b, off + k * 2, none⟩) hbw).trans x0
          have y1 := (HBq.out.cell (p := ⟨b, off + k * 2 + 1, none⟩) hbw).trans x1
          generalize wr.drewN nq = w2 at *
          have hbx : Below w.heap.size w w2 := (HB.out.trans (HB1.out.mono HB.out.size)).trans (HBq.out.mono (Nat.le_trans HB.out.size HB1.out.size))
          have HBx := hide hbx
          have z0 : w2.drew.cell? ⟨b, off + k * 2, none⟩ = some (.int .i64 (t : Int)) := y0
          have z1 : w2.drew.cell? ⟨b, off + k * 2 + 1, none⟩ = some (.slice ra rb.length rc) := y1
          have HW := hide (With_any a1 c1 C ra rc rb t w2.drew (by omega) (by omega) (by omega) ((HS1.out.below HBq.out).below (Below.refl _ _).drew) ((HQ2.out.below hbx).below (Below.refl _ _).drew))
          rw [HCe.out (by have := HCl.out; omega), ← HTk.out] at HW
          have HKp : Hid (∀ w7, Below w2.drew.heap.size w2.drew w7 → w7.cell? ⟨b, off + k * 2, none⟩ = some (.int .i64 (t : Int)) ∧ w7.cell? ⟨b, off + k * 2 + 1, none⟩ = some (.slice ra rb.length rc)) := hide (fun w7 h => by
            have hb2 : b < w2.drew.heap.size := Nat.lt_of_lt_of_le hbw HBq.out.size
            exact ⟨(h.cell (p := ⟨b, off + k * 2, none⟩) hb2).trans z0, (h.cell (p := ⟨b, off + k * 2 + 1, none⟩) hb2).trans z1⟩)
          clear hbx x0 x1
          go_wp2_with fail
          go_region_held3 (fun u => u.cell? ⟨b, off + k * 2, none⟩ = some (.int .i64 (t : Int)) ∧ u.cell? ⟨b, off + k * 2 + 1, none⟩ = some (.slice ra rb.length rc)) (first | go_keep | exact HK7.out) (first
            | (go_at_call 17; refine HW.out.mono ?_; rintro e9 w7 ⟨v7, rfl, ho7, hb7⟩; have HK7 := hide (HKp.out w7 hb7); have HO7 := hide ho7; have HB7 := hide hb7; clear ho7 hb7))
          obtain ⟨a7, c7, rfl, hs7, _⟩ := HO7.out.sl
          have HS7 := hide hs7
          have HB8 := hide ((HBx.out.trans ((Below.refl w2.heap.size w2).drew.mono HBx.out.size)).trans (HB7.out.mono HBx.out.size))
          clear hs7
          go_wp2_with fail
          exact ⟨⟨k + 1, by omega, by congr 1 <;> omega, ⟨c7, a7, rfl, HS7.out⟩, HB8.out⟩, by simp [intOf]; omega⟩
    · obtain rfl : k = R.length := by omega
      rw [List.take_of_length_le (Nat.le_refl _)] at HS0 hz
      rw [List.take_of_length_le (Nat.le_refl _)]
      generalize hB : putS S (R.map JR.dat) = B at *
      have HE : Hid (over B p Z512 = appS S p (R.map JR.dat)) := hide (by
        unfold appS
        rw [hB, wr_over p Z512 B (by omega), Z512_len, show p + 512 - B.length = 0 by omega]
        simp)
      have HZ0 := hide (Zeros_any 512 wr (by omega))
      clear hB
      go_wp2_with fail
      refine HZ0.out.mono ?_
      rintro e9 w2 ⟨v2, rfl, ho2, hb2⟩
      obtain ⟨a2, c2, rfl, hs2, _⟩ := ho2.sl
      have hW := With_any a0 c0 B a2 c2 Z512 p w2 (by omega) (by rw [Z512_len]; omega) (by rw [Z512_len]; omega) (HS0.out.below hb2) hs2
      rw [HE.out] at hW
      have HW := hide hW
      have HB2 := hide (HB.out.trans (hb2.mono HB.out.size))
      clear ho2 hb2 hs2 hW
      go_wp2_with fail
      refine HW.out.mono ?_
      rintro e9 w3 ⟨v3, rfl, ho3, hb3⟩
      have HO3 := hide (ho3.mono HB2.out.size)
      have HB3 := hide (HB2.out.trans (hb3.mono HB2.out.size))
      clear ho3 hb3
      go_wp2_with fail
      go_ret
      exact ⟨_, rfl, HO3.out, HB3.out⟩
end Go.Proofs.Ytifngegkijdbmaa.Oct
