/- For all lists of texts, places and bits the statement TopFrames answers true and changes nothing that was there: what is laid with its sum is found whole, and a row of turned bits turns its sum. No condition. -/
import Derived.Test.YtmfnpifjinbaeacRows
import Derived.Test.YtmfnpifjinbaeacFr
import Derived.Deep.RegionHeld3
import Derived.Lib.SmallJoins
namespace Go.Proofs.Ytmfnpifjinbaeac.Oct
open Go.RowKit Go.ChangeShapes Go.WideShapes Go.ChangeAt

def Box (w : World) (H : Nat) (x0 x1 x2 x3 : Value) : Prop :=
  w.cell? ⟨H, 0, none⟩ = some x0 ∧ w.cell? ⟨H, 1, none⟩ = some x1 ∧ w.cell? ⟨H, 2, none⟩ = some x2 ∧ w.cell? ⟨H, 3, none⟩ = some x3

theorem Box.new (w : World) (t : TypeId) (x0 x1 x2 x3 : Value) : Box (w.alloc (.cells #[x0, x1, x2, x3] t)) w.heap.size x0 x1 x2 x3 := by
  refine ⟨?_, ?_, ?_, ?_⟩ <;> simp

set_option maxRecDepth 100000 in
set_option maxHeartbeats 8000000 in
theorem frames_walk (a : Option Addr) (cap : Nat) (Ls : List (List Int)) (wh p : Int) (bts : Nat) (w : World) (hn : Ls.length ≤ maxLen) (hb : Bytss Ls) (hp : Pts w a Ls) (hbt : bts < 4294967296) :
    Calls Try.prog 4 #[.agg #[.slice a Ls.length cap, .int .i64 wh, .int .i64 p, .int .u32 bts]] w fun e w' => e = .returned (.bool true) ∧ Below w.heap.size w w' := by
  have HP := hide hp
  have HBs := hide hb
  unfold maxLen at hn
  clear hp hb
  go_enter Try.func4, Try.ntmps4
  go_wp2_with fail
  obtain ⟨g0, g1, g2, g3⟩ := Box.new w 31 (.slice a Ls.length cap) (.int .i64 wh) (.int .i64 p) (.int .u32 bts)
  have HW := hide ((Below.refl w.heap.size w).alloc (Nat.le_refl _) (.cells #[.slice a Ls.length cap, .int .i64 wh, .int .i64 p, .int .u32 bts] 31))
  go_region_held3 (fun w' => w'.cell? ⟨w.heap.size, 0, none⟩ = some (.slice a Ls.length cap) ∧ w'.cell? ⟨w.heap.size, 1, none⟩ = some (.int .i64 wh) ∧ w'.cell? ⟨w.heap.size, 2, none⟩ = some (.int .i64 p) ∧ w'.cell? ⟨w.heap.size, 3, none⟩ = some (.int .u32 bts)) (go_keep) (fail)
  have HW1 := hide HW.out.drew
  clear g0 g1 g2 g3 HW
  generalize (w.alloc (.cells #[.slice a Ls.length cap, .int .i64 wh, .int .i64 p, .int .u32 bts] 31)).drew = W1 at *
  have kc := fun u : World => Go.Lib.run_convert_bytes_const u 22 5 #[.int .u8 49, .int .u8 50, .int .u8 51, .int .u8 52, .int .u8 53, .int .u8 54, .int .u8 55, .int .u8 56, .int .u8 57] 9 9 Try.underlying22 Try.underlying5
  go_wp2_with fail
  refine (digits_sum W1 _ rfl).mono ?_
  rintro e w2 ⟨rfl, hb2⟩
  have HB2 := hide (HW1.out.trans (hb2.mono HW1.out.size))
  clear hb2
  by_cases hbig : 20 < Ls.length
  · go_wp2_with fail
    refine (digits_sum w2 _ rfl).mono ?_
    rintro e w3 ⟨rfl, hb3⟩
    have HB3 := hide (HB2.out.trans (hb3.mono HB2.out.size))
    clear hb3
    go_wp2_with fail
    go_ret
    exact ⟨rfl, HB3.out⟩
  · clear kc
    go_wp2_with fail
    go_loopw [7, 8] (fun v i wr => ∃ k : Nat, k ≤ Ls.length ∧ i = .int .i64 k ∧ (∀ r, r < k → (Ls.getD r []).length ≤ 300) ∧ Own wr w.heap.size v (frameL Ls k) ∧ Below w.heap.size w wr) (fun _ i _ => Ls.length - (intOf i).toNat)
    case atStart => exact ⟨0, by omega, rfl, by intro r hr; omega, Own.nil _ _, HB2.out⟩
    case round =>
      obtain ⟨k, hk, rfl, hsm, ho, hbel⟩ := hrel
      have HSM := hide hsm
      have HO := hide ho
      have HBel := hide hbel
      clear hsm ho
      by_cases hlt : k < Ls.length
      · rcases HP.out with hE | ⟨b, off, rfl, hblt, hc⟩
        · rw [hE] at hlt
          simp at hlt
        obtain ⟨ar, cr, hcell0, hsl0⟩ := hc k hlt
        clear hc
        have hcell := (hbel.cell (p := ⟨b, off + k, none⟩) hblt).trans hcell0
        have HC0 := hide hcell0
        have HSL := hide hsl0
        have HST : Hid (frameL Ls (k + 1) = frameL Ls k ++ (headL (Ls.getD k []) ++ Ls.getD k [])) := rfl
        have HBQ := hide (HBs.out k)
        have hbd := frame_bound Ls k HSM.out
        generalize hq : Ls.getD k [] = q at *
        have HQ := hide hq
        clear hq hcell0 hsl0 hbel
        by_cases hl3 : 300 < q.length
        · go_wp2_with fail
          go_ret
          exact ⟨rfl, HBel.out⟩
        · have hmk : (Instr.makeSlice 22 (.int .i64 8) (.int .i64 8)).run Try.prog wr = .ok (.slice (some ⟨wr.heap.size, 0, none⟩) 8 8) (wr.alloc (.cells (madeCells #[.int .u8 0] 8) 5)) := run_make_bytes wr 8 (by omega)
          have HM := hide (Own.made wr 8 (by unfold maxLen; decide))
          have HA := hide ((Below.refl wr.heap.size wr).alloc (Nat.le_refl _) (.cells (madeCells #[.int .u8 0] 8) 5))
          have hcA := (HA.out.cell (p := ⟨b, off + k, none⟩) (Nat.lt_of_lt_of_le hblt HBel.out.size)).trans hcell
          obtain ⟨a7, cap7, rfl, hsl7, _⟩ := HO.out.sl
          have HSL7 := hide hsl7
          clear hsl7
          go_wp2_with fail
          clear hmk hcA
          refine (Put32_own wr.heap.size wr.heap.size 8 8 (List.replicate 8 0) _ _ 0 _ rfl HM.out rfl (by omega) (by omega) (Nat.le_refl _) (by simp)).mono ?_
          rintro e w3 ⟨rfl, ho3, hb3⟩
          have HX3 := hide (HA.out.trans hb3)
          have HO3 := hide ho3
          have HB3 := hide (HBel.out.trans (HX3.out.mono HBel.out.size))
          have hc3 := (HX3.out.cell (p := ⟨b, off + k, none⟩) (Nat.lt_of_lt_of_le hblt HBel.out.size)).trans hcell
          clear ho3 hb3 HM HA hcell
          go_wp2_with fail
          clear hc3
          refine (Sum_one' ar _ cr q _ _ (by simp) rfl (by unfold maxLen; omega) HBQ.out (HSL.out.below HB3.out)).mono ?_
          rintro e w4 ⟨rfl, hb4⟩
          have HX4 := hide (HX3.out.trans (hb4.mono HX3.out.size))
          have HO4 := hide (HO3.out.below hb4)
          clear hb4
          go_wp2_with fail
          refine (Put32_own wr.heap.size wr.heap.size 8 8 _ _ _ 4 _ rfl HO4.out (by rw [putN_length]; simp) (by omega) (by omega) (Nat.le_refl _) HX4.out.size).mono ?_
          rintro e w5 ⟨rfl, ho5, hb5⟩
          have HX5 := hide (HX4.out.trans hb5)
          have HB5 := hide (HBel.out.trans (HX5.out.mono HBel.out.size))
          have HO5 : Hid (Own w5 wr.heap.size (.slice (some ⟨wr.heap.size, 0, none⟩) 8 8) (headL q)) := ho5
          have hc5 := (HB5.out.cell (p := ⟨b, off + k, none⟩) hblt).trans HC0.out
          obtain ⟨aH, capH, eH, hslH, _⟩ := HO5.out.sl
          have eH2 : aH = some ⟨wr.heap.size, 0, none⟩ ∧ capH = 8 := by simp at eH; exact ⟨eH.1.symm, eH.2.2.symm⟩
          obtain ⟨rfl, rfl⟩ := eH2
          have HSH := hide hslH
          clear ho5 hb5 eH hslH HX4 HO4 HX3 HO3 HB3
          go_wp2_with fail
          refine (Join_three a7 _ ar _ 8 _ cap7 8 cr (frameL Ls k) (headL q) q w5 _ rfl rfl (headL_length q).symm rfl (by rw [headL_length]; omega) (HSL7.out.below HX5.out) HSH.out (HSL.out.below HB5.out)).mono ?_
          rintro e w6 ⟨v6, rfl, ho6, hb6⟩
          have HO6 := hide (ho6.mono HB5.out.size)
          have HB6 := hide (HB5.out.trans (hb6.mono HB5.out.size))
          clear ho6 hb6 hc5
          go_wp2_with fail
          go_roundw
          case rel => exact ⟨k + 1, by omega, by go_num, fun r hr => by
            rcases Nat.lt_or_ge r k with h | h
            · exact HSM.out r h
            · obtain rfl : r = k := by omega
              rw [HQ.out]
              omega, by rw [HST.out]; exact HO6.out, HB6.out⟩
          case measure => simp [intOf]; omega
      · have HK := hide (show k = Ls.length by omega)
        obtain ⟨aF, capF, eF, hslF, _⟩ := HO.out.sl
        have hFb := frame_bound Ls k HSM.out
        rw [HK.out] at eF hslF hFb
        subst eF
        have HSF := hide hslF
        have HSM2 : Hid (∀ r, r < Ls.length → (Ls.getD r []).length ≤ 300) := by have := HSM.out; rwa [HK.out] at this
        have HBF := hide (Byts.frame HBs.out Ls.length)
        clear hslF HO hbel
        generalize hF : frameL Ls Ls.length = F at *
        have HF := hide hF
        clear hF
        go_wp2_with fail
        obtain ⟨W3, hW3⟩ : ∃ W3, W3 = wr := ⟨_, rfl⟩
        subst hW3
        go_loopw [10, 11] (fun f i wr2 => ∃ k : Nat, k ≤ Ls.length ∧ i = .int .i64 k ∧ f = .int .i64 (frameL Ls k).length ∧ Below W3.heap.size W3 wr2) (fun _ i _ => Ls.length - (intOf i).toNat)
        case atStart => exact ⟨0, by omega, rfl, rfl, Below.refl _ _⟩
        case round =>
          obtain ⟨j, hj, rfl, rfl, hb2⟩ := hrel
          have HBe := hide hb2
          have HBw := hide (HBel.out.trans (hb2.mono HBel.out.size))
          clear hb2
          by_cases hlt2 : j < Ls.length
          · rcases HP.out with hE | ⟨b, off, rfl, hblt, hc⟩
            · rw [hE] at hlt2
              simp at hlt2
            obtain ⟨ar, cr, hcell0, hsl0⟩ := hc j hlt2
            clear hc
            obtain ⟨r1, r2, r3, r4, r5⟩ := frame_reads Ls Ls.length j hlt2
            rw [HF.out] at r2 r3 r4 r5
            have hcell := (HBw.out.cell (p := ⟨b, off + j, none⟩) hblt).trans hcell0
            have HC0 := hide hcell0
            have HSL := hide hsl0
            have HBQ := hide (HBs.out j)
            have hq3 := HSM2.out j hlt2
            generalize Ls.getD j [] = q at *
            generalize hs0 : (frameL Ls j).length = s0 at *
            have R1 := hide r1
            have R3 := hide r3
            have R4 := hide r4
            have R5 := hide r5
            have HS0 := hide hs0
            have r2' : s0 + 8 + q.length ≤ F.length := by omega
            clear r1 r2 r3 r4 r5 hs0 hcell0 hsl0
            go_wp2_with fail
            refine (U32_at aF _ capF F q.length _ s0 wr rfl rfl (by omega) HBF.out (HSF.out.below HBe.out).lies (by omega) R3.out (by omega) (by omega)).mono ?_
            rintro e w4 ⟨rfl, rfl⟩
            go_wp2_with fail
            refine (U32_at aF _ capF F (moreC 0 q) _ (s0 + 4) _ (by omega) rfl (by omega) HBF.out (HSF.out.below HBe.out).lies (by omega) R4.out (by omega) (by have := moreC_lt 0 q; omega)).mono ?_
            rintro e w4 ⟨rfl, rfl⟩
            go_wp2_with fail
            refine (Slice_at aF _ capF F q _ _ (s0 + 8) _ rfl (by omega) (HSF.out.below HBe.out) (by omega) (by first | rfl | (simp [wrap64]; omega)) (by omega) R5.out).mono ?_
            rintro e w5 ⟨a8, cap8, rfl, ho8, hsl8, hne8, hb5⟩
            have HO8 := hide ho8
            have HSL8 := hide hsl8
            have HNE8 := hide hne8
            have HB5 := hide (HBw.out.trans (hb5.mono HBw.out.size))
            have HE5 := hide (HBe.out.trans (hb5.mono HBe.out.size))
            have hc5 := (HB5.out.cell (p := ⟨b, off + j, none⟩) hblt).trans HC0.out
            have hmc := moreC_lt 0 q
            have hj0 : (0 : Int) ≤ (j : Int) := Int.natCast_nonneg _
            have hj1 : (j : Int) < (Ls.length : Int) := by omega
            clear ho8 hsl8 hne8 hb5 hcell
            go_wp2_with fail
            go_region_held3 (fun w' => w'.cell? ⟨b, off + j, none⟩ = some (.slice ar q.length cr))
              (first
                | go_keep
                | exact (HB7.out.cell (p := ⟨b, off + j, none⟩) hblt).trans HC0.out
                | exact (HB6.out.cell (p := ⟨b, off + j, none⟩) hblt).trans HC0.out)
              (first
                | (go_at_call 12; refine (SameN_self a8 ar cap8 cr q _ (by omega) (by exact HSL8.out.lies.drew) (by exact (HSL.out.below HB5.out).lies.drew)).mono ?_; rintro e w6 ⟨rfl, hb6⟩; have HB6 := hide (HB5.out.drew.trans (hb6.mono HB5.out.size)); have HE6 := hide (HE5.out.drew.trans (hb6.mono HE5.out.size)); have HO6 := hide (HO8.out.drew.below hb6); have HSL6 := hide (Sl.below (w := w5) HSL8.out ⟨hb6.os, hb6.tape, hb6.output, hb6.size, hb6.block⟩); clear hb6)
                | (go_at_call 7; refine (Sum_one' a8 _ cap8 q _ _ (by simp) rfl (by unfold maxLen; omega) HBQ.out HSL6.out).mono ?_; rintro e w7 ⟨rfl, hb7⟩; have HB7 := hide (HB6.out.trans (hb7.mono HB6.out.size)); have HE7 := hide (HE6.out.trans (hb7.mono HE6.out.size)); have HO7 := hide (HO6.out.below hb7); clear hb7))
            have HO9 := hide (HO7.out.mono HBe.out.size)
            clear hc5 HO7 HO6 HSL6 HO8 HSL8 HE6 HB6 HE5 HB5
            obtain ⟨t, ht, htl⟩ := turns_at wh Ls.length (by omega) (by omega)
            have HT := hide ht
            clear ht
            go_wp2_with fail
            refine (pick_any wh _ Ls.length t _ rfl (by omega) (by omega) HT.out).mono ?_
            rintro e w8 ⟨rfl, rfl⟩
            by_cases hall : j = t ∧ 4 < q.length ∧ bts ≠ 0
            · obtain ⟨hjt, hq4, hb0⟩ := hall
              have hjb : ((j : Int) == (t : Int)) = true := by rw [beq_iff_eq]; omega
              have hbb : ((bts : Int) != 0) = true := by rw [bne_iff_ne]; omega
              have HJT := hide hjt
              have HB0 := hide hb0
              obtain ⟨u, hu, hul⟩ := turns_at p (8 * q.length - 32) (by omega) (by omega)
              have HU := hide hu
              obtain ⟨g, rfl, hg1, _⟩ := HNE8.out (by intro e; rw [e] at hq4; simp at hq4)
              have HG := hide (Nat.le_trans HBe.out.size hg1)
              clear hjt hb0 hu hg1
              go_wp2_with fail
              refine (pick_any p _ (8 * q.length - 32) u _ (by omega) (by omega) (by omega) HU.out).mono ?_
              rintro e w9 ⟨rfl, rfl⟩
              go_wp2_with fail
              go_loopw [19] (fun i wr3 => ∃ k : Nat, k ≤ 32 ∧ i = .int .i64 k ∧ ∃ m : List Int, m.length = q.length ∧ Byts m ∧ Own wr3 W3.heap.size (.slice (some ⟨g, 0, none⟩) q.length cap8) m ∧ le m = le q ^^^ (bts % 2 ^ k * 2 ^ u) ∧ Below W3.heap.size W3 wr3) (fun i _ => 32 - (intOf i).toNat)
              case atStart => exact ⟨0, by omega, rfl, q, rfl, HBQ.out, HO9.out, by simp [Nat.mod_one], HE7.out⟩
              case round =>
                obtain ⟨k3, hk3, rfl, m, hml, hmb, ho, hle, hbel3⟩ := hrel
                have HML := hide hml
                have HMB := hide hmb
                have HOm := hide ho
                have HLE := hide hle
                have HBe3 := hide hbel3
                have HBw3 := hide (HBel.out.trans (hbel3.mono HBel.out.size))
                clear hml hmb ho hle hbel3
                by_cases hlt3 : k3 < 32
                · have hcell := HOm.out.cell HML.out.symm ((u + k3) / 8) (by omega)
                  have hfr := HOm.out.free HML.out.symm ((u + k3) / 8)
                  have hx := HMB.out ((u + k3) / 8)
                  generalize hX : m.getD ((u + k3) / 8) 0 = x at *
                  have HX := hide hX
                  clear hX
                  by_cases hbit : bts / 2 ^ k3 % 2 = 1
                  · have HBT := hide hbit
                    have htest : (bits .and .u32 ((bts : Int) / 2 ^ k3) 1 == 1) = true := by rw [bit_test bts k3 hbt, hbit]; rfl
                    clear hbit
                    go_wp2_with fail
                    go_region
                    go_wp2_with fail
                    go_roundw
                    case rel =>
                      have ht := turn_one m (le q) bts u k3 HMB.out (by rw [HML.out]; omega) x HX.out HLE.out HBT.out
                      have hst := HOm.out.set HML.out.symm ((u + k3) / 8) (bits .xor .u8 x (2 ^ ((u + k3) % 8) % 256))
                      exact ⟨k3 + 1, by omega, by go_num, _, by rw [List.length_set]; exact HML.out, ht.2, hst.1.drew, ht.1, (HBe3.out.grown hst.2 HBe3.out.size (by intro j hj; simp at hj; have := HG.out; omega)).drew⟩
                    case measure => simp [intOf]; omega
                  · have HBT := hide hbit
                    have htest : (bits .and .u32 ((bts : Int) / 2 ^ k3) 1 == 1) = false := by rw [bit_test bts k3 hbt, beq_eq_false_iff_ne]; omega
                    clear hbit
                    go_wp2_with fail
                    go_roundw
                    case rel => exact ⟨k3 + 1, by omega, by go_num, m, HML.out, HMB.out, HOm.out, by rw [bit_skip _ _ _ HBT.out]; exact HLE.out, HBe3.out⟩
                    case measure => simp [intOf]; omega
                · obtain rfl : k3 = 32 := by omega
                  have hbm : bts % 2 ^ 32 = bts := Nat.mod_eq_of_lt (by omega)
                  have HNE : Hid (moreC 0 m ≠ moreC 0 q) := turned q m HBQ.out HMB.out HML.out bts u hbt HB0.out (by omega) (by have := HLE.out; rwa [hbm] at this)
                  have hne : ((moreC 0 m : Int) == (moreC 0 q : Int)) = false := by
                    rw [beq_eq_false_iff_ne]
                    intro e
                    exact HNE.out (by omega)
                  clear hbm
                  obtain ⟨a3, cap3, e3, hsl3, _⟩ := HOm.out.sl
                  have e4 : a3 = some ⟨g, 0, none⟩ ∧ cap3 = cap8 := by simp at e3; exact ⟨e3.1.symm, e3.2.2.symm⟩
                  obtain ⟨rfl, rfl⟩ := e4
                  have HSLm := hide hsl3
                  clear hsl3 e3
                  go_wp2_with fail
                  refine (Sum_one' _ _ _ m _ _ (by simp) HML.out.symm (by rw [HML.out]; unfold maxLen; omega) HMB.out HSLm.out).mono ?_
                  rintro e w10 ⟨rfl, hb10⟩
                  have HE10 := hide (HBe3.out.trans (hb10.mono HBe3.out.size))
                  clear hb10
                  go_wp2_with fail
                  go_roundw
                  case rel => exact ⟨j + 1, by omega, by go_num, by rw [R1.out]; go_num, HE10.out⟩
                  case measure => simp [intOf]; omega
            · have hbr : Hid (¬ (j = t ∧ 4 < q.length ∧ bts ≠ 0)) := hall
              clear hall
              by_cases hjt : j = t
              · have hjb : ((j : Int) == (t : Int)) = true := by rw [beq_iff_eq]; omega
                have HJT := hide hjt
                by_cases hq4 : 4 < q.length
                · have hb0 : bts = 0 := Classical.byContradiction fun h => hbr.out ⟨hjt, hq4, h⟩
                  have hbb : ((bts : Int) != 0) = false := by rw [hb0]; rfl
                  clear hjt hb0
                  go_wp2_with fail
                  go_roundw
                  case rel => exact ⟨j + 1, by omega, by go_num, by rw [R1.out]; go_num, HE7.out⟩
                  case measure => simp [intOf]; omega
                · clear hjt
                  go_wp2_with fail
                  go_roundw
                  case rel => exact ⟨j + 1, by omega, by go_num, by rw [R1.out]; go_num, HE7.out⟩
                  case measure => simp [intOf]; omega
              · have hjb : ((j : Int) == (t : Int)) = false := by rw [beq_eq_false_iff_ne]; omega
                clear hjt
                go_wp2_with fail
                go_roundw
                case rel => exact ⟨j + 1, by omega, by go_num, by rw [R1.out]; go_num, HE7.out⟩
                case measure => simp [intOf]; omega
          · have HJ := hide (show j = Ls.length by omega)
            have HFin : Hid ((frameL Ls j).length = F.length) := by show _ = _; rw [HJ.out, HF.out]
            generalize (frameL Ls j).length = s0 at *
            go_wp2_with fail
            go_ret
            exact ⟨ret_bool (by rw [HFin.out]; simp), HBw.out⟩

theorem frames_any (a : Option Addr) (cap : Nat) (Ls : List (List Int)) (wh p x : Int) (w : World) (hn : Ls.length ≤ maxLen) (hb : Bytss Ls) (hp : Pts w a Ls) (hx : 0 ≤ x ∧ x < 4294967296) :
    Calls Try.prog 4 #[.agg #[.slice a Ls.length cap, .int .i64 wh, .int .i64 p, .int .u32 x]] w fun e w' => e = .returned (.bool true) ∧ Below w.heap.size w w' := by
  obtain ⟨n, rfl, h⟩ := u32_nat hx
  exact frames_walk a cap Ls wh p n w hn hb hp h

theorem cellsCase : Try.prog.cellsOf 31 = 4 := by kernel_rfl

set_option maxRecDepth 100000 in
theorem topFrames_lifted (os : Os) (started : os.Started) (H : Type) (enc : TypeId × Value → H) :
    ReturnsInHanded {} Try.checked os 4 .any (Rows.topFramesSpec.pre6 enc Try.prog Try.f4 Rows.topFramesRow.domain false) (Rows.topFramesSpec.post enc Try.prog Try.f4 false true false false) := by
  refine returnsInHanded_of_change (C := Try.checked) own started (by kernel_rfl) Try.func4
    (ChangeSpec.witness6 (enc := enc) (C := Try.checked) false ⟨#[], #[.agg #[.slice none 0 0, .int .i64 0, .int .i64 0, .int .u32 0]], []⟩ 8 (by kernel_rfl) (by kernel_rfl) (by kernel_rfl) (by kernel_rfl)) ?_
  intro W base args ds gs before hval0 hW _ _
  have hval : ∀ (j : Nat) t v, Try.f4.params[j]? = some t → args[j]? = some v → Value.okWide Try.prog W .any base t v := hval0
  have hW' := hW
  obtain ⟨p, q, hA0, hV, rfl, hfz, hnd⟩ := hW
  have hA : DataW.TrodAll enc Try.prog W 0 (fun _ => true) true Try.f4.params.toList args.toList ds p := hA0
  rw [Try.params4] at hA hval
  obtain ⟨v0, vs0, d0, ds0, p0, q0, hargs0, rfl, rfl, h0, r0⟩ := trodAll_cons hA
  obtain ⟨rfl, rfl, rfl⟩ := trodAll_nil r0
  obtain rfl : args = #[v0] := by cases args; simp_all
  obtain ⟨rfl, rfl⟩ := trodVars_none hV
  simp only [List.append_nil] at hW'
  have hlt0 : ∀ x ∈ p0, x.block < W.heap.size := fun x hx => by simpa using hW'.lt x (by simp [hx])
  have h0k := h0
  obtain ⟨u0, u1, u2, u3, y0, y1, y2, y3, n, rfl, _, _, t0, t1, t2, t3⟩ := Joins.open_agg4 Try.underlying31 (by kernel_rfl) cellsCase (hval 0 31 v0 rfl rfl) h0
  obtain ⟨a0, cap0, l0, rfl, hn0, hb0, hl0⟩ := open_parts_trod t0
  obtain ⟨x1, rfl, w1⟩ := open_int_trod Try.underlying3 t1
  obtain ⟨x2, rfl, w2⟩ := open_int_trod Try.underlying3 t2
  obtain ⟨x3, rfl, w3⟩ := open_int_trod Try.underlying23 t3
  clear hA0
  refine (frames_any a0 cap0 l0 x1 x2 x3 W hn0 hb0 hl0 (wf_u32 w3)).mono fun e W' ⟨he, hb⟩ => ?_
  subst he
  refine ⟨_, rfl, _, _, _, [], (p0 ++ []), [], hW', ?_, ?_, rfl, hb.frame _, fun h => by cases h⟩
  · exact trodAll_cons_mk (shut_bool Try.underlying4 _) trodAll_mk0
  · exact trodAll_cons_mk (Below.trod laidOut (by kernel_rfl) (of_decide_eq_true (by kernel_rfl)) h0k hb hlt0) (trodAll_mk0)

theorem topFrames_holds : Rows.TopFramesSaid :=
  OpenClaim.holds_of_wide 4 Try.f4 rfl rfl rfl rfl rfl rfl rfl ⟨rfl, rfl, rfl, rfl, rfl⟩ rfl rfl rfl rfl rfl (by kernel_rfl) Try.func4 (by kernel_rfl)
    (of_decide_eq_true (by kernel_rfl)) (by unfold Func.isWrapper; first | (rw [if_pos (by decide +kernel)]; kernel_rfl) | (rw [if_neg (by decide +kernel)]; exact ⟨rfl, rfl⟩))
    (fun os started H enc _ => topFrames_lifted os started H enc)
end Go.Proofs.Ytmfnpifjinbaeac.Oct
