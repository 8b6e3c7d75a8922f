/- For all texts the statement CrcSums answers true and changes nothing that was there: the sum of all bytes is what the chapter says, the rest of a division of their bits. No condition. -/
import Derived.Test.YtmfnpifjinbaeabRows
import Derived.Test.YtmfnpifjinbaeabRSum
namespace Go.Proofs.Ytmfnpifjinbaeab.Oct
open Go.RowKit Go.ChangeShapes Go.WideShapes Go.ChangeAt

theorem flip_ones (A k : Nat) : (A ^^^ (2 ^ k - 1)) ^^^ 2 ^ k = A ^^^ (2 ^ (k + 1) - 1) := by
  apply Nat.eq_of_testBit_eq
  intro i
  simp only [Nat.testBit_xor, Nat.testBit_two_pow, Nat.testBit_two_pow_sub_one]
  by_cases h1 : i < k
  · have h2 : ¬ k = i := by omega
    have h3 : i < k + 1 := by omega
    simp [h1, h2, h3]
  · by_cases h2 : k = i
    · simp [h2]
    · have h3 : ¬ i < k + 1 := by omega
      simp [h1, h2, h3]

theorem bit_step (b k at_ : Nat) (h : b.testBit k = true) : (b % 2 ^ (k + 1)) * 2 ^ at_ = (b % 2 ^ k * 2 ^ at_) ^^^ 2 ^ (at_ + k) := by
  have h1 : b / 2 ^ k % 2 = 1 := by simpa [Nat.testBit_eq_decide_div_mod_eq] using h
  have e1 : b % 2 ^ (k + 1) = b % 2 ^ k + 2 ^ k * 1 := by
    rw [Nat.pow_succ, Nat.mod_mul, h1]
  rw [e1, add_xor (b % 2 ^ k) 1 k (Nat.mod_lt _ (Nat.two_pow_pos _)), ← xor_mul, Nat.one_mul, ← Nat.pow_add, Nat.add_comm k]

theorem bit_skip (b k at_ : Nat) (h : b.testBit k = false) : (b % 2 ^ (k + 1)) * 2 ^ at_ = b % 2 ^ k * 2 ^ at_ := by
  have h1 : ¬ b / 2 ^ k % 2 = 1 := by simpa [Nat.testBit_eq_decide_div_mod_eq] using h
  have h0 : b / 2 ^ k % 2 = 0 := by omega
  rw [Nat.pow_succ, Nat.mod_mul, h0, Nat.mul_zero, Nat.add_zero]

theorem step_even (N i : Nat) (h : N.testBit i = false) : N / 2 ^ (i + 1) = half (N / 2 ^ i) := by
  have h1 : ¬ N / 2 ^ i % 2 = 1 := by simpa [Nat.testBit_eq_decide_div_mod_eq] using h
  unfold half
  rw [if_neg h1, Nat.div_div_eq_div_mul, Nat.pow_succ]

theorem step_odd (N i : Nat) (h : N.testBit i = true) : (N ^^^ (3988292384 * 2 ^ (i + 1))) / 2 ^ (i + 1) = half (N / 2 ^ i) := by
  have h1 : N / 2 ^ i % 2 = 1 := by simpa [Nat.testBit_eq_decide_div_mod_eq] using h
  have e := Nat.shiftRight_xor_distrib (a := N) (b := 3988292384 * 2 ^ (i + 1)) (i := i + 1)
  simp only [Nat.shiftRight_eq_div_pow] at e
  rw [e, Nat.mul_div_cancel _ (Nat.two_pow_pos _)]
  unfold half
  rw [if_pos h1, Nat.div_div_eq_div_mul, Nat.pow_succ]

theorem top_step (T k : Nat) (hT : T < 4294967296) (hk : k < 32) : (4294967295 - T) / 2 ^ (32 - (k + 1)) = 2 * ((4294967295 - T) / 2 ^ (32 - k)) + (if T.testBit (31 - k) then 0 else 1) := by
  have e : 4294967295 - T = 4294967295 ^^^ T := (xor_ones T hT).symm
  have hb : (4294967295 - T).testBit (31 - k) = !T.testBit (31 - k) := by
    rw [e, Nat.testBit_xor, show (4294967295 : Nat) = 2 ^ 32 - 1 from by decide, Nat.testBit_two_pow_sub_one]
    have : 31 - k < 32 := by omega
    simp [this]
  rw [Nat.testBit_eq_decide_div_mod_eq] at hb
  have h32 : 2 ^ (32 - k) = 2 ^ (31 - k) * 2 := by rw [← Nat.pow_succ]; congr 1; omega
  rw [h32, ← Nat.div_div_eq_div_mul, show 32 - (k + 1) = 31 - k from by omega]
  generalize (4294967295 - T) / 2 ^ (31 - k) = y at *
  cases hq : T.testBit (31 - k)
  · rw [hq] at hb
    simp at hb
    simp
    omega
  · rw [hq] at hb
    simp at hb
    simp
    omega

theorem bt_range (b : Bool) : 0 ≤ bt b ∧ bt b ≤ 1 := by cases b <;> simp [bt]
theorem bt_one {b : Bool} (h : bt b = 1) : b = true := by cases b <;> simp [bt] at h ⊢
theorem bt_zero {b : Bool} (h : bt b = 0) : b = false := by cases b <;> simp [bt] at h ⊢

set_option maxHeartbeats 4000000 in
theorem RSum_any (a : Option Addr) (cap : Nat) (l : List Int) (w : World) (hlen : l.length ≤ 150) (hb : Byts l) (hl : Lies w a l) :
    Calls Try.prog 17 #[.slice a l.length cap] w fun e w' => e = .returned (.int .u32 (moreC 0 l)) ∧ Below w.heap.size w w' := by
  have HL := hide hl
  have HBY := hide hb
  clear hl hb
  have HR := hide (runC_lt l HBY.out 4294967295 (by omega))
  have HRE := hide (runC_eq l HBY.out 4294967295)
  go_enter Try.func17, Try.ntmps17
  go_wp2_with fail
  refine (bits_any a cap l w hlen HBY.out HL.out).mono ?_
  rintro e w1 ⟨v1, m1, rfl, ho1, hml1, hbs1, hb1⟩
  have HO1 := hide ho1
  have HML1 := hide hml1
  have HBS1 := hide hbs1
  have HB1 := hide hb1
  clear ho1 hml1 hbs1 hb1
  go_wp2_with fail
  go_loopw [3, 4] (fun v i wr => ∃ k : Nat, k ≤ 32 ∧ i = .int .i64 k ∧ ∃ m : List Int, OwnI wr w.heap.size v m ∧ m.length = 8 * l.length + k ∧ Bits m (le l) ∧ Below w.heap.size w wr) (fun _ i _ => 32 - (intOf i).toNat)
  case atStart => exact ⟨0, by omega, rfl, m1, HO1.out, HML1.out, HBS1.out, HB1.out⟩
  case round =>
    obtain ⟨k, hk, rfl, m, ho, hml, hbs, hbel⟩ := hrel
    have HO := hide ho
    have HML := hide hml
    have HBS := hide hbs
    have HBel := hide hbel
    clear ho hml hbs hbel
    by_cases hlt : k < 32
    · have HY : Hid ((0 : Int) = bt ((le l).testBit m.length)) := by
        show _ = _
        rw [HML.out, Nat.testBit_lt_two_pow (Nat.lt_of_lt_of_le (le_lt l HBY.out) (Nat.pow_le_pow_right (by omega) (by omega)))]
        rfl
      go_wp2_with (at_builtin; refine wpList_append_int rfl _ _ 49 rfl Try.underlying49 info3 w.heap.size _ m rfl _ _ 0 wr rfl rfl HO.out rfl (by rw [HML.out]; omega) (by exact HBel.out.size) ?_; intro v9 w9 ho9 hba9 hg9; have HB9 := hide ((HO.out.alloc _).behind (HBel.out.alloc HBel.out.size _) hg9 (by have := HBel.out.size; simp; omega)); clear hba9 hg9)
      go_roundw
      case rel => exact ⟨k + 1, by omega, by go_num, m ++ [0], ho9, by rw [List.length_append, HML.out]; simp; omega, HBS.out.append _ HY.out, HB9.out⟩
      case measure => simp [intOf]; omega
    · have HK := hide (show k = 32 by omega)
      obtain ⟨L, hL⟩ : ∃ L, L = 8 * l.length + 32 := ⟨_, rfl⟩
      have hL2 : L ≤ 1232 := by omega
      have hL3 : 32 ≤ L := by omega
      have hLn : 8 * l.length + 32 ≤ L := by omega
      have hLn2 : L ≤ 8 * l.length + 32 := by omega
      obtain ⟨g, capg, rfl, hg1, hg2, hcap⟩ := HO.out.form (by intro e; have := HML.out; rw [e] at this; simp at this; omega)
      have eL : m.length = L := by rw [HML.out, hL, HK.out]
      have ho2 := HO.out
      rw [eL] at ho2 hcap ⊢
      have HO2 := hide ho2
      have HML2 := hide eL
      have HG := hide hg1
      clear ho2 eL HO hL hg1 hg2
      go_wp2_with fail
      go_loopw [5] (fun i wr => ∃ k : Nat, k ≤ 32 ∧ i = .int .i64 k ∧ ∃ m : List Int, m.length = L ∧ OwnI wr w.heap.size (.slice (some ⟨g, 0, none⟩) L capg) m ∧ Bits m (le l ^^^ (2 ^ k - 1)) ∧ Below w.heap.size w wr) (fun i _ => 32 - (intOf i).toNat)
      case atStart => exact ⟨0, by omega, rfl, m, HML2.out, HO2.out, by simpa using HBS.out, HBel.out⟩
      case round =>
        clear HO2 HML2 HBS HBel HML
        obtain ⟨k2, hk2, rfl, m2, hml, ho, hbs, hbel⟩ := hrel
        have HO := hide ho
        have HML := hide hml
        have HBS := hide hbs
        have HBel := hide hbel
        clear ho hml hbs hbel
        by_cases hlt2 : k2 < 32
        · have hcell := HO.out.cell HML.out.symm k2 (by omega)
          have hfr := HO.out.free HML.out.symm k2
          have hx := bt_range ((le l ^^^ (2 ^ k2 - 1)).testBit k2)
          rw [← HBS.out k2 (by rw [HML.out]; omega)] at hx
          have HF := hide (HBS.out.flip k2 (by rw [HML.out]; omega))
          have HST := hide (HO.out.set HML.out.symm k2 (1 - m2.getD k2 0))
          generalize m2.getD k2 0 = x at *
          go_wp2_with fail
          go_roundw
          case rel => exact ⟨k2 + 1, by omega, by go_num, _, by rw [List.length_set]; exact HML.out, HST.out.1, by rw [← flip_ones]; exact HF.out, HBel.out.grown HST.out.2 HBel.out.size (by intro j hj; simp at hj; have := HG.out; omega)⟩
          case measure => simp [intOf]; omega
        · have HK2 := hide (show k2 = 32 by omega)
          have HN0 : Hid (Bits m2 (4294967295 ^^^ le l)) := by
            have := HBS.out
            rw [HK2.out, Nat.xor_comm] at this
            exact this
          go_wp2_with fail
          refine (poly_any _).mono ?_
          rintro e w3 ⟨vp, mp, rfl, hop, hmlp, hpb, hb3⟩
          obtain ⟨gp, capp, rfl, hgp1, _, hcapp⟩ := hop.form (by intro e; rw [e] at hmlp; simp at hmlp)
          have hgw := (World.ownsRow.lt HO.out g rfl).2
          have HGP := hide (show g < gp by omega)
          rw [hmlp] at hop hcapp ⊢
          have HOP := hide (hop.mono HBel.out.size)
          have HPB := hide hpb
          have HMP := hide hmlp
          have HO3 := hide (HO.out.below hb3)
          have HB3 := hide (HBel.out.trans (hb3.mono HBel.out.size))
          clear hop hmlp hpb hb3 hgp1 hgw HO HBel HBS
          go_wp2_with fail
          go_loopw [7] (fun i wr => ∃ k : Nat, k ≤ 8 * l.length ∧ i = .int .i64 k ∧ ∃ m : List Int, m.length = L ∧ OwnI wr w.heap.size (.slice (some ⟨g, 0, none⟩) L capg) m ∧ (∃ N, Bits m N ∧ N / 2 ^ k = halves k (4294967295 ^^^ le l)) ∧ OwnI wr w.heap.size (.slice (some ⟨gp, 0, none⟩) 32 capp) mp ∧ Below w.heap.size w wr) (fun i _ => 8 * l.length - (intOf i).toNat)
          case atStart => exact ⟨0, by omega, rfl, m2, HML.out, HO3.out, ⟨_, HN0.out, by simp [halves]⟩, HOP.out, HB3.out⟩
          case round =>
            clear HO3 HML HB3 HN0 HOP
            obtain ⟨i, hi, rfl, m3, hml, ho, ⟨N, hbs, hN⟩, hop, hbel⟩ := hrel
            have HO := hide ho
            have HML := hide hml
            have HBS := hide hbs
            have HN := hide hN
            have HOP := hide hop
            have HBel := hide hbel
            clear ho hml hbs hN hop hbel
            by_cases hlt3 : i < 8 * l.length
            · have hcell := HO.out.cell HML.out.symm i (by omega)
              have HX := hide (HBS.out i (by rw [HML.out]; omega))
              generalize m3.getD i 0 = x at *
              by_cases hx : N.testBit i = true
              · have hx1 : x = 1 := by rw [HX.out, hx]; rfl
                subst hx1
                have HXB := hide hx
                clear hx
                go_wp2_with fail
                go_loopw [8] (fun j wr => ∃ k : Nat, k ≤ 32 ∧ j = .int .i64 k ∧ ∃ m : List Int, m.length = L ∧ OwnI wr w.heap.size (.slice (some ⟨g, 0, none⟩) L capg) m ∧ Bits m (N ^^^ (3988292384 % 2 ^ k * 2 ^ (i + 1))) ∧ OwnI wr w.heap.size (.slice (some ⟨gp, 0, none⟩) 32 capp) mp ∧ Below w.heap.size w wr) (fun j _ => 32 - (intOf j).toNat)
                case atStart => exact ⟨0, by omega, rfl, m3, HML.out, HO.out, by simpa [Nat.mod_one] using HBS.out, HOP.out, HBel.out⟩
                case round =>
                  clear hcell HO HML HBS HOP HBel HX
                  obtain ⟨k4, hk4, rfl, m4, hml, ho, hbs, hop, hbel⟩ := hrel
                  have HO := hide ho
                  have HML := hide hml
                  have HBS := hide hbs
                  have HOP := hide hop
                  have HBel := hide hbel
                  clear ho hml hbs hop hbel
                  by_cases hlt4 : k4 < 32
                  · have hcp := HOP.out.cell HMP.out.symm (31 - k4) (by omega)
                    have HPV := hide (HPB.out (31 - k4) (by omega))
                    generalize mp.getD (31 - k4) 0 = y at *
                    have e31 : 31 - (31 - k4) = k4 := by omega
                    by_cases hy : (3988292384 : Nat).testBit k4 = true
                    · have hy1 : y = 1 := by rw [HPV.out, e31, hy]; rfl
                      subst hy1
                      have HYB := hide hy
                      have hc4 := HO.out.cell HML.out.symm (i + 1 + k4) (by omega)
                      have hfr := HO.out.free HML.out.symm (i + 1 + k4)
                      have hx4 := bt_range ((N ^^^ (3988292384 % 2 ^ k4 * 2 ^ (i + 1))).testBit (i + 1 + k4))
                      rw [← HBS.out (i + 1 + k4) (by rw [HML.out]; omega)] at hx4
                      have HF := hide (HBS.out.flip (i + 1 + k4) (by rw [HML.out]; omega))
                      have HST := hide (HO.out.set HML.out.symm (i + 1 + k4) (1 - m4.getD (i + 1 + k4) 0))
                      generalize m4.getD (i + 1 + k4) 0 = x4 at *
                      clear hy e31
                      go_wp2_with fail
                      go_roundw
                      case rel =>
                        refine ⟨k4 + 1, by omega, by go_num, _, by rw [List.length_set]; exact HML.out, HST.out.1, ?_, HOP.out.kept HST.out.2 (Or.inr (by have := HGP.out; simp [Value.ownBlock]; omega)), HBel.out.grown HST.out.2 HBel.out.size (by intro j hj; simp at hj; have := HG.out; omega)⟩
                        rw [bit_step _ _ _ HYB.out, ← Nat.xor_assoc]
                        exact HF.out
                      case measure => simp [intOf]; omega
                    · have hyf : (3988292384 : Nat).testBit k4 = false := by simpa using hy
                      have hy0 : y = 0 := by rw [HPV.out, e31, hyf]; rfl
                      subst hy0
                      have HYB := hide hyf
                      clear hy hyf e31
                      go_wp2_with fail
                      go_roundw
                      case rel => exact ⟨k4 + 1, by omega, by go_num, m4, HML.out, HO.out, by rw [bit_skip _ _ _ HYB.out]; exact HBS.out, HOP.out, HBel.out⟩
                      case measure => simp [intOf]; omega
                  · have HK4 := hide (show k4 = 32 by omega)
                    go_wp2_with fail
                    go_roundw
                    case rel =>
                      refine ⟨i + 1, by omega, by go_num, m4, HML.out, HO.out, ⟨_, HBS.out, ?_⟩, HOP.out, HBel.out⟩
                      rw [HK4.out, show (3988292384 : Nat) % 2 ^ 32 = 3988292384 from by decide, step_odd N i HXB.out, HN.out]
                      rfl
                    case measure => simp [intOf]; omega
              · have hxf : N.testBit i = false := by simpa using hx
                have hx0 : x = 0 := by rw [HX.out, hxf]; rfl
                subst hx0
                have HXB := hide hxf
                clear hx hxf
                go_wp2_with fail
                go_roundw
                case rel => exact ⟨i + 1, by omega, by go_num, m3, HML.out, HO.out, ⟨N, HBS.out, by rw [step_even N i HXB.out, HN.out]; rfl⟩, HOP.out, HBel.out⟩
                case measure => simp [intOf]; omega
            · have HI := hide (show i = 8 * l.length by omega)
              have HT : Hid (N / 2 ^ (8 * l.length) = runC 4294967295 l) := by
                show _ = _
                have h := HN.out
                rw [HI.out] at h
                rw [HRE.out]
                exact h
              have HTB : Hid (∀ j, j < 32 → m3.getD (L - 1 - (31 - j)) 0 = bt ((runC 4294967295 l).testBit j)) := fun j hj => by
                rw [HBS.out _ (by rw [HML.out]; omega), ← HT.out, Nat.testBit_div_two_pow]
                congr 2
                omega
              obtain ⟨T, hT⟩ : ∃ T, T = runC 4294967295 l := ⟨_, rfl⟩
              have HTL : Hid (T < 4294967296) := by rw [hT]; exact HR.out
              have HFin : Hid (moreC 0 l = 4294967295 - T) := by rw [hT]; rfl
              rw [← hT] at HTB
              clear hT HT HRE HR
              go_wp2_with fail
              go_loop [9, 10] (fun v j => ∃ k : Nat, k ≤ 32 ∧ j = .int .i64 k ∧ v = .int .u32 ((4294967295 - T) / 2 ^ (32 - k) : Nat)) (fun _ j => 32 - (intOf j).toNat)
              case atStart => exact ⟨0, by omega, rfl, by rw [Nat.div_eq_of_lt (by have := HTL.out; omega)]; rfl⟩
              case round =>
                obtain ⟨k5, hk5, rfl, rfl⟩ := hrel
                by_cases hlt5 : k5 < 32
                · have hcell := HO.out.cell HML.out.symm (L - 1 - k5) (by omega)
                  have HV := hide (HTB.out (31 - k5) (by omega))
                  have HST := hide (top_step T k5 HTL.out hlt5)
                  have hvb : (4294967295 - T) / 2 ^ (32 - k5) ≤ 2147483647 := by
                    have h1 : 2 ≤ 2 ^ (32 - k5) := by
                      have : 2 ^ 1 ≤ 2 ^ (32 - k5) := Nat.pow_le_pow_right (by omega) (by omega)
                      simpa using this
                    have h2 : (4294967295 - T) / 2 ^ (32 - k5) ≤ (4294967295 - T) / 2 := Nat.div_le_div_left h1 (by omega)
                    omega
                  have e31 : 31 - (31 - k5) = k5 := by omega
                  rw [e31] at HV
                  generalize m3.getD (L - 1 - k5) 0 = y at *
                  generalize (4294967295 - T) / 2 ^ (32 - k5) = v5 at *
                  cases hq : T.testBit (31 - k5)
                  · have hy0 : y = 0 := by rw [HV.out, hq]; rfl
                    subst hy0
                    have HQ := hide hq
                    clear hq e31
                    go_wp2_with fail
                    go_round
                    case rel => exact ⟨k5 + 1, by omega, by go_num, by rw [HST.out, HQ.out]; simp; omega⟩
                    case measure => simp [intOf]; omega
                  · have hy1 : y = 1 := by rw [HV.out, hq]; rfl
                    subst hy1
                    have HQ := hide hq
                    clear hq e31
                    go_wp2_with fail
                    go_round
                    case rel => exact ⟨k5 + 1, by omega, by go_num, by rw [HST.out, HQ.out]; simp; omega⟩
                    case measure => simp [intOf]; omega
                · have HK5 := hide (show k5 = 32 by omega)
                  go_wp2_with fail
                  go_ret
                  exact ⟨ret_int (by rw [HFin.out, HK5.out]; simp), HBel.out⟩

set_option maxHeartbeats 2000000 in
theorem sums_walk (a : Option Addr) (cap : Nat) (l : List Int) (w : World) (hn : l.length ≤ maxLen) (hb : Byts l) (hs : Sl w a cap l) :
    Calls Try.prog 5 #[.slice a l.length cap] w fun e w' => e = .returned (.bool true) ∧ Below w.heap.size w w' := by
  have HS := hide hs
  have HN := hide hn
  unfold maxLen at hn
  clear hs
  by_cases hbig : 150 < l.length
  · go_enter Try.func5, Try.ntmps5
    go_wp2_with (go_at_call 15; refine (known_any _).mono ?_; rintro e w' ⟨rfl, hb⟩)
    go_ret
    exact ⟨rfl, hb⟩
  · go_enter Try.func5, Try.ntmps5
    go_wp2_with fail
    refine (known_any _).mono ?_
    rintro e w1 ⟨rfl, hb1⟩
    have HB1 := hide hb1
    clear hb1
    go_wp2_with fail
    refine (Sum_one' a _ cap l _ _ (by simp) rfl HN.out hb (HS.out.below HB1.out)).mono ?_
    rintro e w2 ⟨rfl, hb2⟩
    have HB2 := hide (HB1.out.trans (hb2.mono HB1.out.size))
    clear hb2
    go_wp2_with fail
    refine (RSum_any a cap l w2 (by omega) hb (HS.out.below HB2.out).lies).mono ?_
    rintro e w3 ⟨rfl, hb3⟩
    have HB3 := hide (HB2.out.trans (hb3.mono HB2.out.size))
    clear hb3
    go_wp2_with fail
    refine (Fast_any a cap l w3 HN.out hb (HS.out.below HB3.out).lies).mono ?_
    rintro e w4 ⟨rfl, rfl⟩
    go_wp2_with fail
    refine (RSum_any a cap l _ (by omega) hb (HS.out.below HB3.out).lies).mono ?_
    rintro e w5 ⟨rfl, hb5⟩
    have HB5 := hide (HB3.out.trans (hb5.mono HB3.out.size))
    clear hb5
    go_wp2_with fail
    go_ret
    exact ⟨by simp, HB5.out⟩

set_option maxRecDepth 100000 in
theorem crcSums_lifted (os : Os) (started : os.Started) (H : Type) (enc : TypeId × Value → H) :
    ReturnsInHanded {} Try.checked os 5 .any (Rows.crcSumsSpec.pre6 enc Try.prog Try.f5 Rows.crcSumsRow.domain false) (Rows.crcSumsSpec.post enc Try.prog Try.f5 false true false false) := by
  refine returnsInHanded_of_change (C := Try.checked) own started (by kernel_rfl) Try.func5
    (ChangeSpec.witness6 (enc := enc) (C := Try.checked) false ⟨#[], #[.slice none 0 0], []⟩ 8 (by kernel_rfl) (by kernel_rfl) (by kernel_rfl) (by kernel_rfl)) ?_
  intro W base args ds gs before hval0 hW _ _
  have hval : ∀ (j : Nat) t v, Try.f5.params[j]? = some t → args[j]? = some v → Value.okWide Try.prog W .any base t v := hval0
  have hW' := hW
  obtain ⟨p, q, hA0, hV, rfl, hfz, hnd⟩ := hW
  have hA : DataW.TrodAll enc Try.prog W 0 (fun _ => true) true Try.f5.params.toList args.toList ds p := hA0
  rw [Try.params5] at hA hval
  obtain ⟨v0, vs0, d0, ds0, p0, q0, hargs0, rfl, rfl, h0, r0⟩ := trodAll_cons hA
  obtain ⟨rfl, rfl, rfl⟩ := trodAll_nil r0
  obtain rfl : args = #[v0] := by cases args; simp_all
  obtain ⟨rfl, rfl⟩ := trodVars_none hV
  simp only [List.append_nil] at hW'
  have hlt0 : ∀ x ∈ p0, x.block < W.heap.size := fun x hx => by simpa using hW'.lt x (by simp [hx])
  obtain ⟨a0, cap0, l0, rfl, hn0, hb0, hl0, hs0⟩ := open_bytes (hval 0 22 v0 rfl rfl) h0
  clear hA0
  refine (sums_walk a0 cap0 l0 W hn0 hb0 hs0).mono fun e W' ⟨he, hb⟩ => ?_
  subst he
  refine ⟨_, rfl, _, _, _, [], (p0 ++ []), [], hW', ?_, ?_, rfl, hb.frame _, fun h => by cases h⟩
  · exact trodAll_cons_mk (shut_bool Try.underlying4 _) trodAll_mk0
  · exact trodAll_cons_mk (Below.trod laidOut (by kernel_rfl) (of_decide_eq_true (by kernel_rfl)) h0 hb hlt0) (trodAll_mk0)

theorem crcSums_holds : Rows.CrcSumsSaid :=
  OpenClaim.holds_of_wide 5 Try.f5 rfl rfl rfl rfl rfl rfl rfl ⟨rfl, rfl, rfl, rfl, rfl⟩ rfl rfl rfl rfl rfl (by kernel_rfl) Try.func5 (by kernel_rfl)
    (of_decide_eq_true (by kernel_rfl)) (by unfold Func.isWrapper; first | (rw [if_pos (by decide +kernel)]; kernel_rfl) | (rw [if_neg (by decide +kernel)]; exact ⟨rfl, rfl⟩))
    (fun os started H enc _ => crcSums_lifted os started H enc)
end Go.Proofs.Ytmfnpifjinbaeab.Oct
