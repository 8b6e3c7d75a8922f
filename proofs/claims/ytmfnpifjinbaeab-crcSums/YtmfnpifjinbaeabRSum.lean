/- What the reference's calls bits, poly and Sum answer: the sum of all bytes, by dividing their bits, is the halving of their number. -/
import Derived.Test.YtmfnpifjinbaeabBts
import Derived.Test.YtmfnpifjinbaeabMore
namespace Go.Proofs.Ytmfnpifjinbaeab.Oct
open Go.RowKit

theorem info3 : (Try.prog.info? 3).map (fun i => (i.zero, i.size, i.bytes)) = some (some (.int .i64 0), 1, 8) := by kernel_rfl

theorem div_two (x t : Nat) : (x : Int) / 2 ^ t / 2 = (x : Int) / 2 ^ (t + 1) := by
  rw [Int.pow_succ, Int.ediv_ediv_of_nonneg (Int.le_of_lt (Int.pow_pos (by omega)))]

theorem nat_div (x t : Nat) : (x : Int) / 2 ^ t = ((x / 2 ^ t : Nat) : Int) := by
  rw [Int.natCast_ediv]
  simp

set_option maxHeartbeats 1000000 in
theorem bits_some (b off cap : Nat) (l : List Int) (w : World) (hlen : l.length ≤ 150) (hb : Byts l)
    (hblt : b < w.heap.size) (hc : ∀ k, k < l.length → w.cell? ⟨b, off + k, none⟩ = some (.int .u8 (l.getD k 0))) :
    Calls Try.prog 27 #[.slice (some ⟨b, off, none⟩) l.length cap] w fun e w' => ∃ v m, e = .returned v ∧ OwnI w' w.heap.size v m ∧ m.length = 8 * l.length ∧ Bits m (le l) ∧ Below w.heap.size w w' := by
  have HC := hide hc
  have HBY := hide hb
  clear hc hb
  go_enter Try.func27, Try.ntmps27
  go_wp2_with fail
  go_loopw [3, 4] (fun v i wr => ∃ k : Nat, k ≤ l.length ∧ i = .int .i64 k ∧ ∃ m : List Int, OwnI wr w.heap.size v m ∧ m.length = 8 * k ∧ Bits m (le l) ∧ Below w.heap.size w wr) (fun _ i _ => l.length - (intOf i).toNat)
  case atStart => exact ⟨0, by omega, rfl, [], OwnI.nil _ _, rfl, fun j hj => by simp at hj, Below.refl _ _⟩
  case round =>
    obtain ⟨k, hk, rfl, m, ho, hml, hbs, hbel⟩ := hrel
    have HO := hide ho
    have HML := hide hml
    have HBS := hide hbs
    have HBel := hide hbel
    by_cases hlt : k < l.length
    · have hcell := (hbel.cell (p := ⟨b, off + k, none⟩) hblt).trans (HC.out k hlt)
      have hx0 := HBY.out k
      have HTB : Hid (∀ t, t < 8 → (le l).testBit (8 * k + t) = ((l.getD k 0).toNat).testBit t) := fun t ht => le_testBit l k t HBY.out hlt ht
      clear ho hml hbs hbel
      generalize l.getD k 0 = x at *
      obtain ⟨x, rfl⟩ := Int.eq_ofNat_of_zero_le hx0.1
      go_wp2_with fail
      go_loopw [3, 5, 6] (fun v c i wr => ∃ t : Nat, t ≤ 8 ∧ i = .int .i64 t ∧ c = .int .i64 ((x : Int) / 2 ^ t) ∧ ∃ m : List Int, OwnI wr w.heap.size v m ∧ m.length = 8 * k + t ∧ Bits m (le l) ∧ Below w.heap.size w wr) (fun _ _ i _ => 8 - (intOf i).toNat)
      case atStart => exact ⟨0, by omega, rfl, by simp, m, HO.out, HML.out, HBS.out, HBel.out⟩
      case round =>
        obtain ⟨t, ht, rfl, rfl, m, ho, hml, hbs, hbel⟩ := hrel
        have HO := hide ho
        have HML := hide hml
        have HBS := hide hbs
        have HBel := hide hbel
        clear ho hml hbs hbel hcell
        by_cases ht8 : t < 8
        · have HY : Hid ((x : Int) / 2 ^ t % 2 = bt ((le l).testBit m.length)) := by
            show _ = _
            rw [HML.out, HTB.out t ht8, Int.toNat_natCast, ← bit_mod, nat_div]
            rfl
          have HD := hide (div_two x t)
          have hy0 : 0 ≤ (x : Int) / 2 ^ t := Int.ediv_nonneg (by omega) (Int.le_of_lt (Int.pow_pos (by omega)))
          have hy1 : (x : Int) / 2 ^ t ≤ 255 := Int.le_trans (Int.ediv_le_self _ (by omega)) (by omega)
          generalize (x : Int) / 2 ^ t = y at *
          go_wp2_with (at_builtin; refine wpList_append_int rfl _ _ 49 rfl Try.underlying49 info3 w.heap.size _ m rfl _ _ (y % 2) wr rfl rfl HO.out rfl (by rw [HML.out]; omega) (by exact HBel.out.size) ?_; intro v9 w9 ho9 hba9 hg9; have HB9 := hide ((HO.out.alloc _).behind (HBel.out.alloc HBel.out.size _) hg9 (by have := HBel.out.size; simp; omega)); clear hba9 hg9)
          go_roundw
          case rel =>
            refine ⟨t + 1, by omega, by go_num, by rw [HD.out], m ++ [y % 2], ho9, by rw [List.length_append, HML.out]; simp; omega, HBS.out.append _ HY.out, HB9.out⟩
          case measure => simp [intOf]; omega
        · obtain rfl : t = 8 := by omega
          go_wp2_with fail
          go_roundw
          case rel => exact ⟨k + 1, by omega, by go_num, m, HO.out, by rw [HML.out]; omega, HBS.out, HBel.out⟩
          case measure => simp [intOf]; omega
    · obtain rfl : k = l.length := by omega
      clear ho hml hbs hbel
      go_wp2_with fail
      go_ret
      exact ⟨_, m, rfl, HO.out, HML.out, HBS.out, HBel.out⟩

set_option maxHeartbeats 400000 in
theorem bits_empty (a : Option Addr) (cap : Nat) (w : World) :
    Calls Try.prog 27 #[.slice a 0 cap] w fun e w' => ∃ v m, e = .returned v ∧ OwnI w' w.heap.size v m ∧ m.length = 0 ∧ Bits m 0 ∧ Below w.heap.size w w' := by
  go_enter Try.func27, Try.ntmps27
  go_wp2_with fail
  refine wp_loop_rounds 1 ?_
  rw [rounds_succ]
  go_wp2_with fail
  go_ret
  exact ⟨_, [], rfl, OwnI.nil _ _, rfl, fun j hj => by simp at hj, Below.refl _ _⟩

theorem bits_any (a : Option Addr) (cap : Nat) (l : List Int) (w : World) (hlen : l.length ≤ 150) (hb : Byts l) (hl : Lies w a l) :
    Calls Try.prog 27 #[.slice a l.length cap] w fun e w' => ∃ v m, e = .returned v ∧ OwnI w' w.heap.size v m ∧ m.length = 8 * l.length ∧ Bits m (le l) ∧ Below w.heap.size w w' := by
  rcases hl with rfl | ⟨b, off, rfl, hlt, hc⟩
  · exact bits_empty a cap w
  · exact bits_some b off cap l w hlen hb hlt hc

set_option maxHeartbeats 1000000 in
theorem poly_any (w : World) :
    Calls Try.prog 28 #[] w fun e w' => ∃ v m, e = .returned v ∧ OwnI w' w.heap.size v m ∧ m.length = 32 ∧ (∀ j, j < 32 → m.getD j 0 = bt ((3988292384 : Nat).testBit (31 - j))) ∧ Below w.heap.size w w' := by
  obtain ⟨N, hN⟩ : ∃ N : Nat, N = 3988292384 := ⟨_, rfl⟩
  rw [← hN]
  go_enter Try.func28, Try.ntmps28
  go_wp2_with fail
  go_loopw [1, 2, 3] (fun n v i wr => ∃ t : Nat, t ≤ 32 ∧ i = .int .i64 t ∧ n = .int .i64 ((N : Int) / 2 ^ t) ∧ ∃ m : List Int, OwnI wr w.heap.size v m ∧ m.length = t ∧ Bits m N ∧ Below w.heap.size w wr) (fun _ _ i _ => 32 - (intOf i).toNat)
  case atStart => exact ⟨0, by omega, rfl, by rw [hN]; simp, [], OwnI.nil _ _, rfl, fun j hj => by simp at hj, Below.refl _ _⟩
  case round =>
    obtain ⟨t, ht, rfl, rfl, m, ho, hml, hbs, hbel⟩ := hrel
    have HO := hide ho
    have HML := hide hml
    have HBS := hide hbs
    have HBel := hide hbel
    clear ho hml hbs hbel
    by_cases ht8 : t < 32
    · have HY : Hid ((N : Int) / 2 ^ t % 2 = bt (N.testBit m.length)) := by
        show _ = _
        rw [HML.out, ← bit_mod, nat_div]
        rfl
      have HD := hide (div_two N t)
      have hy0 : 0 ≤ (N : Int) / 2 ^ t := Int.ediv_nonneg (by omega) (Int.le_of_lt (Int.pow_pos (by omega)))
      have hy1 : (N : Int) / 2 ^ t ≤ 3988292384 := Int.le_trans (Int.ediv_le_self _ (by omega)) (by omega)
      have HN := hide hN
      clear hN
      generalize (N : Int) / 2 ^ t = y at *
      go_wp2_with (at_builtin; refine wpList_append_int rfl _ _ 49 rfl Try.underlying49 info3 w.heap.size _ m rfl _ _ (y % 2) wr rfl rfl HO.out rfl (by rw [HML.out]; omega) (by exact HBel.out.size) ?_; intro v9 w9 ho9 hba9 hg9; have HB9 := hide ((HO.out.alloc _).behind (HBel.out.alloc HBel.out.size _) hg9 (by have := HBel.out.size; simp; omega)); clear hba9 hg9)
      go_roundw
      case rel =>
        refine ⟨t + 1, by omega, by go_num, by rw [HD.out], m ++ [y % 2], ho9, by rw [List.length_append, HML.out]; simp, HBS.out.append _ HY.out, HB9.out⟩
      case measure => simp [intOf]; omega
    · have HT32 := hide (show t = 32 by omega)
      have HN := hide hN
      clear hN
      obtain ⟨g, cap, rfl, hg1, hg2, hcap⟩ := HO.out.form (by intro e; have := HML.out; rw [e] at this; simp at this; omega)
      have e32 : m.length = 32 := by rw [HML.out]; exact HT32.out
      have HM32 := hide e32
      generalize (N : Int) / 2 ^ t = y2
      have ho32 := HO.out
      rw [e32] at ho32 hcap ⊢
      have HO32 := hide ho32
      clear ho32 e32 HO hg1 hg2
      go_wp2_with fail
      obtain ⟨W2, hW2⟩ : ∃ W2, W2 = wr := ⟨_, rfl⟩
      subst hW2
      go_loopw [4, 5] (fun v i wr2 => ∃ t : Nat, t ≤ 32 ∧ i = .int .i64 t ∧ ∃ m2 : List Int, OwnI wr2 W2.heap.size v m2 ∧ m2.length = t ∧ (∀ j, j < t → m2.getD j 0 = bt (N.testBit (31 - j))) ∧ Below W2.heap.size W2 wr2) (fun _ i _ => 32 - (intOf i).toNat)
      case atStart => exact ⟨0, by omega, rfl, [], OwnI.nil _ _, rfl, fun j hj => by omega, Below.refl _ _⟩
      case round =>
        obtain ⟨t, ht, rfl, m2, ho2, hml2, hbs2, hbel2⟩ := hrel
        have HO2 := hide ho2
        have HML2 := hide hml2
        have HBS2 := hide hbs2
        have HBel2 := hide hbel2
        clear ho2 hml2 hbs2 hbel2
        by_cases ht9 : t < 32
        · have hcell := (HO32.out.below HBel2.out).cell HM32.out.symm (31 - t) (by omega)
          have HX := hide (HBS.out (31 - t) (by rw [HM32.out]; omega))
          generalize m.getD (31 - t) 0 = y at *
          go_wp2_with (at_builtin; refine wpList_append_int rfl _ _ 49 rfl Try.underlying49 info3 W2.heap.size _ m2 rfl _ _ y wr rfl rfl HO2.out rfl (by rw [HML2.out]; omega) (by exact HBel2.out.size) ?_; intro v9 w9 ho9 hba9 hg9; have HB9 := hide ((HO2.out.alloc _).behind (HBel2.out.alloc HBel2.out.size _) hg9 (by have := HBel2.out.size; simp; omega)); clear hba9 hg9)
          go_roundw
          case rel =>
            refine ⟨t + 1, by omega, by go_num, m2 ++ [y], ho9, by rw [List.length_append, HML2.out]; simp, fun j hj => ?_, HB9.out⟩
            rcases Nat.lt_or_ge j t with h | h
            · rw [List.getD_eq_getElem?_getD, List.getElem?_append_left (by rw [HML2.out]; exact h), ← List.getD_eq_getElem?_getD]
              exact HBS2.out j h
            · obtain rfl : j = t := by omega
              rw [← HX.out, List.getD_eq_getElem?_getD, List.getElem?_append_right (by rw [HML2.out]; omega), HML2.out]
              simp
          case measure => simp [intOf]; omega
        · obtain rfl : t = 32 := by omega
          go_wp2_with fail
          go_ret
          exact ⟨_, m2, rfl, HO2.out.mono HBel.out.size, HML2.out, HBS2.out, HBel.out.trans (HBel2.out.mono HBel.out.size)⟩
end Go.Proofs.Ytmfnpifjinbaeab.Oct
