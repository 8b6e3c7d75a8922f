/- What the calls More and Sum of the program and Fast of the reference answer. -/
import Derived.Test.YtpbnjobjjnhplaaDoorPCrc
import Derived.Test.YtpbnjobjjnhplaaDoorPOpenPts
import Derived.Lib.SlBytesConst
namespace Go.Proofs.YtpbnjobjjnhplaaDoor.Oct
open Go.RowKit

theorem xor_ones (s : Nat) (h : s < 4294967296) : 4294967295 ^^^ s = 4294967295 - s := by
  have e1 : (BitVec.allOnes 32 ^^^ BitVec.ofNat 32 s).toNat = (~~~ (BitVec.ofNat 32 s)).toNat := by rw [BitVec.not_def]
  rw [BitVec.toNat_xor, BitVec.toNat_not, BitVec.toNat_allOnes, BitVec.toNat_ofNat, Nat.mod_eq_of_lt (by omega)] at e1
  simpa using e1

theorem not_u32 (s : Nat) (h : s < 4294967296) : bits .xor .u32 IntKind.u32.max (s : Int) = ((4294967295 - s : Nat) : Int) := by
  have e : IntKind.u32.max = ((4294967295 : Nat) : Int) := by decide
  rw [e, u32_xor_nat 4294967295 s (by omega) h, xor_ones s h]

theorem half_u32 (t : Nat) (h : t < 4294967296) : bits .xor .u32 ((t : Int) / 2) (bits .and .u32 (t : Int) 1 * 3988292384 % 4294967296) = (half t : Int) := by
  have e1 : bits .and .u32 (t : Int) 1 = ((t % 2 : Nat) : Int) := by
    rw [show (1 : Int) = ((1 : Nat) : Int) from rfl, u32_and_nat t 1 h (by omega), nat_mask1]
  rw [e1]
  unfold half
  by_cases h2 : t % 2 = 1
  · rw [if_pos h2, h2]
    have e2 : (((1 : Nat) : Int) * 3988292384 % 4294967296) = ((3988292384 : Nat) : Int) := by decide
    rw [e2, show ((t : Int) / 2) = ((t / 2 : Nat) : Int) from by omega, u32_xor_nat (t / 2) _ (by omega) (by omega)]
  · have h3 : t % 2 = 0 := by omega
    rw [if_neg h2, h3]
    have e2 : (((0 : Nat) : Int) * 3988292384 % 4294967296) = ((0 : Nat) : Int) := by decide
    rw [e2, show ((t : Int) / 2) = ((t / 2 : Nat) : Int) from by omega, u32_xor_nat (t / 2) _ (by omega) (by omega), Nat.xor_zero]

theorem xor_u32 (s : Nat) (x : Int) (h : s < 4294967296) (hx : 0 ≤ x ∧ x < 256) : bits .xor .u32 (s : Int) x = ((s ^^^ x.toNat : Nat) : Int) := by
  obtain ⟨x, rfl⟩ := Int.eq_ofNat_of_zero_le hx.1
  rw [u32_xor_nat s x h (by omega), Int.toNat_natCast]

theorem runC_step (s : Nat) (l : List Int) (k : Nat) (hk : k < l.length) : runC s (l.take (k + 1)) = halves 8 (runC s (l.take k) ^^^ (l.getD k 0).toNat) := by
  unfold runC
  rw [List.take_succ_eq_append_getElem hk, List.foldl_append, List.getD_eq_getElem?_getD, List.getElem?_eq_getElem hk]
  rfl

theorem moreC_def (sum : Nat) (l : List Int) : (moreC sum l : Int) = ((4294967295 - runC (4294967295 - sum) l : Nat) : Int) := rfl

theorem ret_int {k : IntKind} {a b : Int} (h : a = b) : Ending.returned (.int k a) = .returned (.int k b) := by rw [h]

set_option maxHeartbeats 1000000 in
theorem More_some (b off cap : Nat) (l : List Int) (sum : Nat) (w : World) (hlen : l.length ≤ maxLen) (hb : Byts l) (hs : sum < 4294967296)
    (hc : ∀ k, k < l.length → w.cell? ⟨b, off + k, none⟩ = some (.int .u8 (l.getD k 0))) :
    Calls Tryd.prog 82 #[.int .u32 sum, .slice (some ⟨b, off, none⟩) l.length cap] w fun e w' => e = .returned (.int .u32 (moreC sum l)) ∧ w' = w := by
  unfold maxLen at hlen
  have HC := hide hc
  have HBY := hide hb
  clear hc hb
  go_enter Tryd.func82, Tryd.ntmps82
  go_wp2_with fail
  go_loop [5, 13] (fun s i => ∃ k : Nat, k ≤ l.length ∧ i = .int .i64 k ∧ s = .int .u32 (runC (4294967295 - sum) (l.take k))) (fun _ i => l.length - (intOf i).toNat)
  case atStart => exact ⟨0, by omega, rfl, by rw [not_u32 sum hs]; rfl⟩
  case round =>
    obtain ⟨k, hk, rfl, rfl⟩ := hrel
    have HR := hide (runC_lt (l.take k) (HBY.out.take k) (4294967295 - sum) (by omega))
    by_cases hlt : k < l.length
    · have hcell := HC.out k hlt
      have hx0 := HBY.out k
      have HST := hide (runC_step (4294967295 - sum) l k hlt)
      generalize hx : l.getD k 0 = x at *
      generalize hS : runC (4294967295 - sum) (l.take k) = S at *
      have HX := hide hx
      have HS := hide hS
      clear hx hS
      have HSX : Hid (S ^^^ x.toNat < 4294967296) := Nat.xor_lt_two_pow (n := 32) HR.out (by omega)
      have HXU := hide (xor_u32 S x HR.out hx0)
      go_wp2_with fail
      go_loop [5, 21] (fun s i => ∃ j : Nat, j ≤ 8 ∧ i = .int .i64 j ∧ s = .int .u32 (halves j (S ^^^ x.toNat))) (fun _ i => 8 - (intOf i).toNat)
      case atStart => exact ⟨0, by omega, rfl, by rw [HXU.out]; rfl⟩
      case round =>
        obtain ⟨j, hj, rfl, rfl⟩ := hrel
        by_cases hlt8 : j < 8
        · have HT := hide (halves_lt HSX.out j)
          have HN : Hid (halves (j + 1) (S ^^^ x.toNat) = half (halves j (S ^^^ x.toNat))) := rfl
          generalize halves j (S ^^^ x.toNat) = t at *
          go_wp2_with fail
          go_round
          case rel => exact ⟨j + 1, by omega, by go_num, by rw [half_u32 t HT.out, HN.out]⟩
          case measure => simp [intOf]; omega
        · obtain rfl : j = 8 := by omega
          go_wp2_with fail
          go_round
          case rel => exact ⟨k + 1, by omega, by go_num, by rw [HST.out]⟩
          case measure => simp [intOf]; omega
    · obtain rfl : k = l.length := by omega
      go_wp2_with fail
      go_ret
      refine ⟨ret_int ?_, rfl⟩
      have h := HR.out
      rw [List.take_of_length_le (Nat.le_refl _)] at h
      rw [not_u32 _ h, moreC_def]

set_option maxHeartbeats 400000 in
theorem More_empty (a : Option Addr) (cap : Nat) (sum : Nat) (w : World) (hs : sum < 4294967296) :
    Calls Tryd.prog 82 #[.int .u32 sum, .slice a 0 cap] w fun e w' => e = .returned (.int .u32 (moreC sum [])) ∧ w' = w := by
  go_enter Tryd.func82, Tryd.ntmps82
  go_wp2_with fail
  refine wp_loop_rounds 1 ?_
  rw [rounds_succ]
  go_wp2_with fail
  go_ret
  refine ⟨ret_int ?_, rfl⟩
  rw [not_u32 sum hs, not_u32 _ (by omega)]
  rfl

theorem More_any (a : Option Addr) (cap : Nat) (l : List Int) (sum : Nat) (w : World) (hlen : l.length ≤ maxLen) (hb : Byts l) (hs : sum < 4294967296) (hl : Lies w a l) :
    Calls Tryd.prog 82 #[.int .u32 sum, .slice a l.length cap] w fun e w' => e = .returned (.int .u32 (moreC sum l)) ∧ w' = w := by
  rcases hl with rfl | ⟨b, off, rfl, _, hc⟩
  · exact More_empty a cap sum w hs
  · exact More_some b off cap l sum w hlen hb hs hc

theorem moreC_nil : moreC 0 [] = 0 := by simp [moreC, runC]

/-- The sum of parts. -/
theorem flatC (Ls : List (List Int)) (hb : Bytss Ls) (k : Nat) (hk : k < Ls.length) : moreC (moreC 0 (Ls.take k).flatten) (Ls.getD k []) = moreC 0 (Ls.take (k + 1)).flatten := by
  rw [moreC_append 0 _ _ (by omega) (Byts.flat hb k (by omega)), flat_step Ls k hk]

set_option maxHeartbeats 1000000 in
theorem Sum_any (a : Option Addr) (cap : Nat) (Ls : List (List Int)) (w : World) (hn : Ls.length ≤ maxLen) (hsm : ∀ r, (Ls.getD r []).length ≤ maxLen) (hb : Bytss Ls) (hp : Pts w a Ls) :
    Calls Tryd.prog 70 #[.slice a Ls.length cap] w fun e w' => e = .returned (.int .u32 (moreC 0 Ls.flatten)) ∧ w' = w := by
  unfold maxLen at hn
  have HP := hide hp
  have HBs := hide hb
  have HSM := hide hsm
  clear hp hb hsm
  go_enter Tryd.func70, Tryd.ntmps70
  go_wp2_with fail
  go_loop [3, 8] (fun s i => ∃ k : Nat, k ≤ Ls.length ∧ i = .int .i64 k ∧ s = .int .u32 (moreC 0 (Ls.take k).flatten)) (fun _ i => Ls.length - (intOf i).toNat)
  case atStart => exact ⟨0, by omega, rfl, by rw [List.take_zero, List.flatten_nil, moreC_nil]; rfl⟩
  case round =>
    obtain ⟨k, hk, rfl, rfl⟩ := hrel
    by_cases hlt : k < Ls.length
    · rcases HP.out with hE | ⟨b, off, rfl, hblt, hc⟩
      · rw [hE] at hlt
        simp at hlt
      obtain ⟨ar, cr, hcell, hsl0⟩ := hc k hlt
      have HSL := hide hsl0.lies
      have HST := hide (flatC Ls HBs.out k hlt)
      have HB := hide (HBs.out k)
      have HQ := hide (HSM.out k)
      clear hc hsl0
      generalize Ls.getD k [] = q at *
      generalize hS : moreC 0 (Ls.take k).flatten = S at *
      have HS : Hid (S < 4294967296) := by rw [← hS]; exact moreC_lt _ _
      clear hS
      go_wp2_with (go_at_call 82; refine (More_any ar cr q S _ HQ.out HB.out HS.out HSL.out).mono ?_; rintro e w' ⟨rfl, rfl⟩)
      go_round
      case rel => exact ⟨k + 1, by omega, by go_num, by rw [HST.out]⟩
      case measure => simp [intOf]; omega
    · obtain rfl : k = Ls.length := by omega
      rw [flat_all]
      go_wp2_with fail
      go_ret
      exact ⟨rfl, rfl⟩

/-- The sum of one text. -/
theorem Sum_one (a : Option Addr) (n cap : Nat) (l : List Int) (w : World) (H : Nat) (hH : w.heap.size = H) (hnl : n = l.length) (hlen : l.length ≤ maxLen) (hb : Byts l) (hs : Sl w a cap l) :
    Calls Tryd.prog 70 #[.slice (some ⟨H, 0, none⟩) 1 1] (w.alloc (.cells #[.slice a n cap] 31)) fun e w' =>
      e = .returned (.int .u32 (moreC 0 l)) ∧ w' = (w.alloc (.cells #[.slice a n cap] 31)) := by
  subst hH hnl
  have := Sum_any (some ⟨w.heap.size, 0, none⟩) 1 [l] (w.alloc (.cells #[.slice a l.length cap] 31)) (by unfold maxLen; simp) (fun r => by
    match r with
    | 0 => simpa using hlen
    | r + 1 => simp) (fun r => by
    match r with
    | 0 => simpa using hb
    | r + 1 => intro k; simp) (Or.inr ⟨w.heap.size, 0, rfl, by simp, fun r hr => by
      have : r = 0 := by simpa using hr
      subst this
      exact ⟨a, cap, by simp, by simpa using hs.below ((Below.refl _ _).alloc (Nat.le_refl _) _)⟩⟩)
  simpa using this

/-- The same, the new block left aside. -/
theorem Sum_one' (a : Option Addr) (n cap : Nat) (l : List Int) (w : World) (H : Nat) (hH : w.heap.size = H) (hnl : n = l.length) (hlen : l.length ≤ maxLen) (hb : Byts l) (hs : Sl w a cap l) :
    Calls Tryd.prog 70 #[.slice (some ⟨H, 0, none⟩) 1 1] (w.alloc (.cells #[.slice a n cap] 31)) fun e w' =>
      e = .returned (.int .u32 (moreC 0 l)) ∧ Below w.heap.size w w' := by
  refine (Sum_one a n cap l w H hH hnl hlen hb hs).mono ?_
  rintro e w' ⟨rfl, rfl⟩
  exact ⟨rfl, (Below.refl _ _).alloc (Nat.le_refl _) _⟩

theorem known_sum : moreC 0 [49, 50, 51, 52, 53, 54, 55, 56, 57] = 3421780262 := by decide +kernel

theorem lies_marked (w : World) (cs : List Int) (fr : Nat × Nat) : Lies (w.alloc (.cells (cs.map (Value.int .u8)).toArray 5 fr)) (some ⟨w.heap.size, 0, none⟩) cs := by
  refine Lies.mk fun k hk => ?_
  have h := heap_alloc_new w (.cells (cs.map (Value.int .u8)).toArray 5 fr)
  unfold World.cell?
  simp only [h]
  simp [hk]

theorem byts9 : Byts [49, 50, 51, 52, 53, 54, 55, 56, 57] := by
  intro k
  match k with
  | 0 => simp
  | 1 => simp
  | 2 => simp
  | 3 => simp
  | 4 => simp
  | 5 => simp
  | 6 => simp
  | 7 => simp
  | 8 => simp
  | k + 9 => simp

theorem fast_odd (t : Nat) (h : t < 4294967296) (h2 : t % 2 = 1) : bits .xor .u32 ((t : Int) / 2) 3988292384 = (half t : Int) := by
  unfold half
  rw [if_pos h2, show ((t : Int) / 2) = ((t / 2 : Nat) : Int) from by omega, show (3988292384 : Int) = ((3988292384 : Nat) : Int) from rfl, u32_xor_nat (t / 2) _ (by omega) (by omega)]

theorem fast_even (t : Nat) (h2 : ¬ t % 2 = 1) : ((t : Int) / 2) = (half t : Int) := by
  unfold half
  rw [if_neg h2]
  omega

set_option maxHeartbeats 1000000 in
theorem Fast_some (b off cap : Nat) (l : List Int) (w : World) (hlen : l.length ≤ maxLen) (hb : Byts l)
    (hc : ∀ k, k < l.length → w.cell? ⟨b, off + k, none⟩ = some (.int .u8 (l.getD k 0))) :
    Calls Tryd.prog 59 #[.slice (some ⟨b, off, none⟩) l.length cap] w fun e w' => e = .returned (.int .u32 (moreC 0 l)) ∧ w' = w := by
  unfold maxLen at hlen
  have HC := hide hc
  have HBY := hide hb
  clear hc hb
  go_enter Tryd.func59, Tryd.ntmps59
  go_wp2_with fail
  go_loop [3, 4] (fun s i => ∃ k : Nat, k ≤ l.length ∧ i = .int .i64 k ∧ s = .int .u32 (runC 4294967295 (l.take k))) (fun _ i => l.length - (intOf i).toNat)
  case atStart => exact ⟨0, by omega, rfl, rfl⟩
  case round =>
    obtain ⟨k, hk, rfl, rfl⟩ := hrel
    have HR := hide (runC_lt (l.take k) (HBY.out.take k) 4294967295 (by omega))
    by_cases hlt : k < l.length
    · have hcell := HC.out k hlt
      have hx0 := HBY.out k
      have HST := hide (runC_step 4294967295 l k hlt)
      generalize hx : l.getD k 0 = x at *
      generalize hS : runC 4294967295 (l.take k) = S at *
      have HX := hide hx
      have HS := hide hS
      clear hx hS
      have HSX : Hid (S ^^^ x.toNat < 4294967296) := Nat.xor_lt_two_pow (n := 32) HR.out (by omega)
      have HXU := hide (xor_u32 S x HR.out hx0)
      go_wp2_with fail
      go_loop [3, 5] (fun s i => ∃ j : Nat, j ≤ 8 ∧ i = .int .i64 j ∧ s = .int .u32 (halves j (S ^^^ x.toNat))) (fun _ i => 8 - (intOf i).toNat)
      case atStart => exact ⟨0, by omega, rfl, by rw [HXU.out]; rfl⟩
      case round =>
        obtain ⟨j, hj, rfl, rfl⟩ := hrel
        by_cases hlt8 : j < 8
        · have ht := halves_lt HSX.out j
          have HT := hide ht
          have HN : Hid (halves (j + 1) (S ^^^ x.toNat) = half (halves j (S ^^^ x.toNat))) := rfl
          generalize halves j (S ^^^ x.toNat) = t at *
          by_cases hodd : t % 2 = 1
          · have HD := hide hodd
            have hbo : (((t : Int) % 2) == 1) = true := by rw [beq_iff_eq]; omega
            clear hodd
            go_wp2_with fail
            go_round
            case rel => exact ⟨j + 1, by omega, by go_num, by rw [fast_odd t HT.out HD.out, HN.out]⟩
            case measure => simp [intOf]; omega
          · have HD := hide hodd
            have hbo : (((t : Int) % 2) == 1) = false := by rw [beq_eq_false_iff_ne]; omega
            clear hodd
            go_wp2_with fail
            go_round
            case rel => exact ⟨j + 1, by omega, by go_num, by rw [fast_even t HD.out, HN.out]⟩
            case measure => simp [intOf]; omega
        · obtain rfl : j = 8 := by omega
          go_wp2_with fail
          go_round
          case rel => exact ⟨k + 1, by omega, by go_num, by rw [HST.out]⟩
          case measure => simp [intOf]; omega
    · obtain rfl : k = l.length := by omega
      have h := HR.out
      rw [List.take_of_length_le (Nat.le_refl _)] at *
      have HE : Hid ((moreC 0 l : Int) = 4294967295 - (runC 4294967295 l : Int)) := by
        show _ = _
        rw [moreC_def]
        show ((4294967295 - runC 4294967295 l : Nat) : Int) = _
        omega
      generalize runC 4294967295 l = t at *
      go_wp2_with fail
      go_ret
      exact ⟨ret_int (by rw [HE.out]), rfl⟩

set_option maxHeartbeats 400000 in
theorem Fast_empty (a : Option Addr) (cap : Nat) (w : World) :
    Calls Tryd.prog 59 #[.slice a 0 cap] w fun e w' => e = .returned (.int .u32 (moreC 0 [])) ∧ w' = w := by
  rw [moreC_nil]
  go_enter Tryd.func59, Tryd.ntmps59
  go_wp2_with fail
  refine wp_loop_rounds 1 ?_
  rw [rounds_succ]
  go_wp2_with fail
  go_ret
  exact ⟨rfl, rfl⟩

theorem Fast_any (a : Option Addr) (cap : Nat) (l : List Int) (w : World) (hlen : l.length ≤ maxLen) (hb : Byts l) (hl : Lies w a l) :
    Calls Tryd.prog 59 #[.slice a l.length cap] w fun e w' => e = .returned (.int .u32 (moreC 0 l)) ∧ w' = w := by
  rcases hl with rfl | ⟨b, off, rfl, _, hc⟩
  · exact Fast_empty a cap w
  · exact Fast_some b off cap l w hlen hb hc
end Go.Proofs.YtpbnjobjjnhplaaDoor.Oct
