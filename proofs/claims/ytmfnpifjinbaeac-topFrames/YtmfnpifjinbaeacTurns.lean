/- For all texts, places and bits the statement CrcTurns answers true and changes nothing that was there: bits that are turned within a row of 32 turn the sum, surely. No condition. -/
import Derived.Test.YtmfnpifjinbaeacRows
import Derived.Test.YtmfnpifjinbaeacMore
import Derived.Test.YtmfnpifjinbaeacLst
namespace Go.Proofs.Ytmfnpifjinbaeac.Oct
open Go.RowKit Go.ChangeShapes Go.WideShapes Go.ChangeAt

theorem le_set : ∀ (m : List Int) (j : Nat) (d : Nat), Byts m → j < m.length → d < 256 → le (m.set j (((m.getD j 0).toNat ^^^ d : Nat) : Int)) = le m ^^^ (d * 2 ^ (8 * j))
  | [], _, _, _, h, _ => by simp at h
  | x :: r, 0, d, hb, _, hd => by
    have hx := hb.cons.1
    have h1 : x.toNat ^^^ d < 256 := Nat.xor_lt_two_pow (n := 8) (by omega) (by omega)
    have e : (x :: r).set 0 ((((x :: r).getD 0 0).toNat ^^^ d : Nat) : Int) = ((x.toNat ^^^ d : Nat) : Int) :: r := rfl
    rw [e, le_cons (by omega), le_cons hx, Int.toNat_natCast, Nat.mul_zero, Nat.pow_zero, Nat.mul_one]
    ac_rfl
  | x :: r, j + 1, d, hb, h, hd => by
    have e : (x :: r).set (j + 1) ((((x :: r).getD (j + 1) 0).toNat ^^^ d : Nat) : Int) = x :: r.set j (((r.getD j 0).toNat ^^^ d : Nat) : Int) := by simp
    rw [e, le_cons hb.cons.1, le_cons hb.cons.1, le_set r j d hb.cons.2 (by simpa using h) hd, ← xor_mul, Nat.mul_assoc, ← Nat.pow_add, show 8 * j + 8 = 8 * (j + 1) from by omega]
    ac_rfl

theorem pow_split (n : Nat) : 2 ^ (n % 8) * 2 ^ (8 * (n / 8)) = 2 ^ n := by
  rw [← Nat.pow_add]
  congr 1
  omega

theorem bit_step (b k at_ : Nat) (h : b / 2 ^ k % 2 = 1) : (b % 2 ^ (k + 1)) * 2 ^ at_ = (b % 2 ^ k * 2 ^ at_) ^^^ 2 ^ (at_ + k) := by
  have e1 : b % 2 ^ (k + 1) = b % 2 ^ k + 2 ^ k * 1 := by
    rw [Nat.pow_succ, Nat.mod_mul, h]
  rw [e1, add_xor (b % 2 ^ k) 1 k (Nat.mod_lt _ (Nat.two_pow_pos _)), ← xor_mul, Nat.one_mul, ← Nat.pow_add, Nat.add_comm k]

theorem bit_skip (b k at_ : Nat) (h : ¬ b / 2 ^ k % 2 = 1) : (b % 2 ^ (k + 1)) * 2 ^ at_ = b % 2 ^ k * 2 ^ at_ := by
  have h0 : b / 2 ^ k % 2 = 0 := by omega
  rw [Nat.pow_succ, Nat.mod_mul, h0, Nat.mul_zero, Nat.add_zero]

/-- A row of turned bits turns the sum. -/
theorem turned (l c : List Int) (hl : Byts l) (hc : Byts c) (hn : c.length = l.length) (b at_ : Nat) (hb : b < 4294967296) (h0 : b ≠ 0) (hat : at_ ≤ 8 * l.length) (h : le c = le l ^^^ (b * 2 ^ at_)) : moreC 0 c ≠ moreC 0 l := by
  intro e
  have l1 := runC_lt l hl 4294967295 (by omega)
  have l2 := runC_lt c hc 4294967295 (by omega)
  unfold moreC at e
  simp only [Nat.sub_zero] at e
  have e2 : runC 4294967295 c = runC 4294967295 l := by omega
  rw [runC_eq c hc, runC_eq l hl, hn, h, ← Nat.xor_assoc, halves_xor] at e2
  have e3 : halves (8 * l.length) (b * 2 ^ at_) = 0 := by
    have := congrArg (fun t => halves (8 * l.length) (4294967295 ^^^ le l) ^^^ t) e2
    simp only [← Nat.xor_assoc, Nat.xor_self, Nat.zero_xor] at this
    exact this
  rw [show 8 * l.length = (8 * l.length - at_) + at_ from by omega, halves_add, halves_pow] at e3
  exact h0 (halves_zero hb _ e3)

theorem turns_at (p : Int) (n : Nat) (hn : n ≤ 1000000) (h0 : 0 < n) : ∃ q : Nat, wrap64 ((IntKind.u64.wrap p).tmod (n : Int)) = q ∧ q < n := by
  have h0' : 0 ≤ IntKind.u64.wrap p := by rw [IntKind.wrap_u64]; omega
  have e : (IntKind.u64.wrap p).tmod (n : Int) = (IntKind.u64.wrap p) % (n : Int) := Int.tmod_eq_emod_of_nonneg h0'
  have h1 : 0 ≤ (IntKind.u64.wrap p) % (n : Int) := Int.emod_nonneg _ (by omega)
  have h2 : (IntKind.u64.wrap p) % (n : Int) < (n : Int) := Int.emod_lt_of_pos _ (by omega)
  rw [e]
  obtain ⟨q, hq⟩ := Int.eq_ofNat_of_zero_le h1
  rw [hq] at h2 ⊢
  refine ⟨q, ?_, by omega⟩
  simp only [wrap64]
  omega

theorem turns_at8 (p : Int) (n : Nat) (h5 : 5 ≤ n) (hn : n ≤ 400) : ∃ q : Nat, wrap64 ((IntKind.u64.wrap p).tmod (8 * (n : Int) - 32)) = q ∧ q + 32 < 8 * n := by
  obtain ⟨q, h1, h2⟩ := turns_at p (8 * n - 32) (by omega) (by omega)
  rw [show ((8 * n - 32 : Nat) : Int) = 8 * (n : Int) - 32 from by omega] at h1
  exact ⟨q, h1, by omega⟩

theorem bit_test (b k : Nat) (hb : b < 4294967296) : bits .and .u32 ((b : Int) / 2 ^ k) 1 = ((b / 2 ^ k % 2 : Nat) : Int) := by
  have e : ((b : Int) / 2 ^ k) = ((b / 2 ^ k : Nat) : Int) := by
    rw [Int.natCast_ediv]
    simp
  have hlt : b / 2 ^ k < 4294967296 := Nat.lt_of_le_of_lt (Nat.div_le_self _ _) hb
  rw [e, show (1 : Int) = ((1 : Nat) : Int) from rfl, u32_and_nat _ 1 hlt (by omega), nat_mask1]

theorem turn_val (x : Int) (j : Nat) (hx : 0 ≤ x ∧ x < 256) (hj : j < 8) : bits .xor .u8 x (2 ^ j % 256) = ((x.toNat ^^^ 2 ^ j : Nat) : Int) := by
  have h2 : (2 : Nat) ^ j < 256 := Nat.pow_lt_pow_right (a := 2) (m := j) (n := 8) (by omega) hj
  have e : ((2 : Int) ^ j % 256) = ((2 ^ j : Nat) : Int) := by
    rw [show (2 : Int) ^ j = ((2 ^ j : Nat) : Int) from by simp]
    generalize (2 : Nat) ^ j = t at h2 ⊢
    omega
  obtain ⟨x, rfl⟩ := Int.eq_ofNat_of_zero_le hx.1
  rw [e, u8_xor_nat x _ (by omega) h2, Int.toNat_natCast]

/-- One bit turned. -/
theorem turn_one (m : List Int) (l0 b q k : Nat) (hm : Byts m) (hj : (q + k) / 8 < m.length) (x : Int) (hX : m.getD ((q + k) / 8) 0 = x) (hle : le m = l0 ^^^ (b % 2 ^ k * 2 ^ q)) (hb : b / 2 ^ k % 2 = 1) :
    le (m.set ((q + k) / 8) (bits .xor .u8 x (2 ^ ((q + k) % 8) % 256))) = l0 ^^^ (b % 2 ^ (k + 1) * 2 ^ q) ∧ Byts (m.set ((q + k) / 8) (bits .xor .u8 x (2 ^ ((q + k) % 8) % 256))) := by
  have hx := hm ((q + k) / 8)
  rw [hX] at hx
  have h2 : (2 : Nat) ^ ((q + k) % 8) < 256 := Nat.pow_lt_pow_right (a := 2) (n := 8) (by omega) (by omega)
  have hlt : x.toNat ^^^ 2 ^ ((q + k) % 8) < 256 := Nat.xor_lt_two_pow (n := 8) (by omega) h2
  rw [turn_val x _ hx (by omega)]
  constructor
  · have := le_set m ((q + k) / 8) (2 ^ ((q + k) % 8)) hm hj h2
    rw [hX] at this
    rw [this, hle, pow_split, bit_step b k q hb, Nat.xor_assoc]
  · exact hm.set _ _ (by omega)

theorem ret_bool {a : Bool} (h : a = true) : Ending.returned (.bool a) = .returned (.bool true) := by rw [h]

set_option maxHeartbeats 4000000 in
theorem turns_walk (a : Option Addr) (cap : Nat) (l : List Int) (p : Int) (bts : Nat) (w : World) (hn : l.length ≤ maxLen) (hb : Byts l) (hs : Sl w a cap l) (hbt : bts < 4294967296) :
    Calls Try.prog 3 #[.slice a l.length cap, .int .i64 p, .int .u32 bts] w fun e w' => e = .returned (.bool true) ∧ Below w.heap.size w w' := by
  have HS := hide hs
  unfold maxLen at hn
  clear hs
  by_cases hbig : l.length < 5 ∨ 400 < l.length ∨ bts = 0
  · by_cases h1 : l.length < 5
    · go_enter Try.func3, Try.ntmps3
      go_wp2_with fail
      refine (known_any _).mono ?_
      rintro e w1 ⟨rfl, hb1⟩
      go_wp2_with fail
      refine (known_any _).mono ?_
      rintro e w2 ⟨rfl, hb2⟩
      go_wp2_with fail
      go_ret
      exact ⟨rfl, hb1.trans (hb2.mono hb1.size)⟩
    · by_cases h2 : 400 < l.length
      · go_enter Try.func3, Try.ntmps3
        go_wp2_with fail
        refine (known_any _).mono ?_
        rintro e w1 ⟨rfl, hb1⟩
        go_wp2_with fail
        refine (known_any _).mono ?_
        rintro e w2 ⟨rfl, hb2⟩
        go_wp2_with fail
        go_ret
        exact ⟨rfl, hb1.trans (hb2.mono hb1.size)⟩
      · obtain rfl : bts = 0 := by omega
        go_enter Try.func3, Try.ntmps3
        go_wp2_with fail
        refine (known_any _).mono ?_
        rintro e w1 ⟨rfl, hb1⟩
        go_wp2_with fail
        refine (known_any _).mono ?_
        rintro e w2 ⟨rfl, hb2⟩
        go_wp2_with fail
        go_ret
        exact ⟨rfl, hb1.trans (hb2.mono hb1.size)⟩
  · have h1 : ¬ l.length < 5 := by omega
    have h2 : ¬ 400 < l.length := by omega
    have h3 : ((bts : Int) == 0) = false := by rw [beq_eq_false_iff_ne]; omega
    have HB0 : Hid (bts ≠ 0) := by intro h; omega
    clear hbig
    go_enter Try.func3, Try.ntmps3
    go_wp2_with fail
    refine (known_any _).mono ?_
    rintro e w1 ⟨rfl, hb1⟩
    have HB1 := hide hb1
    clear hb1
    go_wp2_with fail
    refine (Part_any a cap l w1 (by omega) (HS.out.below HB1.out)).mono ?_
    rintro e w2 ⟨v2, rfl, ho2, hb2⟩
    have HB2 := hide (HB1.out.trans (hb2.mono HB1.out.size))
    have HO2 := hide (ho2.mono HB1.out.size)
    clear hb2 ho2
    go_wp2_with fail
    obtain ⟨q, hq, hq2⟩ := turns_at8 p l.length (by omega) (by omega)
    rw [hq]
    clear hq
    obtain ⟨a2, cap2, rfl, hsl2, hne2⟩ := HO2.out.sl
    obtain ⟨g, rfl, hg1, _⟩ := hne2 (by intro e; rw [e] at h1; simp at h1)
    clear hsl2 hne2
    go_loopw [8] (fun i wr => ∃ k : Nat, k ≤ 32 ∧ i = .int .i64 k ∧ ∃ m : List Int, m.length = l.length ∧ Byts m ∧ Own wr w.heap.size (.slice (some ⟨g, 0, none⟩) l.length cap2) m ∧ le m = le l ^^^ (bts % 2 ^ k * 2 ^ q) ∧ Below w.heap.size w wr) (fun i _ => 32 - (intOf i).toNat)
    case atStart => exact ⟨0, by omega, rfl, l, rfl, hb, HO2.out, by simp [Nat.mod_one], HB2.out⟩
    case round =>
      obtain ⟨k, hk, rfl, m, hml, hmb, ho, hle, hbel⟩ := hrel
      have HML := hide hml
      have HMB := hide hmb
      have HO := hide ho
      have HLE := hide hle
      have HBel := hide hbel
      have HG := hide hg1
      clear hml hmb ho hle hbel
      by_cases hlt : k < 32
      · have hcell := HO.out.cell HML.out.symm ((q + k) / 8) (by omega)
        have hfr := HO.out.free HML.out.symm ((q + k) / 8)
        have hx := HMB.out ((q + k) / 8)
        generalize hX : m.getD ((q + k) / 8) 0 = x at *
        have HX := hide hX
        clear hX
        by_cases hbit : bts / 2 ^ k % 2 = 1
        · have HBT := hide hbit
          have htest : (bits .and .u32 ((bts : Int) / 2 ^ k) 1 == 1) = true := by rw [bit_test bts k hbt, hbit]; rfl
          clear hbit
          go_wp2_with fail
          go_region
          go_wp2_with fail
          go_roundw
          case rel =>
            have ht := turn_one m (le l) bts q k HMB.out (by rw [HML.out]; omega) x HX.out HLE.out HBT.out
            have hst := HO.out.set HML.out.symm ((q + k) / 8) (bits .xor .u8 x (2 ^ ((q + k) % 8) % 256))
            exact ⟨k + 1, by omega, by go_num, _, by rw [List.length_set]; exact HML.out, ht.2, hst.1.drew, ht.1, (HBel.out.grown hst.2 HBel.out.size (by intro j hj; simp at hj; have := HG.out; omega)).drew⟩
          case measure => simp [intOf]; omega
        · have HBT := hide hbit
          have htest : (bits .and .u32 ((bts : Int) / 2 ^ k) 1 == 1) = false := by rw [bit_test bts k hbt, beq_eq_false_iff_ne]; omega
          clear hbit
          go_wp2_with fail
          go_roundw
          case rel => exact ⟨k + 1, by omega, by go_num, m, HML.out, HMB.out, HO.out, by rw [bit_skip _ _ _ HBT.out]; exact HLE.out, HBel.out⟩
          case measure => simp [intOf]; omega
      · obtain rfl : k = 32 := by omega
        have hbm : bts % 2 ^ 32 = bts := Nat.mod_eq_of_lt (by omega)
        have HNE : Hid (moreC 0 m ≠ moreC 0 l) := turned l m hb HMB.out HML.out bts q hbt HB0.out (by omega) (by have := HLE.out; rwa [hbm] at this)
        have hne : ((moreC 0 m : Int) != (moreC 0 l : Int)) = true := by
          rw [bne_iff_ne]
          intro e
          exact HNE.out (by omega)
        have HNE2 := hide hne
        clear hne hbm
        obtain ⟨a3, cap3, e3, hsl3, _⟩ := HO.out.sl
        have e4 : a3 = some ⟨g, 0, none⟩ ∧ cap3 = cap2 := by simp at e3; exact ⟨e3.1.symm, e3.2.2.symm⟩
        obtain ⟨rfl, rfl⟩ := e4
        have HSL := hide hsl3
        clear hsl3 e3
        go_wp2_with fail
        refine (Sum_one' _ _ _ m _ _ (by simp) HML.out.symm (by rw [HML.out]; unfold maxLen; omega) HMB.out HSL.out).mono ?_
        rintro e w3 ⟨rfl, hb3⟩
        have HB3 := hide (HBel.out.trans (hb3.mono HBel.out.size))
        clear hb3
        go_wp2_with fail
        refine (Sum_one' a _ cap l _ _ (by simp) rfl (by unfold maxLen; omega) hb (HS.out.below HB3.out)).mono ?_
        rintro e w4 ⟨rfl, hb4⟩
        have HB4 := hide (HB3.out.trans (hb4.mono HB3.out.size))
        clear hb4
        go_wp2_with fail
        go_ret
        exact ⟨ret_bool HNE2.out, HB4.out⟩

theorem u32_nat {x : Int} (h : 0 ≤ x ∧ x < 4294967296) : ∃ n : Nat, x = n ∧ n < 4294967296 := ⟨x.toNat, by omega, by omega⟩

theorem turns_any (a : Option Addr) (cap : Nat) (l : List Int) (p x : Int) (w : World) (hn : l.length ≤ maxLen) (hb : Byts l) (hs : Sl w a cap l) (hx : 0 ≤ x ∧ x < 4294967296) :
    Calls Try.prog 3 #[.slice a l.length cap, .int .i64 p, .int .u32 x] w fun e w' => e = .returned (.bool true) ∧ Below w.heap.size w w' := by
  obtain ⟨n, rfl, h⟩ := u32_nat hx
  exact turns_walk a cap l p n w hn hb hs h

set_option maxRecDepth 100000 in
theorem crcTurns_lifted (os : Os) (started : os.Started) (H : Type) (enc : TypeId × Value → H) :
    ReturnsInHanded {} Try.checked os 3 .any (Rows.crcTurnsSpec.pre6 enc Try.prog Try.f3 Rows.crcTurnsRow.domain false) (Rows.crcTurnsSpec.post enc Try.prog Try.f3 false true false false) := by
  refine returnsInHanded_of_change (C := Try.checked) own started (by kernel_rfl) Try.func3
    (ChangeSpec.witness6 (enc := enc) (C := Try.checked) false ⟨#[], #[.slice none 0 0, .int .i64 0, .int .u32 0], []⟩ 8 (by kernel_rfl) (by kernel_rfl) (by kernel_rfl) (by kernel_rfl)) ?_
  intro W base args ds gs before hval0 hW _ _
  have hval : ∀ (j : Nat) t v, Try.f3.params[j]? = some t → args[j]? = some v → Value.okWide Try.prog W .any base t v := hval0
  have hW' := hW
  obtain ⟨p, q, hA0, hV, rfl, hfz, hnd⟩ := hW
  have hA : DataW.TrodAll enc Try.prog W 0 (fun _ => true) true Try.f3.params.toList args.toList ds p := hA0
  rw [Try.params3] at hA hval
  obtain ⟨v0, vs0, d0, ds0, p0, q0, hargs0, rfl, rfl, h0, r0⟩ := trodAll_cons hA
  obtain ⟨v1, vs1, d1, ds1, p1, q1, hargs1, rfl, rfl, h1, r1⟩ := trodAll_cons r0
  obtain ⟨v2, vs2, d2, ds2, p2, q2, hargs2, rfl, rfl, h2, r2⟩ := trodAll_cons r1
  obtain ⟨rfl, rfl, rfl⟩ := trodAll_nil r2
  subst hargs2
  subst hargs1
  obtain rfl : args = #[v0, v1, v2] := by cases args; simp_all
  obtain ⟨rfl, rfl⟩ := trodVars_none hV
  simp only [List.append_nil] at hW'
  have hlt0 : ∀ x ∈ p0, x.block < W.heap.size := fun x hx => by simpa using hW'.lt x (by simp [hx])
  obtain ⟨a0, cap0, l0, rfl, hn0, hb0, hl0, hs0⟩ := open_bytes (hval 0 22 v0 rfl rfl) h0
  obtain ⟨x1, rfl, rfl, rfl, w1⟩ := open_int Try.underlying3 (hval 1 3 v1 rfl rfl) h1
  obtain ⟨x2, rfl, rfl, rfl, w2⟩ := open_int Try.underlying23 (hval 2 23 v2 rfl rfl) h2
  clear hA0
  refine (turns_any a0 cap0 l0 x1 x2 W hn0 hb0 hs0 (wf_u32 w2)).mono fun e W' ⟨he, hb⟩ => ?_
  subst he
  refine ⟨_, rfl, _, _, _, [], (p0 ++ ([] ++ ([] ++ []))), [], hW', ?_, ?_, rfl, hb.frame _, fun h => by cases h⟩
  · exact trodAll_cons_mk (shut_bool Try.underlying4 _) trodAll_mk0
  · exact trodAll_cons_mk (Below.trod laidOut (by kernel_rfl) (of_decide_eq_true (by kernel_rfl)) h0 hb hlt0) (trodAll_cons_mk (shut_int Try.underlying3 w1) (trodAll_cons_mk (shut_int Try.underlying23 w2) (trodAll_mk0)))

theorem crcTurns_holds : Rows.CrcTurnsSaid :=
  OpenClaim.holds_of_wide 3 Try.f3 rfl rfl rfl rfl rfl rfl rfl ⟨rfl, rfl, rfl, rfl, rfl⟩ rfl rfl rfl rfl rfl (by kernel_rfl) Try.func3 (by kernel_rfl)
    (of_decide_eq_true (by kernel_rfl)) (by unfold Func.isWrapper; first | (rw [if_pos (by decide +kernel)]; kernel_rfl) | (rw [if_neg (by decide +kernel)]; exact ⟨rfl, rfl⟩))
    (fun os started H enc _ => crcTurns_lifted os started H enc)
end Go.Proofs.Ytmfnpifjinbaeac.Oct
