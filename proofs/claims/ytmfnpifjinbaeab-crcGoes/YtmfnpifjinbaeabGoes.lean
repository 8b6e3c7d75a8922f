/- For all three texts the statement CrcGoes answers true and changes nothing that was there: the sums of three equally long texts, changed by one another, are the sum of the three changed by one another. No condition. -/
import Derived.Test.YtmfnpifjinbaeabRows
import Derived.Test.YtmfnpifjinbaeabMore
import Derived.Test.YtmfnpifjinbaeabLow
import Derived.Test.YtmfnpifjinbaeabApp
import Derived.Deep.RegionHeld3
namespace Go.Proofs.Ytmfnpifjinbaeab.Oct
open Go.RowKit Go.ChangeShapes Go.WideShapes Go.ChangeAt

theorem goes_eq (A B C X : Nat) (hA : A < 4294967296) (hB : B < 4294967296) (hC : C < 4294967296) (h : A ^^^ B ^^^ C = X) :
    (bits .xor .u32 (bits .xor .u32 (A : Int) (B : Int)) (C : Int) == (X : Int)) = true := by
  rw [u32_xor_nat A B hA hB, u32_xor_nat (A ^^^ B) C (Nat.xor_lt_two_pow (n := 32) hA hB) hC, h, beq_self_eq_true]

theorem sums_three (a b c : List Int) (hb : a.length = b.length) (hc : a.length = c.length) (ha : Byts a) (hb' : Byts b) (hc' : Byts c) :
    moreC 0 a ^^^ moreC 0 b ^^^ moreC 0 c = moreC 0 (xorL (xorL a b) c) := by
  have h := runC_three 4294967295 a b c hb hc ha hb' hc'
  have l1 := runC_lt a ha 4294967295 (by omega)
  have l2 := runC_lt b hb' 4294967295 (by omega)
  have l3 := runC_lt c hc' 4294967295 (by omega)
  have l4 := runC_lt _ ((ha.xorL hb').xorL hc') 4294967295 (by omega)
  unfold moreC
  simp only [Nat.sub_zero]
  rw [← xor_ones _ l1, ← xor_ones _ l2, ← xor_ones _ l3, ← xor_ones _ l4, ← h]
  generalize runC 4294967295 a = p
  generalize runC 4294967295 b = q
  generalize runC 4294967295 c = r
  rw [show 4294967295 ^^^ p ^^^ (4294967295 ^^^ q) ^^^ (4294967295 ^^^ r) = (4294967295 ^^^ 4294967295) ^^^ (4294967295 ^^^ (p ^^^ q ^^^ r)) from by ac_rfl, Nat.xor_self, Nat.zero_xor]

theorem ret_bool {a : Bool} (h : a = true) : Ending.returned (.bool a) = .returned (.bool true) := by rw [h]

theorem lies_one (w : World) (x : Int) : Lies (w.alloc (.cells #[.int .u8 x] 5)) (some ⟨w.heap.size, 0, none⟩) [x] := by
  refine Lies.mk fun k hk => ?_
  have : k = 0 := by simpa using hk
  subst this
  simp

theorem xor_u8 (x y z : Int) (hx : 0 ≤ x ∧ x < 256) (hy : 0 ≤ y ∧ y < 256) (hz : 0 ≤ z ∧ z < 256) :
    bits .xor .u8 (bits .xor .u8 x y) z = (((((x.toNat ^^^ y.toNat : Nat) : Int)).toNat ^^^ z.toNat : Nat) : Int) := by
  have h := xor_byte hx hy
  rw [u8_xor x y hx.1 hx.2 hy.1 hy.2, u8_xor _ z (by omega) (by omega) hz.1 hz.2]

theorem take_snoc (l : List Int) (k : Nat) (hk : k < l.length) : l.take (k + 1) = l.take k ++ [l.getD k 0] := by
  rw [List.take_succ_eq_append_getElem hk, List.getD_eq_getElem?_getD, List.getElem?_eq_getElem hk]
  rfl

set_option maxHeartbeats 4000000 in
theorem goes_walk (a : Option Addr) (cap : Nat) (l : List Int) (a' : Option Addr) (cap' : Nat) (l' : List Int) (a2 : Option Addr) (cap2 : Nat) (l2 : List Int) (w : World)
    (hn : l.length ≤ maxLen) (hn' : l'.length ≤ maxLen) (_hn2 : l2.length ≤ maxLen) (hb : Byts l) (hb' : Byts l') (hb2 : Byts l2) (hs : Sl w a cap l) (hs' : Sl w a' cap' l') (hs2 : Sl w a2 cap2 l2) :
    Calls Try.prog 8 #[.slice a l.length cap, .slice a' l'.length cap', .slice a2 l2.length cap2] w fun e w' => e = .returned (.bool true) ∧ Below w.heap.size w w' := by
  have HS := hide hs
  have HS' := hide hs'
  have HS2 := hide hs2
  unfold maxLen at hn hn' _hn2
  clear hs hs' hs2
  by_cases hbig : 400 < l.length ∨ l'.length < l.length ∨ l2.length < l.length
  · by_cases hb1 : 400 < l.length
    · go_enter Try.func8, Try.ntmps8
      go_wp2_with fail
      refine (known_any _).mono ?_
      rintro e w1 ⟨rfl, hb1⟩
      go_wp2_with fail
      refine (known_any _).mono ?_
      rintro e w2 ⟨rfl, hb2⟩
      go_wp2_with fail
      go_ret
      exact ⟨rfl, hb1.trans (hb2.mono hb1.size)⟩
    · by_cases hb3 : l'.length < l.length
      all_goals
        go_enter Try.func8, Try.ntmps8
        go_wp2_with fail
        refine (known_any _).mono ?_
        rintro e w1 ⟨rfl, hb1⟩
        go_wp2_with fail
        refine (known_any _).mono ?_
        rintro e w2 ⟨rfl, hb2⟩
        go_wp2_with fail
        go_ret
        exact ⟨rfl, hb1.trans (hb2.mono hb1.size)⟩
  · have h1 : ¬ 400 < l.length := by omega
    have h2 : ¬ l'.length < l.length := by omega
    have h3 : ¬ l2.length < l.length := by omega
    have hc1 := HS'.out.le
    have hc2 := HS2.out.le
    clear hbig
    go_enter Try.func8, Try.ntmps8
    go_wp2_with fail
    refine (known_any _).mono ?_
    rintro e w1 ⟨rfl, hb1⟩
    have HB1 := hide hb1
    clear hb1
    go_wp2_with fail
    go_region
    go_wp2_with fail
    obtain ⟨b, hbd⟩ : ∃ b, b = l'.take l.length := ⟨_, rfl⟩
    obtain ⟨c, hcd⟩ : ∃ c, c = l2.take l.length := ⟨_, rfl⟩
    have hlb : l.length = b.length := by rw [hbd]; simp; omega
    have hlc : l.length = c.length := by rw [hcd]; simp; omega
    have HBb : Hid (Byts b) := by rw [hbd]; exact hb'.take _
    have HBc : Hid (Byts c) := by rw [hcd]; exact hb2.take _
    have HXl : Hid ((xorL (xorL l b) c).length = l.length) := by show _ = _; rw [xorL_length _ _ (by rw [xorL_length l b hlb]; exact hlc), xorL_length l b hlb]
    have HXg : Hid (∀ k, k < l.length → (xorL (xorL l b) c).getD k 0 = (((((l.getD k 0).toNat ^^^ (l'.getD k 0).toNat : Nat) : Int).toNat ^^^ (l2.getD k 0).toNat : Nat) : Int)) := fun k hk => by
      have e1 : b.getD k 0 = l'.getD k 0 := by rw [hbd]; simp [hk]
      have e2 : c.getD k 0 = l2.getD k 0 := by rw [hcd]; simp [hk]
      rw [xorL_getD _ _ k (by rw [xorL_length l b hlb]; exact hlc) (by rw [xorL_length l b hlb]; exact hk), xorL_getD l b k hlb hk, e1, e2]
    have HE := hide (sums_three l b c hlb hlc hb HBb.out HBc.out)
    have HSb : Hid (Sl w a' cap' b) := ⟨by omega, HS'.out.max, HS'.out.none, by
      rw [hbd]
      rcases HS'.out.lies with h | ⟨b0, o0, rfl, _, _⟩
      · left; rw [h]; simp
      · have := HS'.out.lies.of_part 0 l.length; simpa using this⟩
    have HSc : Hid (Sl w a2 cap2 c) := ⟨by omega, HS2.out.max, HS2.out.none, by
      rw [hcd]
      rcases HS2.out.lies with h | ⟨b0, o0, rfl, _, _⟩
      · left; rw [h]; simp
      · have := HS2.out.lies.of_part 0 l.length; simpa using this⟩
    have HBY := hide (And.intro hb (And.intro hb' hb2))
    have HBX : Hid (Byts (xorL (xorL l b) c)) := (hb.xorL HBb.out).xorL HBc.out
    have HLB := hide hlb
    have HLC := hide hlc
    clear hlb hlc hbd hcd
    generalize hX : xorL (xorL l b) c = X at *
    clear hX hb' hb2
    go_loopw [7, 8] (fun v i wr => ∃ k : Nat, k ≤ l.length ∧ i = .int .i64 k ∧ Own wr w.heap.size v (X.take k) ∧ Below w.heap.size w wr) (fun _ i _ => l.length - (intOf i).toNat)
    case atStart => exact ⟨0, by omega, rfl, Own.nil _ _, HB1.out.drew⟩
    case round =>
      obtain ⟨k, hk, rfl, ho, hbel⟩ := hrel
      have HO := hide ho
      have HBel := hide hbel
      clear ho
      by_cases hlt : k < l.length
      · rcases HS.out.lies with h | ⟨ba, oa, rfl, hba, hca⟩
        · rw [h] at hlt; simp at hlt
        rcases HS'.out.lies with h | ⟨bb, ob, rfl, hbb, hcb⟩
        · have hz : l'.length = 0 := by rw [h]; rfl
          omega
        rcases HS2.out.lies with h | ⟨bc, oc, rfl, hbc, hcc⟩
        · have hz : l2.length = 0 := by rw [h]; rfl
          omega
        have fa := hca k hlt
        have fb := hcb k (by omega)
        have fc := hcc k (by omega)
        have ga := (hbel.cell (p := ⟨ba, oa + k, none⟩) hba).trans fa
        have gb := (hbel.cell (p := ⟨bb, ob + k, none⟩) hbb).trans fb
        have gc := (hbel.cell (p := ⟨bc, oc + k, none⟩) hbc).trans fc
        have hx := HBY.out.1 k
        have hy := HBY.out.2.1 k
        have hz := HBY.out.2.2 k
        have HXK := hide (HXg.out k hlt)
        have HST := hide (take_snoc X k (by rw [HXl.out]; exact hlt))
        have HXT : Hid ((X.take k).length = k) := by show _ = _; rw [List.length_take, HXl.out]; omega
        clear hca hcb hcc
        generalize l.getD k 0 = x at *
        generalize l'.getD k 0 = y at *
        generalize l2.getD k 0 = z at *
        have HV := hide (xor_u8 x y z hx hy hz)
        have FA := hide fa
        have FB := hide fb
        have FC := hide fc
        have hk0 : (0 : Int) ≤ (k : Int) := Int.natCast_nonneg _
        have hk1 : (k : Int) < (l.length : Int) := by omega
        clear fa fb fc hbel
        go_wp2_with fail
        go_region_held3 (fun w' => w'.cell? ⟨ba, oa + k, none⟩ = some (.int .u8 x) ∧ w'.cell? ⟨bb, ob + k, none⟩ = some (.int .u8 y) ∧ w'.cell? ⟨bc, oc + k, none⟩ = some (.int .u8 z))
          (first
            | go_keep
            | exact ⟨(HB9.out.cell (p := ⟨ba, oa + k, none⟩) hba).trans FA.out, (HB9.out.cell (p := ⟨bb, ob + k, none⟩) hbb).trans FB.out, (HB9.out.cell (p := ⟨bc, oc + k, none⟩) hbc).trans FC.out⟩)
          ((refine step_append_bytes (by rfl) _ _ 22 (by rfl) Try.underlying22 info5 w.heap.size _ (X.take k) (by rfl) (by exact (HO.out.alloc _).drew) _ _ _ [bits .xor .u8 (bits .xor .u8 x y) z] (by rfl) (by rfl) (by exact (lies_one _ _).drew) (by rw [HXT.out]; simp; omega) (by have := HBel.out.size; simp; omega) ?_; intro v9 w9 ho9 hg9; have HB9 := hide (Own.behind (HO.out.alloc _).drew (HBel.out.alloc HBel.out.size _).drew hg9 (by have := HBel.out.size; simp; omega))))
        clear hg9 ga gb gc
        go_wp2_with fail
        go_roundw
        case rel =>
          refine ⟨k + 1, by omega, by go_num, ?_, HB9.out⟩
          rw [HST.out, HXK.out, ← HV.out]
          exact ho9
        case measure => simp [intOf]; omega
      · obtain rfl : k = l.length := by omega
        have ho2 := HO.out
        rw [List.take_of_length_le (by rw [HXl.out]; exact Nat.le_refl _)] at ho2
        have HO2 := hide ho2
        clear HO hbel ho2
        obtain ⟨aX, capX, e1, hslX, _⟩ := HO2.out.sl
        rw [HXl.out] at e1
        subst e1
        have HSX := hide hslX
        clear hslX
        go_wp2_with fail
        refine (Sum_one' a _ cap l _ _ (by simp) rfl (by unfold maxLen; omega) hb (HS.out.below HBel.out)).mono ?_
        rintro e w2 ⟨rfl, hb2⟩
        have HB2 := hide (HBel.out.trans (hb2.mono HBel.out.size))
        have HSX2 := hide (HSX.out.below hb2)
        clear hb2
        go_wp2_with fail
        refine (Sum_one' a' _ cap' b _ _ (by simp) HLB.out (by rw [← HLB.out]; unfold maxLen; omega) HBb.out (HSb.out.below HB2.out)).mono ?_
        rintro e w3 ⟨rfl, hb3⟩
        have HB3 := hide (HB2.out.trans (hb3.mono HB2.out.size))
        have HSX3 := hide (HSX2.out.below hb3)
        clear hb3
        go_wp2_with fail
        refine (Sum_one' a2 _ cap2 c _ _ (by simp) HLC.out (by rw [← HLC.out]; unfold maxLen; omega) HBc.out (HSc.out.below HB3.out)).mono ?_
        rintro e w4 ⟨rfl, hb4⟩
        have HB4 := hide (HB3.out.trans (hb4.mono HB3.out.size))
        have HSX4 := hide (HSX3.out.below hb4)
        clear hb4
        go_wp2_with fail
        refine (Sum_one' aX _ capX X _ _ (by simp) HXl.out.symm (by rw [HXl.out]; unfold maxLen; omega) HBX.out HSX4.out).mono ?_
        rintro e w5 ⟨rfl, hb5⟩
        have HB5 := hide (HB4.out.trans (hb5.mono HB4.out.size))
        clear hb5
        go_wp2_with fail
        go_ret
        exact ⟨ret_bool (goes_eq _ _ _ _ (moreC_lt _ _) (moreC_lt _ _) (moreC_lt _ _) HE.out), HB5.out⟩

set_option maxRecDepth 100000 in
theorem crcGoes_lifted (os : Os) (started : os.Started) (H : Type) (enc : TypeId × Value → H) :
    ReturnsInHanded {} Try.checked os 8 .any (Rows.crcGoesSpec.pre6 enc Try.prog Try.f8 Rows.crcGoesRow.domain false) (Rows.crcGoesSpec.post enc Try.prog Try.f8 false true false false) := by
  refine returnsInHanded_of_change (C := Try.checked) own started (by kernel_rfl) Try.func8
    (ChangeSpec.witness6 (enc := enc) (C := Try.checked) false ⟨#[], #[.slice none 0 0, .slice none 0 0, .slice none 0 0], []⟩ 8 (by kernel_rfl) (by kernel_rfl) (by kernel_rfl) (by kernel_rfl)) ?_
  intro W base args ds gs before hval0 hW _ _
  have hval : ∀ (j : Nat) t v, Try.f8.params[j]? = some t → args[j]? = some v → Value.okWide Try.prog W .any base t v := hval0
  have hW' := hW
  obtain ⟨p, q, hA0, hV, rfl, hfz, hnd⟩ := hW
  have hA : DataW.TrodAll enc Try.prog W 0 (fun _ => true) true Try.f8.params.toList args.toList ds p := hA0
  rw [Try.params8] at hA hval
  obtain ⟨v0, vs0, d0, ds0, p0, q0, hargs0, rfl, rfl, h0, r0⟩ := trodAll_cons hA
  obtain ⟨v1, vs1, d1, ds1, p1, q1, hargs1, rfl, rfl, h1, r1⟩ := trodAll_cons r0
  obtain ⟨v2, vs2, d2, ds2, p2, q2, hargs2, rfl, rfl, h2, r2⟩ := trodAll_cons r1
  obtain ⟨rfl, rfl, rfl⟩ := trodAll_nil r2
  subst hargs2
  subst hargs1
  obtain rfl : args = #[v0, v1, v2] := by cases args; simp_all
  obtain ⟨rfl, rfl⟩ := trodVars_none hV
  simp only [List.append_nil] at hW'
  have hlt0 : ∀ x ∈ p0, x.block < W.heap.size := fun x hx => by simpa using hW'.lt x (by simp [hx])
  have hlt1 : ∀ x ∈ p1, x.block < W.heap.size := fun x hx => by simpa using hW'.lt x (by simp [hx])
  have hlt2 : ∀ x ∈ p2, x.block < W.heap.size := fun x hx => by simpa using hW'.lt x (by simp [hx])
  obtain ⟨a0, cap0, l0, rfl, hn0, hb0, hl0, hs0⟩ := open_bytes (hval 0 22 v0 rfl rfl) h0
  obtain ⟨a1, cap1, l1, rfl, hn1, hb1, hl1, hs1⟩ := open_bytes (hval 1 22 v1 rfl rfl) h1
  obtain ⟨a2, cap2, l2, rfl, hn2, hb2, hl2, hs2⟩ := open_bytes (hval 2 22 v2 rfl rfl) h2
  clear hA0
  refine (goes_walk a0 cap0 l0 a1 cap1 l1 a2 cap2 l2 W hn0 hn1 hn2 hb0 hb1 hb2 hs0 hs1 hs2).mono fun e W' ⟨he, hb⟩ => ?_
  subst he
  refine ⟨_, rfl, _, _, _, [], (p0 ++ (p1 ++ (p2 ++ []))), [], hW', ?_, ?_, rfl, hb.frame _, fun h => by cases h⟩
  · exact trodAll_cons_mk (shut_bool Try.underlying4 _) trodAll_mk0
  · exact trodAll_cons_mk (Below.trod laidOut (by kernel_rfl) (of_decide_eq_true (by kernel_rfl)) h0 hb hlt0) (trodAll_cons_mk (Below.trod laidOut (by kernel_rfl) (of_decide_eq_true (by kernel_rfl)) h1 hb hlt1) (trodAll_cons_mk (Below.trod laidOut (by kernel_rfl) (of_decide_eq_true (by kernel_rfl)) h2 hb hlt2) (trodAll_mk0)))

theorem crcGoes_holds : Rows.CrcGoesSaid :=
  OpenClaim.holds_of_wide 8 Try.f8 rfl rfl rfl rfl rfl rfl rfl ⟨rfl, rfl, rfl, rfl, rfl⟩ rfl rfl rfl rfl rfl (by kernel_rfl) Try.func8 (by kernel_rfl)
    (of_decide_eq_true (by kernel_rfl)) (by unfold Func.isWrapper; first | (rw [if_pos (by decide +kernel)]; kernel_rfl) | (rw [if_neg (by decide +kernel)]; exact ⟨rfl, rfl⟩))
    (fun os started H enc _ => crcGoes_lifted os started H enc)
end Go.Proofs.Ytmfnpifjinbaeab.Oct
