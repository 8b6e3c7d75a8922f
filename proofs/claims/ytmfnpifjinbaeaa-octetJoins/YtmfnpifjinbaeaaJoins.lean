/- For all lists of parts and all sizes the statement OctetJoins answers true and changes nothing that was there: parts are joined, and padded, and told to be noughts, as the chapter says. No condition. -/
import Derived.Test.YtmfnpifjinbaeaaRows
import Derived.Test.YtmfnpifjinbaeaaJoin
import Derived.Test.YtmfnpifjinbaeaaLst
import Derived.Test.YtmfnpifjinbaeaaPatches
namespace Go.Proofs.Ytmfnpifjinbaeaa.Oct
open Go.RowKit Go.ChangeShapes Go.WideShapes Go.ChangeAt

/-- Are all 0? -/
def allZ (l : List Int) : Bool := l.all (fun x => decide (x = 0))

theorem allZ_no (l : List Int) (k : Nat) (hk : k < l.length) (h : l.getD k 0 ≠ 0) : allZ l = false := by
  unfold allZ
  rw [List.all_eq_false]
  refine ⟨l[k], List.getElem_mem hk, ?_⟩
  simpa [hk] using h

theorem allZ_yes (l : List Int) (h : ∀ j, j < l.length → l.getD j 0 = 0) : allZ l = true := by
  unfold allZ
  rw [List.all_eq_true]
  intro x hx
  obtain ⟨k, hk, rfl⟩ := List.getElem_of_mem hx
  have := h k hk
  simpa [hk] using this

set_option maxHeartbeats 400000 in
theorem Zero_some (b off cap : Nat) (l : List Int) (w : World) (hlen : l.length ≤ maxLen)
    (hc : ∀ k, k < l.length → w.cell? ⟨b, off + k, none⟩ = some (.int .u8 (l.getD k 0))) :
    Calls Try.prog 29 #[.slice (some ⟨b, off, none⟩) l.length cap] w fun e w' => e = .returned (.bool (allZ l)) ∧ w' = w := by
  unfold maxLen at hlen
  go_enter Try.func29, Try.ntmps29
  go_wp2_with fail
  go_loop [7] (fun i => ∃ k : Nat, k ≤ l.length ∧ i = .int .i64 k ∧ ∀ j, j < k → l.getD j 0 = 0) (fun i => l.length - (intOf i).toNat)
  case atStart => exact ⟨0, by omega, rfl, by intro j hj; omega⟩
  case round =>
    obtain ⟨k, hk, rfl, hz⟩ := hrel
    have HZ := hide hz
    clear hz
    by_cases hlt : k < l.length
    · have hcell := hc k hlt
      clear hc
      generalize hx : l.getD k 0 = x at *
      have HX := hide hx
      clear hx
      by_cases h0 : x = 0
      · subst h0
        go_wp2_with fail
        go_round
        case rel => exact ⟨k + 1, by omega, by go_num, fun j hj => by
          rcases Nat.lt_or_ge j k with h | h
          · exact HZ.out j h
          · obtain rfl : j = k := by omega
            exact HX.out⟩
        case measure => simp [intOf]; omega
      · have hne : (x != 0) = true := by simp [h0]
        have HF : Hid (allZ l = false) := allZ_no l k hlt (by rw [HX.out]; exact h0)
        clear h0
        go_wp2_with fail
        go_ret
        exact ⟨by rw [HF.out]; rfl, rfl⟩
    · obtain rfl : k = l.length := by omega
      have HF : Hid (allZ l = true) := allZ_yes l HZ.out
      clear hc
      go_wp2_with fail
      go_ret
      exact ⟨by rw [HF.out]; rfl, rfl⟩

set_option maxHeartbeats 400000 in
theorem Zero_empty (a : Option Addr) (cap : Nat) (w : World) :
    Calls Try.prog 29 #[.slice a 0 cap] w fun e w' => e = .returned (.bool true) ∧ w' = w := by
  go_enter Try.func29, Try.ntmps29
  go_wp2_with fail
  refine wp_loop_rounds 1 ?_
  rw [rounds_succ]
  go_wp2_with fail
  go_ret
  exact ⟨rfl, rfl⟩

theorem Zero_any (a : Option Addr) (cap : Nat) (l : List Int) (w : World) (hlen : l.length ≤ maxLen) (hl : Lies w a l) :
    Calls Try.prog 29 #[.slice a l.length cap] w fun e w' => e = .returned (.bool (allZ l)) ∧ w' = w := by
  rcases hl with rfl | ⟨b, off, rfl, _, hc⟩
  · exact Zero_empty a cap w
  · exact Zero_some b off cap l w hlen hc
set_option maxHeartbeats 400000 in
theorem IsZero_some (b off cap : Nat) (l : List Int) (w : World) (hlen : l.length ≤ maxLen)
    (hc : ∀ k, k < l.length → w.cell? ⟨b, off + k, none⟩ = some (.int .u8 (l.getD k 0))) :
    Calls Try.prog 30 #[.slice (some ⟨b, off, none⟩) l.length cap] w fun e w' => e = .returned (.bool (allZ l)) ∧ w' = w := by
  unfold maxLen at hlen
  go_enter Try.func30, Try.ntmps30
  go_wp2_with fail
  go_loop [3] (fun i => ∃ k : Nat, k ≤ l.length ∧ i = .int .i64 k ∧ ∀ j, j < k → l.getD j 0 = 0) (fun i => l.length - (intOf i).toNat)
  case atStart => exact ⟨0, by omega, rfl, by intro j hj; omega⟩
  case round =>
    obtain ⟨k, hk, rfl, hz⟩ := hrel
    have HZ := hide hz
    clear hz
    by_cases hlt : k < l.length
    · have hcell := hc k hlt
      clear hc
      generalize hx : l.getD k 0 = x at *
      have HX := hide hx
      clear hx
      by_cases h0 : x = 0
      · subst h0
        go_wp2_with fail
        go_round
        case rel => exact ⟨k + 1, by omega, by go_num, fun j hj => by
          rcases Nat.lt_or_ge j k with h | h
          · exact HZ.out j h
          · obtain rfl : j = k := by omega
            exact HX.out⟩
        case measure => simp [intOf]; omega
      · have hne : (x != 0) = true := by simp [h0]
        have HF : Hid (allZ l = false) := allZ_no l k hlt (by rw [HX.out]; exact h0)
        clear h0
        go_wp2_with fail
        go_ret
        exact ⟨by rw [HF.out]; rfl, rfl⟩
    · obtain rfl : k = l.length := by omega
      have HF : Hid (allZ l = true) := allZ_yes l HZ.out
      clear hc
      go_wp2_with fail
      go_ret
      exact ⟨by rw [HF.out]; rfl, rfl⟩

set_option maxHeartbeats 400000 in
theorem IsZero_empty (a : Option Addr) (cap : Nat) (w : World) :
    Calls Try.prog 30 #[.slice a 0 cap] w fun e w' => e = .returned (.bool true) ∧ w' = w := by
  go_enter Try.func30, Try.ntmps30
  go_wp2_with fail
  refine wp_loop_rounds 1 ?_
  rw [rounds_succ]
  go_wp2_with fail
  go_ret
  exact ⟨rfl, rfl⟩

theorem IsZero_any (a : Option Addr) (cap : Nat) (l : List Int) (w : World) (hlen : l.length ≤ maxLen) (hl : Lies w a l) :
    Calls Try.prog 30 #[.slice a l.length cap] w fun e w' => e = .returned (.bool (allZ l)) ∧ w' = w := by
  rcases hl with rfl | ⟨b, off, rfl, _, hc⟩
  · exact IsZero_empty a cap w
  · exact IsZero_some b off cap l w hlen hc

set_option maxHeartbeats 1000000 in
theorem RPad_any (a : Option Addr) (cap : Nat) (l : List Int) (size : Int) (w : World) (hlen : l.length ≤ 1000000) (hs : size ≤ 4096) (hl : Lies w a l) :
    Calls Try.prog 28 #[.slice a l.length cap, .int .i64 size] w fun e w' => ∃ v, e = .returned v ∧ Own w' w.heap.size v (padL l size) ∧ Below w.heap.size w w' := by
  have HL := hide hl
  clear hl
  by_cases h1 : size < 2
  · have HE : Hid (padL l size = l) := by show _ = _; simp [padL, lack, h1]
    go_enter Try.func28, Try.ntmps28
    go_wp2_with (at_builtin; refine wpList_append_bytes rfl _ _ 22 rfl Try.underlying22 info5 w.heap.size _ [] rfl (Own.nil _ _) _ _ _ l rfl rfl (by exact HL.out) (by simp; omega) (by exact Nat.le_refl _) ?_; intro v1 w1 ho1 hg1; have HB1 := hide (Own.behind (Own.nil _ _) (Below.refl _ _) hg1 (Nat.le_refl _)); clear hg1)
    go_ret
    exact ⟨_, rfl, by rw [HE.out]; exact ho1, HB1.out⟩
  · have hm0 : 0 ≤ (l.length : Int) % size := Int.emod_nonneg _ (by omega)
    have hm1 : (l.length : Int) % size < size := Int.emod_lt_of_pos _ (by omega)
    by_cases h2 : (l.length : Int) % size = 0
    · have HE : Hid (padL l size = l) := by show _ = _; simp [padL, lack, h2]
      have hb : (((l.length : Int) % size) == 0) = true := by simp [h2]
      have H2 := hide h2
      clear h2
      go_enter Try.func28, Try.ntmps28
      go_wp2_with (at_builtin; refine wpList_append_bytes rfl _ _ 22 rfl Try.underlying22 info5 w.heap.size _ [] rfl (Own.nil _ _) _ _ _ l rfl rfl (by exact HL.out) (by simp; omega) (by exact Nat.le_refl _) ?_; intro v1 w1 ho1 hg1; have HB1 := hide (Own.behind (Own.nil _ _) (Below.refl _ _) hg1 (Nat.le_refl _)); clear hg1)
      go_ret
      exact ⟨_, rfl, by rw [HE.out]; exact ho1, HB1.out⟩
    · have hb : (((l.length : Int) % size) == 0) = false := by simp [h2]
      obtain ⟨n, hn⟩ : ∃ n : Nat, size - (l.length : Int) % size = n := ⟨(size - (l.length : Int) % size).toNat, by omega⟩
      have hn2 : n ≤ 4096 := by omega
      have HE : Hid (padL l size = l ++ List.replicate n 0) := by
        show _ = _
        have e : lack l.length size = n := by simp only [lack, if_neg h1, if_neg h2]; rw [if_neg (by omega)]; omega
        rw [padL, e]
      clear h2
      go_enter Try.func28, Try.ntmps28
      go_wp2_with (first
        | (go_at_call 20; refine (Zeros_any n _ (by omega)).mono ?_; rintro e w2 ⟨v2, rfl, ho2, hb2⟩; have HO2 := hide (ho1.below hb2); have HB2 := hide (HB1.out.trans (hb2.mono HB1.out.size)); obtain ⟨a2, cap2, rfl, hsl2, _⟩ := ho2.sl; have HSL2 := hide hsl2; clear hb2 ho2 hsl2)
        | (at_builtin; refine wpList_append_bytes rfl _ _ 22 rfl Try.underlying22 info5 w.heap.size _ [] rfl (Own.nil _ _) _ _ _ l rfl rfl (by exact HL.out) (by simp; omega) (by exact Nat.le_refl _) ?_; intro v1 w1 ho1 hg1; have HB1 := hide (Own.behind (Own.nil _ _) (Below.refl _ _) hg1 (Nat.le_refl _)); clear hg1)
        | (at_builtin; refine wpList_append_bytes rfl _ _ 22 rfl Try.underlying22 info5 w.heap.size _ ([] ++ l) rfl HO2.out _ _ _ (List.replicate n 0) rfl (by simp) (by exact HSL2.out.lies) (by simp; omega) (by exact HB2.out.size) ?_; intro v3 w3 ho3 hg3; have HB3 := hide (Own.behind HO2.out HB2.out hg3 HB2.out.size); clear hg3))
      go_ret
      exact ⟨_, rfl, by rw [HE.out]; exact ho3, HB3.out⟩

theorem flat_bound (Ls : List (List Int)) (m : Nat) : ∀ k, k ≤ Ls.length → (∀ r, r < k → (Ls.getD r []).length ≤ m) → (Ls.take k).flatten.length ≤ m * k
  | 0, _, _ => by simp
  | k + 1, hk, h => by
    rw [flat_step Ls k (by omega), List.length_append]
    have h1 := flat_bound Ls m k (by omega) (fun r hr => h r (by omega))
    have h2 := h k (by omega)
    rw [Nat.mul_succ]
    omega

theorem Byts.flat {Ls : List (List Int)} (h : Bytss Ls) : ∀ k, k ≤ Ls.length → Byts (Ls.take k).flatten
  | 0, _ => by intro j; simp
  | k + 1, hk => by
    rw [flat_step Ls k (by omega)]
    exact (Byts.flat h k (by omega)).append (h k)

set_option maxHeartbeats 2000000 in
theorem joins_walk (a : Option Addr) (cap : Nat) (Ls : List (List Int)) (size : Int) (w : World) (hn : Ls.length ≤ maxLen) (hb : Bytss Ls) (hp : Pts w a Ls) (hs : size ≤ 9223372036854775807) :
    Calls Try.prog 8 #[.slice a Ls.length cap, .int .i64 size] w fun e w' => e = .returned (.bool true) ∧ Below w.heap.size w w' := by
  have HP := hide hp
  have HBs := hide hb
  unfold maxLen at hn
  clear hp hb
  by_cases hbig : 20 < Ls.length ∨ 4096 < size
  · by_cases hbig1 : 20 < Ls.length
    all_goals
      go_enter Try.func8, Try.ntmps8
      go_wp2_with (go_at_call 9; refine (low_any _).mono ?_; rintro e w' ⟨rfl, hb⟩)
      go_ret
      exact ⟨rfl, hb⟩
  · have hs1 : ¬ 20 < Ls.length := by omega
    have hs2 : ¬ 4096 < size := by omega
    clear hbig
    have tail : ∀ (wr : World) (v : Value), Own wr w.heap.size v Ls.flatten → Below w.heap.size w wr → (∀ r, r < Ls.length → (Ls.getD r []).length ≤ 300) →
        ∃ al capl, v = .slice al Ls.flatten.length capl ∧ Sl wr al capl Ls.flatten ∧ Ls.flatten.length ≤ 6000 := by
      intro wr v ho hbel hle
      obtain ⟨al, capl, e, hsl, _⟩ := ho.sl
      have h6 := flat_bound Ls 300 Ls.length (Nat.le_refl _) hle
      rw [flat_all] at h6
      exact ⟨al, capl, e, hsl, by omega⟩
    have HT := hide tail
    clear tail
    · skip
      go_enter Try.func8, Try.ntmps8
      go_wp2_with fail
      go_loopw [5, 6] (fun v i wr => ∃ k : Nat, k ≤ Ls.length ∧ i = .int .i64 k ∧ (∀ r, r < k → (Ls.getD r []).length ≤ 300) ∧ Own wr w.heap.size v (Ls.take k).flatten ∧ Below w.heap.size w wr) (fun _ i _ => Ls.length - (intOf i).toNat)
      case atStart => exact ⟨0, by omega, rfl, by intro r hr; omega, Own.nil _ _, Below.refl _ _⟩
      case round =>
        obtain ⟨k, hk, rfl, hsm, ho, hbel⟩ := hrel
        have HSM := hide hsm
        have HO := hide ho
        clear hsm ho
        by_cases hlt : k < Ls.length
        · rcases HP.out with hE | ⟨b, off, rfl, hblt, hc⟩
          · rw [hE] at hlt
            simp at hlt
          obtain ⟨ar, cr, hcell0, hsl0⟩ := hc k hlt
          clear hc
          have hcell := (hbel.cell (p := ⟨b, off + k, none⟩) hblt).trans hcell0
          have HSL := hide ((hsl0.below hbel).lies)
          have HST := hide (flat_step Ls k hlt)
          have hbd := flat_bound Ls 300 k hk HSM.out
          generalize hq : Ls.getD k [] = q at *
          have HQ := hide hq
          clear hq hcell0 hsl0
          by_cases hl3 : 300 < q.length
          · go_wp2_with fail
            refine (low_any _).mono ?_
            rintro e w1 ⟨rfl, hb1⟩
            have hb2 := hbel.trans (hb1.mono hbel.size)
            go_wp2_with fail
            go_ret
            exact ⟨rfl, hb2⟩
          · go_wp2_with (at_builtin; refine wpList_append_bytes rfl _ _ 22 rfl Try.underlying22 info5 w.heap.size _ (Ls.take k).flatten rfl HO.out _ _ _ q rfl rfl (by exact HSL.out) (by omega) (by exact hbel.size) ?_; intro v1 w1 ho1 hg1; have HB1 := hide (Own.behind HO.out hbel hg1 hbel.size); clear hg1)
            go_roundw
            case rel => exact ⟨k + 1, by omega, by go_num, fun r hr => by
              rcases Nat.lt_or_ge r k with h | h
              · exact HSM.out r h
              · obtain rfl : r = k := by omega
                rw [HQ.out]
                omega, by rw [HST.out]; exact ho1, HB1.out⟩
            case measure => simp [intOf]; omega
        · obtain rfl : k = Ls.length := by omega
          rw [flat_all] at HO
          obtain ⟨al, capl, rfl, hsl, h6⟩ := HT.out _ _ HO.out hbel HSM.out
          have HSL := hide hsl
          have HBF : Hid (Byts Ls.flatten) := by have := Byts.flat HBs.out Ls.length (Nat.le_refl _); rwa [flat_all] at this
          have HB := hide hbel
          clear hsl hbel HO
          generalize hF : Ls.flatten = F at *
          have HF := hide hF
          clear hF
          go_wp2_with fail
          refine (low_any _).mono ?_
          rintro e w1 ⟨rfl, hb1⟩
          have HB1 := hide (HB.out.trans (hb1.mono HB.out.size))
          have HSL1 := hide (HSL.out.below hb1)
          clear hb1 HB HSL
          go_wp2_with fail
          refine (Join_any _ cap Ls w1 (by omega) (by rw [HF.out]; omega) (HP.out.below HB1.out)).mono ?_
          rintro e w2 ⟨v2, rfl, ho2, hb2⟩
          rw [HF.out] at ho2
          obtain ⟨a2, cap2, rfl, hsl2, _⟩ := ho2.sl
          have HB2 := hide (HB1.out.trans (hb2.mono HB1.out.size))
          have HSL2 := hide (HSL1.out.below hb2)
          have HSJ := hide hsl2
          clear hb2 ho2 hsl2 HB1 HSL1
          go_wp2_with fail
          refine (Same_eq a2 al _ _ cap2 capl F _ rfl rfl HSJ.out.lies HSL2.out.lies HBF.out).mono ?_
          rintro e w3 ⟨rfl, rfl⟩
          go_wp2_with fail
          refine (Pad_any al capl F size w3 (by omega) hs HSL2.out.lies).mono ?_
          rintro e w4 ⟨v4, rfl, ho4, hb4⟩
          obtain ⟨a4, cap4, rfl, hsl4, _⟩ := ho4.sl
          have HB4 := hide (HB2.out.trans (hb4.mono HB2.out.size))
          have HSL4 := hide (HSL2.out.below hb4)
          have HSP := hide hsl4
          clear hb4 ho4 hsl4 HB2 HSL2
          go_wp2_with fail
          refine (RPad_any al capl F size w4 (by omega) (by omega) HSL4.out.lies).mono ?_
          rintro e w5 ⟨v5, rfl, ho5, hb5⟩
          obtain ⟨a5, cap5, rfl, hsl5, _⟩ := ho5.sl
          have HB5 := hide (HB4.out.trans (hb5.mono HB4.out.size))
          have HSL5 := hide (HSL4.out.below hb5)
          have HSP5 := hide (HSP.out.below hb5)
          have HSR := hide hsl5
          clear hb5 ho5 hsl5 HB4 HSL4
          go_wp2_with fail
          refine (Same_eq a4 a5 _ _ cap4 cap5 (padL F size) _ rfl rfl HSP5.out.lies HSR.out.lies (HBF.out.pad size)).mono ?_
          rintro e w6 ⟨rfl, rfl⟩
          go_wp2_with fail
          refine (Zero_any al capl F w6 (by unfold maxLen; omega) HSL5.out.lies).mono ?_
          rintro e w7 ⟨rfl, rfl⟩
          go_wp2_with fail
          refine (IsZero_any al capl F w7 (by unfold maxLen; omega) HSL5.out.lies).mono ?_
          rintro e w8 ⟨rfl, rfl⟩
          go_wp2_with fail
          go_ret
          exact ⟨by simp, HB5.out⟩

set_option maxRecDepth 100000 in
theorem octetJoins_lifted (os : Os) (started : os.Started) (H : Type) (enc : TypeId × Value → H) :
    ReturnsInHanded {} Try.checked os 8 .any (Rows.octetJoinsSpec.pre6 enc Try.prog Try.f8 Rows.octetJoinsRow.domain false) (Rows.octetJoinsSpec.post enc Try.prog Try.f8 false true false false) := by
  refine returnsInHanded_of_change (C := Try.checked) own started (by kernel_rfl) Try.func8
    (ChangeSpec.witness6 (enc := enc) (C := Try.checked) false ⟨#[], #[.slice none 0 0, .int .i64 0], []⟩ 8 (by kernel_rfl) (by kernel_rfl) (by kernel_rfl) (by kernel_rfl)) ?_
  intro W base args ds gs before hval0 hW _ _
  have hval : ∀ (j : Nat) t v, Try.f8.params[j]? = some t → args[j]? = some v → Value.okWide Try.prog W .any base t v := hval0
  have hW' := hW
  obtain ⟨p, q, hA0, hV, rfl, hfz, hnd⟩ := hW
  have hA : DataW.TrodAll enc Try.prog W 0 (fun _ => true) true Try.f8.params.toList args.toList ds p := hA0
  rw [Try.params8] at hA hval
  obtain ⟨v0, vs0, d0, ds0, p0, q0, hargs0, rfl, rfl, h0, r0⟩ := trodAll_cons hA
  obtain ⟨v1, vs1, d1, ds1, p1, q1, hargs1, rfl, rfl, h1, r1⟩ := trodAll_cons r0
  obtain ⟨rfl, rfl, rfl⟩ := trodAll_nil r1
  subst hargs1
  obtain rfl : args = #[v0, v1] := by cases args; simp_all
  obtain ⟨rfl, rfl⟩ := trodVars_none hV
  simp only [List.append_nil] at hW'
  have hlt0 : ∀ x ∈ p0, x.block < W.heap.size := fun x hx => by simpa using hW'.lt x (by simp [hx])
  obtain ⟨a0, cap0, l0, rfl, hn0, hb0, hl0⟩ := open_parts (hval 0 51 v0 rfl rfl) h0
  obtain ⟨x1, rfl, rfl, rfl, w1⟩ := open_int Try.underlying3 (hval 1 3 v1 rfl rfl) h1
  clear hA0
  refine (joins_walk a0 cap0 l0 x1 W hn0 hb0 hl0 (wf_i64 w1).2).mono fun e W' ⟨he, hb⟩ => ?_
  subst he
  refine ⟨_, rfl, _, _, _, [], (p0 ++ ([] ++ [])), [], hW', ?_, ?_, rfl, hb.frame _, fun h => by cases h⟩
  · exact trodAll_cons_mk (shut_bool Try.underlying4 _) trodAll_mk0
  · exact trodAll_cons_mk (Below.trod laidOut (by kernel_rfl) (of_decide_eq_true (by kernel_rfl)) h0 hb hlt0) (trodAll_cons_mk (shut_int Try.underlying3 w1) (trodAll_mk0))

theorem octetJoins_holds : Rows.OctetJoinsSaid :=
  OpenClaim.holds_of_wide 8 Try.f8 rfl rfl rfl rfl rfl rfl rfl ⟨rfl, rfl, rfl, rfl, rfl⟩ rfl rfl rfl rfl rfl (by kernel_rfl) Try.func8 (by kernel_rfl)
    (of_decide_eq_true (by kernel_rfl)) (by unfold Func.isWrapper; first | (rw [if_pos (by decide +kernel)]; kernel_rfl) | (rw [if_neg (by decide +kernel)]; exact ⟨rfl, rfl⟩))
    (fun os started H enc _ => octetJoins_lifted os started H enc)
end Go.Proofs.Ytmfnpifjinbaeaa.Oct
