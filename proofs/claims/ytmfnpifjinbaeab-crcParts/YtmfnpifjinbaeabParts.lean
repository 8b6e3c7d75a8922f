/- For all lists of parts and all places the statement CrcParts answers true and changes nothing that was there: the sum of parts is that of all of them in one; the sum of a beginning can be gone on with. No condition. -/
import Derived.Test.YtmfnpifjinbaeabRows
import Derived.Test.YtmfnpifjinbaeabMore
import Derived.Test.YtmfnpifjinbaeabLow
import Derived.Test.YtmfnpifjinbaeabApp
import Derived.Deep.RegionWith
import Derived.Deep.RegionHeld3
namespace Go.Proofs.Ytmfnpifjinbaeab.Oct
open Go.RowKit Go.ChangeShapes Go.WideShapes Go.ChangeAt

theorem parts_at (p : Int) (n : Nat) (hn : n ≤ 1000000) : ∃ q : Nat, wrap64 ((IntKind.u64.wrap p).tmod ((n : Int) + 1)) = q ∧ q ≤ n := by
  have h0 : 0 ≤ IntKind.u64.wrap p := by rw [IntKind.wrap_u64]; omega
  have e : (IntKind.u64.wrap p).tmod ((n : Int) + 1) = (IntKind.u64.wrap p) % ((n : Int) + 1) := Int.tmod_eq_emod_of_nonneg h0
  have h1 : 0 ≤ (IntKind.u64.wrap p) % ((n : Int) + 1) := Int.emod_nonneg _ (by omega)
  have h2 : (IntKind.u64.wrap p) % ((n : Int) + 1) < (n : Int) + 1 := Int.emod_lt_of_pos _ (by omega)
  rw [e]
  obtain ⟨q, hq⟩ := Int.eq_ofNat_of_zero_le h1
  rw [hq] at h2 ⊢
  refine ⟨q, ?_, by omega⟩
  simp only [wrap64]
  omega

theorem Lies.cut {w : World} {a : Option Addr} {l : List Int} (h : Lies w a l) (p n : Nat) : Lies w (a.map fun x => x.add p) ((l.drop p).take n) := by
  cases a with
  | none =>
    rcases h with rfl | ⟨b, off, h, _⟩
    · left; simp
    · cases h
  | some x =>
    rcases h with rfl | ⟨b, off, h, hlt, hc⟩
    · left; simp
    · cases h
      have := Lies.of_part (Or.inr ⟨b, off, rfl, hlt, hc⟩ : Lies w (some ⟨b, off, none⟩) l) p n
      simpa [Go.WideShapes.add_plain] using this

theorem Lies.tail {w : World} {a : Option Addr} {l : List Int} (h : Lies w a l) (p : Nat) : Lies w (a.map fun x => x.add p) (l.drop p) := by
  have := h.cut p (l.length - p)
  rwa [List.take_of_length_le (by simp)] at this

set_option maxHeartbeats 4000000 in
theorem parts_walk (a : Option Addr) (cap : Nat) (Ls : List (List Int)) (p : Int) (w : World) (hn : Ls.length ≤ maxLen) (hb : Bytss Ls) (hp : Pts w a Ls) :
    Calls Try.prog 6 #[.slice a Ls.length cap, .int .i64 p] w fun e w' => e = .returned (.bool true) ∧ Below w.heap.size w w' := by
  have HP := hide hp
  have HBs := hide hb
  unfold maxLen at hn
  clear hp hb
  by_cases hbig : 20 < Ls.length
  · go_enter Try.func6, Try.ntmps6
    go_wp2_with (go_at_call 15; refine (known_any _).mono ?_; rintro e w' ⟨rfl, hb⟩)
    go_ret
    exact ⟨rfl, hb⟩
  · have tail : ∀ (wr : World) (v : Value), Own wr w.heap.size v Ls.flatten → Below w.heap.size w wr → (∀ r, r < Ls.length → (Ls.getD r []).length ≤ 400) →
        ∃ al capl, v = .slice al Ls.flatten.length capl ∧ Sl wr al capl Ls.flatten ∧ Ls.flatten.length ≤ 8000 := by
      intro wr v ho hbel hle
      obtain ⟨al, capl, e, hsl, _⟩ := ho.sl
      have h6 := flat_bound Ls 400 Ls.length (Nat.le_refl _) hle
      rw [flat_all] at h6
      exact ⟨al, capl, e, hsl, by omega⟩
    have HT := hide tail
    clear tail
    go_enter Try.func6, Try.ntmps6
    go_wp2_with fail
    go_loopw [5, 6] (fun v i wr => ∃ k : Nat, k ≤ Ls.length ∧ i = .int .i64 k ∧ (∀ r, r < k → (Ls.getD r []).length ≤ 400) ∧ Own wr w.heap.size v (Ls.take k).flatten ∧ Below w.heap.size w wr) (fun _ i _ => Ls.length - (intOf i).toNat)
    case atStart => exact ⟨0, by omega, rfl, by intro r hr; omega, Own.nil _ _, Below.refl _ _⟩
    case round =>
      obtain ⟨k, hk, rfl, hsm, ho, hbel⟩ := hrel
      have HSM := hide hsm
      have HO := hide ho
      clear hsm ho
      by_cases hlt : k < Ls.length
      · rcases HP.out with hE | ⟨b, off, rfl, hblt, hc⟩
        · rw [hE] at hlt
          simp at hlt
        obtain ⟨ar, cr, hcell0, hsl0⟩ := hc k hlt
        clear hc
        have hcell := (hbel.cell (p := ⟨b, off + k, none⟩) hblt).trans hcell0
        have HSL := hide ((hsl0.below hbel).lies)
        have HST := hide (flat_step Ls k hlt)
        have hbd := flat_bound Ls 400 k hk HSM.out
        generalize hq : Ls.getD k [] = q at *
        have HQ := hide hq
        clear hq hcell0 hsl0
        by_cases hl3 : 400 < q.length
        · go_wp2_with fail
          refine (known_any _).mono ?_
          rintro e w1 ⟨rfl, hb1⟩
          have hb2 := hbel.trans (hb1.mono hbel.size)
          go_wp2_with fail
          go_ret
          exact ⟨rfl, hb2⟩
        · go_wp2_with (at_builtin; refine wpList_append_bytes rfl _ _ 22 rfl Try.underlying22 info5 w.heap.size _ (Ls.take k).flatten rfl HO.out _ _ _ q rfl rfl (by exact HSL.out) (by omega) (by exact hbel.size) ?_; intro v1 w1 ho1 hg1; have HB1 := hide (Own.behind HO.out hbel hg1 hbel.size); clear hg1)
          go_roundw
          case rel => exact ⟨k + 1, by omega, by go_num, fun r hr => by
            rcases Nat.lt_or_ge r k with h | h
            · exact HSM.out r h
            · obtain rfl : r = k := by omega
              rw [HQ.out]
              omega, by rw [HST.out]; exact ho1, HB1.out⟩
          case measure => simp [intOf]; omega
      · obtain rfl : k = Ls.length := by omega
        rw [flat_all] at HO
        obtain ⟨al, capl, rfl, hsl, h6⟩ := HT.out _ _ HO.out hbel HSM.out
        have HBF : Hid (Byts Ls.flatten) := by have := Byts.flat HBs.out Ls.length (Nat.le_refl _); rwa [flat_all] at this
        have hcapl := hsl.le
        have HSL := hide hsl
        have HB := hide hbel
        have HL4 : Hid (∀ r, (Ls.getD r []).length ≤ maxLen) := fun r => by
          rcases Nat.lt_or_ge r Ls.length with h | h
          · have := HSM.out r h; unfold maxLen; omega
          · rw [List.getD_eq_getElem?_getD, List.getElem?_eq_none h]; simp
        have HLn : Hid (Ls.length ≤ maxLen) := by show _ ≤ _; unfold maxLen; omega
        clear hsl hbel HO
        generalize hF : Ls.flatten = F at *
        have HF := hide hF
        clear hF
        obtain ⟨q, hq, hql⟩ := parts_at p F.length (by omega)
        have HMore : Hid (moreC (moreC 0 (F.take q)) (F.drop q) = moreC 0 F) := by
          show _ = _
          rw [moreC_append 0 _ _ (by omega) (HBF.out.take q), List.take_append_drop]
        have HFl : Hid (F.length ≤ maxLen) := by show _ ≤ _; unfold maxLen; omega
        have hqc : q ≤ capl := by omega
        have hql0 : (0 : Int) ≤ (q : Int) := Int.natCast_nonneg _
        have HqL : Hid (q = (F.take q).length) := by show _ = _; simp; omega
        have HQ := hide hq
        clear hq
        go_wp2_with fail
        refine (Fast_any al capl F wr HFl.out HBF.out HSL.out.lies).mono ?_
        rintro e w1 ⟨rfl, rfl⟩
        rw [HQ.out]
        have HPs : Hid (∀ u, Below w.heap.size w u → Calls Try.prog 16 #[.slice a Ls.length cap] u fun e w' => e = .returned (.int .u32 (moreC 0 F)) ∧ w' = u) := fun u hu => by
          have := Sum_any a cap Ls u HLn.out HL4.out HBs.out (HP.out.below hu)
          rwa [HF.out] at this
        have HM0 : Hid (∀ u, Lies u al F → Calls Try.prog 19 #[.int .u32 0, .slice al F.length capl] u fun e w' => e = .returned (.int .u32 (moreC 0 F)) ∧ w' = u) := fun u hu =>
          More_any al capl F 0 u HFl.out HBF.out (by omega) hu
        have HM1 : Hid (∀ (u : World) (x : Option Addr) (n c : Nat), n = (F.drop q).length → Lies u x (F.drop q) → Calls Try.prog 19 #[.int .u32 (moreC 0 (F.take q)), .slice x n c] u fun e w' => e = .returned (.int .u32 (moreC 0 F)) ∧ w' = u) := fun u x n c hn hu => by
          subst hn
          have := More_any x c (F.drop q) (moreC 0 (F.take q)) u (by have := HFl.out; simp; omega) (HBF.out.drop q) (moreC_lt _ _) hu
          rwa [HMore.out] at this
        have HST : Hid (∀ u, Sl u al capl F → Sl u al capl (F.take q)) := fun u hu => ⟨by have := HqL.out; omega, hu.max, hu.none, by
          rcases hu.lies with h | ⟨b0, o0, rfl, _, _⟩
          · left; rw [h]; simp
          · have := hu.lies.of_part 0 q; simpa using this⟩
        generalize moreC 0 F = S at *
        go_wp2_with fail
        clear HT HBs HL4 HLn HP HSM HF HMore HQ hbig hn hlt hk h6
        by_cases hend : capl = q
        · subst hend
          go_region_held3 (fun _ => True) (trivial) (first
            | (go_at_call 15; refine (known_any _).mono ?_; rintro e w4 ⟨rfl, hb4⟩; have HB4 := hide (HB.out.drew.trans (hb4.mono HB.out.size)); have HSL4 := hide (Sl.below (w := w1) HSL.out ⟨hb4.os, hb4.tape, hb4.output, hb4.size, hb4.block⟩); clear hb4)
            | (go_at_call_of 16 (Value.slice a Ls.length cap); refine (HPs.out _ HB4.out).mono ?_; rintro e w5 ⟨rfl, rfl⟩)
            | (go_at_call 16; refine (Sum_one al capl capl (F.take capl) _ _ (by simp) HqL.out (by rw [← HqL.out]; have := HFl.out; omega) (HBF.out.take capl) (HST.out _ HSL4.out)).mono ?_; rintro e w6 ⟨rfl, rfl⟩)
            | (go_at_call_of 19 (Value.int IntKind.u32 0); refine (HM0.out _ (by exact (HSL4.out.below ((Below.refl _ _).alloc (Nat.le_refl _) _)).lies)).mono ?_; rintro e w7 ⟨rfl, rfl⟩)
            | (go_at_call 19; refine (HM1.out _ _ _ _ (by simp; omega) (by exact Or.inl (List.drop_of_length_le (by omega)))).mono ?_; rintro e w8 ⟨rfl, rfl⟩))
          go_wp2_with fail
          go_ret
          exact ⟨rfl, HB4.out.alloc HB4.out.size _⟩
        · have hne : q < capl := by omega
          go_region_held3 (fun _ => True) (trivial) (first
            | (go_at_call 15; refine (known_any _).mono ?_; rintro e w4 ⟨rfl, hb4⟩; have HB4 := hide (HB.out.drew.trans (hb4.mono HB.out.size)); have HSL4 := hide (Sl.below (w := w1) HSL.out ⟨hb4.os, hb4.tape, hb4.output, hb4.size, hb4.block⟩); clear hb4)
            | (go_at_call_of 16 (Value.slice a Ls.length cap); refine (HPs.out _ HB4.out).mono ?_; rintro e w5 ⟨rfl, rfl⟩)
            | (go_at_call 16; refine (Sum_one al q capl (F.take q) _ _ (by simp) HqL.out (by rw [← HqL.out]; have := HFl.out; omega) (HBF.out.take q) (HST.out _ HSL4.out)).mono ?_; rintro e w6 ⟨rfl, rfl⟩)
            | (go_at_call_of 19 (Value.int IntKind.u32 0); refine (HM0.out _ (by exact (HSL4.out.below ((Below.refl _ _).alloc (Nat.le_refl _) _)).lies)).mono ?_; rintro e w7 ⟨rfl, rfl⟩)
            | (go_at_call 19; refine (HM1.out _ _ _ _ (by simp) (by exact ((HSL4.out.below ((Below.refl _ _).alloc (Nat.le_refl _) _)).lies).tail q)).mono ?_; rintro e w8 ⟨rfl, rfl⟩))
          go_wp2_with fail
          go_ret
          exact ⟨rfl, HB4.out.alloc HB4.out.size _⟩

set_option maxRecDepth 100000 in
theorem crcParts_lifted (os : Os) (started : os.Started) (H : Type) (enc : TypeId × Value → H) :
    ReturnsInHanded {} Try.checked os 6 .any (Rows.crcPartsSpec.pre6 enc Try.prog Try.f6 Rows.crcPartsRow.domain false) (Rows.crcPartsSpec.post enc Try.prog Try.f6 false true false false) := by
  refine returnsInHanded_of_change (C := Try.checked) own started (by kernel_rfl) Try.func6
    (ChangeSpec.witness6 (enc := enc) (C := Try.checked) false ⟨#[], #[.slice none 0 0, .int .i64 0], []⟩ 8 (by kernel_rfl) (by kernel_rfl) (by kernel_rfl) (by kernel_rfl)) ?_
  intro W base args ds gs before hval0 hW _ _
  have hval : ∀ (j : Nat) t v, Try.f6.params[j]? = some t → args[j]? = some v → Value.okWide Try.prog W .any base t v := hval0
  have hW' := hW
  obtain ⟨p, q, hA0, hV, rfl, hfz, hnd⟩ := hW
  have hA : DataW.TrodAll enc Try.prog W 0 (fun _ => true) true Try.f6.params.toList args.toList ds p := hA0
  rw [Try.params6] at hA hval
  obtain ⟨v0, vs0, d0, ds0, p0, q0, hargs0, rfl, rfl, h0, r0⟩ := trodAll_cons hA
  obtain ⟨v1, vs1, d1, ds1, p1, q1, hargs1, rfl, rfl, h1, r1⟩ := trodAll_cons r0
  obtain ⟨rfl, rfl, rfl⟩ := trodAll_nil r1
  subst hargs1
  obtain rfl : args = #[v0, v1] := by cases args; simp_all
  obtain ⟨rfl, rfl⟩ := trodVars_none hV
  simp only [List.append_nil] at hW'
  have hlt0 : ∀ x ∈ p0, x.block < W.heap.size := fun x hx => by simpa using hW'.lt x (by simp [hx])
  obtain ⟨a0, cap0, l0, rfl, hn0, hb0, hl0⟩ := open_parts (hval 0 38 v0 rfl rfl) h0
  obtain ⟨x1, rfl, rfl, rfl, w1⟩ := open_int Try.underlying3 (hval 1 3 v1 rfl rfl) h1
  clear hA0
  refine (parts_walk a0 cap0 l0 x1 W hn0 hb0 hl0).mono fun e W' ⟨he, hb⟩ => ?_
  subst he
  refine ⟨_, rfl, _, _, _, [], (p0 ++ ([] ++ [])), [], hW', ?_, ?_, rfl, hb.frame _, fun h => by cases h⟩
  · exact trodAll_cons_mk (shut_bool Try.underlying4 _) trodAll_mk0
  · exact trodAll_cons_mk (Below.trod laidOut (by kernel_rfl) (of_decide_eq_true (by kernel_rfl)) h0 hb hlt0) (trodAll_cons_mk (shut_int Try.underlying3 w1) (trodAll_mk0))

theorem crcParts_holds : Rows.CrcPartsSaid :=
  OpenClaim.holds_of_wide 6 Try.f6 rfl rfl rfl rfl rfl rfl rfl ⟨rfl, rfl, rfl, rfl, rfl⟩ rfl rfl rfl rfl rfl (by kernel_rfl) Try.func6 (by kernel_rfl)
    (of_decide_eq_true (by kernel_rfl)) (by unfold Func.isWrapper; first | (rw [if_pos (by decide +kernel)]; kernel_rfl) | (rw [if_neg (by decide +kernel)]; exact ⟨rfl, rfl⟩))
    (fun os started H enc _ => crcParts_lifted os started H enc)
end Go.Proofs.Ytmfnpifjinbaeab.Oct
