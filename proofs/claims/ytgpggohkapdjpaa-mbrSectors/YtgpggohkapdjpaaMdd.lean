/- MbrSectors, for all disks that are laid and all slots: the entry that is told is the partition's (no condition). -/
import Derived.Test.YtgpggohkapdjpaaMbu
import Derived.Test.YtgpggohkapdjpaaMbv
import Derived.Test.YtgpggohkapdjpaaMdb
import Derived.Test.YtgpggohkapdjpaaMdc
import Derived.Test.YtgpggohkapdjpaaRows
import Derived.BigQuiet
namespace Go.Proofs.Ytgpggohkapdjpaa.Oct
open Go.RowKit Go.ChangeShapes Go.WideShapes Go.ChangeAt

/-- A sector's entry tells of a slot. -/
structure Told (d : List Int) (P : List M4) (slot : Int) (s j : Nat) : Prop where
  fit : 512 * s + 512 ≤ d.length
  ok : entC (secD d s) = 0
  four : j < 4
  is : ∀ k, k < P.length → (P.getD k zm4).2.2.2 = slot → IsE (P.getD k zm4) (entM (secD d s) (446 + 16 * j))

theorem getD_memP {P : List M4} {k : Nat} (h : k < P.length) : P.getD k zm4 ∈ P := by
  have : P.getD k zm4 = P[k] := by simp [h]
  rw [this]
  exact List.getElem_mem _

theorem Tells.told4 {d : List Int} {st : MS} (h : Tells d st) {slot : Int} (hk : 0 ≤ slot ∧ slot < 4) : Told d st.P slot 0 slot.toNat := by
  refine ⟨h.zero.2.1, h.zero.2.2, by omega, fun k hk2 hs => ?_⟩
  rcases h.parts _ (getD_memP hk2) with ⟨j, hj, h1, h2⟩ | ⟨i, s, h1, _, h3, _⟩
  · have : slot.toNat = j := by omega
    rw [this]
    exact h2
  · omega

theorem Tells.toldC {d : List Int} {st : MS} (h : Tells d st) {i s : Nat} (hi : 1 ≤ i) (hs : HasS d (st.H.getD i (0, 0)) s) : Told d st.P ((i : Int) + 3) s 0 := by
  refine ⟨hs.2.1, hs.2.2, by omega, fun k hk2 hsl => ?_⟩
  rcases h.parts _ (getD_memP hk2) with ⟨j, hj, h1, h2⟩ | ⟨i', s', h1, h2, h3, h4, h5⟩
  · omega
  · have hii : i' = i := by omega
    subst hii
    have e := h4.1.symm.trans hs.1
    simp only [Prod.mk.injEq] at e
    have hss : s' = s := by omega
    subst hss
    exact h5

theorem tsector_known (w : World) (d : List Int) (hd : d.length ≤ 1000000) (st : MS) (hT : Tells d st) (aP : Option Addr) (cP : Nat) (aH : Option Addr) (cH : Nat) (slot : Int) (hl : LiesE w aH st.H) (hH : st.H.length ≤ 100) (hk : (0 ≤ slot ∧ slot < 4) ∨ (4 ≤ slot ∧ slot < 3 + (st.H.length : Int))) :
    ∃ s j : Nat, Told d st.P slot s j ∧ Calls Try.prog 18 #[.agg #[.slice aP st.P.length cP, .slice aH st.H.length cH, .int .i64 st.i1, .int .i64 st.i2, .bool st.g], .int .i64 slot] w fun e w' => e = .returned (.tuple #[.int .i64 s, .int .i64 j, .int .i64 0]) ∧ Below w.heap.size w w' := by
  rcases hk with hk | hk
  · refine ⟨0, slot.toNat, hT.told4 hk, ?_⟩
    have := tsector_first w aP st.P.length cP aH st.H cH st.i1 st.i2 st.g slot hk
    rw [show ((slot.toNat : Nat) : Int) = slot by omega]
    exact this
  · obtain ⟨i, hi⟩ : ∃ i : Nat, slot = (i : Int) + 3 := ⟨(slot - 3).toNat, by omega⟩
    subst hi
    have hi2 : i < st.H.length := by omega
    obtain ⟨s, hs⟩ := hT.held i hi2
    refine ⟨s, 0, hT.toldC (by omega) hs, ?_⟩
    exact tsector_chain w aP st.P.length cP aH st.H cH st.i1 st.i2 st.g i s hl (by omega) hi2 (by rw [hs.1]) (by have := hs.2.1; omega) hH

/-- The disk that is laid. -/
theorem disk_all (w : World) (sec : Int) (p : Option Addr) (cap : Nat) (X : List LD) (hX : LiesL w p X) (hf : LaidFit X) (h : X.length ≤ 40) :
    ∃ d : List Int, Byts d ∧ d.length ≤ 102400 ∧ Calls Try.prog 16 #[.int .i64 sec, .slice p X.length cap] w fun e w' => ∃ a c, e = .returned (.tuple #[.slice a d.length c, .bool true]) ∧ Own w' w.heap.size (.slice a d.length c) d ∧ Below w.heap.size w w' := by
  have h0 : 0 ≤ sec % p64 % 200 := Int.emod_nonneg _ (by omega)
  have h1 : sec % p64 % 200 < 200 := Int.emod_lt_of_pos _ (by omega)
  by_cases hz : sec % p64 % 200 = 0
  · exact ⟨[], Byts.zeros 0, by simp, disk_zero w sec p cap X.length h hz⟩
  · obtain ⟨n, hn⟩ : ∃ n : Nat, (n : Int) = sec % p64 % 200 := ⟨(sec % p64 % 200).toNat, by omega⟩
    refine ⟨diskD n X X.length, Byts.diskD n X hf.2 _, ?_, ?_⟩
    · rw [diskD_len n X (by omega)]; omega
    · rw [diskD_len n X (by omega)]
      exact disk_any w sec p cap X hX h hf.1 n hn (by omega)

set_option maxHeartbeats 16000000 in
set_option maxRecDepth 100000 in
theorem msectors_walk (sec : Int) (p : Option Addr) (cap : Nat) (X : List LD) (slot : Int) (w : World) (hX : LiesL w p X) (hf : LaidFit X) (hsl : slot ≤ 9223372036854775807) :
    Calls Try.prog 5 #[.int .i64 sec, .slice p X.length cap, .int .i64 slot] w fun e w' => e = .returned (.bool true) ∧ Below w.heap.size w w' := by
  have HCh := fun u => hide (chained_any sort_says u)
  by_cases h40 : 40 < X.length
  · have HD := hide (disk_many w sec p cap X.length h40)
    generalize X.length = n at *
    clear hX hf
    go_enter Try.func5, Try.ntmps5
    go_wp2_with fail
    refine HD.out.mono ?_
    rintro e9 w1 ⟨rfl, h1⟩
    have h1 := h1.symm
    subst h1
    go_wp2_with fail
    refine ((HCh _).out).mono ?_
    rintro e9 w1 ⟨rfl, hb1⟩
    have HB1 := hide hb1
    clear hb1
    go_wp2_with fail
    go_ret
    exact ⟨rfl, HB1.out⟩
  · obtain ⟨d, hby, hdl, hD⟩ := disk_all w sec p cap X hX hf (by omega)
    have HD := hide hD
    have HPs := fun u (a : Option Addr) (c : Nat) h1 h2 h5 => hide (parse_any sort_says u a c d h1 h2 hby (by omega) h5)
    have HNil := fun u => hide (parse_nil u)
    have HTl : Hid (∀ st, parsM d = .ok st → Tells d st) := hide (fun st => Tells.pars)
    have HKn := fun u (st : MS) hT aP cP aH cH hl hH hk => tsector_known u d (by omega) st hT aP cP aH cH slot hl hH hk
    have HNo := fun u (st : MS) aP cP aH cH hh => hide (tsector_none u aP st.P.length cP aH st.H cH st.i1 st.i2 st.g slot hsl hh)
    have HBy := hide hby
    generalize X.length = n at *
    clear hX hf hD hby
    go_enter Try.func5, Try.ntmps5
    go_wp2_with fail
    refine HD.out.mono ?_
    rintro e9 w2 ⟨a2, c2, rfl, ho2, hb2⟩
    have HB2 := hide hb2
    have hcap : d.length ≤ c2 := by
      obtain ⟨a', c', e, _, _, h, _⟩ := ho2.form
      simp only [Value.slice.injEq] at e
      rw [e.2.2]
      exact h
    have hli : Lies w2 a2 d := by
      obtain ⟨a', c', e, h, _⟩ := ho2.form
      simp only [Value.slice.injEq] at e
      rw [e.1]
      exact h
    have hal : ∀ x, a2 = some x → x.block < w2.heap.size := fun x hx => (World.ownsRow.lt ho2 x.block (by rw [hx]; rfl)).2
    have HP := HPs w2 a2 c2 hli hal hcap
    have HLi := hide hli
    clear ho2 hb2 hli hal HPs HD
    go_wp2_with fail
    refine HP.out.mono ?_
    rintro e9 w3 ⟨he3, hb3⟩
    rcases he3 with ⟨st, aP, cP, aH, cH, h5, rfl, hlP, hlH, hPn, hHn⟩ | ⟨c3, h5, h6, rfl⟩
    · have hT := HTl.out st h5
      obtain ⟨w4, hw4⟩ : ∃ w4, w4 = w3.alloc (.cells #[.slice aP st.P.length cP, .slice aH st.H.length cH, .int .i64 st.i1, .int .i64 st.i2, .bool st.g] 51) := ⟨_, rfl⟩
      have hb4 : Below w3.heap.size w3 w4 := by rw [hw4]; exact (Below.refl _ _).alloc (Nat.le_refl _) _
      have hk4 : Blk w4 w3.heap.size #[.slice aP st.P.length cP, .slice aH st.H.length cH, .int .i64 st.i1, .int .i64 st.i2, .bool st.g] 51 := by rw [hw4]; exact Blk.new _ _ _
      have HB4 := hide ((HB2.out.trans (hb3.mono HB2.out.size)).trans (hb4.mono (HB2.out.trans (hb3.mono HB2.out.size)).size))
      have HLi4 := hide ((HLi.out.below hb3).below hb4)
      have HLP := hide (hlP.below hb4)
      have HK4 := hide hk4
      by_cases hkn : (0 ≤ slot ∧ slot < 4) ∨ (4 ≤ slot ∧ slot < 3 + (st.H.length : Int))
      · obtain ⟨s, j, hTo, hSe⟩ := HKn w4 st hT aP cP aH cH (hlH.below hb4) hHn hkn
        have HSe := hide hSe
        have HTo := hide hTo
        have HW4 := hide hw4
        have hs1 := hTo.fit
        have hj4 := hTo.four
        obtain ⟨P, hP⟩ : ∃ P, P = st.P := ⟨_, rfl⟩
        rw [← hP] at HTo HLP hPn
        have hnP : st.P.length = P.length := by rw [hP]
        rw [hnP] at HSe HW4 HK4 ⊢
        generalize st.H.length = nH at *
        generalize st.i1 = i1 at *
        generalize st.i2 = i2 at *
        generalize st.g = g at *
        clear hb3 hb4 hk4 hw4 hlP hlH h5 hT HTl HKn HNo hTo hSe hP hnP
        go_wp2_with fail
        rw [← HW4.out]
        refine HSe.out.mono ?_
        rintro e9 w5 ⟨rfl, hb5⟩
        have hk5 := HK4.out.below hb5
        have t0 := hk5.cell 0 _ rfl
        have t1 := hk5.cell 1 _ rfl
        have HB5 := hide (HB4.out.trans (hb5.mono HB4.out.size))
        have HLi5 := hide (HLi4.out.below hb5)
        have HLP5 := hide (HLP.out.below hb5)
        have HK5 := hide hk5
        have hcw : IntKind.i64.wrap (3 + (nH : Int)) = 3 + (nH : Int) := by rw [IntKind.wrap_i64]; omega
        have hw512 : IntKind.i64.wrap (512 * (s : Int)) = 512 * (s : Int) := by rw [IntKind.wrap_i64]; omega
        have hw513 : IntKind.i64.wrap (512 * (s : Int) + 512) = 512 * (s : Int) + 512 := by rw [IntKind.wrap_i64]; omega
        clear hb5 hk5
        have hkn' : (0 ≤ slot ∧ slot < 4) ∨ (0 ≤ slot ∧ ¬ slot < 4 ∧ 4 ≤ slot ∧ slot < 3 + (nH : Int)) := by omega
        rcases hkn' with ⟨g1, g2⟩ | ⟨g1, g2, g3, g4⟩
        all_goals
          clear hkn
          go_wp2_with fail
          refine ((HCh _).out).mono ?_
          rintro e9 w6 ⟨rfl, hb6⟩
          have hk6 := HK5.out.below hb6
          have HK6 := hide hk6
          have HB6 := hide (HB5.out.trans (hb6.mono HB5.out.size))
          have HLi6 := hide (HLi5.out.below hb6)
          have HLP6 := hide (HLP5.out.below hb6)
          clear t0 t1 hb6 hk6
          have hln : (secD d s).length = 512 := by unfold secD; simp; omega
          rcases HLi6.out with hE | ⟨b, off, rfl, hbl, hc⟩
          · rw [hE] at hs1; simp at hs1
          have HRe := hide (rents_any (some ⟨b, off + 512 * s, none⟩) (c2 - 512 * s) (secD d s) w6 (by omega) ((HBy.out.drop _).take _) ((Lies.mk (w := w6) (b := b) (off := off) (l := d) hc).of_part (512 * s) 512))
          rw [hln] at HRe
          have hq1 : 512 * (s : Int) + 512 ≤ (c2 : Int) := by omega
          clear hc hbl
          generalize d.length = nd at *
          go_wp2_with fail
          refine HRe.out.mono ?_
          rintro e9 w7 ⟨h7 | h7, hb7⟩
          · obtain ⟨_, v7, rfl, ho7⟩ := h7
            obtain ⟨a7, c7, hv7, hl7, _⟩ := ho7.form
            subst hv7
            have hl4 : (entsM (secD d s)).length = 4 := rfl
            rw [hl4]
            have HL7 := hide hl7
            have HK7 := hide (HK6.out.below hb7)
            have HB7 := hide (HB6.out.trans (hb7.mono HB6.out.size))
            have HLP7 := hide (HLP6.out.below hb7)
            have HEg := hide (ents_get (secD d s))
            have HFt := hide (fun q => entM_fit (secD d s) ((HBy.out.drop _).take _) q)
            have hj0 : ¬ (j : Int) < 0 := by omega
            have hj3 : ¬ (3 : Int) < (j : Int) := by omega
            have hj5 : (j : Int) < 4 := by omega
            clear hl7 ho7 hb7 hl4 hln
            go_wp2_with fail
            go_loopw [17] (fun i wr => ∃ (k : Nat), k ≤ P.length ∧ i = .int .i64 k ∧ Below w7.heap.size w7 wr) (fun i _ => P.length - (intOf i).toNat)
            case atStart => exact ⟨0, by omega, rfl, Below.refl _ _⟩
            case round =>
              obtain ⟨k, hk, rfl, hbel⟩ := hrel
              have HB := hide hbel
              have t0 := (HK7.out.below hbel).cell 0 _ rfl
              clear hbel
              by_cases hlt : k < P.length
              · rcases HL7.out.below HB.out with hE | ⟨b2, o2, rfl, _, hc2⟩
                · exact absurd hE (by simp [entsM])
                rcases HLP7.out.below HB.out with hE | ⟨b1, o1, rfl, _, hc1⟩
                · rw [hE] at hlt; simp at hlt
                obtain ⟨p0, p1, p2, p3⟩ := hc1 k hlt
                obtain ⟨q0, q1, q2⟩ := hc2 j (by simpa [entsM] using hj4)
                rw [HEg.out j hj4] at q0 q1 q2
                have hIs := HTo.out.is k hlt
                have hft := HFt.out (446 + 16 * j)
                generalize P.getD k zm4 = x at *
                generalize entM (secD d s) (446 + 16 * j) = y at *
                obtain ⟨x1, x2, x3, x4⟩ := x
                obtain ⟨y1, y2, y3⟩ := y
                unfold IsE at hIs
                unfold Fit3 at hft
                dsimp only at p0 p1 p2 p3 q0 q1 q2 hIs hft
                obtain ⟨_, _, hf1, hf2⟩ := hft
                have hkP : (k : Int) < (P.length : Int) := by omega
                have hwy : IntKind.i64.wrap (512 * y3) = 512 * y3 := by rw [IntKind.wrap_i64]; omega
                clear hc1 hc2
                by_cases hsl4 : x4 = slot
                · obtain ⟨hi1, hi2⟩ := hIs hsl4
                  subst hsl4 hi1
                  have hwx : IntKind.i64.wrap (x2 - x1) = 512 * y3 := by rw [hi2]; exact hwy
                  clear hIs hi2
                  go_wp2_with fail
                  go_quiet (fail)
                  go_wp2_with fail
                  exact ⟨⟨k + 1, by omega, by go_num, ⟨HB.out.os, HB.out.tape, HB.out.output, HB.out.size, HB.out.block⟩⟩, by simp [intOf]; omega⟩
                · have hne : (x4 == slot) = false := by simpa using hsl4
                  clear hIs
                  go_wp2_with fail
                  go_quiet (fail)
                  go_wp2_with fail
                  exact ⟨⟨k + 1, by omega, by go_num, ⟨HB.out.os, HB.out.tape, HB.out.output, HB.out.size, HB.out.block⟩⟩, by simp [intOf]; omega⟩
              · obtain rfl : k = P.length := by omega
                have hge : ¬ ((P.length : Int) < (P.length : Int)) := by omega
                go_wp2_with fail
                refine ((HNil _).out).mono ?_
                rintro e9 w8 ⟨rfl, hb8⟩
                have hb9 := (Below.refl w8.heap.size w8).alloc (Nat.le_refl _) (.cells #[.slice none 0 0, .slice none 0 0, .int .i64 0, .int .i64 0, .bool false] 51)
                have HB8 := hide (HB7.out.trans ((HB.out.trans (hb8.mono HB.out.size)).mono HB7.out.size))
                have HB9 := hide (HB8.out.trans (hb9.mono HB8.out.size))
                clear hb8 hb9
                go_wp2_with fail
                go_ret
                exact ⟨rfl, HB9.out⟩
          · exact absurd HTo.out.ok h7.1
      · have HNn := HNo w4 st aP cP aH cH (by omega)
        have HW4 := hide hw4
        generalize st.P.length = nP at *
        generalize st.H.length = nH at *
        generalize st.i1 = i1 at *
        generalize st.i2 = i2 at *
        generalize st.g = g at *
        clear hb3 hb4 hk4 hw4 hlP hlH h5 hT HTl HKn HNo
        go_wp2_with fail
        rw [← HW4.out]
        refine HNn.out.mono ?_
        rintro e9 w5 ⟨rfl, hb5⟩
        have hk5 := HK4.out.below hb5
        have t0 := hk5.cell 0 _ rfl
        have t1 := hk5.cell 1 _ rfl
        have HB5 := hide (HB4.out.trans (hb5.mono HB4.out.size))
        have hcw : IntKind.i64.wrap (3 + (nH : Int)) = 3 + (nH : Int) := by rw [IntKind.wrap_i64]; omega
        clear hb5 hk5
        have hkn' : (¬ 0 ≤ slot ∧ ¬ 4 ≤ slot) ∨ (0 ≤ slot ∧ ¬ slot < 4 ∧ 4 ≤ slot ∧ ¬ slot < 3 + (nH : Int)) := by omega
        rcases hkn' with ⟨g1, g2⟩ | ⟨g1, g2, g3, g4⟩
        · have e1 : decide (0 ≤ slot) = false := decide_eq_false g1
          have e2 : decide (4 ≤ slot) = false := decide_eq_false g2
          clear hkn
          go_wp2_with fail
          refine ((HCh _).out).mono ?_
          rintro e9 w6 ⟨rfl, hb6⟩
          have HB6 := hide (HB5.out.trans (hb6.mono HB5.out.size))
          clear hb6
          go_wp2_with fail
          go_ret
          exact ⟨rfl, HB6.out⟩
        · have e1 : decide (slot < 4) = false := decide_eq_false g2
          have e2 : decide (slot < 3 + (nH : Int)) = false := decide_eq_false g4
          clear hkn g2 g4
          go_wp2_with fail
          refine ((HCh _).out).mono ?_
          rintro e9 w6 ⟨rfl, hb6⟩
          have HB6 := hide (HB5.out.trans (hb6.mono HB5.out.size))
          clear hb6
          go_wp2_with fail
          go_ret
          exact ⟨rfl, HB6.out⟩
    · have hb4 := (Below.refl w3.heap.size w3).alloc (Nat.le_refl _) (.cells #[.slice none 0 0, .slice none 0 0, .int .i64 0, .int .i64 0, .bool false] 51)
      have HB3 := hide (HB2.out.trans (hb3.mono HB2.out.size))
      have HB4 := hide (HB3.out.trans (hb4.mono HB3.out.size))
      have hcb : (c3 != 0) = true := by simpa using h6
      clear hb3 hb4 h5 HTl HKn HNo HNil
      go_wp2_with fail
      refine ((HCh _).out).mono ?_
      rintro e9 w6 ⟨rfl, hb6⟩
      have HB6 := hide (HB4.out.trans (hb6.mono HB4.out.size))
      clear hb6
      go_wp2_with fail
      go_ret
      exact ⟨rfl, HB6.out⟩
set_option maxRecDepth 100000 in
theorem mbrSectors_lifted (os : Os) (started : os.Started) (H : Type) (enc : TypeId × Value → H) :
    ReturnsInHanded {} Try.checked os 5 .any (Rows.mbrSectorsSpec.pre6 enc Try.prog Try.f5 Rows.mbrSectorsRow.domain false) (Rows.mbrSectorsSpec.post enc Try.prog Try.f5 false true false false) := by
  refine returnsInHanded_of_change (C := Try.checked) own started (by kernel_rfl) Try.func5
    (ChangeSpec.witness6 (enc := enc) (C := Try.checked) false ⟨#[], #[.int .i64 0, .slice none 0 0, .int .i64 0], []⟩ 8 (by kernel_rfl) (by kernel_rfl) (by kernel_rfl) (by kernel_rfl)) ?_
  intro W base args ds gs before hval0 hW _ _
  have hval : ∀ (j : Nat) t v, Try.f5.params[j]? = some t → args[j]? = some v → Value.okWide Try.prog W .any base t v := hval0
  have hW' := hW
  obtain ⟨p, q, hA0, hV, rfl, hfz, hnd⟩ := hW
  have hA : DataW.TrodAll enc Try.prog W 0 (fun _ => true) true Try.f5.params.toList args.toList ds p := hA0
  rw [Try.params5] at hA hval
  obtain ⟨v0, vs0, d0, ds0, p0, q0, hargs0, rfl, rfl, h0, r0⟩ := trodAll_cons hA
  obtain ⟨v1, vs1, d1, ds1, p1, q1, hargs1, rfl, rfl, h1, r1⟩ := trodAll_cons r0
  obtain ⟨v2, vs2, d2, ds2, p2, q2, hargs2, rfl, rfl, h2, r2⟩ := trodAll_cons r1
  obtain ⟨rfl, rfl, rfl⟩ := trodAll_nil r2
  subst hargs2
  subst hargs1
  obtain rfl : args = #[v0, v1, v2] := by cases args; simp_all
  obtain ⟨rfl, rfl⟩ := trodVars_none hV
  simp only [List.append_nil] at hW'
  have hlt1 : ∀ x ∈ p1, x.block < W.heap.size := fun x hx => by simpa using hW'.lt x (by simp [hx])
  obtain ⟨x0, rfl, rfl, rfl, w0⟩ := open_int Try.underlying3 (hval 0 3 v0 rfl rfl) h0
  obtain ⟨a1, cap1, l1, rfl, hn1, hf1, hl1⟩ := open_laids (hval 1 43 v1 rfl rfl) h1
  obtain ⟨x2, rfl, rfl, rfl, w2⟩ := open_int Try.underlying3 (hval 2 3 v2 rfl rfl) h2
  clear hA0
  refine (msectors_walk x0 a1 cap1 l1 x2 W hl1 hf1 (wf_i64 w2).2).mono fun e W' ⟨he, hb⟩ => ?_
  subst he
  refine ⟨_, rfl, _, _, _, [], ([] ++ (p1 ++ ([] ++ []))), [], hW', ?_, ?_, rfl, hb.frame _, fun h => by cases h⟩
  · exact trodAll_cons_mk (shut_bool Try.underlying4 _) trodAll_mk0
  · exact trodAll_cons_mk (shut_int Try.underlying3 w0) (trodAll_cons_mk (Below.trod laidOut (by kernel_rfl) (of_decide_eq_true (by kernel_rfl)) h1 hb hlt1) (trodAll_cons_mk (shut_int Try.underlying3 w2) (trodAll_mk0)))

theorem mbrSectors_holds : Rows.MbrSectorsSaid :=
  OpenClaim.holds_of_wide 5 Try.f5 rfl rfl rfl rfl rfl rfl rfl ⟨rfl, rfl, rfl, rfl, rfl⟩ rfl rfl rfl rfl rfl (by kernel_rfl) Try.func5 (by kernel_rfl)
    (of_decide_eq_true (by kernel_rfl)) (by unfold Func.isWrapper; first | (rw [if_pos (by decide +kernel)]; kernel_rfl) | (rw [if_neg (by decide +kernel)]; exact ⟨rfl, rfl⟩))
    (fun os started H enc _ => mbrSectors_lifted os started H enc)
end Go.Proofs.Ytgpggohkapdjpaa.Oct
