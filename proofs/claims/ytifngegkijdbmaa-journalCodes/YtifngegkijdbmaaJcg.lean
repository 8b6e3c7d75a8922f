/- For all records, all bytes and every count the statement JournalCodes answers true and changes nothing that was there: records as bytes, and back, are what the chapter says. No condition. -/
import Derived.Test.YtifngegkijdbmaaRows
import Derived.Test.YtifngegkijdbmaaJcf
namespace Go.Proofs.Ytifngegkijdbmaa.Oct
open Go.RowKit Go.Deep Go.WideShapes Go.ChangeShapes Go.ChangeAt

theorem decO_byts {l : List Int} {p : Nat} {r : RD} (hb : Byts l) (h : decO l p = some r) : Byts r.2 := by
  unfold decO at h
  split at h
  · simp at h
    subst h
    intro i
    rw [part_get]
    split
    · exact hb _
    · omega
  · cases h

theorem decM_byts {l : List Int} (hb : Byts l) : ∀ {k : Nat} {D : List RD} {p : Nat}, decM l k = some (D, p) → ∀ r ∈ D, Byts r.2
  | 0, D, p, h, r, hr => by
    simp [decM] at h
    obtain ⟨rfl, rfl⟩ := h
    cases hr
  | k + 1, D, p, h, r, hr => by
    rw [decM] at h
    split at h
    · cases h
    · rename_i D' p' hm
      split at h
      · cases h
      · rename_i r' hr'
        simp at h
        obtain ⟨rfl, rfl⟩ := h
        rcases List.mem_append.1 hr with h | h
        · exact decM_byts hb hm r h
        · simp at h
          subst h
          exact decO_byts hb hr'

theorem decD_byts {l : List Int} (hb : Byts l) {n : Int} {D : List RD} (h : decD l n = some D) : ∀ r ∈ D, Byts r.2 := by
  rw [← decR_eq] at h
  unfold decR at h
  split at h
  · cases h
  · rename_i D' p hm
    split at h
    · simp at h
      subst h
      exact decM_byts hb hm
    · cases h

theorem decD_max {l : List Int} {n : Int} {D : List RD} (hn : n ≤ 1000) (h : decD l n = some D) : D.length ≤ 1000 := by
  rw [← decR_eq] at h
  unfold decR at h
  split at h
  · cases h
  · rename_i D' p hm
    split at h
    · simp at h
      subst h
      have := (decM_end hm).2
      omega
    · cases h

theorem Decode_int (a : Option Addr) (cap : Nat) (l : List Int) (n : Int) (w : World) (hlen : l.length ≤ 1000000) (hb : Byts l) (hs : Sl w a cap l) (hn : n ≤ 1000) :
    Calls Try.prog 21 #[.slice a l.length cap, .int .i64 n] w fun e w' => Below w.heap.size w w' ∧
      ((decD l n = none ∧ e = .returned (.tuple #[.slice none 0 0, .int .i64 11])) ∨
       (∃ R v, decD l n = some (R.map JR.dat) ∧ e = .returned (.tuple #[v, .int .i64 0]) ∧ OwnK w' w.heap.size v R)) := by
  by_cases h : n < 0
  · exact Decode_neg a cap l n w hlen h
  · obtain ⟨c, rfl⟩ := Int.eq_ofNat_of_zero_le (by omega : 0 ≤ n)
    exact Decode_nat a cap l c w hlen hb hs (by omega)

theorem lenD_small (R : List JR) (h : ∀ k, k < R.length → (R.getD k JR.z).b.length ≤ 500) : ∀ k, k ≤ R.length → lenD ((R.map JR.dat).take k) ≤ 512 * k
  | 0, _ => by simp [lenD]
  | k + 1, hk => by
    rw [lenJ_step R k (by omega)]
    have := h k (by omega)
    have := lenD_small R h k (by omega)
    omega

/-- The records that came in, as rows of the document's. -/
set_option maxRecDepth 100000 in
set_option maxHeartbeats 8000000 in
theorem codes_walk (a0 : Option Addr) (cap0 : Nat) (R : List JR) (a : Option Addr) (cap : Nat) (l : List Int) (n : Int) (w : World) (hR0 : R.length ≤ maxLen) (hl0 : l.length ≤ maxLen) (hf : ∀ r ∈ R, r.fit) (hR : LiesJ w a0 R) (hb : Byts l) (hs : Sl w a cap l) :
    Calls Try.prog 4 #[.slice a0 R.length cap0, .slice a l.length cap, .int .i64 n] w fun e w' => e = .returned (.bool true) ∧ Below w.heap.size w w' := by
  have HBg := fun u => hide (begun5_any u)
  have HR := hide hR
  have HF := hide hf
  have HBy := hide hb
  have HS := hide hs
  unfold maxLen at hR0 hl0
  clear hf hR hb hs
  by_cases h1 : 30 < R.length
  · go_enter Try.func4, Try.ntmps4
    go_wp2_with fail
    refine ((HBg _).out).mono ?_
    rintro e9 w2 ⟨rfl, hb2⟩
    go_wp2_with fail
    go_ret
    exact ⟨rfl, hb2⟩
  by_cases h2 : 2000 < l.length
  · go_enter Try.func4, Try.ntmps4
    go_wp2_with fail
    refine ((HBg _).out).mono ?_
    rintro e9 w2 ⟨rfl, hb2⟩
    go_wp2_with fail
    go_ret
    exact ⟨rfl, hb2⟩
  by_cases h3 : 1000 < n
  · have hd3 : decide (1000 < n) = true := by simp; omega
    go_enter Try.func4, Try.ntmps4
    go_wp2_with fail
    refine ((HBg _).out).mono ?_
    rintro e9 w2 ⟨rfl, hb2⟩
    go_wp2_with fail
    go_ret
    exact ⟨rfl, hb2⟩
  have hd3 : decide (1000 < n) = false := by simp; omega
  obtain ⟨i1, hi, hz0, hz1, hz2⟩ := info_parts info_rec5
  go_enter Try.func4, Try.ntmps4
  go_wp2_with fail
  go_loopw [7, 8] (fun v i wr => ∃ k : Nat, k ≤ R.length ∧ i = .int .i64 (k : Int) ∧ (∀ j, j < k → (R.getD j JR.z).b.length ≤ 500) ∧ OwnQ wr w.heap.size v (R.take k) ∧ Below w.heap.size w wr) (fun _ i _ => R.length - (intOf i).toNat)
  case atStart => exact ⟨0, by omega, rfl, fun j hj => by omega, by simpa using OwnQ.nil _ _, Below.refl _ _⟩
  case round =>
    obtain ⟨k, hk, rfl, hle, ho, hbel⟩ := hrel
    have HLe := hide hle
    have HO := hide ho
    have HB := hide hbel
    clear hle hbel
    by_cases hlt : k < R.length
    · rcases HR.out with hE | ⟨b, off, rfl, hblt, hc⟩
      · rw [hE] at hlt; simp at hlt
      obtain ⟨q0, q1, q2⟩ := hc k hlt
      have r0 := (HB.out.cell (p := ⟨b, off + k * 2, none⟩) hblt).trans q0
      have r1 := (HB.out.cell (p := ⟨b, off + k * 2 + 1, none⟩) hblt).trans q1
      have HQ2 := hide q2
      have HTk := hide (take_get R k hlt JR.z)
      have HLk : Hid ((R.getD k JR.z).b.length ≤ 500 → ∀ j, j < k + 1 → (R.getD j JR.z).b.length ≤ 500) := hide (fun h j hj => by
        by_cases e : j = k
        · subst e; exact h
        · exact HLe.out j (by omega))
      clear hc q0 q1 q2
      generalize hr : R.getD k JR.z = r at *
      clear hr
      obtain ⟨r1', ra, rc, rb⟩ := r
      simp only at *
      by_cases hbig : 500 < rb.length
      · go_wp2_with fail
        refine ((HBg _).out).mono ?_
        rintro e9 w2 ⟨rfl, hb2⟩
        have HB2 := hide (HB.out.trans (hb2.mono HB.out.size))
        clear hb2
        go_wp2_with fail
        go_ret
        exact ⟨rfl, HB2.out⟩
      · have hF : FarQ wr u7 ⟨r1', ra, rc, rb⟩ := far_in HQ2.out HB.out (fun g hg => (World.ownsRow.lt ho.row g hg).1)
        have hb3 : Below wr.heap.size wr (wr.drew.alloc (.cells #[.int .i64 r1', .slice ra rb.length rc] 54)) := (Below.refl wr.heap.size wr).drew.alloc (Nat.le_refl _) _
        have HO3 := hide (HO.out.below hb3)
        have HB3 := hide (HB.out.trans (hb3.mono HB.out.size))
        have HF3 := hide (hF.below hb3)
        have HN3 := hide (new2J wr.drew 54 (.int .i64 r1') (.slice ra rb.length rc))
        have hkl : (R.take k).length = k := by simp; omega
        clear hF hb3 ho
        go_wp2_with fail
        go_region_law (refine step_append_row (by rfl) (.tmp 42) (.tmp 54) 31 (by rfl) w.heap.size 54 i1 (.agg #[.int .i64 0, .slice none 0 0]) 2 32 Try.underlying31 hi hz0 hz1 hz2 (by rfl) (by decide) u7 (R.take k).length ((R.take k).flatMap JR.cells) (by rfl) HO3.out.row ⟨wr.heap.size, 0, none⟩ 1 1 [.int .i64 r1', .slice ra rb.length rc] (by rfl) (by rfl) (by exact HN3.out) (by simp [Value.oneCell']) (by unfold maxLen; omega) (by omega) HB3.out.size ?_; intro v5 w5 ho5 hg5 hw5; have HO5 := hide ho5; have HG5 := hide hg5; have HW5 := hide hw5; clear ho5 hg5 hw5)
        all_goals
          have hb5 := HB3.out.grown HG5.out HB3.out.size (fun q hq => (World.ownsRow.lt HO3.out.row q hq).1)
          have HO6 := hide (OwnQ.append (r := ⟨r1', ra, rc, rb⟩) HO3.out HF3.out HO5.out HG5.out HW5.out)
          have HB6 := hide hb5
          clear hb5
          go_wp2_with fail
          exact ⟨⟨k + 1, by omega, by congr 1 <;> omega, HLk.out (by omega), by rw [HTk.out]; exact HO6.out, HB6.out⟩, by simp [intOf]; omega⟩
    · obtain rfl : k = R.length := by omega
      rw [List.take_of_length_le (Nat.le_refl _)] at HO
      have hlenD : lenD (R.map JR.dat) ≤ 1000000 := by
        have h := lenD_small R HLe.out R.length (Nat.le_refl _)
        rw [List.take_of_length_le (by simp)] at h
        omega
      have HEb : Hid (Byts (encD (R.map JR.dat))) := hide (encD_byts (fun r hr => by
        obtain ⟨x, hx, rfl⟩ := List.mem_map.1 hr
        exact (HF.out x hx).2))
      obtain ⟨aw, cw, rfl, hwl, _, _⟩ := HO.out.form
      have HWl := hide hwl
      have HE1 := hide (Encode_any a0 cap0 R wr (HR.out.below HB.out) (by omega) hlenD)
      have HSr := hide (HS.out.below HB.out)
      clear hwl ho
      generalize hX : encD (R.map JR.dat) = X at *
      have HX := hide hX
      have HLd := hide hlenD
      clear hX hlenD
      go_wp2_with fail
      refine HE1.out.mono ?_
      rintro e9 w1 ⟨v1, rfl, ho1, hb1⟩
      obtain ⟨ax, cx, rfl, hsx, _⟩ := ho1.sl
      have HLx := hide hsx.lies
      have HB1 := hide hb1
      have HD1 := hide (Decode_int a cap l n w1 (by omega) HBy.out (HSr.out.below hb1) (by omega))
      clear ho1 hb1 hsx HE1
      go_wp2_with fail
      refine HD1.out.mono ?_
      rintro e9 w2 ⟨hb2, hcase⟩
      have HB2 := hide (HB1.out.trans (hb2.mono HB1.out.size))
      have HLx2 := hide (HLx.out.below hb2)
      have HD2 := hide (RDecode_any a cap l n w2 (by omega) HBy.out (HSr.out.below HB2.out) (by omega))
      clear hb2 HD1
      rcases hcase with ⟨hno, rfl⟩ | ⟨R1, v1, hyes, rfl, hk1⟩
      · have HNo := hide hno
        clear hno
        go_wp2_with fail
        refine HD2.out.mono ?_
        rintro e9 w3 ⟨hb3, hcase⟩
        rcases hcase with ⟨_, rfl⟩ | ⟨R2, v2, hyes2, rfl, hk2⟩
        · have HB3 := hide (HB2.out.trans (hb3.mono HB2.out.size))
          have HLx3 := hide (HLx2.out.below hb3)
          clear hb3
          go_wp2_with fail
          refine ((HBg _).out).mono ?_
          rintro e9 w4 ⟨rfl, hb4⟩
          have HB4 := hide (HB3.out.trans (hb4.mono HB3.out.size))
          have HLx4 := hide (HLx3.out.below hb4)
          have HE2 := hide (REncode_any aw cw R w4 (HWl.out.below HB4.out) (by omega) HLd.out)
          rw [HX.out] at HE2
          clear hb4
          go_wp2_with fail
          refine HE2.out.mono ?_
          rintro e9 w5 ⟨v5, rfl, ho5, hb5⟩
          obtain ⟨ay, cy, rfl, hsy, _⟩ := ho5.sl
          have HSm := hide (Same_any ax ay cx cy X X w5 (HLx4.out.below hb5) hsy.lies HEb.out HEb.out)
          rw [show decide (X = X) = true by simp] at HSm
          have HB5 := hide (HB4.out.trans (hb5.mono HB4.out.size))
          clear ho5 hb5 hsy HE2
          go_wp2_with fail
          refine HSm.out.mono ?_
          rintro e9 w6 ⟨rfl, rfl⟩
          go_wp2_with fail
          refine wp_loop_rounds 1 ?_
          rw [rounds_succ]
          go_wp2_with fail
          go_ret
          exact ⟨rfl, HB.out.trans (HB5.out.mono HB.out.size)⟩
        · rw [HNo.out] at hyes2; cases hyes2
      · have HYes := hide hyes
        obtain ⟨ag, cg, rfl, hg2, _, _, _⟩ := hk1.form
        have HG2 := hide hg2
        clear hyes hk1 hg2
        go_wp2_with fail
        refine HD2.out.mono ?_
        rintro e9 w3 ⟨hb3, hcase⟩
        rcases hcase with ⟨hno, rfl⟩ | ⟨R2, v2, hyes2, rfl, hk2⟩
        · rw [HYes.out] at hno; cases hno
        · have hmm : R1.map JR.dat = R2.map JR.dat := by
            rw [HYes.out] at hyes2
            exact Option.some.inj hyes2
          have hll : R1.length = R2.length := by simpa using congrArg List.length hmm
          have hlm : R2.length ≤ 1000 := by simpa using decD_max (by omega) hyes2
          have HAt : Hid (∀ j, (R1.getD j JR.z).at_ = (R2.getD j JR.z).at_ ∧ (R1.getD j JR.z).b = (R2.getD j JR.z).b) := hide (fun j => by
            have h := (JR.dats R1 j).symm.trans ((congrArg (fun D => D.getD j (JR.dat JR.z)) hmm).trans (JR.dats R2 j))
            exact ⟨congrArg Prod.fst h, congrArg Prod.snd h⟩)
          have HBb : Hid (∀ j, j < R2.length → Byts (R2.getD j JR.z).b) := hide (fun j hj => by
            have h := decD_byts HBy.out hyes2 (R2.getD j JR.z).dat (List.mem_map.2 ⟨_, by
              have : R2.getD j JR.z = R2[j] := by simp [hj]
              rw [this]
              exact List.getElem_mem _, rfl⟩)
            exact h)
          obtain ⟨ah, ch, rfl, hh3, _, _⟩ := hk2.form
          have HB3 := hide (HB2.out.trans (hb3.mono HB2.out.size))
          have HLx3 := hide (HLx2.out.below hb3)
          have HG3 := hide (HG2.out.below hb3)
          have HH3 := hide hh3
          clear hb3 hk2 hh3 hyes2 hmm
          rw [hll]
          have HLl := hide hll
          clear hll
          go_wp2_with fail
          refine ((HBg _).out).mono ?_
          rintro e9 w4 ⟨rfl, hb4⟩
          have HB4 := hide (HB3.out.trans (hb4.mono HB3.out.size))
          have HLx4 := hide (HLx3.out.below hb4)
          have HG4 := hide (HG3.out.below hb4)
          have HH4 := hide (HH3.out.below hb4)
          have HE2 := hide (REncode_any aw cw R w4 (HWl.out.below HB4.out) (by omega) HLd.out)
          rw [HX.out] at HE2
          clear hb4
          go_wp2_with fail
          refine HE2.out.mono ?_
          rintro e9 w5 ⟨v5, rfl, ho5, hb5⟩
          obtain ⟨ay, cy, rfl, hsy, _⟩ := ho5.sl
          have HSm := hide (Same_any ax ay cx cy X X w5 (HLx4.out.below hb5) hsy.lies HEb.out HEb.out)
          rw [show decide (X = X) = true by simp] at HSm
          have HB5 := hide (HB4.out.trans (hb5.mono HB4.out.size))
          have HG5 := hide (HG4.out.below hb5)
          have HH5 := hide (HH4.out.below hb5)
          clear ho5 hb5 hsy HE2
          go_wp2_with fail
          refine HSm.out.mono ?_
          rintro e9 w6 ⟨rfl, rfl⟩
          have HB6 := hide (HB.out.trans (HB5.out.mono HB.out.size))
          go_wp2_with fail
          clear HSm HB5 HB4 HB3 HB2 HB1 HG4 HG3 HG2 HH4 HH3 HLx4 HLx3 HLx2 HLx
          go_loopw [14] (fun i wr => ∃ k : Nat, k ≤ R2.length ∧ i = .int .i64 (k : Int) ∧ Below w6.heap.size w6 wr) (fun i _ => R2.length - (intOf i).toNat)
          case atStart => exact ⟨0, by omega, rfl, Below.refl _ _⟩
          case round =>
            obtain ⟨k, hk, rfl, hbel⟩ := hrel
            have HBq := hide hbel
            clear hbel
            by_cases hlt : k < R2.length
            · have hll2 := HLl.out
              rcases HG5.out with hE | ⟨bg, og, rfl, hgb, hgc⟩
              · rw [hE] at hll2; simp at hll2; omega
              rcases HH5.out with hE | ⟨bh, oh, rfl, hhb, hhc⟩
              · rw [hE] at hlt; simp at hlt
              obtain ⟨g0, g1, g2⟩ := hgc k (by omega)
              obtain ⟨z0, z1, z2⟩ := hhc k hlt
              have x0 := (HBq.out.cell (p := ⟨bg, og + k * 2, none⟩) hgb).trans g0
              have x1 := (HBq.out.cell (p := ⟨bg, og + k * 2 + 1, none⟩) hgb).trans g1
              have y0 := (HBq.out.cell (p := ⟨bh, oh + k * 2, none⟩) hhb).trans z0
              have y1 := (HBq.out.cell (p := ⟨bh, oh + k * 2 + 1, none⟩) hhb).trans z1
              have HL1 := hide (g2.below HBq.out).lies
              have HL2 := hide (z2.below HBq.out).lies
              have HAk := HAt.out k
              have HBk := hide (HBb.out k hlt)
              clear hgc hhc g0 g1 g2 z0 z1 z2 hll2
              generalize R1.getD k JR.z = s1 at *
              generalize R2.getD k JR.z = s2 at *
              obtain ⟨p1, sa1, sc1, sb1⟩ := s1
              obtain ⟨p2, sa2, sc2, sb2⟩ := s2
              simp only at *
              obtain ⟨rfl, rfl⟩ := HAk
              have HSk : Hid (Calls Try.prog 19 #[.slice sa1 sb1.length sc1, .slice sa2 sb1.length sc2] wr.drew fun e w' => e = .returned (.bool true) ∧ w' = wr.drew) := hide (by
                have := Same_any sa1 sa2 sc1 sc2 sb1 sb1 wr.drew HL1.out.drew HL2.out.drew HBk.out HBk.out
                simpa using this)
              have hxx : (p1 != p1) = false := by simp
              have u0 : wr.drew.cell? ⟨bg, og + k * 2, none⟩ = some (.int .i64 p1) := x0
              have u1 : wr.drew.cell? ⟨bg, og + k * 2 + 1, none⟩ = some (.slice sa1 sb1.length sc1) := x1
              have v0 : wr.drew.cell? ⟨bh, oh + k * 2, none⟩ = some (.int .i64 p1) := y0
              have v1 : wr.drew.cell? ⟨bh, oh + k * 2 + 1, none⟩ = some (.slice sa2 sb1.length sc2) := y1
              go_wp2_with fail
              go_region_held3 (fun u => u.cell? ⟨bg, og + k * 2, none⟩ = some (.int .i64 p1) ∧ u.cell? ⟨bg, og + k * 2 + 1, none⟩ = some (.slice sa1 sb1.length sc1) ∧ u.cell? ⟨bh, oh + k * 2, none⟩ = some (.int .i64 p1) ∧ u.cell? ⟨bh, oh + k * 2 + 1, none⟩ = some (.slice sa2 sb1.length sc2)) (go_keep) (first
                | (go_at_call 19; refine HSk.out.mono ?_; rintro e9 w7 ⟨rfl, h7⟩; subst h7))
              have HBd := hide HBq.out.drew
              go_wp2_with fail
              exact ⟨⟨k + 1, by omega, by congr 1 <;> omega, HBd.out⟩, by simp [intOf]; omega⟩
            · obtain rfl : k = R2.length := by omega
              go_wp2_with fail
              go_ret
              exact ⟨rfl, HB6.out.trans (HBq.out.mono HB6.out.size)⟩
set_option maxRecDepth 100000 in
theorem journalCodes_lifted (os : Os) (started : os.Started) (H : Type) (enc : TypeId × Value → H) :
    ReturnsInHanded {} Try.checked os 4 .any (Rows.journalCodesSpec.pre6 enc Try.prog Try.f4 Rows.journalCodesRow.domain false) (Rows.journalCodesSpec.post enc Try.prog Try.f4 false true false false) := by
  refine returnsInHanded_of_change (C := Try.checked) own started (by kernel_rfl) Try.func4
    (ChangeSpec.witness6 (enc := enc) (C := Try.checked) false ⟨#[], #[.slice none 0 0, .slice none 0 0, .int .i64 0], []⟩ 8 (by kernel_rfl) (by kernel_rfl) (by kernel_rfl) (by kernel_rfl)) ?_
  intro W base args ds gs before hval0 hW _ _
  have hval : ∀ (j : Nat) t v, Try.f4.params[j]? = some t → args[j]? = some v → Value.okWide Try.prog W .any base t v := hval0
  have hW' := hW
  obtain ⟨p, q, hA0, hV, rfl, hfz, hnd⟩ := hW
  have hA : DataW.TrodAll enc Try.prog W 0 (fun _ => true) true Try.f4.params.toList args.toList ds p := hA0
  rw [Try.params4] at hA hval
  obtain ⟨v0, vs0, d0, ds0, p0, q0, hargs0, rfl, rfl, h0, r0⟩ := trodAll_cons hA
  obtain ⟨v1, vs1, d1, ds1, p1, q1, hargs1, rfl, rfl, h1, r1⟩ := trodAll_cons r0
  obtain ⟨v2, vs2, d2, ds2, p2, q2, hargs2, rfl, rfl, h2, r2⟩ := trodAll_cons r1
  obtain ⟨rfl, rfl, rfl⟩ := trodAll_nil r2
  subst hargs2
  subst hargs1
  obtain rfl : args = #[v0, v1, v2] := by cases args; simp_all
  obtain ⟨rfl, rfl⟩ := trodVars_none hV
  simp only [List.append_nil] at hW'
  have hlt0 : ∀ x ∈ p0, x.block < W.heap.size := fun x hx => by simpa using hW'.lt x (by simp [hx])
  have hlt1 : ∀ x ∈ p1, x.block < W.heap.size := fun x hx => by simpa using hW'.lt x (by simp [hx])
  obtain ⟨a0, cap0, l0, rfl, hn0, hf0, hl0⟩ := open_recs (hval 0 23 v0 rfl rfl) h0
  obtain ⟨a1, cap1, l1, rfl, hn1, hb1, hl1, hs1⟩ := open_bytes (hval 1 22 v1 rfl rfl) h1
  obtain ⟨x2, rfl, rfl, rfl, w2⟩ := open_int Try.underlying3 (hval 2 3 v2 rfl rfl) h2
  clear hA0
  refine (codes_walk a0 cap0 l0 a1 cap1 l1 x2 W hn0 hn1 hf0 hl0 hb1 hs1).mono fun e W' ⟨he, hb⟩ => ?_
  subst he
  refine ⟨_, rfl, _, _, _, [], (p0 ++ (p1 ++ ([] ++ []))), [], hW', ?_, ?_, rfl, hb.frame _, fun h => by cases h⟩
  · exact trodAll_cons_mk (shut_bool Try.underlying4 _) trodAll_mk0
  · exact trodAll_cons_mk (Below.trod laidOut (by kernel_rfl) (of_decide_eq_true (by kernel_rfl)) h0 hb hlt0) (trodAll_cons_mk (Below.trod laidOut (by kernel_rfl) (of_decide_eq_true (by kernel_rfl)) h1 hb hlt1) (trodAll_cons_mk (shut_int Try.underlying3 w2) (trodAll_mk0)))

theorem journalCodes_holds : Rows.JournalCodesSaid :=
  OpenClaim.holds_of_wide 4 Try.f4 rfl rfl rfl rfl rfl rfl rfl ⟨rfl, rfl, rfl, rfl, rfl⟩ rfl rfl rfl rfl rfl (by kernel_rfl) Try.func4 (by kernel_rfl)
    (of_decide_eq_true (by kernel_rfl)) (by unfold Func.isWrapper; first | (rw [if_pos (by decide +kernel)]; kernel_rfl) | (rw [if_neg (by decide +kernel)]; exact ⟨rfl, rfl⟩))
    (fun os started H enc _ => journalCodes_lifted os started H enc)
end Go.Proofs.Ytifngegkijdbmaa.Oct
