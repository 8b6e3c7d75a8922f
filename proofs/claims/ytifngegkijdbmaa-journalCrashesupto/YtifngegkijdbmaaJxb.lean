/- The document's records of those that came in: may all be written, and is there room? -/
import Derived.Test.YtifngegkijdbmaaJxa
namespace Go.Proofs.Ytifngegkijdbmaa.Oct
open Go.RowKit Go.Deep Go.WideShapes Go.ChangeShapes Go.ChangeAt

set_option maxRecDepth 100000 in
set_option maxHeartbeats 8000000 in
theorem REncode_big (a : Option Addr) (cap : Nat) (R : List JR) (w : World) (h : LiesJ w a R) (hn : R.length ≤ 100000000) (hlen : lenD (R.map JR.dat) ≤ 100000000) :
    Calls Try.prog 23 #[.slice a R.length cap] w fun e w' => ∃ v, e = .returned v ∧ Own w' w.heap.size v (encD (R.map JR.dat)) ∧ Below w.heap.size w w' := by
  have HR := hide h
  have HM := hide (fun k => lenD_mono (R.map JR.dat) k)
  have HEl := hide (fun k => encD_length ((R.map JR.dat).take k))
  clear h
  go_enter Try.func23, Try.ntmps23
  go_wp2_with fail
  go_loopw [3, 4] (fun v i wr => ∃ k : Nat, k ≤ R.length ∧ i = .int .i64 (k : Int) ∧ Own wr w.heap.size v (encD ((R.map JR.dat).take k)) ∧ Below w.heap.size w wr) (fun _ i _ => R.length - (intOf i).toNat)
  case atStart => exact ⟨0, by omega, rfl, by simpa [encD] using Own.nil _ _, Below.refl _ _⟩
  case round =>
    obtain ⟨k, hk, rfl, ho, hbel⟩ := hrel
    have HBl := hide hbel
    have HOw := hide ho
    clear hbel ho
    by_cases hlt : k < R.length
    · rcases HR.out with hE | ⟨b, off, rfl, hblt, hc⟩
      · rw [hE] at hlt; simp at hlt
      obtain ⟨q0, q1, q2⟩ := hc k hlt
      have r0 := (HBl.out.cell (p := ⟨b, off + k * 2, none⟩) hblt).trans q0
      have r1 := (HBl.out.cell (p := ⟨b, off + k * 2 + 1, none⟩) hblt).trans q1
      have HQ2 := hide q2
      have HS := hide (lenJ_step R k hlt)
      have HSE := hide (encJ_step R k hlt)
      have h1 := HM.out (k + 1)
      have hXl := HEl.out k
      rw [HS.out] at h1
      clear hc q0 q1 q2
      generalize hr : R.getD k JR.z = r at *
      clear hr
      generalize lenD ((R.map JR.dat).take k) = t at *
      generalize encD ((R.map JR.dat).take k) = X at *
      subst hXl
      have hXT : X.length + 12 + r.b.length ≤ 100000000 := by omega
      have hw0 : 0 ≤ IntKind.u64.wrap r.at_ := by rw [IntKind.wrap_u64]; omega
      have hw1 : IntKind.u64.wrap r.at_ < 18446744073709551616 := by rw [IntKind.wrap_u64]; omega
      have HC1 := hide (Bytes_any (IntKind.u64.wrap r.at_) 8 wr (by omega) hw0 hw1)
      rw [bytesOf_leB] at HC1
      have HL8 := hide (leB_length (IntKind.u64.wrap r.at_) 8)
      have HL4 := hide (leB_length (r.b.length : Int) 4)
      have HEr : Hid (X ++ encR r.dat = X ++ leB (IntKind.u64.wrap r.at_) 8 ++ leB (r.b.length : Int) 4 ++ r.b) := hide (by
        rw [encR_eq]
        simp only [List.append_assoc])
      clear hw0 hw1
      go_wp2_with fail
      generalize leB (IntKind.u64.wrap r.at_) 8 = Y8 at *
      refine HC1.out.mono ?_
      rintro e9 w2 ⟨v2, rfl, ho2, hb2⟩
      obtain ⟨a2, c2, rfl, hsl2, _⟩ := ho2.sl
      have HLi2 := hide hsl2.lies
      have HB2 := hide (HBl.out.trans (hb2.mono HBl.out.size))
      have HO2 := hide (HOw.out.below hb2)
      have s0 := (HB2.out.cell (p := ⟨b, off + k * 2, none⟩) hblt).trans ((HBl.out.cell (p := ⟨b, off + k * 2, none⟩) hblt).symm.trans r0)
      have s1 := (HB2.out.cell (p := ⟨b, off + k * 2 + 1, none⟩) hblt).trans ((HBl.out.cell (p := ⟨b, off + k * 2 + 1, none⟩) hblt).symm.trans r1)
      clear ho2 hb2 hsl2 r0 r1 HC1
      go_wp2_with (at_builtin; refine wpList_append_bytes rfl _ _ 22 rfl Try.underlying22 info5 w.heap.size _ X rfl (by exact HO2.out) _ _ _ Y8 rfl rfl (by exact HLi2.out) (by rw [HL8.out]; omega) (by exact HB2.out.size) ?_; intro v3 w3 ho3 hg3; have HO3 := hide ho3; have HB3 := hide (Own.behind HO2.out HB2.out hg3 HB2.out.size); have t1 := (HB3.out.cell (p := ⟨b, off + k * 2 + 1, none⟩) hblt).trans ((HB2.out.cell (p := ⟨b, off + k * 2 + 1, none⟩) hblt).symm.trans s1); clear ho3 hg3 s0 s1)
      have HC4 := hide (Bytes_any (r.b.length : Int) 4 w3 (by omega) (by omega) (by omega))
      rw [bytesOf_leB] at HC4
      refine HC4.out.mono ?_
      generalize leB (r.b.length : Int) 4 = Y4 at *
      rintro e9 w4 ⟨v4, rfl, ho4, hb4⟩
      obtain ⟨a4, c4, rfl, hsl4, _⟩ := ho4.sl
      have HLi4 := hide hsl4.lies
      have HB4 := hide (HB3.out.trans (hb4.mono HB3.out.size))
      have HO4 := hide (HO3.out.below hb4)
      have t4 := (HB4.out.cell (p := ⟨b, off + k * 2 + 1, none⟩) hblt).trans ((HB3.out.cell (p := ⟨b, off + k * 2 + 1, none⟩) hblt).symm.trans t1)
      clear ho4 hb4 hsl4 t1 HC4
      have HZ8 : Hid ((X ++ Y8).length = X.length + 8) := hide (by rw [List.length_append, HL8.out])
      have HZ12 : Hid ((X ++ Y8 ++ Y4).length = X.length + 12) := hide (by rw [List.length_append, List.length_append, HL8.out, HL4.out])
      go_wp2_with (first
        | (at_builtin; refine wpList_append_bytes rfl _ _ 22 rfl Try.underlying22 info5 w.heap.size _ (X ++ Y8) rfl (by exact HO4.out) _ _ _ Y4 rfl rfl (by exact HLi4.out) (by rw [HZ8.out, HL4.out]; omega) (by exact HB4.out.size) ?_; intro v5 w5 ho5 hg5; have HO5 := hide ho5; have HB5 := hide (Own.behind HO4.out HB4.out hg5 HB4.out.size); have t5 := (HB5.out.cell (p := ⟨b, off + k * 2 + 1, none⟩) hblt).trans ((HB4.out.cell (p := ⟨b, off + k * 2 + 1, none⟩) hblt).symm.trans t4); clear ho5 hg5 t4)
        | (at_builtin; refine wpList_append_bytes rfl _ _ 22 rfl Try.underlying22 info5 w.heap.size _ (X ++ Y8 ++ Y4) rfl (by exact HO5.out) _ _ _ r.b rfl rfl (by exact (HQ2.out.below HB5.out).lies) (by rw [HZ12.out]; omega) (by exact HB5.out.size) ?_; intro v6 w6 ho6 hg6; have HO6 := hide ho6; have HB6 := hide (Own.behind HO5.out HB5.out hg6 HB5.out.size); clear ho6 hg6))
      exact ⟨⟨k + 1, by omega, by congr 1 <;> omega, by rw [HSE.out, HEr.out]; exact HO6.out, HB6.out⟩, by simp [intOf]; omega⟩
    · obtain rfl : k = R.length := by omega
      have e : (R.map JR.dat).take R.length = R.map JR.dat := by rw [List.take_of_length_le (by simp)]
      rw [e] at HOw
      clear e
      go_wp2_with fail
      go_ret
      exact ⟨_, rfl, HOw.out, HBl.out⟩

/-- May a record be written, by the document's words? -/
def mayR (p s : Nat) (r : JR) : Bool := decide (0 ≤ r.at_) && decide (r.at_ ≤ 4194304) && (decide (r.at_ + r.b.length ≤ 4194304) && (decide (r.at_ + r.b.length ≤ p) || decide ((p : Int) + s ≤ r.at_)))

set_option maxRecDepth 100000 in
set_option maxHeartbeats 4000000 in
theorem May_any (w : World) (t : Int) (a : Option Addr) (cap m p s : Nat) (h0 : 0 ≤ t) (h1 : t ≤ 4194304) (hm : m ≤ 100000000) (hp : p ≤ 4194304) (hs : s ≤ 4194304) :
    Calls Try.prog 30 #[.agg #[.int .i64 t, .slice a m cap], .int .i64 p, .int .i64 s] w fun e w' => e = .returned (.bool (decide (t + m ≤ 4194304) && (decide (t + m ≤ p) || decide ((p : Int) + s ≤ t)))) ∧ Below w.heap.size w w' := by
  have hbx := Blk.new w #[.int .i64 t, .slice a m cap] 54
  have HB := hide ((Below.refl w.heap.size w).alloc (Nat.le_refl _) (.cells #[.int .i64 t, .slice a m cap] 54))
  have hw1 : IntKind.i64.wrap (t + m) = t + m := by rw [IntKind.wrap_i64]; omega
  have hw2 : IntKind.i64.wrap ((p : Int) + s) = (p : Int) + s := by rw [IntKind.wrap_i64]; omega
  have c0 := hbx.cell 0 _ rfl
  have c1 := hbx.cell 1 _ rfl
  clear hbx
  go_enter Try.func30, Try.ntmps30
  go_wp2_with fail
  all_goals
    go_ret
    refine ⟨?_, HB.out⟩
    first | rfl | (congr 2; simp; omega) | (congr 2; simp_all) | (simp; omega)

set_option maxRecDepth 100000 in
set_option maxHeartbeats 8000000 in
theorem recs_any (a : Option Addr) (cap : Nat) (R : List JR) (p s : Nat) (w : World) (h : LiesJ w a R) (hn : R.length ≤ 10000000) (hlen : lenD (R.map JR.dat) ≤ 100000000) (hp : p ≤ 4194304) (hs : s ≤ 4194304) (hf : ∀ r ∈ R, r.fit) :
    Calls Try.prog 7 #[.slice a R.length cap, .int .i64 p, .int .i64 s] w fun e w' => ∃ v, e = .returned (.tuple #[v, .bool (R.all (mayR p s)), .bool (decide ((lenD (R.map JR.dat) : Int) ≤ (s : Int) - 512))]) ∧ OwnQ w' w.heap.size v R ∧ Below w.heap.size w w' := by
  have HR := hide h
  have HF := hide hf
  obtain ⟨i1, hi, hz0, hz1, hz2⟩ := info_parts info_rec5
  have HLm := hide (fun r (hr : r ∈ R) => lenD_mem (D := R.map JR.dat) (r := r.dat) (List.mem_map_of_mem hr))
  have HLn := hide hlen
  clear h hf hlen
  go_enter Try.func7, Try.ntmps7
  go_wp2_with fail
  go_loopw [9, 10, 11] (fun v m i wr => ∃ k : Nat, k ≤ R.length ∧ i = .int .i64 (k : Int) ∧ m = .bool ((R.take k).all (mayR p s)) ∧ OwnQ wr w.heap.size v (R.take k) ∧ Below w.heap.size w wr) (fun _ _ i _ => R.length - (intOf i).toNat)
  case atStart => exact ⟨0, by omega, rfl, rfl, by simpa using OwnQ.nil _ _, Below.refl _ _⟩
  case round =>
    obtain ⟨k, hk, rfl, rfl, ho, hbel⟩ := hrel
    have HO := hide ho
    have HB := hide hbel
    clear hbel
    by_cases hlt : k < R.length
    · rcases HR.out with hE | ⟨b, off, rfl, hblt, hc⟩
      · rw [hE] at hlt; simp at hlt
      obtain ⟨q0, q1, q2⟩ := hc k hlt
      have r0 := (HB.out.cell (p := ⟨b, off + k * 2, none⟩) hblt).trans q0
      have r1 := (HB.out.cell (p := ⟨b, off + k * 2 + 1, none⟩) hblt).trans q1
      have HQ2 := hide q2
      have HTk := hide (take_get R k hlt JR.z)
      have hmem : R.getD k JR.z ∈ R := by
        have : R.getD k JR.z = R[k] := by simp [hlt]
        rw [this]
        exact List.getElem_mem _
      have hrl := HLm.out _ hmem
      have hrf := (HF.out _ hmem).1
      have hln := HLn.out
      clear hc q0 q1 q2 hmem
      generalize hr : R.getD k JR.z = r at *
      clear hr
      obtain ⟨t, ra, rc, rb⟩ := r
      simp only [JR.dat] at *
      have hrb : rb.length ≤ 100000000 := by omega
      clear hrl hln
      have d0 : wr.drew.cell? ⟨b, off + k * 2, none⟩ = some (.int .i64 t) := r0
      have d1 : wr.drew.cell? ⟨b, off + k * 2 + 1, none⟩ = some (.slice ra rb.length rc) := r1
      have hbd : Below wr.heap.size wr (wr.alloc (.cells #[.int .i64 0, .slice none 0 0] 54)).drew := ((Below.refl _ _).alloc (Nat.le_refl _) _).drew
      have hbb : b < wr.heap.size := Nat.lt_of_lt_of_le hblt HB.out.size
      have d2 := (hbd.cell (p := ⟨b, off + k * 2, none⟩) hbb).trans r0
      have d3 := (hbd.cell (p := ⟨b, off + k * 2 + 1, none⟩) hbb).trans r1
      clear hbd
      go_wp2_with fail
      go_region_held3 (fun u => u.cell? ⟨b, off + k * 2, none⟩ = some (.int .i64 t) ∧ u.cell? ⟨b, off + k * 2 + 1, none⟩ = some (.slice ra rb.length rc)) (go_keep) (fail)
      have hF : FarQ wr u9 ⟨t, ra, rc, rb⟩ := far_in HQ2.out HB.out (fun g hg => (World.ownsRow.lt ho.row g hg).1)
      have hb1 : Below wr.heap.size wr (wr.alloc (.cells #[.int .i64 t, .slice ra rb.length rc] 54)).drew := ((Below.refl _ _).alloc (Nat.le_refl _) _).drew
      have HX1 := hide (Blk.new wr #[.int .i64 t, .slice ra rb.length rc] 54).drew
      have HO1 := hide (HO.out.below hb1)
      have HB1 := hide (HB.out.trans (hb1.mono HB.out.size))
      have HF1 := hide (hF.below hb1)
      have f0 := (hb1.cell (p := ⟨b, off + k * 2, none⟩) hbb).trans r0
      have HMy : Hid ((R.take (k + 1)).all (mayR p s) = ((R.take k).all (mayR p s) && mayR p s ⟨t, ra, rc, rb⟩)) := hide (by rw [HTk.out, List.all_append]; simp)
      clear d0 d1 d2 d3 r0 r1 hF hb1 ho
      generalize (wr.alloc (.cells #[.int .i64 t, .slice ra rb.length rc] 54)).drew = w1 at *
      have g0 := HX1.out.cell 0 _ rfl
      have g1 := HX1.out.cell 1 _ rfl
      generalize (R.take k).all (mayR p s) = mk at *
      by_cases hm : mk = true ∧ 0 ≤ t ∧ t ≤ 4194304
      · obtain ⟨rfl, ht0, ht1⟩ := hm
        have hM := May_any w1 t ra rc rb.length p s ht0 ht1 hrb hp hs
        have eM : mayR p s ⟨t, ra, rc, rb⟩ = (decide (t + rb.length ≤ 4194304) && (decide (t + rb.length ≤ p) || decide ((p : Int) + s ≤ t))) := by
          unfold mayR
          simp only [ht0, ht1, decide_true, Bool.true_and]
        rw [← eM] at hM
        have HM := hide hM
        clear hM eM
        generalize mayR p s ⟨t, ra, rc, rb⟩ = mb at *
        rw [Bool.true_and] at HMy
        go_wp2_with fail
        refine HM.out.mono ?_
        rintro e9 w2 ⟨rfl, hb2⟩
        have HO2 := hide (HO1.out.below hb2)
        have HB2 := hide (HB1.out.trans (hb2.mono HB1.out.size))
        have HF2 := hide (HF1.out.below hb2)
        have HX2 := hide (HX1.out.below hb2)
        clear f0 g0 g1 hb2 HM
        have hb3 : Below w2.heap.size w2 (w2.alloc (.cells #[.int .i64 t, .slice ra rb.length rc] 54)) := (Below.refl w2.heap.size w2).alloc (Nat.le_refl _) _
        have HO3 := hide (HO2.out.below hb3)
        have HB3 := hide (HB2.out.trans (hb3.mono HB2.out.size))
        have HF3 := hide (HF2.out.below hb3)
        have HN3 := hide (new2J w2 54 (.int .i64 t) (.slice ra rb.length rc))
        have hkl : (R.take k).length = k := by simp; omega
        have e0 := HX2.out.cell 0 _ rfl
        have e1 := HX2.out.cell 1 _ rfl
        clear hb3
        go_wp2_with (at_builtin; refine wpList_append_own_at _ rfl (.tmp 53) (.tmp 55) 31 rfl w.heap.size 54 i1 (.agg #[.int .i64 0, .slice none 0 0]) 2 32 Try.underlying31 hi hz0 hz1 hz2 rfl (by decide) u9 (R.take k).length ((R.take k).flatMap JR.cells) rfl HO3.out.row ⟨w2.heap.size, 0, none⟩ 1 1 [.int .i64 t, .slice ra rb.length rc] rfl rfl HN3.out (by simp [Value.oneCell']) (by unfold maxLen; omega) (by omega) HB3.out.size ?_; intro v5 w5 ho5 hg5 _ hw5; have HO5 := hide ho5; have HG5 := hide hg5; have HW5 := hide hw5; clear ho5 hg5 hw5)
        have hb5 := HB3.out.grown HG5.out HB3.out.size (fun q hq => (World.ownsRow.lt HO3.out.row q hq).1)
        exact ⟨⟨k + 1, by omega, by congr 1 <;> omega, by rw [HMy.out], by rw [HTk.out]; exact OwnQ.append (r := ⟨t, ra, rc, rb⟩) HO3.out HF3.out HO5.out HG5.out HW5.out, hb5⟩, by simp [intOf]; omega⟩
      · have hmf : (mk && mayR p s ⟨t, ra, rc, rb⟩) = false := by
          rw [Bool.and_eq_false_iff]
          by_cases h1 : mk = true
          · right
            unfold mayR
            by_cases h2 : 0 ≤ t
            · have h3 : ¬ t ≤ 4194304 := fun h3 => hm ⟨h1, h2, h3⟩
              simp [h3]
            · simp [h2]
          · left
            simpa using h1
        rw [hmf] at HMy
        clear hmf
        obtain ⟨w2, hw2⟩ : ∃ w2, w2 = w1 := ⟨_, rfl⟩
        subst hw2
        have HO2 := HO1
        have HB2 := HB1
        have HF2 := HF1
        have HX2 := HX1
        cases mk with
        | false =>
          have hb3 : Below w2.heap.size w2 (w2.alloc (.cells #[.int .i64 t, .slice ra rb.length rc] 54)) := (Below.refl w2.heap.size w2).alloc (Nat.le_refl _) _
          have HO3 := hide (HO2.out.below hb3)
          have HB3 := hide (HB2.out.trans (hb3.mono HB2.out.size))
          have HF3 := hide (HF2.out.below hb3)
          have HN3 := hide (new2J w2 54 (.int .i64 t) (.slice ra rb.length rc))
          have hkl : (R.take k).length = k := by simp; omega
          have e0 := HX2.out.cell 0 _ rfl
          have e1 := HX2.out.cell 1 _ rfl
          clear hb3
          go_wp2_with (at_builtin; refine wpList_append_own_at _ rfl (.tmp 53) (.tmp 55) 31 rfl w.heap.size 54 i1 (.agg #[.int .i64 0, .slice none 0 0]) 2 32 Try.underlying31 hi hz0 hz1 hz2 rfl (by decide) u9 (R.take k).length ((R.take k).flatMap JR.cells) rfl HO3.out.row ⟨w2.heap.size, 0, none⟩ 1 1 [.int .i64 t, .slice ra rb.length rc] rfl rfl HN3.out (by simp [Value.oneCell']) (by unfold maxLen; omega) (by omega) HB3.out.size ?_; intro v5 w5 ho5 hg5 _ hw5; have HO5 := hide ho5; have HG5 := hide hg5; have HW5 := hide hw5; clear ho5 hg5 hw5)
          have hb5 := HB3.out.grown HG5.out HB3.out.size (fun q hq => (World.ownsRow.lt HO3.out.row q hq).1)
          exact ⟨⟨k + 1, by omega, by congr 1 <;> omega, by rw [HMy.out], by rw [HTk.out]; exact OwnQ.append (r := ⟨t, ra, rc, rb⟩) HO3.out HF3.out HO5.out HG5.out HW5.out, hb5⟩, by simp [intOf]; omega⟩
        | true =>
          by_cases h2 : 0 ≤ t
          · have h3 : ¬ t ≤ 4194304 := fun h3 => hm ⟨rfl, h2, h3⟩
            clear hm
            have hb3 : Below w2.heap.size w2 (w2.alloc (.cells #[.int .i64 t, .slice ra rb.length rc] 54)) := (Below.refl w2.heap.size w2).alloc (Nat.le_refl _) _
            have HO3 := hide (HO2.out.below hb3)
            have HB3 := hide (HB2.out.trans (hb3.mono HB2.out.size))
            have HF3 := hide (HF2.out.below hb3)
            have HN3 := hide (new2J w2 54 (.int .i64 t) (.slice ra rb.length rc))
            have hkl : (R.take k).length = k := by simp; omega
            have e0 := HX2.out.cell 0 _ rfl
            have e1 := HX2.out.cell 1 _ rfl
            clear hb3
            go_wp2_with (at_builtin; refine wpList_append_own_at _ rfl (.tmp 53) (.tmp 55) 31 rfl w.heap.size 54 i1 (.agg #[.int .i64 0, .slice none 0 0]) 2 32 Try.underlying31 hi hz0 hz1 hz2 rfl (by decide) u9 (R.take k).length ((R.take k).flatMap JR.cells) rfl HO3.out.row ⟨w2.heap.size, 0, none⟩ 1 1 [.int .i64 t, .slice ra rb.length rc] rfl rfl HN3.out (by simp [Value.oneCell']) (by unfold maxLen; omega) (by omega) HB3.out.size ?_; intro v5 w5 ho5 hg5 _ hw5; have HO5 := hide ho5; have HG5 := hide hg5; have HW5 := hide hw5; clear ho5 hg5 hw5)
            have hb5 := HB3.out.grown HG5.out HB3.out.size (fun q hq => (World.ownsRow.lt HO3.out.row q hq).1)
            exact ⟨⟨k + 1, by omega, by congr 1 <;> omega, by rw [HMy.out], by rw [HTk.out]; exact OwnQ.append (r := ⟨t, ra, rc, rb⟩) HO3.out HF3.out HO5.out HG5.out HW5.out, hb5⟩, by simp [intOf]; omega⟩
          · clear hm
            have hb3 : Below w2.heap.size w2 (w2.alloc (.cells #[.int .i64 t, .slice ra rb.length rc] 54)) := (Below.refl w2.heap.size w2).alloc (Nat.le_refl _) _
            have HO3 := hide (HO2.out.below hb3)
            have HB3 := hide (HB2.out.trans (hb3.mono HB2.out.size))
            have HF3 := hide (HF2.out.below hb3)
            have HN3 := hide (new2J w2 54 (.int .i64 t) (.slice ra rb.length rc))
            have hkl : (R.take k).length = k := by simp; omega
            have e0 := HX2.out.cell 0 _ rfl
            have e1 := HX2.out.cell 1 _ rfl
            clear hb3
            go_wp2_with (at_builtin; refine wpList_append_own_at _ rfl (.tmp 53) (.tmp 55) 31 rfl w.heap.size 54 i1 (.agg #[.int .i64 0, .slice none 0 0]) 2 32 Try.underlying31 hi hz0 hz1 hz2 rfl (by decide) u9 (R.take k).length ((R.take k).flatMap JR.cells) rfl HO3.out.row ⟨w2.heap.size, 0, none⟩ 1 1 [.int .i64 t, .slice ra rb.length rc] rfl rfl HN3.out (by simp [Value.oneCell']) (by unfold maxLen; omega) (by omega) HB3.out.size ?_; intro v5 w5 ho5 hg5 _ hw5; have HO5 := hide ho5; have HG5 := hide hg5; have HW5 := hide hw5; clear ho5 hg5 hw5)
            have hb5 := HB3.out.grown HG5.out HB3.out.size (fun q hq => (World.ownsRow.lt HO3.out.row q hq).1)
            exact ⟨⟨k + 1, by omega, by congr 1 <;> omega, by rw [HMy.out], by rw [HTk.out]; exact OwnQ.append (r := ⟨t, ra, rc, rb⟩) HO3.out HF3.out HO5.out HG5.out HW5.out, hb5⟩, by simp [intOf]; omega⟩
    · obtain rfl : k = R.length := by omega
      rw [List.take_of_length_le (Nat.le_refl _)] at HO
      rw [List.take_of_length_le (Nat.le_refl _)]
      obtain ⟨aw, cw, rfl, hwl, _, _⟩ := HO.out.form
      have HE := hide (REncode_big aw cw R wr hwl (by omega) HLn.out)
      have HEl := hide (encD_length (R.map JR.dat))
      have hlD := HLn.out
      generalize encD (R.map JR.dat) = E at *
      clear hwl ho
      have hsw : IntKind.i64.wrap ((s : Int) - 512) = (s : Int) - 512 := by rw [IntKind.wrap_i64]; omega
      go_wp2_with fail
      refine HE.out.mono ?_
      rintro e9 w2 ⟨v2, rfl, ho2, hb2⟩
      obtain ⟨ae, ce, rfl, _, _⟩ := ho2.form
      rw [HEl.out]
      have HO2 := hide (HO.out.below hb2)
      have HB2 := hide (HB.out.trans (hb2.mono HB.out.size))
      clear ho2 hb2
      go_wp2_with fail
      go_ret3
      exact ⟨.slice aw R.length cw, rfl, HO2.out, HB2.out⟩
end Go.Proofs.Ytifngegkijdbmaa.Oct
