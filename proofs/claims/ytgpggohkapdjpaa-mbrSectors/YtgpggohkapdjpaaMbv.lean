/- A sector's entries, by the document. -/
import Derived.Test.YtgpggohkapdjpaaMbd
import Derived.Test.YtgpggohkapdjpaaRef
import Derived.Test.YtgpggohkapdjpaaRis
import Derived.Test.YtgpggohkapdjpaaMbf
import Derived.Deep.RegionHeld3
namespace Go.Proofs.Ytgpggohkapdjpaa.Oct
open Go.RowKit

set_option maxHeartbeats 400000 in
theorem rintM (a : Option Addr) (cap : Nat) (l : List Int) (p : Nat) (w : World) (h5 : l.length ≤ 1000000) (hb : Byts l) (hl : Lies w a l) (hp : p + 4 ≤ l.length) :
    Calls Try.prog 21 #[.slice a l.length cap, .int .i64 p, .int .i64 4] w fun e w' => e = .returned (.int .i64 (num l p 4)) ∧ w' = w := by
  have HN : Hid (Calls Try.prog 30 #[.slice a l.length cap, .int .i64 p, .int .i64 4] w fun e w' => e = .returned (.tuple #[.int .u64 (num l p 4), .bool true]) ∧ w' = w) := hide (by
    have := Num_any a cap l p 4 (by omega) (by omega) w (by unfold maxLen; omega) hb hl (by omega) (by omega)
    rw [thereB_yes (by omega) (by omega) (by omega), numAt_yes hp] at this
    exact this)
  have hn := num_lt l p hb 4
  have p4 : (256 : Int) ^ 4 = 4294967296 := by decide
  rw [p4] at hn
  clear p4 hl hb
  generalize num l p 4 = v at *
  go_enter Try.func21, Try.ntmps21
  go_wp2_with fail
  refine HN.out.mono ?_
  rintro e9 w2 ⟨rfl, rfl⟩
  go_wp2_with fail
  go_ret
  exact ⟨rfl, rfl⟩

theorem infoR : (Try.prog.info? 33).map (fun i => (i.zero, i.size, i.bytes)) = some (some (.agg #[.int .i64 0, .int .i64 0, .int .i64 0]), 3, 24) := by kernel_rfl

theorem new3M (w : World) (t : TypeId) (x y z : Value) : ∀ (j : Nat) (v : Value), [x, y, z][j]? = some v → (w.alloc (.cells #[x, y, z] t)).cell? ((⟨w.heap.size, 0, none⟩ : Addr).add j) = some v := by
  intro j v hj
  have h := Blk.new w #[x, y, z] t
  rw [Go.WideShapes.add_plain, Nat.zero_add]
  exact h.cell j v (by simpa using hj)

set_option maxHeartbeats 8000000 in
set_option maxRecDepth 100000 in
theorem rents_any (a : Option Addr) (cap : Nat) (l : List Int) (w : World) (hlen : l.length ≤ 1000000) (hby : Byts l) (hl : Lies w a l) :
    Calls Try.prog 9 #[.slice a l.length cap] w fun e w' => Ents 33 w l e w' ∧ Below w.heap.size w w' := by
  by_cases h5 : l.length = 512
  · rcases hl with h | ⟨b, off, rfl, hbl, hc⟩
    · rw [h] at h5; simp at h5
    have hl' : Lies w (some ⟨b, off, none⟩) l := Or.inr ⟨b, off, rfl, hbl, hc⟩
    have q510 := hc 510 (by omega)
    have q511 := hc 511 (by omega)
    have b0 := hby 510
    have b1 := hby 511
    have HE0 : Hid (entC l = if num l 510 2 = 43605 then (if okAll l = true then 0 else 11) else 10) := hide (by unfold entC; rw [if_pos h5])
    have hnum : num l 510 2 = l.getD 510 0 + 256 * l.getD 511 0 := by
      show 0 + l.getD 510 0 * 256 ^ 0 + l.getD 511 0 * 256 ^ 1 = _
      omega
    rw [hnum] at HE0
    have HI : ∀ (p : Nat) (u : World), p + 4 ≤ 512 → Below w.heap.size w u → Hid (Calls Try.prog 21 #[.slice (some ⟨b, off, none⟩) 512 cap, .int .i64 (p : Int), .int .i64 4] u fun e w' => e = .returned (.int .i64 (num l p 4)) ∧ w' = u) := fun p u hp hu => hide (by
      have := rintM (some ⟨b, off, none⟩) cap l p u hlen hby (hl'.below hu) (by omega)
      rw [h5] at this
      exact this)
    have HC : Hid (∀ u, Below w.heap.size w u → ∀ k, k < 512 → u.cell? ⟨b, off + k, none⟩ = some (.int .u8 (l.getD k 0))) := hide (fun u hu k hk => (hu.cell (p := ⟨b, off + k, none⟩) hbl).trans (hc k (by omega)))
    have HBy := hide hby
    have HAI := hide (okAll_iff l)
    have HEq := hide (ents_eq l)
    rw [h5]
    generalize l.getD 510 0 = y0 at *
    generalize l.getD 511 0 = y1 at *
    clear hl' hc hby hnum h5 hlen hbl
    by_cases hs : y0 = 85 ∧ y1 = 170
    · obtain ⟨rfl, rfl⟩ := hs
      obtain ⟨i1, hi, hz0, hz1, hz2⟩ := info_parts infoR
      go_enter Try.func9, Try.ntmps9
      go_wp2_with fail
      clear q510 q511
      go_loopw [4, 5] (fun v4 i wr => ∃ (k : Nat) (R : List M3), k ≤ 4 ∧ i = .int .i64 k ∧ OwnM 33 wr w.heap.size v4 R ∧ R.length = k ∧ (∀ j, j < k → okM l (446 + 16 * j) = true ∧ R.getD j zm3 = entM l (446 + 16 * j)) ∧ Below w.heap.size w wr) (fun _ i _ => 4 - (intOf i).toNat)
      case atStart => exact ⟨0, [], by omega, rfl, OwnM.nil _ _ _, rfl, by intro j hj; omega, Below.refl _ _⟩
      case round =>
        obtain ⟨k, R, hk, rfl, ho, hRn, hall, hbel⟩ := hrel
        have HOw := hide ho
        have HRn := hide hRn
        have HAll := hide hall
        have HB := hide hbel
        clear ho hRn hall hbel
        by_cases hlt : k < 4
        · have hw1 : IntKind.i64.wrap (16 * (k : Int)) = 16 * (k : Int) := by rw [IntKind.wrap_i64]; omega
          have hw2 : IntKind.i64.wrap (446 + 16 * (k : Int)) = 446 + 16 * (k : Int) := by rw [IntKind.wrap_i64]; omega
          have hw3 : IntKind.i64.wrap (446 + 16 * (k : Int) + 4) = 446 + 16 * (k : Int) + 4 := by rw [IntKind.wrap_i64]; omega
          have hw4 : IntKind.i64.wrap (446 + 16 * (k : Int) + 8) = 446 + 16 * (k : Int) + 8 := by rw [IntKind.wrap_i64]; omega
          have hw5 : IntKind.i64.wrap (446 + 16 * (k : Int) + 12) = 446 + 16 * (k : Int) + 12 := by rw [IntKind.wrap_i64]; omega
          obtain ⟨t, ht⟩ : ∃ t : Nat, t = 446 + 16 * k := ⟨_, rfl⟩
          have htc : (446 : Int) + 16 * (k : Int) = (t : Int) := by omega
          rw [htc] at hw2 hw3 hw4 hw5
          have HIq : ∀ (q : Int) (u : World), 0 ≤ q ∧ q + 4 ≤ 512 → Below w.heap.size w u → Hid (Calls Try.prog 21 #[.slice (some ⟨b, off, none⟩) 512 cap, .int .i64 q, .int .i64 4] u fun e w' => e = .returned (.int .i64 (num l q.toNat 4)) ∧ w' = u) := fun q u hq hu => by
            have := HI q.toNat u (by omega) hu
            rw [show ((q.toNat : Nat) : Int) = q by omega] at this
            exact this
          have e8 : ((t : Int) + 8).toNat = t + 8 := by omega
          have e12 : ((t : Int) + 12).toNat = t + 12 := by omega
          have c4 := HC.out wr.drew HB.out.drew (t + 4) (by omega)
          have c0 := HC.out wr.drew HB.out.drew t (by omega)
          have bb4 := HBy.out (t + 4)
          have HEn : Hid (entM l (446 + 16 * k) = (l.getD (t + 4) 0, num l ((t : Int) + 8).toNat 4, num l ((t : Int) + 12).toNat 4) ∧ okM l (446 + 16 * k) = ((decide (l.getD t 0 = 0) || decide (l.getD t 0 = 128)) && (decide (l.getD (t + 4) 0 = 0) == decide (num l ((t : Int) + 12).toNat 4 = 0)))) := hide (by rw [← ht, e8, e12]; exact ⟨rfl, rfl⟩)
          obtain ⟨x1, hx1⟩ : ∃ x1, x1 = l.getD (t + 4) 0 := ⟨_, rfl⟩
          have HX1 := hide hx1.symm
          rw [← hx1] at c4 bb4 HEn
          clear hx1
          obtain ⟨m0, hm0⟩ : ∃ m0, m0 = l.getD t 0 := ⟨_, rfl⟩
          rw [← hm0] at c0 HEn
          have HM0 := hide hm0
          have hwx : IntKind.i64.wrap x1 = x1 := by rw [IntKind.wrap_i64]; omega
          have HBd := hide (HB.out.drew)
          have HBe := hide (HB.out.alloc HB.out.size (.cells #[.int .i64 0, .int .i64 0, .int .i64 0] 33)).drew
          have d4 : (wr.alloc (.cells #[.int .i64 0, .int .i64 0, .int .i64 0] 33)).drew.cell? ⟨b, off + (t + 4), none⟩ = some (.int .u8 x1) := by
            have := HC.out _ HBe.out (t + 4) (by omega)
            rw [HX1.out] at this
            exact this
          have HBf := hide (HB.out.alloc HB.out.size (.cells #[.int .i64 x1, .int .i64 (num l ((t : Int) + 8).toNat 4), .int .i64 (num l ((t : Int) + 12).toNat 4)] 33)).drew
          have f4 : (wr.alloc (.cells #[.int .i64 x1, .int .i64 (num l ((t : Int) + 8).toNat 4), .int .i64 (num l ((t : Int) + 12).toNat 4)] 33)).drew.cell? ⟨b, off + (t + 4), none⟩ = some (.int .u8 x1) := by
            have := HC.out _ HBf.out (t + 4) (by omega)
            rw [HX1.out] at this
            exact this
          have htb : (t : Int) + 8 + 4 ≤ 512 ∧ (t : Int) + 12 + 4 ≤ 512 := by omega
          have ht0 : (0 : Int) ≤ (t : Int) + 4 := by omega
          have ht1 : (t : Int) + 4 < 512 := by omega
          have ht2 : (0 : Int) ≤ (t : Int) := by omega
          have ht3 : (t : Int) < 512 := by omega
          have ht4 : ((t : Int) + 4).toNat = t + 4 := by omega
          clear e8 e12 ht hm0 HI
          go_wp2_with fail
          go_region_held3 (fun u => u.cell? ⟨b, off + (t + 4), none⟩ = some (.int .u8 x1)) (first | go_keep | exact c4 | exact d4 | exact f4) (first | (go_at_call 21; refine ((HIq _ _ (by omega) HBd.out).out).mono ?_; rintro e9 w3 ⟨rfl, h3⟩; have h3 := h3.symm; subst h3) | (go_at_call 21; refine ((HIq _ _ (by omega) HBe.out).out).mono ?_; rintro e9 w3 ⟨rfl, h3⟩; have h3 := h3.symm; subst h3))
          all_goals
            generalize num l ((t : Int) + 8).toNat 4 = x2 at *
            generalize num l ((t : Int) + 12).toNat 4 = x3 at *
            obtain ⟨wd, hwd⟩ : ∃ wd, wd = (wr.alloc (.cells #[.int .i64 x1, .int .i64 x2, .int .i64 x3] 33)).drew := ⟨_, rfl⟩
            rw [← hwd]
            have hbw : Below w.heap.size w wd := by rw [hwd]; exact HBf.out
            have hxw : Blk wd wr.heap.size #[.int .i64 x1, .int .i64 x2, .int .i64 x3] 33 := by rw [hwd]; exact Blk.new _ _ _
            have hov : OwnM 33 wd w.heap.size u4 R := by rw [hwd]; exact HOw.out.below (((Below.refl _ _).alloc (Nat.le_refl _) _).drew)
            have c0' : wd.cell? ⟨b, off + t, none⟩ = some (.int .u8 m0) := by rw [HM0.out]; exact HC.out wd hbw t (by omega)
            have z0 : wd.cell? ⟨wr.heap.size, 0, none⟩ = some (.int .i64 x1) := hxw.cell 0 _ rfl
            have z1 : wd.cell? ⟨wr.heap.size, 1, none⟩ = some (.int .i64 x2) := hxw.cell 1 _ rfl
            have z2 : wd.cell? ⟨wr.heap.size, 2, none⟩ = some (.int .i64 x3) := hxw.cell 2 _ rfl
            have HBw := hide hbw
            have HOv := hide (World.ownsRow.alloc hov (.cells #[.int .i64 x1, .int .i64 x2, .int .i64 x3] 33))
            have HYes0 : Hid (okM l (446 + 16 * k) = true → ∀ j, j < k + 1 → okM l (446 + 16 * j) = true ∧ (R ++ [(x1, x2, x3)]).getD j zm3 = entM l (446 + 16 * j)) := hide (fun hok j hj => by
              by_cases hjk : j < k
              · have := HAll.out j hjk
                refine ⟨this.1, ?_⟩
                rw [← this.2, List.getD_eq_getElem?_getD, List.getD_eq_getElem?_getD, List.getElem?_append_left (by rw [HRn.out]; exact hjk)]
              · obtain rfl : j = k := by omega
                refine ⟨hok, ?_⟩
                rw [HEn.out.1, List.getD_eq_getElem?_getD, List.getElem?_append_right (by rw [HRn.out]; omega), HRn.out]
                simp)
            have HNo0 : Hid (okM l (446 + 16 * k) = false → entC l = 11) := hide (fun hno => by
              rw [HE0.out, if_pos (by decide), if_neg]
              intro h
              have := HAI.out.1 h k hlt
              rw [hno] at this
              cases this)
            have hok2 := HEn.out.2
            have hd0 : decide (m0 = 0) = !(m0 != 0) := by by_cases h : m0 = 0 <;> simp [h]
            have hd1 : decide (m0 = 128) = !(m0 != 128) := by by_cases h : m0 = 128 <;> simp [h]
            have hd2 : decide (x1 = 0) = (x1 == 0) := by by_cases h : x1 = 0 <;> simp [h]
            have hd3 : decide (x3 = 0) = (x3 == 0) := by by_cases h : x3 = 0 <;> simp [h]
            rw [hd0, hd1, hd2, hd3] at hok2
            obtain ⟨p0, hp0⟩ : ∃ p0, (m0 != 0) = p0 := ⟨_, rfl⟩
            obtain ⟨p1, hp1⟩ : ∃ p1, (m0 != 128) = p1 := ⟨_, rfl⟩
            obtain ⟨p2, hp2⟩ : ∃ p2, (x1 == 0) = p2 := ⟨_, rfl⟩
            obtain ⟨p3, hp3⟩ : ∃ p3, (x3 == 0) = p3 := ⟨_, rfl⟩
            rw [hp0, hp1, hp2, hp3] at hok2
            clear hd0 hd1 hd2 hd3 hbw hxw hov hwd c0 c4 d4 f4 HEn HBf HBe HBd
            cases p0
            · cases p2 <;> cases p3
              · have HYes := hide (HYes0.out (by rw [hok2]; simp))
                go_wp2_with (at_builtin; refine wpList_append_own_at _ rfl (.tmp 64) (.tmp 66) 28 rfl w.heap.size 33 i1 (.agg #[.int .i64 0, .int .i64 0, .int .i64 0]) 3 24 Try.underlying28 hi hz0 hz1 hz2 rfl (by decide) u4 R.length (R.flatMap encM) rfl HOv.out ⟨wd.heap.size, 0, none⟩ 1 1 [.int .i64 x1, .int .i64 x2, .int .i64 x3] rfl rfl (new3M wd _ _ _ _) (by simp [Value.oneCell']) (by rw [HRn.out]; unfold maxLen; omega) (by rw [HRn.out]; omega) (by have := HBw.out.size; simp; omega) ?_; intro v5 w5 ho5 hg5 _ _; have HO5 := hide ho5; have HG5 := hide hg5; clear ho5 hg5)
                have ho6 : OwnM 33 w5 w.heap.size v5 (R ++ [(x1, x2, x3)]) := by
                  unfold OwnM
                  rw [List.flatMap_append, List.length_append]
                  exact HO5.out
                have hbw := HBw.out.alloc HBw.out.size (.cells #[.int .i64 x1, .int .i64 x2, .int .i64 x3] 33)
                refine ⟨⟨k + 1, R ++ [(x1, x2, x3)], by omega, by go_num, ho6, by rw [List.length_append, HRn.out]; rfl, HYes.out, hbw.grown HG5.out hbw.size (fun q hq => (World.ownsRow.lt HOv.out q hq).1)⟩, by simp [intOf]; omega⟩
              · have HNo := hide (HNo0.out (by rw [hok2]; simp))
                go_wp2_with fail
                go_ret2
                exact ⟨Or.inr ⟨by rw [HNo.out]; decide, by rw [HNo.out]; rfl⟩, HBw.out⟩
              · have HNo := hide (HNo0.out (by rw [hok2]; simp))
                go_wp2_with fail
                go_ret2
                exact ⟨Or.inr ⟨by rw [HNo.out]; decide, by rw [HNo.out]; rfl⟩, HBw.out⟩
              · have HYes := hide (HYes0.out (by rw [hok2]; simp))
                go_wp2_with (at_builtin; refine wpList_append_own_at _ rfl (.tmp 64) (.tmp 66) 28 rfl w.heap.size 33 i1 (.agg #[.int .i64 0, .int .i64 0, .int .i64 0]) 3 24 Try.underlying28 hi hz0 hz1 hz2 rfl (by decide) u4 R.length (R.flatMap encM) rfl HOv.out ⟨wd.heap.size, 0, none⟩ 1 1 [.int .i64 x1, .int .i64 x2, .int .i64 x3] rfl rfl (new3M wd _ _ _ _) (by simp [Value.oneCell']) (by rw [HRn.out]; unfold maxLen; omega) (by rw [HRn.out]; omega) (by have := HBw.out.size; simp; omega) ?_; intro v5 w5 ho5 hg5 _ _; have HO5 := hide ho5; have HG5 := hide hg5; clear ho5 hg5)
                have ho6 : OwnM 33 w5 w.heap.size v5 (R ++ [(x1, x2, x3)]) := by
                  unfold OwnM
                  rw [List.flatMap_append, List.length_append]
                  exact HO5.out
                have hbw := HBw.out.alloc HBw.out.size (.cells #[.int .i64 x1, .int .i64 x2, .int .i64 x3] 33)
                refine ⟨⟨k + 1, R ++ [(x1, x2, x3)], by omega, by go_num, ho6, by rw [List.length_append, HRn.out]; rfl, HYes.out, hbw.grown HG5.out hbw.size (fun q hq => (World.ownsRow.lt HOv.out q hq).1)⟩, by simp [intOf]; omega⟩
            · cases p1
              · cases p2 <;> cases p3
                · have HYes := hide (HYes0.out (by rw [hok2]; simp))
                  go_wp2_with (at_builtin; refine wpList_append_own_at _ rfl (.tmp 64) (.tmp 66) 28 rfl w.heap.size 33 i1 (.agg #[.int .i64 0, .int .i64 0, .int .i64 0]) 3 24 Try.underlying28 hi hz0 hz1 hz2 rfl (by decide) u4 R.length (R.flatMap encM) rfl HOv.out ⟨wd.heap.size, 0, none⟩ 1 1 [.int .i64 x1, .int .i64 x2, .int .i64 x3] rfl rfl (new3M wd _ _ _ _) (by simp [Value.oneCell']) (by rw [HRn.out]; unfold maxLen; omega) (by rw [HRn.out]; omega) (by have := HBw.out.size; simp; omega) ?_; intro v5 w5 ho5 hg5 _ _; have HO5 := hide ho5; have HG5 := hide hg5; clear ho5 hg5)
                  have ho6 : OwnM 33 w5 w.heap.size v5 (R ++ [(x1, x2, x3)]) := by
                    unfold OwnM
                    rw [List.flatMap_append, List.length_append]
                    exact HO5.out
                  have hbw := HBw.out.alloc HBw.out.size (.cells #[.int .i64 x1, .int .i64 x2, .int .i64 x3] 33)
                  refine ⟨⟨k + 1, R ++ [(x1, x2, x3)], by omega, by go_num, ho6, by rw [List.length_append, HRn.out]; rfl, HYes.out, hbw.grown HG5.out hbw.size (fun q hq => (World.ownsRow.lt HOv.out q hq).1)⟩, by simp [intOf]; omega⟩
                · have HNo := hide (HNo0.out (by rw [hok2]; simp))
                  go_wp2_with fail
                  go_ret2
                  exact ⟨Or.inr ⟨by rw [HNo.out]; decide, by rw [HNo.out]; rfl⟩, HBw.out⟩
                · have HNo := hide (HNo0.out (by rw [hok2]; simp))
                  go_wp2_with fail
                  go_ret2
                  exact ⟨Or.inr ⟨by rw [HNo.out]; decide, by rw [HNo.out]; rfl⟩, HBw.out⟩
                · have HYes := hide (HYes0.out (by rw [hok2]; simp))
                  go_wp2_with (at_builtin; refine wpList_append_own_at _ rfl (.tmp 64) (.tmp 66) 28 rfl w.heap.size 33 i1 (.agg #[.int .i64 0, .int .i64 0, .int .i64 0]) 3 24 Try.underlying28 hi hz0 hz1 hz2 rfl (by decide) u4 R.length (R.flatMap encM) rfl HOv.out ⟨wd.heap.size, 0, none⟩ 1 1 [.int .i64 x1, .int .i64 x2, .int .i64 x3] rfl rfl (new3M wd _ _ _ _) (by simp [Value.oneCell']) (by rw [HRn.out]; unfold maxLen; omega) (by rw [HRn.out]; omega) (by have := HBw.out.size; simp; omega) ?_; intro v5 w5 ho5 hg5 _ _; have HO5 := hide ho5; have HG5 := hide hg5; clear ho5 hg5)
                  have ho6 : OwnM 33 w5 w.heap.size v5 (R ++ [(x1, x2, x3)]) := by
                    unfold OwnM
                    rw [List.flatMap_append, List.length_append]
                    exact HO5.out
                  have hbw := HBw.out.alloc HBw.out.size (.cells #[.int .i64 x1, .int .i64 x2, .int .i64 x3] 33)
                  refine ⟨⟨k + 1, R ++ [(x1, x2, x3)], by omega, by go_num, ho6, by rw [List.length_append, HRn.out]; rfl, HYes.out, hbw.grown HG5.out hbw.size (fun q hq => (World.ownsRow.lt HOv.out q hq).1)⟩, by simp [intOf]; omega⟩
              · have HNo := hide (HNo0.out (by rw [hok2]; simp))
                go_wp2_with fail
                go_ret2
                exact ⟨Or.inr ⟨by rw [HNo.out]; decide, by rw [HNo.out]; rfl⟩, HBw.out⟩
        · obtain rfl : k = 4 := by omega
          obtain ⟨a4, c4, hv4, _⟩ := HOw.out.form
          have hO := HOw.out
          rw [HEq.out R HRn.out (fun j hj => (HAll.out j hj).2)] at hO
          have HO' := hide hO
          clear hO
          go_wp2_with fail
          go_ret2
          have e0 : entC l = 0 := by rw [HE0.out]; simp [HAI.out.2 (fun j hj => (HAll.out j hj).1)]
          exact ⟨Or.inl ⟨e0, _, rfl, HO'.out⟩, HB.out⟩
    · have e10 : entC l = 10 := by rw [HE0.out, if_neg (by omega)]
      have HE10 := hide e10
      have h3 : ¬ y0 = 85 ∨ (y0 = 85 ∧ ¬ y1 = 170) := by omega
      clear e10 hs
      rcases h3 with h3 | ⟨h3, h4⟩
      · have hb0 : (y0 != 85) = true := by simpa using h3
        go_enter Try.func9, Try.ntmps9
        go_wp2_with fail
        go_ret2
        exact ⟨Or.inr ⟨by rw [HE10.out]; decide, by rw [HE10.out]; rfl⟩, Below.refl _ _⟩
      · subst h3
        have hb1 : (y1 != 170) = true := by simpa using h4
        go_enter Try.func9, Try.ntmps9
        go_wp2_with fail
        go_ret2
        exact ⟨Or.inr ⟨by rw [HE10.out]; decide, by rw [HE10.out]; rfl⟩, Below.refl _ _⟩
  · have e4 : entC l = 4 := by unfold entC; rw [if_neg h5]
    have HE4 := hide e4
    have hne : ((l.length : Int) != 512) = true := by simp; omega
    clear e4
    go_enter Try.func9, Try.ntmps9
    go_wp2_with fail
    go_ret2
    exact ⟨Or.inr ⟨by rw [HE4.out]; decide, by rw [HE4.out]; rfl⟩, Below.refl _ _⟩
end Go.Proofs.Ytgpggohkapdjpaa.Oct
