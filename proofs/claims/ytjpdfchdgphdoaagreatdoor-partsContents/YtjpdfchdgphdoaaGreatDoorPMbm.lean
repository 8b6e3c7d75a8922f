/- One of the chain's sectors: link. -/
import Derived.Test.YtjpdfchdgphdoaaGreatDoorPMbl
namespace Go.Proofs.YtjpdfchdgphdoaaGreatDoor.Oct
open Go.RowKit


theorem Blk.set3 {u : World} {R : Nat} {x y z : Value} {t : TypeId} (h : Blk u R #[x, y, z] t) (p q r : Value) : Blk (((u.setCell ⟨R, 0, none⟩ p).setCell ⟨R, 1, none⟩ q).setCell ⟨R, 2, none⟩ r) R #[p, q, r] t := by
  have := ((h.set 0 p).set 1 q).set 2 r
  simpa using this

theorem Kept.set3 {K : Nat → Prop} {w u : World} (h : Kept K w u) {Q : Nat} (hQ : w.heap.size ≤ Q) (x y z : Value) : Kept K w (((u.setCell ⟨Q, 0, none⟩ x).setCell ⟨Q, 1, none⟩ y).setCell ⟨Q, 2, none⟩ z) :=
  ((Chg.setC h Q 0 x (fun e => by omega)).setC Q 1 y (fun e => by omega)).setC Q 2 z (fun e => by omega)

theorem Rdg.set3 {K : Nat → Prop} {u : World} {R Q : Nat} {dv vP vH : Value} {st : MS} (h : Rdg u K R dv vP vH st) (hQ : K Q) (x y z : Value) : Rdg (((u.setCell ⟨Q, 0, none⟩ x).setCell ⟨Q, 1, none⟩ y).setCell ⟨Q, 2, none⟩ z) K R dv vP vH st :=
  h.chg (X := fun k => k = Q) ((((Chg.refl (fun k => k = Q) _).setC Q 0 x (fun _ => rfl)).setC Q 1 y (fun _ => rfl)).setC Q 2 z (fun _ => rfl)) (fun e => h.kR (e ▸ hQ)) (fun g e e2 => (h.kP g e).1 (e2 ▸ hQ)) (fun g e e2 => (h.kH g e).1 (e2 ▸ hQ))

set_option maxHeartbeats 16000000 in
set_option maxRecDepth 100000 in
theorem link_any (w : World) (K : Nat → Prop) (R : Nat) (a : Option Addr) (cap : Nat) (d : List Int) (vP vH : Value) (st : MS) (h : Rdg w K R (.iface 33 (.slice a d.length cap)) vP vH st) (hl : LiesK K w a d) (hby : Byts d) (hd : d.length ≤ 1000000000) (hcap : d.length ≤ cap) (hH : st.H.length ≤ 1000000) (hP : st.P.length ≤ 1000000) (slot s : Int) (hs : -400000000000 ≤ s ∧ s ≤ 400000000000) :
    Calls Tryz.prog 58 #[.pointer (some ⟨R, 0, none⟩), .int .i64 slot, .int .i64 s] w fun e w' => EndL K R (.iface 33 (.slice a d.length cap)) (linkM d st slot s) e w' ∧ Kept K w w' := by
  obtain ⟨w0, hw0⟩ : ∃ w0, w0 = w.alloc (.cells #[.int .i64 0, .int .i64 0, .int .i64 0] 128) := ⟨_, rfl⟩
  have hb0 : Below w.heap.size w w0 := by rw [hw0]; exact (Below.refl _ _).alloc (Nat.le_refl _) _
  have hq0 : Blk w0 w.heap.size #[.int .i64 0, .int .i64 0, .int .i64 0] 128 := by rw [hw0]; exact Blk.new _ _ _
  have hr0 := h.more hb0 (Nat.le_refl _) hq0.lt
  have HLd0 : Hid (LiesK (fun k => K k ∨ k = w.heap.size) w0 a d) := hide ⟨(hl.kept (Kept.of_below hb0)).1, fun x hx => Or.inl (hl.2 x hx)⟩
  have HEn := fun u (hu : Rdg u (fun k => K k ∨ k = w.heap.size) R (.iface 33 (.slice a d.length cap)) vP vH st) (hl2 : LiesK (fun k => K k ∨ k = w.heap.size) u a d) => hide (rentries_any u (fun k => K k ∨ k = w.heap.size) R a cap d vP vH st hu hl2 hby hd hcap hH s (by omega))
  have HSp := fun u => hide (span_any s 1 u (by omega) (by omega))
  have HIs := fun u => hide (inside_any (s * 512) ((s + 1) * 512) st.i1 st.i2 u)
  obtain ⟨bi, hbi⟩ : ∃ bi, bi = (decide (st.i1 ≤ s * 512) && decide ((s + 1) * 512 ≤ st.i2)) := ⟨_, rfl⟩
  rw [← hbi] at HIs
  have HBy := hide hby
  have HBs : Hid (Byts (secD d s.toNat)) := hide ((hby.drop _).take _)
  have c2 : w0.drew.cell? ⟨R, 2, none⟩ = some (.int .i64 st.i1) := hr0.cell.2.2.1
  have c3 : w0.drew.cell? ⟨R, 3, none⟩ = some (.int .i64 st.i2) := hr0.cell.2.2.2.1
  have hlt : R < w0.drew.heap.size := hr0.blk.lt
  have HR0 := hide hr0
  have HQ0 := hide hq0
  have HK0 : Hid (Kept K w w0) := hide (Kept.of_below hb0)
  have HB := hide (Below.refl w0.drew.heap.size w0.drew)
  have HW0 := hide hw0
  have HBi := hide hbi
  have HP := hide hP
  clear h hl hby hd hcap hb0 hq0 hr0 hw0 hbi hP
  go_enter Tryz.func58, Tryz.ntmps58
  go_wp2_with fail
  rw [← HW0.out]
  go_region_held3 (fun u => u.cell? ⟨R, 2, none⟩ = some (.int .i64 st.i1) ∧ u.cell? ⟨R, 3, none⟩ = some (.int .i64 st.i2)) (first | go_keep | exact ⟨c2, c3⟩ | exact HC.out) (first
    | (go_at_call 74; refine ((HSp _).out).mono ?_; rintro e9 w1 ⟨rfl, hb1⟩; have HB := hide (HB.out.trans (hb1.mono HB.out.size)); have HC := hide (And.intro ((HB.out.cell (p := ⟨R, 2, none⟩) hlt).trans c2) ((HB.out.cell (p := ⟨R, 3, none⟩) hlt).trans c3)); clear hb1)
    | (go_at_call 80; refine ((HIs _).out).mono ?_; rintro e9 w2 ⟨rfl, hb2⟩; have HB := hide (HB.out.trans (hb2.mono HB.out.size)); have HC := hide (And.intro ((HB.out.cell (p := ⟨R, 2, none⟩) hlt).trans c2) ((HB.out.cell (p := ⟨R, 3, none⟩) hlt).trans c3)); clear hb2))
  all_goals
    have HR2 := hide (HR0.out.drew.below HB.out)
    have HQ := hide (HQ0.out.drew.below HB.out)
    have HK2 := hide (HK0.out.drew.trans (Kept.of_below HB.out))
    have HL2 := hide ((HLd0.out.kept (Kept.refl _ _).drew).kept (Kept.of_below HB.out))
    clear HR0 HQ0 HK0 HLd0 HB HC c2 c3 hlt HSp HIs
    have q0 := HQ.out.cell 0 _ rfl
    have q1 := HQ.out.cell 1 _ rfl
    have q2 := HQ.out.cell 2 _ rfl
    have f0 := HQ.out.frozen 0
    have f1 := HQ.out.frozen 1
    have f2 := HQ.out.frozen 2
    cases bi
    · have HO : Hid (linkM d st slot s = .error 4) := hide (by
        have hn : ¬ (st.i1 ≤ s * 512 ∧ (s + 1) * 512 ≤ st.i2) := by have := HBi.out; simp at this; omega
        unfold linkM
        rw [if_pos hn])
      go_wp2_with fail
      refine bodyPost_ret (ret_agg rfl _ _ w.heap.size #[.int .i64 0, .int .i64 0, .int .i64 0] _ rfl rfl (run_loadVar_row _ w.heap.size 128 128 _ (0, 0) _ (((HQ.out.set 0 _).set 1 _).set 2 _) Tryz.underlying128 rfl (by kernel_rfl))) rfl ?_
      exact ⟨Or.inr ⟨4, HO.out, by decide, rfl⟩, HK2.out.set3 (Nat.le_refl _) _ _ _⟩
    · have HO : Hid (linkM d st slot s = match rdM d st s with
        | .error c => .error c
        | .ok st1 =>
          if (entM (secD d s.toNat) 478).1 ≠ 0 ∨ (entM (secD d s.toNat) 494).1 ≠ 0 ∨ leads (entM (secD d s.toNat) 446) = true then .error 11 else
          match (if (entM (secD d s.toNat) 446).1 ≠ 0 then addM st1 slot (entM (secD d s.toNat) 446) s st.i1 st.i2 else .ok st1) with
          | .error c => .error c
          | .ok st2 => if (entM (secD d s.toNat) 462).1 ≠ 0 ∧ leads (entM (secD d s.toNat) 462) = false then .error 11 else .ok (st2, entM (secD d s.toNat) 462)) := hide (by
        have hn : ¬ ¬ (st.i1 ≤ s * 512 ∧ (s + 1) * 512 ≤ st.i2) := by have := HBi.out; simp at this; omega
        unfold linkM
        rw [if_neg hn]
        rfl)
      clear HBi
      go_wp2_with fail
      refine ((HEn _ HR2.out HL2.out).out).mono ?_
      rintro e9 w3 ⟨h3 | h3, hk3⟩
      · obtain ⟨hz, g, c, vH3, rfl, hc4, hl3, hr3⟩ := h3
        obtain ⟨st1, hst1⟩ : ∃ st1 : MS, st1 = { st with H := st.H ++ [(s * 512, (s + 1) * 512)] } := ⟨_, rfl⟩
        have hrd : rdM d st s = .ok st1 := by unfold rdM; rw [if_pos hz, hst1]
        have hst1P : st1.P = st.P := by rw [hst1]
        have hst1i : st1.i1 = st.i1 := by rw [hst1]
        have hst1j : st1.i2 = st.i2 := by rw [hst1]
        rw [← hst1] at hr3
        have hfx := entM_fit _ HBs.out 446
        have hens : entsM (secD d s.toNat) = [entM (secD d s.toNat) 446, entM (secD d s.toNat) 462, entM (secD d s.toNat) 478, entM (secD d s.toNat) 494] := rfl
        rw [hens] at hl3
        rw [hrd] at HO
        generalize entM (secD d s.toNat) 446 = x at *
        generalize entM (secD d s.toNat) 462 = y at *
        generalize entM (secD d s.toNat) 478 = z at *
        generalize entM (secD d s.toNat) 494 = t at *
        obtain ⟨a1, a2, a3⟩ := x
        obtain ⟨b1, b2, b3⟩ := y
        have HO3 : Hid (linkM d st slot s = if (z.1 ≠ 0 ∨ t.1 ≠ 0 ∨ leads (a1, a2, a3) = true) then .error 11 else
          match (if a1 ≠ 0 then addM st1 slot (a1, a2, a3) s st.i1 st.i2 else .ok st1) with
          | .error c => .error c
          | .ok st2 => if b1 ≠ 0 ∧ leads (b1, b2, b3) = false then .error 11 else .ok (st2, (b1, b2, b3))) := hide (by rw [HO.out])
        have hl6 : LiesM w3 (some ⟨g, 6, none⟩) [z, t] := by
          rcases hl3 with hl | ⟨b, off, e, hb, hc⟩
          · cases hl
          · cases e
            refine Or.inr ⟨g, 6, rfl, hb, fun k hk => ?_⟩
            have hk2 : k = 0 ∨ k = 1 := by simp at hk; omega
            rcases hk2 with rfl | rfl
            · exact hc 2 (by simp)
            · exact hc 3 (by simp)
        have HCt := hide (containsM_any w3 (some ⟨g, 6, none⟩) (c - 2) [z, t] hl6 (by simp))
        have hll : ([z, t] : List M3).length = 2 := rfl
        rw [hll] at HCt
        obtain ⟨bm, hbm⟩ : ∃ bm, bm = anyT [z, t] := ⟨_, rfl⟩
        rw [← hbm] at HCt
        have HBm : Hid (bm = true ↔ (z.1 ≠ 0 ∨ t.1 ≠ 0)) := hide (by rw [hbm]; unfold anyT; simp)
        have HLl : Hid (LiesM w3 (some ⟨g, 0, none⟩) [(a1, a2, a3), (b1, b2, b3), z, t]) := hide hl3
        have HRr := hide hr3
        have HQ := hide (HQ.out.chg hk3 (fun h => h (Or.inr rfl)))
        have HKw := hide (HK2.out.trans (hk3.mono (fun k e => Or.inl e)))
        have HP1 : Hid (st1.P.length ≤ 1000000) := hide (by rw [hst1P]; exact HP.out)
        have HS1 := hide (And.intro hst1i hst1j)
        have HFx := hide hfx
        have hgl : g < w3.heap.size := by
          rcases hl3 with hl | ⟨b, off, e, hb, hc⟩
          · cases hl
          · cases e; exact hb
        have HLx := fun u => hide (leads_any a1 a2 a3 u)
        have HAd := fun u vP vH (hu : Rdg u (fun k => (K k ∨ k = w.heap.size) ∨ k = g) R (.iface 33 (.slice a d.length cap)) vP vH st1) => hide (add_any u (fun k => (K k ∨ k = w.heap.size) ∨ k = g) R _ vP vH st1 hu HP1.out slot a1 a2 a3 s st.i1 st.i2 HFx.out (by omega))
        clear hz hl3 hr3 hst1 hrd hst1P hst1i hst1j hfx hens hl6 hll hbm hk3 HO HK2 HR2 HL2 q0 q1 q2 f0 f1 f2
        go_wp2_with fail
        refine HCt.out.mono ?_
        rintro e9 w4 ⟨rfl, hb4⟩
        have HQ := hide (HQ.out.below hb4)
        have HRr := hide (HRr.out.below hb4)
        have HLl := hide (HLl.out.below hb4)
        have HKw := hide (HKw.out.trans (Kept.of_below hb4))
        have hgl := Nat.lt_of_lt_of_le hgl hb4.size
        clear hb4 HCt
        cases bm
        · obtain ⟨e0, e1, e2⟩ := HLl.out.at_ 0 (by simp)
          have m0 : w4.cell? ⟨g, 0, none⟩ = some (.int .i64 a1) := e0
          have m1 : w4.cell? ⟨g, 1, none⟩ = some (.int .i64 a2) := e1
          have m2 : w4.cell? ⟨g, 2, none⟩ = some (.int .i64 a3) := e2
          clear e0 e1 e2
          obtain ⟨lx, hlx⟩ : ∃ lx, lx = leads (a1, a2, a3) := ⟨_, rfl⟩
          rw [← hlx] at HO3 HLx
          have HO4 : Hid (linkM d st slot s = if lx = true then .error 11 else
            match (if a1 ≠ 0 then addM st1 slot (a1, a2, a3) s st.i1 st.i2 else .ok st1) with
            | .error c => .error c
            | .ok st2 => if b1 ≠ 0 ∧ leads (b1, b2, b3) = false then .error 11 else .ok (st2, (b1, b2, b3))) := hide (by
            have hno : ¬ (z.1 ≠ 0 ∨ t.1 ≠ 0) := fun h => absurd (HBm.out.2 h) (by decide)
            rw [HO3.out]
            cases lx
            · rw [if_neg (by rintro (h | h | h); exact hno (Or.inl h); exact hno (Or.inr h); cases h)]
              rfl
            · rw [if_pos (Or.inr (Or.inr rfl)), if_pos rfl])
          clear HO3 HBm hlx
          go_wp2_with fail
          refine ((HLx _).out).mono ?_
          rintro e9 w5 ⟨rfl, hb5⟩
          have HQ := hide (HQ.out.below hb5)
          have HRr := hide (HRr.out.below hb5)
          have HLl := hide (HLl.out.below hb5)
          have HKw := hide (HKw.out.trans (Kept.of_below hb5))
          have hgl := Nat.lt_of_lt_of_le hgl hb5.size
          have r0 := (hb5.cell (p := ⟨g, 0, none⟩) (by assumption)).trans m0
          have r1 := (hb5.cell (p := ⟨g, 1, none⟩) (by assumption)).trans m1
          have r2 := (hb5.cell (p := ⟨g, 2, none⟩) (by assumption)).trans m2
          clear hb5 m0 m1 m2
          have q0 := HQ.out.cell 0 _ rfl
          have q1 := HQ.out.cell 1 _ rfl
          have q2 := HQ.out.cell 2 _ rfl
          have f0 := HQ.out.frozen 0
          have f1 := HQ.out.frozen 1
          have f2 := HQ.out.frozen 2
          cases lx
          · by_cases ha1 : a1 = 0
            · have hab : (a1 != 0) = false := by simp [ha1]
              have HO5 : Hid (linkM d st slot s = if b1 ≠ 0 ∧ leads (b1, b2, b3) = false then .error 11 else .ok (st1, (b1, b2, b3))) := hide (by rw [HO4.out, if_neg (by decide), if_neg (by simp [ha1])])
              obtain ⟨st2, hst2⟩ : ∃ st2, st2 = st1 := ⟨_, rfl⟩
              rw [← hst2] at HO5 HRr
              obtain ⟨u, hu⟩ : ∃ u, u = w5 := ⟨_, rfl⟩
              rw [← hu] at HQ HRr HLl HKw r0 r1 r2 ⊢
              clear ha1 HO4 hst2 q0 q1 q2 f0 f1 f2 hgl hu
              obtain ⟨e3, e4, e5⟩ := HLl.out.at_ 1 (by simp)
              have m3 : u.cell? ⟨g, 3, none⟩ = some (.int .i64 b1) := e3
              have m4 : u.cell? ⟨g, 4, none⟩ = some (.int .i64 b2) := e4
              have m5 : u.cell? ⟨g, 5, none⟩ = some (.int .i64 b3) := e5
              clear e3 e4 e5
              have q0 := HQ.out.cell 0 _ rfl
              have q1 := HQ.out.cell 1 _ rfl
              have q2 := HQ.out.cell 2 _ rfl
              have f0 := HQ.out.frozen 0
              have f1 := HQ.out.frozen 1
              have f2 := HQ.out.frozen 2
              have HQ2 : Hid (Blk (((u.setCell ⟨w.heap.size, 0, none⟩ (.int .i64 b1)).setCell ⟨w.heap.size, 1, none⟩ (.int .i64 b2)).setCell ⟨w.heap.size, 2, none⟩ (.int .i64 b3)) w.heap.size #[.int .i64 b1, .int .i64 b2, .int .i64 b3] 128) := hide (by have := ((HQ.out.set 0 (.int .i64 b1)).set 1 (.int .i64 b2)).set 2 (.int .i64 b3); simpa using this)
              have HR2 := hide (HRr.out.set3 (Q := w.heap.size) (Or.inl (Or.inr rfl)) (.int .i64 b1) (.int .i64 b2) (.int .i64 b3))
              have HKw2 := hide (HKw.out.set3 (Nat.le_refl w.heap.size) (.int .i64 b1) (.int .i64 b2) (.int .i64 b3))
              by_cases hb1 : b1 = 0
              · have hbb : (b1 != 0) = false := by simp [hb1]
                have HO6 : Hid (linkM d st slot s = .ok (st2, (b1, b2, b3))) := hide (by rw [HO5.out, if_neg (by simp [hb1])])
                clear hb1
                go_wp2_with fail
                refine bodyPost_ret (ret_agg rfl _ _ w.heap.size #[.int .i64 b1, .int .i64 b2, .int .i64 b3] _ rfl rfl (run_loadVar_row _ w.heap.size 128 128 _ (0, 0) _ (((((HQ.out.set 0 _).set 1 _).set 2 _)).set3 _ _ _) Tryz.underlying128 rfl (by kernel_rfl))) rfl ?_
                exact ⟨Or.inl ⟨st2, (b1, b2, b3), _, _, HO6.out, rfl, (HR2.out.set3 (Q := w.heap.size) (Or.inl (Or.inr rfl)) _ _ _).mono (fun k e => Or.inl (Or.inl e))⟩, HKw2.out.set3 (Nat.le_refl _) _ _ _⟩
              · have hbb : (b1 != 0) = true := by simpa using hb1
                have HO6 : Hid (linkM d st slot s = if leads (b1, b2, b3) = false then .error 11 else .ok (st2, (b1, b2, b3))) := hide (by
                  rw [HO5.out]
                  cases leads (b1, b2, b3) <;> simp [hb1])
                have HLy := fun u => hide (leads_any b1 b2 b3 u)
                obtain ⟨ly, hly⟩ : ∃ ly, ly = leads (b1, b2, b3) := ⟨_, rfl⟩
                rw [← hly] at HO6 HLy
                clear hb1 hly HO5
                go_wp2_with fail
                refine ((HLy _).out).mono ?_
                rintro e9 w7 ⟨rfl, hb7⟩
                have HQ := hide (HQ2.out.below hb7)
                have HRr := hide (HR2.out.below hb7)
                have HKw := hide (HKw2.out.trans (Kept.of_below hb7))
                clear hb7 HQ2 HR2 HKw2 q0 q1 q2 f0 f1 f2 m3 m4 m5
                have q0 : w7.cell? ⟨w.heap.size, 0, none⟩ = some (.int .i64 b1) := HQ.out.cell 0 _ rfl
                have q1 : w7.cell? ⟨w.heap.size, 1, none⟩ = some (.int .i64 b2) := HQ.out.cell 1 _ rfl
                have q2 : w7.cell? ⟨w.heap.size, 2, none⟩ = some (.int .i64 b3) := HQ.out.cell 2 _ rfl
                have f0 := HQ.out.frozen 0
                have f1 := HQ.out.frozen 1
                have f2 := HQ.out.frozen 2
                cases ly
                · have HO7 : Hid (linkM d st slot s = .error 11) := hide (by rw [HO6.out]; rfl)
                  go_wp2_with fail
                  refine bodyPost_ret (ret_agg rfl _ _ w.heap.size #[.int .i64 0, .int .i64 0, .int .i64 0] _ rfl rfl (run_loadVar_row _ w.heap.size 128 128 _ (0, 0) _ (((HQ.out.set 0 _).set 1 _).set 2 _) Tryz.underlying128 rfl (by kernel_rfl))) rfl ?_
                  exact ⟨Or.inr ⟨11, HO7.out, by decide, rfl⟩, HKw.out.set3 (Nat.le_refl _) _ _ _⟩
                · have HO7 : Hid (linkM d st slot s = .ok (st2, (b1, b2, b3))) := hide (by rw [HO6.out]; rfl)
                  go_wp2_with fail
                  refine bodyPost_ret (ret_agg rfl _ _ w.heap.size #[.int .i64 b1, .int .i64 b2, .int .i64 b3] _ rfl rfl (run_loadVar_row _ w.heap.size 128 128 _ (0, 0) _ (HQ.out.set3 _ _ _) Tryz.underlying128 rfl (by kernel_rfl))) rfl ?_
                  exact ⟨Or.inl ⟨st2, (b1, b2, b3), _, _, HO7.out, rfl, (HRr.out.set3 (Q := w.heap.size) (Or.inl (Or.inr rfl)) _ _ _).mono (fun k e => Or.inl (Or.inl e))⟩, HKw.out.set3 (Nat.le_refl _) _ _ _⟩
            · have hab : (a1 != 0) = true := by simpa using ha1
              have HO6 : Hid (linkM d st slot s = match addM st1 slot (a1, a2, a3) s st.i1 st.i2 with
                | .error c => .error c
                | .ok st2 => if b1 ≠ 0 ∧ leads (b1, b2, b3) = false then .error 11 else .ok (st2, (b1, b2, b3))) := hide (by rw [HO4.out, if_neg (by decide), if_pos ha1])
              have c2 : w5.drew.cell? ⟨R, 2, none⟩ = some (.int .i64 st.i1) := by rw [← HS1.out.1]; exact HRr.out.cell.2.2.1
              have c3 : w5.drew.cell? ⟨R, 3, none⟩ = some (.int .i64 st.i2) := by rw [← HS1.out.2]; exact HRr.out.cell.2.2.2.1
              clear ha1 HO4 q0 q1 q2 f0 f1 f2
              go_wp2_with fail
              have n0 : w5.drew.cell? ⟨g, 0, none⟩ = some (.int .i64 a1) := r0
              have n1 : w5.drew.cell? ⟨g, 1, none⟩ = some (.int .i64 a2) := r1
              have n2 : w5.drew.cell? ⟨g, 2, none⟩ = some (.int .i64 a3) := r2
              go_region_with (go_at_call 78; refine ((HAd _ _ _ HRr.out.drew).out).mono ?_; rintro e9 w6 ⟨he6, hk6⟩; obtain ⟨c6, rfl, hc6⟩ := he6.form; have HE6 := hide hc6; have HK6 := hide hk6; clear he6 hk6 hc6)
              all_goals
                have HKw := hide (HKw.out.drew.trans (HK6.out.mono (fun k e => Or.inl (Or.inl e))))
                have HLl := hide ((show LiesM w5.drew (some ⟨g, 0, none⟩) [(a1, a2, a3), (b1, b2, b3), z, t] from HLl.out).chg HK6.out (fun x hx => fun h => by cases hx; exact h (Or.inr rfl)))
                have HQ := hide (HQ.out.drew.chg HK6.out (fun h => h (Or.inl (Or.inr rfl))))
                rcases HE6.out with ⟨st2, vP6, vH6, h7, rfl, h8⟩ | ⟨h7, h8⟩
                · have HO5 : Hid (linkM d st slot s = if b1 ≠ 0 ∧ leads (b1, b2, b3) = false then .error 11 else .ok (st2, (b1, b2, b3))) := hide (by rw [HO6.out, h7])
                  have HRr := hide h8
                  obtain ⟨u, hu⟩ : ∃ u, u = w6 := ⟨_, rfl⟩
                  rw [← hu] at HQ HRr HLl HKw ⊢
                  clear h7 h8 hu HE6 HK6 HO6 r0 r1 r2 n0 n1 n2 c2 c3
                  obtain ⟨e3, e4, e5⟩ := HLl.out.at_ 1 (by simp)
                  have m3 : u.cell? ⟨g, 3, none⟩ = some (.int .i64 b1) := e3
                  have m4 : u.cell? ⟨g, 4, none⟩ = some (.int .i64 b2) := e4
                  have m5 : u.cell? ⟨g, 5, none⟩ = some (.int .i64 b3) := e5
                  clear e3 e4 e5
                  have q0 := HQ.out.cell 0 _ rfl
                  have q1 := HQ.out.cell 1 _ rfl
                  have q2 := HQ.out.cell 2 _ rfl
                  have f0 := HQ.out.frozen 0
                  have f1 := HQ.out.frozen 1
                  have f2 := HQ.out.frozen 2
                  have HQ2 : Hid (Blk (((u.setCell ⟨w.heap.size, 0, none⟩ (.int .i64 b1)).setCell ⟨w.heap.size, 1, none⟩ (.int .i64 b2)).setCell ⟨w.heap.size, 2, none⟩ (.int .i64 b3)) w.heap.size #[.int .i64 b1, .int .i64 b2, .int .i64 b3] 128) := hide (by have := ((HQ.out.set 0 (.int .i64 b1)).set 1 (.int .i64 b2)).set 2 (.int .i64 b3); simpa using this)
                  have HR2 := hide (HRr.out.set3 (Q := w.heap.size) (Or.inl (Or.inr rfl)) (.int .i64 b1) (.int .i64 b2) (.int .i64 b3))
                  have HKw2 := hide (HKw.out.set3 (Nat.le_refl w.heap.size) (.int .i64 b1) (.int .i64 b2) (.int .i64 b3))
                  by_cases hb1 : b1 = 0
                  · have hbb : (b1 != 0) = false := by simp [hb1]
                    have HO6 : Hid (linkM d st slot s = .ok (st2, (b1, b2, b3))) := hide (by rw [HO5.out, if_neg (by simp [hb1])])
                    clear hb1
                    go_wp2_with fail
                    refine bodyPost_ret (ret_agg rfl _ _ w.heap.size #[.int .i64 b1, .int .i64 b2, .int .i64 b3] _ rfl rfl (run_loadVar_row _ w.heap.size 128 128 _ (0, 0) _ (((((HQ.out.set 0 _).set 1 _).set 2 _)).set3 _ _ _) Tryz.underlying128 rfl (by kernel_rfl))) rfl ?_
                    exact ⟨Or.inl ⟨st2, (b1, b2, b3), _, _, HO6.out, rfl, (HR2.out.set3 (Q := w.heap.size) (Or.inl (Or.inr rfl)) _ _ _).mono (fun k e => Or.inl (Or.inl e))⟩, HKw2.out.set3 (Nat.le_refl _) _ _ _⟩
                  · have hbb : (b1 != 0) = true := by simpa using hb1
                    have HO6 : Hid (linkM d st slot s = if leads (b1, b2, b3) = false then .error 11 else .ok (st2, (b1, b2, b3))) := hide (by
                      rw [HO5.out]
                      cases leads (b1, b2, b3) <;> simp [hb1])
                    have HLy := fun u => hide (leads_any b1 b2 b3 u)
                    obtain ⟨ly, hly⟩ : ∃ ly, ly = leads (b1, b2, b3) := ⟨_, rfl⟩
                    rw [← hly] at HO6 HLy
                    clear hb1 hly HO5
                    go_wp2_with fail
                    refine ((HLy _).out).mono ?_
                    rintro e9 w7 ⟨rfl, hb7⟩
                    have HQ := hide (HQ2.out.below hb7)
                    have HRr := hide (HR2.out.below hb7)
                    have HKw := hide (HKw2.out.trans (Kept.of_below hb7))
                    clear hb7 HQ2 HR2 HKw2 q0 q1 q2 f0 f1 f2 m3 m4 m5
                    have q0 : w7.cell? ⟨w.heap.size, 0, none⟩ = some (.int .i64 b1) := HQ.out.cell 0 _ rfl
                    have q1 : w7.cell? ⟨w.heap.size, 1, none⟩ = some (.int .i64 b2) := HQ.out.cell 1 _ rfl
                    have q2 : w7.cell? ⟨w.heap.size, 2, none⟩ = some (.int .i64 b3) := HQ.out.cell 2 _ rfl
                    have f0 := HQ.out.frozen 0
                    have f1 := HQ.out.frozen 1
                    have f2 := HQ.out.frozen 2
                    cases ly
                    · have HO7 : Hid (linkM d st slot s = .error 11) := hide (by rw [HO6.out]; rfl)
                      go_wp2_with fail
                      refine bodyPost_ret (ret_agg rfl _ _ w.heap.size #[.int .i64 0, .int .i64 0, .int .i64 0] _ rfl rfl (run_loadVar_row _ w.heap.size 128 128 _ (0, 0) _ (((HQ.out.set 0 _).set 1 _).set 2 _) Tryz.underlying128 rfl (by kernel_rfl))) rfl ?_
                      exact ⟨Or.inr ⟨11, HO7.out, by decide, rfl⟩, HKw.out.set3 (Nat.le_refl _) _ _ _⟩
                    · have HO7 : Hid (linkM d st slot s = .ok (st2, (b1, b2, b3))) := hide (by rw [HO6.out]; rfl)
                      go_wp2_with fail
                      refine bodyPost_ret (ret_agg rfl _ _ w.heap.size #[.int .i64 b1, .int .i64 b2, .int .i64 b3] _ rfl rfl (run_loadVar_row _ w.heap.size 128 128 _ (0, 0) _ (HQ.out.set3 _ _ _) Tryz.underlying128 rfl (by kernel_rfl))) rfl ?_
                      exact ⟨Or.inl ⟨st2, (b1, b2, b3), _, _, HO7.out, rfl, (HRr.out.set3 (Q := w.heap.size) (Or.inl (Or.inr rfl)) _ _ _).mono (fun k e => Or.inl (Or.inl e))⟩, HKw.out.set3 (Nat.le_refl _) _ _ _⟩
                · have HO7 : Hid (linkM d st slot s = .error c6) := hide (by rw [HO6.out, h7])
                  have hcb : (c6 != 0) = true := by simpa using h8
                  have H8 := hide h8
                  clear h7 h8 HE6 HK6 HO6 r0 r1 r2 n0 n1 n2 c2 c3
                  have q0 := HQ.out.cell 0 _ rfl
                  have q1 := HQ.out.cell 1 _ rfl
                  have q2 := HQ.out.cell 2 _ rfl
                  have f0 := HQ.out.frozen 0
                  have f1 := HQ.out.frozen 1
                  have f2 := HQ.out.frozen 2
                  go_wp2_with fail
                  refine bodyPost_ret (ret_agg rfl _ _ w.heap.size #[.int .i64 0, .int .i64 0, .int .i64 0] _ rfl rfl (run_loadVar_row _ w.heap.size 128 128 _ (0, 0) _ (((HQ.out.set 0 _).set 1 _).set 2 _) Tryz.underlying128 rfl (by kernel_rfl))) rfl ?_
                  exact ⟨Or.inr ⟨c6, HO7.out, H8.out, rfl⟩, HKw.out.set3 (Nat.le_refl _) _ _ _⟩
          · have HO7 : Hid (linkM d st slot s = .error 11) := hide (by rw [HO4.out, if_pos rfl])
            go_wp2_with fail
            refine bodyPost_ret (ret_agg rfl _ _ w.heap.size #[.int .i64 0, .int .i64 0, .int .i64 0] _ rfl rfl (run_loadVar_row _ w.heap.size 128 128 _ (0, 0) _ (((HQ.out.set 0 _).set 1 _).set 2 _) Tryz.underlying128 rfl (by kernel_rfl))) rfl ?_
            exact ⟨Or.inr ⟨11, HO7.out, by decide, rfl⟩, HKw.out.set3 (Nat.le_refl _) _ _ _⟩
        · have HO7 : Hid (linkM d st slot s = .error 11) := hide (by
            rw [HO3.out, if_pos]
            rcases HBm.out.1 rfl with h | h
            · exact Or.inl h
            · exact Or.inr (Or.inl h))
          have q0 := HQ.out.cell 0 _ rfl
          have q1 := HQ.out.cell 1 _ rfl
          have q2 := HQ.out.cell 2 _ rfl
          have f0 := HQ.out.frozen 0
          have f1 := HQ.out.frozen 1
          have f2 := HQ.out.frozen 2
          go_wp2_with fail
          refine bodyPost_ret (ret_agg rfl _ _ w.heap.size #[.int .i64 0, .int .i64 0, .int .i64 0] _ rfl rfl (run_loadVar_row _ w.heap.size 128 128 _ (0, 0) _ (((HQ.out.set 0 _).set 1 _).set 2 _) Tryz.underlying128 rfl (by kernel_rfl))) rfl ?_
          exact ⟨Or.inr ⟨11, HO7.out, by decide, rfl⟩, HKw.out.set3 (Nat.le_refl _) _ _ _⟩
      · obtain ⟨hz, rfl⟩ := h3
        have HO2 : Hid (linkM d st slot s = .error (secC d s)) := hide (by
          rw [HO.out]
          unfold rdM
          rw [if_neg hz])
        generalize secC d s = c at *
        have hcb : (c != 0) = true := by simpa using hz
        have HZ := hide hz
        have HQ := hide (HQ.out.chg hk3 (fun h => h (Or.inr rfl)))
        have HK3 := hide (HK2.out.trans (hk3.mono (fun k e => Or.inl e)))
        have q0 := HQ.out.cell 0 _ rfl
        have q1 := HQ.out.cell 1 _ rfl
        have q2 := HQ.out.cell 2 _ rfl
        have f0 := HQ.out.frozen 0
        have f1 := HQ.out.frozen 1
        have f2 := HQ.out.frozen 2
        clear hz hk3 HO
        go_wp2_with fail
        refine bodyPost_ret (ret_agg rfl _ _ w.heap.size #[.int .i64 0, .int .i64 0, .int .i64 0] _ rfl rfl (run_loadVar_row _ w.heap.size 128 128 _ (0, 0) _ (((HQ.out.set 0 _).set 1 _).set 2 _) Tryz.underlying128 rfl (by kernel_rfl))) rfl ?_
        exact ⟨Or.inr ⟨c, HO2.out, HZ.out, rfl⟩, HK3.out.set3 (Nat.le_refl _) _ _ _⟩
end Go.Proofs.YtjpdfchdgphdoaaGreatDoor.Oct
