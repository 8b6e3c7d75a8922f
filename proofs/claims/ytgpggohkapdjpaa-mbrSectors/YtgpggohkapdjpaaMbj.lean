/- An entry of the first sector is taken. -/
import Derived.Test.YtgpggohkapdjpaaMbi
namespace Go.Proofs.Ytgpggohkapdjpaa.Oct
open Go.RowKit

theorem Rdg.setInn {w : World} {K : Nat → Prop} {R : Nat} {dv vP vH : Value} {st : MS} (h : Rdg w K R dv vP vH st) (A B : Int) :
    Rdg ((w.setCell ⟨R, 2, none⟩ (.int .i64 A)).setCell ⟨R, 3, none⟩ (.int .i64 B)) K R dv vP vH { st with i1 := A, i2 := B } ∧ Kept K w ((w.setCell ⟨R, 2, none⟩ (.int .i64 A)).setCell ⟨R, 3, none⟩ (.int .i64 B)) := by
  have hs : Chg (fun k => k = R) w ((w.setCell ⟨R, 2, none⟩ (.int .i64 A)).setCell ⟨R, 3, none⟩ (.int .i64 B)) := ((Chg.refl (fun k => k = R) _).setC R 2 _ (fun _ => rfl)).setC R 3 _ (fun _ => rfl)
  refine ⟨⟨?_, h.p.chg hs (fun g e => (h.kP g e).2.1), ownsRow_chg h.h hs (fun g e => (h.kH g e).2), h.kR, h.kP, h.kH, fun k hk => Nat.lt_of_lt_of_le (h.kl k hk) hs.size⟩, hs.mono (fun k _ e hk => h.kR (e ▸ hk))⟩
  have := (h.blk.set 2 (.int .i64 A)).set 3 (.int .i64 B)
  simpa using this

theorem EndC.mono {K K' : Nat → Prop} {R : Nat} {dv : Value} {r : Except Int MS} {c : Int} {w' : World} (h : EndC K R dv r c w') (hk : ∀ k, K' k → K k) : EndC K' R dv r c w' := by
  rcases h with ⟨st', vP', vH', h1, h2, h3⟩ | h
  · exact Or.inl ⟨st', vP', vH', h1, h2, h3.mono hk⟩
  · exact Or.inr h

theorem Rdg.setG {w : World} {K : Nat → Prop} {R : Nat} {dv vP vH : Value} {st : MS} (h : Rdg w K R dv vP vH st) :
    Rdg (w.setCell ⟨R, 4, none⟩ (.bool true)) K R dv vP vH { st with g := true } ∧ Kept K w (w.setCell ⟨R, 4, none⟩ (.bool true)) := by
  have hs : Chg (fun k => k = R) w (w.setCell ⟨R, 4, none⟩ (.bool true)) := (Chg.refl (fun k => k = R) _).setC R 4 _ (fun _ => rfl)
  refine ⟨⟨?_, h.p.chg hs (fun g e => (h.kP g e).2.1), ownsRow_chg h.h hs (fun g e => (h.kH g e).2), h.kR, h.kP, h.kH, fun k hk => Nat.lt_of_lt_of_le (h.kl k hk) hs.size⟩, hs.mono (fun k _ e hk => h.kR (e ▸ hk))⟩
  have := h.blk.set 4 (.bool true)
  simpa using this

set_option maxHeartbeats 8000000 in
set_option maxRecDepth 100000 in
theorem lead_any (w : World) (K : Nat → Prop) (R : Nat) (a : Option Addr) (n cap : Nat) (vP vH : Value) (st : MS) (h : Rdg w K R (.iface 54 (.slice a n cap)) vP vH st) (x1 x2 x3 : Int) (hf : Fit3 (x1, x2, x3)) :
    Calls Try.prog 43 #[.pointer (some ⟨R, 0, none⟩), .agg #[.int .i64 x1, .int .i64 x2, .int .i64 x3]] w fun e w' => Ends K R (.iface 54 (.slice a n cap)) (leadM n st (x1, x2, x3)) e w' ∧ Kept K w w' := by
  obtain ⟨_, hf2, hf3⟩ := hf
  dsimp only at hf2 hf3
  have HS := fun u => hide (span_any x2 x3 u (by omega) (by omega))
  have HLd : Hid (leadM n st (x1, x2, x3) = if st.inn = true then .error 17 else if 512 ≤ x2 * 512 ∧ (x2 + x3) * 512 ≤ (n : Int) then .ok { st with i1 := x2 * 512, i2 := (x2 + x3) * 512 } else .error 4) := hide rfl
  obtain ⟨A, hA⟩ : ∃ A, A = x2 * 512 := ⟨_, rfl⟩
  obtain ⟨B, hB⟩ : ∃ B, B = (x2 + x3) * 512 := ⟨_, rfl⟩
  rw [← hA, ← hB] at HLd HS
  have HI := fun u => hide (inside_any A B 512 (n : Int) u)
  obtain ⟨bi, hbi⟩ : ∃ bi, bi = (decide (512 ≤ A) && decide (B ≤ (n : Int))) := ⟨_, rfl⟩
  rw [← hbi] at HI
  have HBi := hide hbi
  clear hbi
  obtain ⟨w0, hw0⟩ : ∃ w0, w0 = w.alloc (.cells #[.int .i64 x1, .int .i64 x2, .int .i64 x3] 32) := ⟨_, rfl⟩
  have hb0 : Below w.heap.size w w0 := by rw [hw0]; exact (Below.refl _ _).alloc (Nat.le_refl _) _
  have hx0 : Blk w0 w.heap.size #[.int .i64 x1, .int .i64 x2, .int .i64 x3] 32 := by rw [hw0]; exact Blk.new _ _ _
  have hr0 := h.below hb0
  have HIn := hide (inner_any w0 K R _ _ _ st hr0)
  have x02 : w0.cell? ⟨w.heap.size, 1, none⟩ = some (.int .i64 x2) := hx0.cell 1 _ rfl
  have x03 : w0.cell? ⟨w.heap.size, 2, none⟩ = some (.int .i64 x3) := hx0.cell 2 _ rfl
  have HR0 := hide hr0
  have HK0 : Hid (Kept K w w0) := hide (Kept.of_below hb0)
  have HW0 := hide hw0
  have HRm : ∀ u, Rdg u K R (.iface 54 (.slice a n cap)) vP vH st → Hid (Calls Try.prog 45 #[.pointer (some ⟨R, 0, none⟩)] u fun e w' => e = .returned (.agg #[.int .i64 512, .int .i64 (n : Int)]) ∧ Below u.heap.size u w') := fun u hu => hide (room_any u K R a n cap vP vH st hu)
  clear hA hB h hw0 hb0 hx0 hr0
  cases hin : st.inn with
  | true =>
    rw [hin] at HLd HIn
    clear hin
    go_enter Try.func43, Try.ntmps43
    go_wp2_with fail
    rw [← HW0.out]
    refine HIn.out.mono ?_
    rintro e9 w1 ⟨rfl, h1⟩
    have h1 := h1.symm
    subst h1
    go_wp2_with fail
    go_ret
    exact ⟨Or.inr ⟨17, by rw [HLd.out]; simp, by decide, rfl⟩, HK0.out⟩
  | false =>
    rw [hin] at HLd HIn
    clear hin
    go_enter Try.func43, Try.ntmps43
    go_wp2_with fail
    rw [← HW0.out]
    refine HIn.out.mono ?_
    rintro e9 w1 ⟨rfl, h1⟩
    have h1 := h1.symm
    subst h1
    go_wp2_with fail
    refine ((HS _).out).mono ?_
    rintro e9 w1 ⟨rfl, hb1⟩
    obtain ⟨w2, hw2⟩ : ∃ w2, w2 = w1.alloc (.cells #[.int .i64 A, .int .i64 B] 49) := ⟨_, rfl⟩
    have hb2 : Below w0.heap.size w0 w2 := by rw [hw2]; exact hb1.alloc hb1.size _
    have ha2 : Blk w2 w1.heap.size #[.int .i64 A, .int .i64 B] 49 := by rw [hw2]; exact Blk.new _ _ _
    have hr2 := HR0.out.below hb2
    have HK2 := hide (HK0.out.trans (Kept.of_below hb2))
    have a0 : w2.drew.cell? ⟨w1.heap.size, 0, none⟩ = some (.int .i64 A) := ha2.cell 0 _ rfl
    have a1 : w2.drew.cell? ⟨w1.heap.size, 1, none⟩ = some (.int .i64 B) := ha2.cell 1 _ rfl
    have hlt := ha2.lt
    have HA2 := hide ha2
    have HR2 := hide hr2
    have HW2 := hide hw2
    have HB := hide (Below.refl w2.drew.heap.size w2.drew)
    clear hb1 hb2 ha2 hr2 hw2
    go_wp2_with fail
    rw [← HW2.out]
    go_region_held3 (fun u => u.cell? ⟨w1.heap.size, 0, none⟩ = some (.int .i64 A) ∧ u.cell? ⟨w1.heap.size, 1, none⟩ = some (.int .i64 B)) (first | go_keep | exact ⟨a0, a1⟩ | exact HC.out) (first
      | (go_at_call 45; refine ((HRm _ (HR2.out.drew.below HB.out)).out).mono ?_; rintro e9 w3 ⟨rfl, hb3⟩; have HB := hide (HB.out.trans (hb3.mono HB.out.size)); have HC := hide (And.intro ((HB.out.cell (p := ⟨w1.heap.size, 0, none⟩) hlt).trans a0) ((HB.out.cell (p := ⟨w1.heap.size, 1, none⟩) hlt).trans a1)); clear hb3)
      | (go_at_call 46; refine ((HI _).out).mono ?_; rintro e9 w4 ⟨rfl, hb4⟩; have HB := hide (HB.out.trans (hb4.mono HB.out.size)); have HC := hide (And.intro ((HB.out.cell (p := ⟨w1.heap.size, 0, none⟩) hlt).trans a0) ((HB.out.cell (p := ⟨w1.heap.size, 1, none⟩) hlt).trans a1)); clear hb4))
    all_goals
      have hr4 := HR2.out.drew.below HB.out
      have HK4 := hide (HK2.out.drew.trans (Kept.of_below HB.out))
      obtain ⟨q0, q1⟩ := HC.out
      have c2 := hr4.cell.2.2.1
      have c3 := hr4.cell.2.2.2.1
      have f2 := hr4.blk.frozen 2
      have f3 := hr4.blk.frozen 3
      have HR4 := hide hr4
      clear hr4
      cases bi
      · have hin : ¬ (512 ≤ A ∧ B ≤ (n : Int)) := by have := HBi.out; simp at this; omega
        have HO : Hid (leadM n st (x1, x2, x3) = .error 4) := hide (by rw [HLd.out]; simp [hin])
        clear hin HBi
        go_wp2_with fail
        go_ret
        exact ⟨Or.inr ⟨4, HO.out, by decide, rfl⟩, HK4.out⟩
      · have hin : 512 ≤ A ∧ B ≤ (n : Int) := by have := HBi.out; simp at this; omega
        have HO : Hid (leadM n st (x1, x2, x3) = .ok { st with i1 := A, i2 := B }) := hide (by rw [HLd.out]; simp [hin])
        clear hin HBi
        go_wp2_with fail
        go_ret
        obtain ⟨h5, k5⟩ := HR4.out.setInn A B
        exact ⟨Or.inl ⟨_, _, _, HO.out, rfl, h5⟩, HK4.out.trans k5⟩

set_option maxHeartbeats 8000000 in
set_option maxRecDepth 100000 in
theorem take_any (w : World) (K : Nat → Prop) (R : Nat) (a : Option Addr) (n cap : Nat) (vP vH : Value) (st : MS) (h : Rdg w K R (.iface 54 (.slice a n cap)) vP vH st) (hP : st.P.length ≤ 1000000) (slot x1 x2 x3 : Int) (hf : Fit3 (x1, x2, x3)) :
    Calls Try.prog 33 #[.pointer (some ⟨R, 0, none⟩), .int .i64 slot, .agg #[.int .i64 x1, .int .i64 x2, .int .i64 x3]] w fun e w' => Ends K R (.iface 54 (.slice a n cap)) (takeM n st slot (x1, x2, x3)) e w' ∧ Kept K w w' := by
  obtain ⟨w0, hw0⟩ : ∃ w0, w0 = w.alloc (.cells #[.int .i64 x1, .int .i64 x2, .int .i64 x3] 32) := ⟨_, rfl⟩
  have hb0 : Below w.heap.size w w0 := by rw [hw0]; exact (Below.refl _ _).alloc (Nat.le_refl _) _
  have hx0 : Blk w0 w.heap.size #[.int .i64 x1, .int .i64 x2, .int .i64 x3] 32 := by rw [hw0]; exact Blk.new _ _ _
  have HRK := hide (h.more hb0 (Nat.le_refl _) hx0.lt)
  have hr0 := h.below hb0
  have hlt := h.blk.lt
  have hne : R ≠ w.heap.size := by omega
  have c4 := h.cell.2.2.2.2.1
  have f4 := h.blk.frozen 4
  have HH := hide h
  have HTk : Hid (takeM n st slot (x1, x2, x3) = if x1 = 0 then .ok st else if x1 = 238 then .ok { st with g := true } else if leads (x1, x2, x3) = true then leadM n st (x1, x2, x3) else addM st slot (x1, x2, x3) 0 512 n) := hide rfl
  have HLe := fun u => hide (leads_any x1 x2 x3 u)
  have HLd := fun u (hu : Rdg u K R (.iface 54 (.slice a n cap)) vP vH st) => hide (lead_any u K R a n cap vP vH st hu x1 x2 x3 hf)
  have HAd := fun u (hu : Rdg u (fun k => K k ∨ k = w.heap.size) R (.iface 54 (.slice a n cap)) vP vH st) => hide (add_any u (fun k => K k ∨ k = w.heap.size) R _ vP vH st hu hP slot x1 x2 x3 0 512 n hf (by omega))
  have HRm : ∀ u, Rdg u K R (.iface 54 (.slice a n cap)) vP vH st → Hid (Calls Try.prog 45 #[.pointer (some ⟨R, 0, none⟩)] u fun e w' => e = .returned (.agg #[.int .i64 512, .int .i64 (n : Int)]) ∧ Below u.heap.size u w') := fun u hu => hide (room_any u K R a n cap vP vH st hu)
  have HR0 := hide hr0
  have HX0 := hide hx0
  have HK0 : Hid (Kept K w w0) := hide (Kept.of_below hb0)
  have HW0 := hide hw0
  clear h hw0 hb0 hx0 hr0 hP
  by_cases h1 : x1 = 0
  · have HO : Hid (takeM n st slot (x1, x2, x3) = .ok st) := hide (by rw [HTk.out, if_pos h1])
    clear HTk
    subst h1
    go_enter Try.func33, Try.ntmps33
    go_wp2_with fail
    go_ret
    rw [← HW0.out]
    exact ⟨Or.inl ⟨_, _, _, HO.out, rfl, HR0.out⟩, HK0.out⟩
  · by_cases h2 : x1 = 238
    · have HO : Hid (takeM n st slot (x1, x2, x3) = .ok { st with g := true }) := hide (by rw [HTk.out, if_neg h1, if_pos h2])
      clear HTk
      subst h2
      go_enter Try.func33, Try.ntmps33
      go_wp2_with fail
      go_ret
      obtain ⟨h5, k5⟩ := HH.out.setG
      exact ⟨Or.inl ⟨_, _, _, HO.out, rfl, h5.below ((Below.refl _ _).alloc (Nat.le_refl _) _)⟩, k5.trans (Kept.of_below ((Below.refl _ _).alloc (Nat.le_refl _) _))⟩
    · have d1 : (x1 == 0) = false := by simpa using h1
      have d2 : (x1 == 238) = false := by simpa using h2
      have HT2 : Hid (takeM n st slot (x1, x2, x3) = if leads (x1, x2, x3) = true then leadM n st (x1, x2, x3) else addM st slot (x1, x2, x3) 0 512 n) := hide (by rw [HTk.out, if_neg h1, if_neg h2])
      obtain ⟨bl, hbl⟩ : ∃ bl, bl = leads (x1, x2, x3) := ⟨_, rfl⟩
      rw [← hbl] at HT2 HLe
      clear HTk hbl hne hlt c4 f4
      go_enter Try.func33, Try.ntmps33
      go_wp2_with fail
      rw [← HW0.out]
      refine ((HLe _).out).mono ?_
      rintro e9 w1 ⟨rfl, hb1⟩
      have hr1 := HR0.out.below hb1
      have hx1 := HX0.out.below hb1
      have HK1 := hide (HK0.out.trans (Kept.of_below hb1))
      have x0 : w1.cell? ⟨w.heap.size, 0, none⟩ = some (.int .i64 x1) := hx1.cell 0 _ rfl
      have y0 : w1.cell? ⟨w.heap.size, 1, none⟩ = some (.int .i64 x2) := hx1.cell 1 _ rfl
      have z0 : w1.cell? ⟨w.heap.size, 2, none⟩ = some (.int .i64 x3) := hx1.cell 2 _ rfl
      have HR1 := hide hr1
      have HRK1 := hide (HRK.out.below hb1)
      have hlt : w.heap.size < w1.drew.heap.size := hx1.lt
      clear hb1 hr1 hx1
      cases bl
      · have HB := hide (Below.refl w1.drew.heap.size w1.drew)
        go_wp2_with fail
        go_region_held3 (fun u => u.cell? ⟨w.heap.size, 0, none⟩ = some (.int .i64 x1) ∧ u.cell? ⟨w.heap.size, 1, none⟩ = some (.int .i64 x2) ∧ u.cell? ⟨w.heap.size, 2, none⟩ = some (.int .i64 x3)) (first | go_keep | exact ⟨x0, y0, z0⟩ | exact HC.out | trivial) (first
          | (go_at_call 45; refine ((HRm _ (HR1.out.drew.below HB.out)).out).mono ?_; rintro e9 w3 ⟨rfl, hb3⟩; have HB := hide (HB.out.trans (hb3.mono HB.out.size)); have HC := hide (And.intro ((HB.out.cell (p := ⟨w.heap.size, 0, none⟩) hlt).trans x0) (And.intro ((HB.out.cell (p := ⟨w.heap.size, 1, none⟩) hlt).trans y0) ((HB.out.cell (p := ⟨w.heap.size, 2, none⟩) hlt).trans z0))); clear hb3)
          | (go_at_call 44; refine ((HAd _ (HRK1.out.drew.below HB.out)).out).mono ?_; rintro e9 w4 ⟨he4, hk4⟩; obtain ⟨c4, rfl, hc4⟩ := he4.form; have HE4 := hide hc4; have HK4 := hide hk4; have HC := hide (And.intro (Chg.cell hk4 HC.out.1 (fun h => h (Or.inr rfl))) (And.intro (Chg.cell hk4 HC.out.2.1 (fun h => h (Or.inr rfl))) (Chg.cell hk4 HC.out.2.2 (fun h => h (Or.inr rfl))))); clear he4 hk4 hc4))
        all_goals
          have HK5 := hide (HK1.out.drew.trans ((Kept.of_below HB.out).trans (HK4.out.mono (fun k e => Or.inl e))))
          go_wp2_with fail
          go_ret
          have e5 := HT2.out
          simp only [Bool.false_eq_true, if_false] at e5
          rw [e5]
          exact ⟨EndC.ends (HE4.out.mono (fun k e => Or.inl e)), HK5.out⟩
      · go_wp2_with fail
        refine ((HLd _ HR1.out).out).mono ?_
        rintro e9 w2 ⟨he2, hk2⟩
        obtain ⟨c2, rfl, hc2⟩ := he2.form
        have HE2 := hide hc2
        have HK2 := hide (HK1.out.trans hk2)
        clear he2 hc2 hk2
        go_wp2_with fail
        go_ret
        have e5 := HT2.out
        simp only [if_true] at e5
        rw [e5]
        exact ⟨EndC.ends HE2.out, HK2.out⟩
end Go.Proofs.Ytgpggohkapdjpaa.Oct
