/- The first sector's entries. -/
import Derived.Test.YtjpdfchdgphdoaaGreatDoorPMbi
namespace Go.Proofs.YtjpdfchdgphdoaaGreatDoor.Oct
open Go.RowKit

theorem Rdg.setInn {w : World} {K : Nat → Prop} {R : Nat} {dv vP vH : Value} {st : MS} (h : Rdg w K R dv vP vH st) (A B : Int) :
    Rdg ((w.setCell ⟨R, 2, none⟩ (.int .i64 A)).setCell ⟨R, 3, none⟩ (.int .i64 B)) K R dv vP vH { st with i1 := A, i2 := B } ∧ Kept K w ((w.setCell ⟨R, 2, none⟩ (.int .i64 A)).setCell ⟨R, 3, none⟩ (.int .i64 B)) := by
  have hs : Chg (fun k => k = R) w ((w.setCell ⟨R, 2, none⟩ (.int .i64 A)).setCell ⟨R, 3, none⟩ (.int .i64 B)) := ((Chg.refl (fun k => k = R) _).setC R 2 _ (fun _ => rfl)).setC R 3 _ (fun _ => rfl)
  refine ⟨⟨?_, h.p.chg hs (fun g e => (h.kP g e).2.1), ownsRow_chg h.h hs (fun g e => (h.kH g e).2), h.kR, h.kP, h.kH, fun k hk => Nat.lt_of_lt_of_le (h.kl k hk) hs.size⟩, hs.mono (fun k _ e hk => h.kR (e ▸ hk))⟩
  have := (h.blk.set 2 (.int .i64 A)).set 3 (.int .i64 B)
  simpa using this

theorem EndC.mono {K K' : Nat → Prop} {R : Nat} {dv : Value} {r : Except Int MS} {c : Int} {w' : World} (h : EndC K R dv r c w') (hk : ∀ k, K' k → K k) : EndC K' R dv r c w' := by
  rcases h with ⟨st', vP', vH', h1, h2, h3⟩ | h
  · exact Or.inl ⟨st', vP', vH', h1, h2, h3.mono hk⟩
  · exact Or.inr h

theorem Rdg.setG {w : World} {K : Nat → Prop} {R : Nat} {dv vP vH : Value} {st : MS} (h : Rdg w K R dv vP vH st) :
    Rdg (w.setCell ⟨R, 4, none⟩ (.bool true)) K R dv vP vH { st with g := true } ∧ Kept K w (w.setCell ⟨R, 4, none⟩ (.bool true)) := by
  have hs : Chg (fun k => k = R) w (w.setCell ⟨R, 4, none⟩ (.bool true)) := (Chg.refl (fun k => k = R) _).setC R 4 _ (fun _ => rfl)
  refine ⟨⟨?_, h.p.chg hs (fun g e => (h.kP g e).2.1), ownsRow_chg h.h hs (fun g e => (h.kH g e).2), h.kR, h.kP, h.kH, fun k hk => Nat.lt_of_lt_of_le (h.kl k hk) hs.size⟩, hs.mono (fun k _ e hk => h.kR (e ▸ hk))⟩
  have := h.blk.set 4 (.bool true)
  simpa using this

set_option maxHeartbeats 8000000 in
set_option maxRecDepth 100000 in
theorem lead_any (w : World) (K : Nat → Prop) (R : Nat) (a : Option Addr) (n cap : Nat) (vP vH : Value) (st : MS) (h : Rdg w K R (.iface 33 (.slice a n cap)) vP vH st) (x1 x2 x3 : Int) (hf : Fit3 (x1, x2, x3)) :
    Calls Tryz.prog 77 #[.pointer (some ⟨R, 0, none⟩), .agg #[.int .i64 x1, .int .i64 x2, .int .i64 x3]] w fun e w' => Ends K R (.iface 33 (.slice a n cap)) (leadM n st (x1, x2, x3)) e w' ∧ Kept K w w' := by
  obtain ⟨_, hf2, hf3⟩ := hf
  dsimp only at hf2 hf3
  have HS := fun u => hide (span_any x2 x3 u (by omega) (by omega))
  have HLd : Hid (leadM n st (x1, x2, x3) = if st.inn = true then .error 17 else if 512 ≤ x2 * 512 ∧ (x2 + x3) * 512 ≤ (n : Int) then .ok { st with i1 := x2 * 512, i2 := (x2 + x3) * 512 } else .error 4) := hide rfl
  obtain ⟨A, hA⟩ : ∃ A, A = x2 * 512 := ⟨_, rfl⟩
  obtain ⟨B, hB⟩ : ∃ B, B = (x2 + x3) * 512 := ⟨_, rfl⟩
  rw [← hA, ← hB] at HLd HS
  have HI := fun u => hide (inside_any A B 512 (n : Int) u)
  obtain ⟨bi, hbi⟩ : ∃ bi, bi = (decide (512 ≤ A) && decide (B ≤ (n : Int))) := ⟨_, rfl⟩
  rw [← hbi] at HI
  have HBi := hide hbi
  clear hbi
  obtain ⟨w0, hw0⟩ : ∃ w0, w0 = w.alloc (.cells #[.int .i64 x1, .int .i64 x2, .int .i64 x3] 128) := ⟨_, rfl⟩
  have hb0 : Below w.heap.size w w0 := by rw [hw0]; exact (Below.refl _ _).alloc (Nat.le_refl _) _
  have hx0 : Blk w0 w.heap.size #[.int .i64 x1, .int .i64 x2, .int .i64 x3] 128 := by rw [hw0]; exact Blk.new _ _ _
  have hr0 := h.below hb0
  have HIn := hide (inner_any w0 K R _ _ _ st hr0)
  have x02 : w0.cell? ⟨w.heap.size, 1, none⟩ = some (.int .i64 x2) := hx0.cell 1 _ rfl
  have x03 : w0.cell? ⟨w.heap.size, 2, none⟩ = some (.int .i64 x3) := hx0.cell 2 _ rfl
  have HR0 := hide hr0
  have HK0 : Hid (Kept K w w0) := hide (Kept.of_below hb0)
  have HW0 := hide hw0
  have HRm : ∀ u, Rdg u K R (.iface 33 (.slice a n cap)) vP vH st → Hid (Calls Tryz.prog 79 #[.pointer (some ⟨R, 0, none⟩)] u fun e w' => e = .returned (.agg #[.int .i64 512, .int .i64 (n : Int)]) ∧ Below u.heap.size u w') := fun u hu => hide (room_any u K R a n cap vP vH st hu)
  clear hA hB h hw0 hb0 hx0 hr0
  cases hin : st.inn with
  | true =>
    rw [hin] at HLd HIn
    clear hin
    go_enter Tryz.func77, Tryz.ntmps77
    go_wp2_with fail
    rw [← HW0.out]
    refine HIn.out.mono ?_
    rintro e9 w1 ⟨rfl, h1⟩
    have h1 := h1.symm
    subst h1
    go_wp2_with fail
    go_ret
    exact ⟨Or.inr ⟨17, by rw [HLd.out]; simp, by decide, rfl⟩, HK0.out⟩
  | false =>
    rw [hin] at HLd HIn
    clear hin
    go_enter Tryz.func77, Tryz.ntmps77
    go_wp2_with fail
    rw [← HW0.out]
    refine HIn.out.mono ?_
    rintro e9 w1 ⟨rfl, h1⟩
    have h1 := h1.symm
    subst h1
    go_wp2_with fail
    refine ((HS _).out).mono ?_
    rintro e9 w1 ⟨rfl, hb1⟩
    obtain ⟨w2, hw2⟩ : ∃ w2, w2 = w1.alloc (.cells #[.int .i64 A, .int .i64 B] 24) := ⟨_, rfl⟩
    have hb2 : Below w0.heap.size w0 w2 := by rw [hw2]; exact hb1.alloc hb1.size _
    have ha2 : Blk w2 w1.heap.size #[.int .i64 A, .int .i64 B] 24 := by rw [hw2]; exact Blk.new _ _ _
    have hr2 := HR0.out.below hb2
    have HK2 := hide (HK0.out.trans (Kept.of_below hb2))
    have a0 : w2.drew.cell? ⟨w1.heap.size, 0, none⟩ = some (.int .i64 A) := ha2.cell 0 _ rfl
    have a1 : w2.drew.cell? ⟨w1.heap.size, 1, none⟩ = some (.int .i64 B) := ha2.cell 1 _ rfl
    have hlt := ha2.lt
    have HA2 := hide ha2
    have HR2 := hide hr2
    have HW2 := hide hw2
    have HB := hide (Below.refl w2.drew.heap.size w2.drew)
    clear hb1 hb2 ha2 hr2 hw2
    go_wp2_with fail
    rw [← HW2.out]
    go_region_held3 (fun u => u.cell? ⟨w1.heap.size, 0, none⟩ = some (.int .i64 A) ∧ u.cell? ⟨w1.heap.size, 1, none⟩ = some (.int .i64 B)) (first | go_keep | exact ⟨a0, a1⟩ | exact HC.out) (first
      | (go_at_call 79; refine ((HRm _ (HR2.out.drew.below HB.out)).out).mono ?_; rintro e9 w3 ⟨rfl, hb3⟩; have HB := hide (HB.out.trans (hb3.mono HB.out.size)); have HC := hide (And.intro ((HB.out.cell (p := ⟨w1.heap.size, 0, none⟩) hlt).trans a0) ((HB.out.cell (p := ⟨w1.heap.size, 1, none⟩) hlt).trans a1)); clear hb3)
      | (go_at_call 80; refine ((HI _).out).mono ?_; rintro e9 w4 ⟨rfl, hb4⟩; have HB := hide (HB.out.trans (hb4.mono HB.out.size)); have HC := hide (And.intro ((HB.out.cell (p := ⟨w1.heap.size, 0, none⟩) hlt).trans a0) ((HB.out.cell (p := ⟨w1.heap.size, 1, none⟩) hlt).trans a1)); clear hb4))
    all_goals
      have hr4 := HR2.out.drew.below HB.out
      have HK4 := hide (HK2.out.drew.trans (Kept.of_below HB.out))
      obtain ⟨q0, q1⟩ := HC.out
      have c2 := hr4.cell.2.2.1
      have c3 := hr4.cell.2.2.2.1
      have f2 := hr4.blk.frozen 2
      have f3 := hr4.blk.frozen 3
      have HR4 := hide hr4
      clear hr4
      cases bi
      · have hin : ¬ (512 ≤ A ∧ B ≤ (n : Int)) := by have := HBi.out; simp at this; omega
        have HO : Hid (leadM n st (x1, x2, x3) = .error 4) := hide (by rw [HLd.out]; simp [hin])
        clear hin HBi
        go_wp2_with fail
        go_ret
        exact ⟨Or.inr ⟨4, HO.out, by decide, rfl⟩, HK4.out⟩
      · have hin : 512 ≤ A ∧ B ≤ (n : Int) := by have := HBi.out; simp at this; omega
        have HO : Hid (leadM n st (x1, x2, x3) = .ok { st with i1 := A, i2 := B }) := hide (by rw [HLd.out]; simp [hin])
        clear hin HBi
        go_wp2_with fail
        go_ret
        obtain ⟨h5, k5⟩ := HR4.out.setInn A B
        exact ⟨Or.inl ⟨_, _, _, HO.out, rfl, h5⟩, HK4.out.trans k5⟩

set_option maxHeartbeats 8000000 in
set_option maxRecDepth 100000 in
theorem take_any (w : World) (K : Nat → Prop) (R : Nat) (a : Option Addr) (n cap : Nat) (vP vH : Value) (st : MS) (h : Rdg w K R (.iface 33 (.slice a n cap)) vP vH st) (hP : st.P.length ≤ 1000000) (slot x1 x2 x3 : Int) (hf : Fit3 (x1, x2, x3)) :
    Calls Tryz.prog 56 #[.pointer (some ⟨R, 0, none⟩), .int .i64 slot, .agg #[.int .i64 x1, .int .i64 x2, .int .i64 x3]] w fun e w' => Ends K R (.iface 33 (.slice a n cap)) (takeM n st slot (x1, x2, x3)) e w' ∧ Kept K w w' := by
  obtain ⟨w0, hw0⟩ : ∃ w0, w0 = w.alloc (.cells #[.int .i64 x1, .int .i64 x2, .int .i64 x3] 128) := ⟨_, rfl⟩
  have hb0 : Below w.heap.size w w0 := by rw [hw0]; exact (Below.refl _ _).alloc (Nat.le_refl _) _
  have hx0 : Blk w0 w.heap.size #[.int .i64 x1, .int .i64 x2, .int .i64 x3] 128 := by rw [hw0]; exact Blk.new _ _ _
  have HRK := hide (h.more hb0 (Nat.le_refl _) hx0.lt)
  have hr0 := h.below hb0
  have hlt := h.blk.lt
  have hne : R ≠ w.heap.size := by omega
  have c4 := h.cell.2.2.2.2.1
  have f4 := h.blk.frozen 4
  have HH := hide h
  have HTk : Hid (takeM n st slot (x1, x2, x3) = if x1 = 0 then .ok st else if x1 = 238 then .ok { st with g := true } else if leads (x1, x2, x3) = true then leadM n st (x1, x2, x3) else addM st slot (x1, x2, x3) 0 512 n) := hide rfl
  have HLe := fun u => hide (leads_any x1 x2 x3 u)
  have HLd := fun u (hu : Rdg u K R (.iface 33 (.slice a n cap)) vP vH st) => hide (lead_any u K R a n cap vP vH st hu x1 x2 x3 hf)
  have HAd := fun u (hu : Rdg u (fun k => K k ∨ k = w.heap.size) R (.iface 33 (.slice a n cap)) vP vH st) => hide (add_any u (fun k => K k ∨ k = w.heap.size) R _ vP vH st hu hP slot x1 x2 x3 0 512 n hf (by omega))
  have HRm : ∀ u, Rdg u K R (.iface 33 (.slice a n cap)) vP vH st → Hid (Calls Tryz.prog 79 #[.pointer (some ⟨R, 0, none⟩)] u fun e w' => e = .returned (.agg #[.int .i64 512, .int .i64 (n : Int)]) ∧ Below u.heap.size u w') := fun u hu => hide (room_any u K R a n cap vP vH st hu)
  have HR0 := hide hr0
  have HX0 := hide hx0
  have HK0 : Hid (Kept K w w0) := hide (Kept.of_below hb0)
  have HW0 := hide hw0
  clear h hw0 hb0 hx0 hr0 hP
  by_cases h1 : x1 = 0
  · have HO : Hid (takeM n st slot (x1, x2, x3) = .ok st) := hide (by rw [HTk.out, if_pos h1])
    clear HTk
    subst h1
    go_enter Tryz.func56, Tryz.ntmps56
    go_wp2_with fail
    go_ret
    rw [← HW0.out]
    exact ⟨Or.inl ⟨_, _, _, HO.out, rfl, HR0.out⟩, HK0.out⟩
  · by_cases h2 : x1 = 238
    · have HO : Hid (takeM n st slot (x1, x2, x3) = .ok { st with g := true }) := hide (by rw [HTk.out, if_neg h1, if_pos h2])
      clear HTk
      subst h2
      go_enter Tryz.func56, Tryz.ntmps56
      go_wp2_with fail
      go_ret
      obtain ⟨h5, k5⟩ := HH.out.setG
      exact ⟨Or.inl ⟨_, _, _, HO.out, rfl, h5.below ((Below.refl _ _).alloc (Nat.le_refl _) _)⟩, k5.trans (Kept.of_below ((Below.refl _ _).alloc (Nat.le_refl _) _))⟩
    · have d1 : (x1 == 0) = false := by simpa using h1
      have d2 : (x1 == 238) = false := by simpa using h2
      have HT2 : Hid (takeM n st slot (x1, x2, x3) = if leads (x1, x2, x3) = true then leadM n st (x1, x2, x3) else addM st slot (x1, x2, x3) 0 512 n) := hide (by rw [HTk.out, if_neg h1, if_neg h2])
      obtain ⟨bl, hbl⟩ : ∃ bl, bl = leads (x1, x2, x3) := ⟨_, rfl⟩
      rw [← hbl] at HT2 HLe
      clear HTk hbl hne hlt c4 f4
      go_enter Tryz.func56, Tryz.ntmps56
      go_wp2_with fail
      rw [← HW0.out]
      refine ((HLe _).out).mono ?_
      rintro e9 w1 ⟨rfl, hb1⟩
      have hr1 := HR0.out.below hb1
      have hx1 := HX0.out.below hb1
      have HK1 := hide (HK0.out.trans (Kept.of_below hb1))
      have x0 : w1.cell? ⟨w.heap.size, 0, none⟩ = some (.int .i64 x1) := hx1.cell 0 _ rfl
      have y0 : w1.cell? ⟨w.heap.size, 1, none⟩ = some (.int .i64 x2) := hx1.cell 1 _ rfl
      have z0 : w1.cell? ⟨w.heap.size, 2, none⟩ = some (.int .i64 x3) := hx1.cell 2 _ rfl
      have HR1 := hide hr1
      have HRK1 := hide (HRK.out.below hb1)
      have hlt : w.heap.size < w1.drew.heap.size := hx1.lt
      clear hb1 hr1 hx1
      cases bl
      · have HB := hide (Below.refl w1.drew.heap.size w1.drew)
        go_wp2_with fail
        go_region_held3 (fun u => u.cell? ⟨w.heap.size, 0, none⟩ = some (.int .i64 x1) ∧ u.cell? ⟨w.heap.size, 1, none⟩ = some (.int .i64 x2) ∧ u.cell? ⟨w.heap.size, 2, none⟩ = some (.int .i64 x3)) (first | go_keep | exact ⟨x0, y0, z0⟩ | exact HC.out | trivial) (first
          | (go_at_call 79; refine ((HRm _ (HR1.out.drew.below HB.out)).out).mono ?_; rintro e9 w3 ⟨rfl, hb3⟩; have HB := hide (HB.out.trans (hb3.mono HB.out.size)); have HC := hide (And.intro ((HB.out.cell (p := ⟨w.heap.size, 0, none⟩) hlt).trans x0) (And.intro ((HB.out.cell (p := ⟨w.heap.size, 1, none⟩) hlt).trans y0) ((HB.out.cell (p := ⟨w.heap.size, 2, none⟩) hlt).trans z0))); clear hb3)
          | (go_at_call 78; refine ((HAd _ (HRK1.out.drew.below HB.out)).out).mono ?_; rintro e9 w4 ⟨he4, hk4⟩; obtain ⟨c4, rfl, hc4⟩ := he4.form; have HE4 := hide hc4; have HK4 := hide hk4; have HC := hide (And.intro (Chg.cell hk4 HC.out.1 (fun h => h (Or.inr rfl))) (And.intro (Chg.cell hk4 HC.out.2.1 (fun h => h (Or.inr rfl))) (Chg.cell hk4 HC.out.2.2 (fun h => h (Or.inr rfl))))); clear he4 hk4 hc4))
        all_goals
          have HK5 := hide (HK1.out.drew.trans ((Kept.of_below HB.out).trans (HK4.out.mono (fun k e => Or.inl e))))
          go_wp2_with fail
          go_ret
          have e5 := HT2.out
          simp only [Bool.false_eq_true, if_false] at e5
          rw [e5]
          exact ⟨EndC.ends (HE4.out.mono (fun k e => Or.inl e)), HK5.out⟩
      · go_wp2_with fail
        refine ((HLd _ HR1.out).out).mono ?_
        rintro e9 w2 ⟨he2, hk2⟩
        obtain ⟨c2, rfl, hc2⟩ := he2.form
        have HE2 := hide hc2
        have HK2 := hide (HK1.out.trans hk2)
        clear he2 hc2 hk2
        go_wp2_with fail
        go_ret
        have e5 := HT2.out
        simp only [if_true] at e5
        rw [e5]
        exact ⟨EndC.ends HE2.out, HK2.out⟩
end Go.Proofs.YtjpdfchdgphdoaaGreatDoor.Oct

namespace Go.Proofs.YtjpdfchdgphdoaaGreatDoor.Oct
open Go.RowKit

theorem takeM_len {n : Nat} {st st' : MS} {slot : Int} {x : M3} (h : takeM n st slot x = .ok st') : st'.P.length ≤ st.P.length + 1 ∧ st'.H = st.H := by
  unfold takeM leadM addM at h
  repeat' split at h
  all_goals first
    | (cases h; exact ⟨by simp, rfl⟩)
    | (cases h)

theorem LiesM.at_ {w : World} {g : Nat} {L : List M3} (h : LiesM w (some ⟨g, 0, none⟩) L) (k : Nat) (hk : k < L.length) :
    w.cell? ⟨g, k * 3, none⟩ = some (.int .i64 (L.getD k zm3).1) ∧ w.cell? ⟨g, k * 3 + 1, none⟩ = some (.int .i64 (L.getD k zm3).2.1) ∧ w.cell? ⟨g, k * 3 + 2, none⟩ = some (.int .i64 (L.getD k zm3).2.2) := by
  rcases h with h | ⟨b, off, e, _, hc⟩
  · rw [h] at hk; simp at hk
  · cases e
    have := hc k hk
    rw [Nat.zero_add] at this
    exact this

theorem drop_get (L : List M3) (k : Nat) (hk : k < L.length) : L.drop k = L.getD k zm3 :: L.drop (k + 1) := by
  rw [List.drop_eq_getElem_cons hk]
  simp [hk]

set_option maxHeartbeats 8000000 in
set_option maxRecDepth 100000 in
theorem first_any (w : World) (K : Nat → Prop) (R : Nat) (a : Option Addr) (cap : Nat) (d : List Int) (vP vH : Value) (h : Rdg w K R (.iface 33 (.slice a d.length cap)) vP vH MS.z) (hl : LiesK K w a d) (hby : Byts d) (hd : d.length ≤ 1000000000) (hcap : d.length ≤ cap) :
    Calls Tryz.prog 38 #[.pointer (some ⟨R, 0, none⟩)] w fun e w' => Ends K R (.iface 33 (.slice a d.length cap)) (firstM d) e w' ∧ Kept K w w' := by
  have HE := hide (rentries_any w K R a cap d vP vH MS.z h hl hby hd hcap (by simp [MS.z]) 0 (by omega))
  have HBy : Hid (Byts (secD d 0)) := hide ((hby.drop _).take _)
  clear h hl hby
  go_enter Tryz.func38, Tryz.ntmps38
  go_wp2_with fail
  refine HE.out.mono ?_
  rintro e9 w1 ⟨h1 | h1, hk1⟩
  · obtain ⟨hz, g, c, vH1, rfl, hc4, hl1, hr1⟩ := h1
    have e0 : firstM d = takesM d.length { MS.z with H := MS.z.H ++ [((0 : Int) * 512, ((0 : Int) + 1) * 512)] } 0 (entsM (secD d 0)) := by
      unfold firstM rdM
      rw [if_pos hz]
    have hl1' : LiesM w1 (some ⟨g, 0, none⟩) (entsM (secD d 0)) := hl1
    obtain ⟨st1, hst1⟩ : ∃ st1 : MS, st1 = { MS.z with H := MS.z.H ++ [((0 : Int) * 512, ((0 : Int) + 1) * 512)] } := ⟨_, rfl⟩
    rw [← hst1] at e0 hr1
    have hp1 : st1.P.length = 0 := by rw [hst1]; rfl
    obtain ⟨L, hL⟩ : ∃ L, L = entsM (secD d 0) := ⟨_, rfl⟩
    rw [← hL] at e0 hl1'
    have hLn : L.length = 4 := by rw [hL]; rfl
    have HFt : Hid (∀ k, k < 4 → Fit3 (L.getD k zm3)) := hide (fun k hk => by rw [hL, ents_get _ k hk]; exact entM_fit _ HBy.out _)
    have HE0 := hide e0
    have HL1 := hide hl1'
    have HR1 := hide hr1
    have HK1 := hide hk1
    have HLn := hide hLn
    have HP1 := hide hp1
    clear hz hl1 hr1 e0 hst1 hl1' hk1 hL hLn hp1 HE
    go_wp2_with fail
    go_loopw [18] (fun i wr => ∃ (k : Nat) (st : MS) (vP vH : Value), k ≤ 4 ∧ i = .int .i64 k ∧ Rdg wr (fun k => K k ∨ k = g) R (.iface 33 (.slice a d.length cap)) vP vH st ∧ LiesM wr (some ⟨g, 0, none⟩) L ∧ st.P.length ≤ k ∧ firstM d = takesM d.length st (k : Int) (L.drop k) ∧ Kept K w wr) (fun i _ => 4 - (intOf i).toNat)
    case atStart => exact ⟨0, st1, _, _, by omega, rfl, HR1.out, HL1.out, by rw [HP1.out]; omega, HE0.out, HK1.out⟩
    case round =>
      obtain ⟨k, st, vP2, vH2, hk, rfl, hr2, hl2, hpl, hto, hkw⟩ := hrel
      have HL2 := hide hl2
      have HK2 := hide hkw
      have HT := hide hto
      have HR2 := hide hr2
      clear hl2 hkw hto hr2
      by_cases hlt : k < 4
      · obtain ⟨c0, c1, c2⟩ := HL2.out.at_ k (by rw [HLn.out]; exact hlt)
        have hfk := HFt.out k hlt
        have HDr := hide (drop_get L k (by rw [HLn.out]; exact hlt))
        obtain ⟨x, hx⟩ : ∃ x, x = L.getD k zm3 := ⟨_, rfl⟩
        rw [← hx] at c0 c1 c2 hfk HDr
        obtain ⟨x1, x2, x3⟩ := x
        dsimp only at c0 c1 c2
        have HTk := fun u (hu : Rdg u (fun k => K k ∨ k = g) R (.iface 33 (.slice a d.length cap)) vP2 vH2 st) => hide (take_any u (fun k => K k ∨ k = g) R a d.length cap vP2 vH2 st hu (by omega) (k : Int) x1 x2 x3 hfk)
        have HB := hide ((Below.refl wr.heap.size wr).alloc (Nat.le_refl _) (.cells #[.int .i64 x1, .int .i64 x2, .int .i64 x3] 128))
        clear hx hfk
        go_wp2_with fail
        refine ((HTk _ (HR2.out.below HB.out)).out).mono ?_
        rintro e9 w3 ⟨he3, hk3⟩
        obtain ⟨c3, rfl, hc3⟩ := he3.form
        have HKw := hide (HK2.out.trans ((Kept.of_below HB.out).trans (hk3.mono (fun k e => Or.inl e))))
        have HL3 := hide ((HL2.out.below HB.out).chg hk3 (fun x hx => fun h => by cases hx; exact h (Or.inr rfl)))
        clear he3 hk3
        rcases hc3 with ⟨st', vP', vH', h5, rfl, h6⟩ | ⟨h5, h6⟩
        · have h7 := (takeM_len h5).1
          have HT2 : Hid (firstM d = takesM d.length st' ((k + 1 : Nat) : Int) (L.drop (k + 1))) := hide (by
            rw [HT.out, HDr.out, takesM, h5]
            rfl)
          have HR3 := hide h6
          clear h5 h6
          go_wp2_with fail
          exact ⟨⟨k + 1, st', vP', vH', by omega, by go_num, HR3.out, HL3.out, by omega, HT2.out, HKw.out⟩, by simp [intOf]; omega⟩
        · have HT2 : Hid (firstM d = .error c3) := hide (by
            rw [HT.out, HDr.out, takesM, h5])
          have h6' : (c3 != 0) = true := by simpa using h6
          have H6 := hide h6
          clear h5 h6
          go_wp2_with fail
          go_ret
          exact ⟨Or.inr ⟨c3, HT2.out, H6.out, rfl⟩, HKw.out⟩
      · obtain rfl : k = 4 := by omega
        have HT2 : Hid (firstM d = .ok st) := hide (by
          rw [HT.out, List.drop_eq_nil_of_le (by rw [HLn.out]; omega)]
          rfl)
        go_wp2_with fail
        go_ret
        exact ⟨Or.inl ⟨st, _, _, HT2.out, rfl, HR2.out.mono (fun k e => Or.inl e)⟩, HK2.out⟩
  · obtain ⟨hz, rfl⟩ := h1
    have HO : Hid (firstM d = .error (secC d 0)) := hide (by
      unfold firstM rdM
      rw [if_neg hz])
    generalize secC d 0 = c at *
    have hc' : (c != 0) = true := by simpa using hz
    have HZ := hide hz
    have HK1 := hide hk1
    clear hz hk1
    go_wp2_with fail
    go_ret
    exact ⟨Or.inr ⟨c, HO.out, HZ.out, rfl⟩, HK1.out⟩
end Go.Proofs.YtjpdfchdgphdoaaGreatDoor.Oct
