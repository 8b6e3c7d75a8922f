/- A sector's entries are read into the object. -/
import Derived.Test.YtjpdfchdgphdoaaGreatDoorPMbf
import Derived.Test.YtjpdfchdgphdoaaGreatDoorPRis
namespace Go.Proofs.YtjpdfchdgphdoaaGreatDoor.Oct
open Go.RowKit

theorem Rdg.mono {w : World} {K K' : Nat → Prop} {R : Nat} {dv vP vH : Value} {st : MS} (h : Rdg w K R dv vP vH st) (hk : ∀ k, K' k → K k) : Rdg w K' R dv vP vH st :=
  ⟨h.blk, h.p, h.h, fun e => h.kR (hk _ e), fun g e => ⟨fun e2 => (h.kP g e).1 (hk _ e2), (h.kP g e).2⟩, fun g e => ⟨fun e2 => (h.kH g e).1 (hk _ e2), (h.kH g e).2⟩, fun k e => h.kl k (hk k e)⟩

theorem Kept.mono {K K' : Nat → Prop} {w w' : World} (h : Kept K w w') (hk : ∀ k, K' k → K k) : Kept K' w w' := Chg.mono h (fun k _ hn e => hn (hk k e))

/-- A new block may be kept, too. -/
theorem Rdg.more {w0 w : World} {K : Nat → Prop} {R g : Nat} {dv vP vH : Value} {st : MS} (h : Rdg w0 K R dv vP vH st) (hb : Below w0.heap.size w0 w) (hg : w0.heap.size ≤ g) (hg2 : g < w.heap.size) : Rdg w (fun k => K k ∨ k = g) R dv vP vH st := by
  have h1 := h.below hb
  have hR := h.blk.lt
  refine ⟨h1.blk, h1.p, h1.h, fun e => e.elim h.kR (fun e => by omega), fun x e => ⟨fun e2 => e2.elim (h.kP x e).1 (fun e2 => ?_), (h.kP x e).2⟩, fun x e => ⟨fun e2 => e2.elim (h.kH x e).1 (fun e2 => ?_), (h.kH x e).2⟩, fun k e => e.elim (h1.kl k) (fun e => by omega)⟩
  · have := ownsRow_lt h.p _ e
    omega
  · have := ownsRow_lt h.h _ e
    omega

/-- What entries answers. -/
def RdE (K : Nat → Prop) (R : Nat) (dv vP : Value) (st : MS) (d : List Int) (s : Int) (e : Ending) (w' : World) : Prop :=
  (secC d s = 0 ∧ ∃ g c vH', e = .returned (.tuple #[.slice (some ⟨g, 0, none⟩) 4 c, .int .i64 0]) ∧ 4 ≤ c ∧ LiesM w' (some ⟨g, 0, none⟩) (entsM (secD d s.toNat)) ∧ Rdg w' (fun k => K k ∨ k = g) R dv vP vH' { st with H := st.H ++ [(s * 512, (s + 1) * 512)] }) ∨
  (¬ secC d s = 0 ∧ e = .returned (.tuple #[.slice none 0 0, .int .i64 (secC d s)]))

set_option maxHeartbeats 4000000 in
set_option maxRecDepth 100000 in
theorem rentries_any (w : World) (K : Nat → Prop) (R : Nat) (a : Option Addr) (cap : Nat) (d : List Int) (vP vH : Value) (st : MS) (h : Rdg w K R (.iface 33 (.slice a d.length cap)) vP vH st) (hl : LiesK K w a d) (hby : Byts d) (hd : d.length ≤ 1000000000) (hcap : d.length ≤ cap) (hH : st.H.length ≤ 1000000) (s : Int) (hs : -1000000000000 ≤ s ∧ s ≤ 1000000000000) :
    Calls Tryz.prog 55 #[.pointer (some ⟨R, 0, none⟩), .int .i64 s] w fun e w' => RdE K R (.iface 33 (.slice a d.length cap)) vP st d s e w' ∧ Kept K w w' := by
  have HS := hide (span_any s 1 w (by omega) (by omega))
  have HR := hide h
  have HL := hide hl
  have HRd : ∀ u, Kept K w u → Hid (Calls Tryz.prog 156 #[.slice a d.length cap, .int .i64 (s * 512), .int .i64 512] u fun e w' => MRead u d (s * 512) e w' ∧ Below u.heap.size u w') := fun u hu => hide (mread_any a cap d (s * 512) u hd hcap (HL.out.kept hu).1 (by omega))
  have HSc : Hid (secC d s = if 0 ≤ s * 512 ∧ s * 512 + 512 ≤ d.length then entC ((d.drop (s * 512).toNat).take 512) else 4) := hide (by
    unfold secC secD
    by_cases h0 : 0 ≤ s ∧ s * 512 + 512 ≤ d.length
    · rw [if_pos h0, if_pos (by omega), show 512 * s.toNat = (s * 512).toNat by omega]
    · rw [if_neg h0, if_neg (by omega)])
  have HBy := hide hby
  have nR := nil_read
  have hmR : ∀ (u : World) (a : Option Addr) (n c : Nat), (method 342 33 (.slice a n c) "Read").run Tryz.prog u = .ok (156, .slice a n c) u := fun u a n c => by kernel_rfl
  obtain ⟨n, hn⟩ : ∃ n, n = d.length := ⟨_, rfl⟩
  rw [← hn] at HR HRd ⊢
  have HN := hide hn
  clear h hl hby hd hcap hn
  go_enter Tryz.func55, Tryz.ntmps55
  go_wp2_with fail
  refine HS.out.mono ?_
  rintro e9 w1 ⟨rfl, hb1⟩
  obtain ⟨w2, hw2⟩ : ∃ w2, w2 = w1.alloc (.cells #[.int .i64 (s * 512), .int .i64 ((s + 1) * 512)] 24) := ⟨_, rfl⟩
  have hR1 := HR.out.below hb1
  have hR2 : Rdg w2 K R (.iface 33 (.slice a n cap)) vP vH st := by rw [hw2]; exact hR1.below ((Below.refl _ _).alloc (Nat.le_refl _) _)
  have hX2 : Blk w2 w1.heap.size #[.int .i64 (s * 512), .int .i64 ((s + 1) * 512)] 24 := by rw [hw2]; exact Blk.new _ _ _
  have HK2 : Hid (Kept K w w2) := hide (by rw [hw2]; exact Kept.of_below (hb1.alloc hb1.size _))
  have x0 : w2.drew.cell? ⟨w1.heap.size, 0, none⟩ = some (.int .i64 (s * 512)) := hX2.cell 0 _ rfl
  have x1 : w2.drew.cell? ⟨w1.heap.size, 1, none⟩ = some (.int .i64 ((s + 1) * 512)) := hX2.cell 1 _ rfl
  have r5 : w2.drew.cell? ⟨R, 5, none⟩ = some (.iface 33 (.slice a n cap)) := hR2.cell.2.2.2.2.2
  have hRlt : R < w2.drew.heap.size := hR2.blk.lt
  have hXlt : w1.heap.size < w2.drew.heap.size := hX2.lt
  have HX2 := hide hX2
  have HR2 := hide hR2
  have HW2 := hide hw2
  clear hb1 hR1 hR2 hX2 hw2 HS
  by_cases hrd : 0 ≤ s * 512 ∧ s * 512 + 512 ≤ (n : Int)
  · obtain ⟨m, hm⟩ : ∃ m, m = (d.drop (s * 512).toNat).take 512 := ⟨_, rfl⟩
    have hml : m.length = 512 := by rw [hm]; simp; have := HN.out; omega
    have hmb : Byts m := by rw [hm]; exact (HBy.out.drop _).take _
    have hsc : secC d s = entC m := by rw [HSc.out, if_pos (by rw [← HN.out]; exact hrd), hm]
    have hse : secD d s.toNat = m := by unfold secD; rw [hm, show 512 * s.toNat = (s * 512).toNat by omega]
    have HRA : ∀ u, Kept K w u → Hid (Calls Tryz.prog 156 #[.slice a n cap, .int .i64 (s * 512), .int .i64 512] u fun e w' => ∃ av cv, e = .returned (.tuple #[.slice av 512 cv, .int .i64 0]) ∧ Lies w' av m ∧ 512 ≤ cv ∧ Below u.heap.size u w') := fun u hu => hide ((HRd u hu).out.mono (by
      rintro e9 w3 ⟨h3 | h3, hb3⟩
      · obtain ⟨_, v, rfl, ho⟩ := h3
        rw [← hm] at ho
        obtain ⟨av, cv, rfl, hl3, _, hc3, _⟩ := ho.form
        rw [hml] at hc3 ⊢
        exact ⟨av, cv, rfl, hl3, hc3, hb3⟩
      · exact absurd (by rw [← HN.out]; exact hrd) h3.1))
    have HML := hide hml
    have HMB := hide hmb
    have HSc2 := hide hsc
    have HSe := hide hse
    clear hm hml hmb hsc hse HRd HSc
    go_wp2_with fail
    rw [← HW2.out]
    go_region_held3 (fun u => u.cell? ⟨R, 5, none⟩ = some (.iface 33 (.slice a n cap)) ∧ u.cell? ⟨w1.heap.size, 0, none⟩ = some (.int .i64 (s * 512))) (first | go_keep | exact ⟨r5, x0⟩ | exact HS3.out) (first | (go_at_call 156; refine ((HRA _ HK2.out.drew).out).mono ?_; rintro e9 w3 ⟨av, cv, rfl, hl3, hc3, hb3⟩; have HS3 := hide (And.intro ((hb3.cell (p := ⟨R, 5, none⟩) hRlt).trans r5) ((hb3.cell (p := ⟨w1.heap.size, 0, none⟩) hXlt).trans x0)); have HL3 := hide hl3; have HC3 := hide hc3; have HB3 := hide hb3; clear hl3 hc3 hb3))
    have HEn := hide (entries_any av cv m w3 (by rw [HML.out]; unfold maxLen; omega) (by rw [HML.out]; exact HC3.out) HMB.out HL3.out)
    rw [HML.out] at HEn
    have HR3 := hide (HR2.out.drew.below HB3.out)
    have HX3 := hide (HX2.out.drew.below HB3.out)
    have HK3 := hide (HK2.out.drew.trans (Kept.of_below HB3.out))
    clear HS3 HL3 HC3 HB3 HR2 HX2 HK2 x0 x1 r5 hRlt hXlt
    go_wp2_with fail
    refine HEn.out.mono ?_
    rintro e9 w4 ⟨h4 | h4, hb4⟩
    · obtain ⟨hz, v4, rfl, ho4⟩ := h4
      obtain ⟨a4, c4, rfl, hl4, hc4, _, hat⟩ := ho4.form
      rcases hl4 with hl4 | ⟨g, off, rfl, hg4, hcells⟩
      · exact absurd hl4 (by simp [entsM])
      obtain ⟨hg0, _, hoff, _⟩ := hat _ rfl
      dsimp only at hg0 hoff
      subst hoff
      have hR4 := HR3.out.more hb4 hg0 hg4
      have hX4 := HX3.out.below hb4
      have HK4 := hide (HK3.out.trans (Kept.of_below hb4))
      have HZ := hide hz
      have HL4 : Hid (LiesM w4 (some ⟨g, 0, none⟩) (entsM m)) := hide (Or.inr ⟨g, 0, rfl, hg4, hcells⟩)
      have hc44 : 4 ≤ c4 := hc4
      have hln : (entsM m).length = 4 := rfl
      rw [hln]
      clear hcells hc4 hb4 ho4 hat hln hz hg0
      obtain ⟨i1, hi, hz0, hz1, hz2⟩ := info_parts infoX
      have HCA : Hid (Chg (fun _ => False) w4 (w4.drew.alloc (.cells #[.int .i64 (s * 512), .int .i64 ((s + 1) * 512)] 24))) := hide ((Chg.refl _ _).drew.alloc _)
      have HR5 := hide (hR4.chg HCA.out (fun h => h) (fun _ _ h => h) (fun _ _ h => h))
      have c1 : w4.drew.cell? ⟨R, 1, none⟩ = some vH := hR4.cell.2.1
      have y0 : w4.drew.cell? ⟨w1.heap.size, 0, none⟩ = some (.int .i64 (s * 512)) := hX4.cell 0 _ rfl
      have y1 : w4.drew.cell? ⟨w1.heap.size, 1, none⟩ = some (.int .i64 ((s + 1) * 512)) := hX4.cell 1 _ rfl
      have e2 : (w4.alloc (.cells #[.int .i64 (s * 512), .int .i64 ((s + 1) * 512)] 24)).drew.cell? ⟨R, 1, none⟩ = some vH := HR5.out.cell.2.1
      have e3 : (w4.alloc (.cells #[.int .i64 (s * 512), .int .i64 ((s + 1) * 512)] 24)).cell? ⟨R, 1, none⟩ = some vH := HR5.out.cell.2.1
      have HKH : Hid (some R ≠ vH.ownBlock) := hide (fun e => (hR4.kH _ e.symm).2 rfl)
      have HR4 := hide hR4
      clear hR4 hX4
      go_wp2_with fail
      go_region_law (refine step_append_rowM (by rfl) (.tmp 38) (.tmp 40) 40 (by rfl) 0 24 i1 (.agg #[.int .i64 0, .int .i64 0]) 2 16 Tryz.underlying40 hi hz0 hz1 hz2 (by rfl) (by decide) vH st.H.length (st.H.flatMap encE) (by rfl) HR5.out.h ⟨w4.heap.size, 0, none⟩ 1 1 [.int .i64 (s * 512), .int .i64 ((s + 1) * 512)] (by rfl) (by rfl) (by exact new2 w4.drew _ _ _) (by simp [Value.oneCell']) (by unfold maxLen; omega) (by omega) (Nat.zero_le _) ?_; intro v5 w5 ho5 hg5 hw5; obtain ⟨g5, cap5, rfl⟩ := row_succM ho5; have HO5 := hide ho5; have HG5 := hide hg5; have HW5 := hide hw5; have d5 := HG5.out.cell (a := ⟨R, 1, none⟩) HR5.out.cell.2.1 HKH.out; have y5 : w5.frozen? ⟨R, 1, none⟩ = false := (World.frozen?_of_block (a := ⟨R, 1, none⟩) (HG5.out.block R HR5.out.blk.lt HKH.out)).trans (HR5.out.blk.frozen 1); clear ho5 hg5 hw5)
      all_goals
        obtain ⟨hr6, hk6⟩ := HR5.out.putH _ (s * 512, (s + 1) * 512) HO5.out HG5.out HW5.out
        go_wp2_with fail
        go_ret2
        refine ⟨Or.inl ⟨by rw [HSc2.out]; exact HZ.out, g, c4, _, rfl, hc44, ?_, hr6⟩, HK4.out.trans (((Chg.mono HCA.out (fun _ _ h => h.elim)) : Kept K _ _).trans (hk6.mono (fun k e => Or.inl e)))⟩
        rw [HSe.out]
        exact (HL4.out.chg HCA.out (fun _ _ h => h)).chg hk6 (fun x hx => fun h => by cases hx; exact h (Or.inr rfl))
    · obtain ⟨hz, rfl⟩ := h4
      have HZ := hide hz
      have HK4 := hide (HK3.out.trans (Kept.of_below hb4))
      obtain ⟨c, hc⟩ : ∃ c, c = entC m := ⟨_, rfl⟩
      have HC := hide hc
      rw [← hc] at hz ⊢
      have hcb : (c != 0) = true := by simpa using hz
      clear hc hb4
      go_wp2_with fail
      go_ret2
      exact ⟨Or.inr ⟨by rw [HSc2.out]; exact HZ.out, by rw [HSc2.out, ← HC.out]; rfl⟩, HK4.out⟩
  · have hsc : secC d s = 4 := by rw [HSc.out, if_neg (by rw [← HN.out]; exact hrd)]
    have HRB : ∀ u, Kept K w u → Hid (Calls Tryz.prog 156 #[.slice a n cap, .int .i64 (s * 512), .int .i64 512] u fun e w' => e = .returned (.tuple #[.slice none 0 0, .int .i64 4]) ∧ Below u.heap.size u w') := fun u hu => hide ((HRd u hu).out.mono (by
      rintro e9 w3 ⟨h3 | h3, hb3⟩
      · exact absurd (by rw [HN.out]; exact h3.1) hrd
      · exact ⟨h3.2, hb3⟩))
    have HSc2 := hide hsc
    clear hsc HRd HSc
    go_wp2_with fail
    rw [← HW2.out]
    go_region_held3 (fun u => u.cell? ⟨R, 5, none⟩ = some (.iface 33 (.slice a n cap)) ∧ u.cell? ⟨w1.heap.size, 0, none⟩ = some (.int .i64 (s * 512))) (first | go_keep | exact ⟨r5, x0⟩ | exact HS3.out) (first | (go_at_call 156; refine ((HRB _ HK2.out.drew).out).mono ?_; rintro e9 w3 ⟨rfl, hb3⟩; have HS3 := hide (And.intro ((hb3.cell (p := ⟨R, 5, none⟩) hRlt).trans r5) ((hb3.cell (p := ⟨w1.heap.size, 0, none⟩) hXlt).trans x0)); have HB3 := hide hb3; clear hb3))
    all_goals
      have HK3 := hide (HK2.out.drew.trans (Kept.of_below HB3.out))
      go_wp2_with fail
      go_ret2
      exact ⟨Or.inr ⟨by rw [HSc2.out]; decide, by rw [HSc2.out]; rfl⟩, HK3.out⟩
end Go.Proofs.YtjpdfchdgphdoaaGreatDoor.Oct
