/- The volume of 128 blocks is opened. -/
import Derived.Test.YtjmajjfknmjifaaDoorPEzo
import Derived.Test.YtjmajjfknmjifaaDoorPEzq
import Derived.Deep.Cut
namespace Go.Proofs.YtjmajjfknmjifaaDoor.Oct
open Go.RowKit

theorem VolB.below {w w' : World} {R : Nat} {dv : Value} {F1 F2 : List Int} (h : VolB w R dv F1 F2) (hb : Below w.heap.size w w') : VolB w' R dv F1 F2 := by
  obtain ⟨gr, cr, gb, cb, gn, cn, ga, ca, gc, cc, h1, h2, h3, h4, h5, h6⟩ := h
  exact ⟨gr, cr, gb, cb, gn, cn, ga, ca, gc, cc, h1.below hb, h2.below hb, h3.below hb, h4.below hb, h5.below hb, h6.below hb⟩

set_option maxHeartbeats 8000000 in
set_option maxRecDepth 100000 in
theorem eopen_ok (a : Option Addr) (cap m : Nat) (d F1 F2 : List Int) (w : World) (hD : DiskE w a cap d) (hm : m = d.length) (hX : DiskX d F1 F2) (hV : VarX w) :
    Calls Tryd.prog 31 #[(.iface 76 (.slice a m cap))] w fun e w' => (∃ R, e = .returned (.tuple #[.pointer (some ⟨R, 0, none⟩), .int .i64 0]) ∧ VolB w' R (.iface 76 (.slice a m cap)) F1 F2) ∧ Below w.heap.size w w' := by
  have hlc : (cutE d 2048 1024).length = 1024 := cutE_len (by have := hX.len; omega)
  have HSu := hide (esuper_ok a cap m d w hD hm hX.len hX.byts hV hX.sup)
  have HRd : ∀ u, DiskE u a cap d → Hid (Calls Tryd.prog 54 #[(.iface 76 (.slice a m cap)), .int .i64 2] u fun e w' => (∃ g c', e = .returned (.tuple #[.slice (some ⟨g, 0, none⟩) 1024 c', .int .i64 0]) ∧ Own w' u.heap.size (.slice (some ⟨g, 0, none⟩) 1024 c') (cutE d 2048 1024)) ∧ Below u.heap.size u w') := fun u h => hide (by
    have h := eread_ok a cap d 2 u h.len h.le h.none h.lies (by omega) (by have := hX.len; omega)
    rw [hm]
    exact h)
  have HAl := hide (show ∀ x, a = some x → x.block < w.heap.size from fun x hx => by
    rcases hD.lies with h | ⟨b, off, e, hb, _⟩
    · have := hX.len; rw [h] at this; simp at this
    · rw [hx] at e; cases e; exact hb)
  have HO1 := fun (R P Q gq cq : Nat) (u : World) h1 h2 h3 h4 h5 h6 h7 h8 => open1_ok R P Q gq cq a cap m d F1 F2 u h1 hm hX h2 h3 h4 h5 h6 h7 h8
  have HSm := fun R u h => hide (summed_ok R (.iface 76 (.slice a m cap)) F1 F2 u h)
  have HD := hide hD
  clear hD hm hX hV hlc
  go_enter Tryd.func31, Tryd.ntmps31
  go_wp2_with fail
  refine HSu.out.mono ?_
  rintro e9 w1 ⟨rfl, hb1⟩
  obtain ⟨H, hH⟩ : ∃ H, H = w1.heap.size := ⟨_, rfl⟩
  obtain ⟨w2, hw2⟩ : ∃ w2, w2 = w1.alloc (.cells #[.int .i64 16, .int .i64 128, .int .i64 120, .int .i64 6, .int .i64 128, .int .i64 16, .int .i64 11, .bool true] 23) := ⟨_, rfl⟩
  have hbw2 : Below w1.heap.size w1 w2 := by rw [hw2]; exact (Below.refl _ _).alloc (Nat.le_refl _) _
  have HNw2 := hide (show Blk w2 H #[.int .i64 16, .int .i64 128, .int .i64 120, .int .i64 6, .int .i64 128, .int .i64 16, .int .i64 11, .bool true] 23 by rw [hw2, hH]; exact Blk.new _ _ _)
  have HWw2 := hide hw2
  have HEH := hide hH
  have hb12 := hb1.trans (hbw2.mono hb1.size)
  have HB2 := hide hb12
  have HD2 := HD.out.below hb12
  have HR2 := HRd w2 HD2
  clear hb1 hbw2 hb12 hw2 hH HD2 HSu HRd
  go_wp2_with fail
  rw [← HWw2.out]
  refine HR2.out.mono ?_
  rintro e9 w3 ⟨⟨gq, cq, rfl, ho3⟩, hb3⟩
  have hl3 := ho3.liesE
  have hsl : 1024 ≤ cq ∧ cq ≤ maxLen := by
    rcases ho3.2 with ⟨h, _⟩ | ⟨g, cap', cur, h, _, _, h1, h2, _, _⟩
    · cases h
    · injection h with e1 e2 e3
      subst e3
      exact ⟨by have := ho3.1; have h3 : (cutE d 2048 1024).length ≤ cq := h1; simp at this; omega, h2⟩
  obtain ⟨P, hP⟩ : ∃ P, P = w3.heap.size := ⟨_, rfl⟩
  obtain ⟨w4, hw4⟩ : ∃ w4, w4 = w3.alloc (.cells #[.slice (some ⟨gq, 0, none⟩) 1024 cq] 24) := ⟨_, rfl⟩
  have hbw4 : Below w3.heap.size w3 w4 := by rw [hw4]; exact (Below.refl _ _).alloc (Nat.le_refl _) _
  have HNw4 := hide (show Blk w4 P #[.slice (some ⟨gq, 0, none⟩) 1024 cq] 24 by rw [hw4, hP]; exact Blk.new _ _ _)
  have HWw4 := hide hw4
  have HEP := hide hP
  have hb34 := hb3.trans (hbw4.mono hb3.size)
  have HB4 := hide (HB2.out.trans (hb34.mono HB2.out.size))
  have HH4 := hide (HNw2.out.below hb34)
  have HL4 := hide (hl3.below hbw4)
  have HSl := hide hsl
  clear hb3 hbw4 hb34 hw4 hP ho3 hl3 hsl HR2
  go_upto_region 9 with fail
  rw [← HWw4.out, ← HEH.out, ← HEP.out]
  obtain ⟨R, hR⟩ : ∃ R, R = w4.heap.size := ⟨_, rfl⟩
  obtain ⟨w5, hw5⟩ : ∃ w5, w5 = w4.alloc (.cells #[.int .i64 16, .int .i64 128, .int .i64 120, .int .i64 6, .int .i64 128, .int .i64 16, .int .i64 11, .bool true, .slice none 0 0, .slice none 0 0, .slice none 0 0, .iface 76 (.slice a m cap)] 82) := ⟨_, rfl⟩
  have hbw5 : Below w4.heap.size w4 w5 := by rw [hw5]; exact (Below.refl _ _).alloc (Nat.le_refl _) _
  have HNw5 := hide (show Blk w5 R #[.int .i64 16, .int .i64 128, .int .i64 120, .int .i64 6, .int .i64 128, .int .i64 16, .int .i64 11, .bool true, .slice none 0 0, .slice none 0 0, .slice none 0 0, .iface 76 (.slice a m cap)] 82 by rw [hw5, hR]; exact Blk.new _ _ _)
  have HWw5 := hide hw5
  have HER := hide hR
  obtain ⟨Q, hQ⟩ : ∃ Q, Q = w5.heap.size := ⟨_, rfl⟩
  obtain ⟨w6, hw6⟩ : ∃ w6, w6 = w5.alloc (.cells #[.pointer (some ⟨R, 0, none⟩)] 73) := ⟨_, rfl⟩
  have hbw6 : Below w5.heap.size w5 w6 := by rw [hw6]; exact (Below.refl _ _).alloc (Nat.le_refl _) _
  have HNw6 := hide (show Blk w6 Q #[.pointer (some ⟨R, 0, none⟩)] 73 by rw [hw6, hQ]; exact Blk.new _ _ _)
  have HWw6 := hide hw6
  have HEQ := hide hQ
  have hb46 := hbw5.trans (hbw6.mono hbw5.size)
  have HB6 := hide (HB4.out.trans (hb46.mono HB4.out.size))
  have HH6 := hide (HH4.out.below hb46)
  have HP6 := hide (HNw4.out.below hb46)
  have HL6 := hide (HL4.out.below hb46)
  have HR6 := hide (HNw5.out.below hbw6)
  have HRl := hide (show w.heap.size ≤ R by rw [hR]; exact HB4.out.size)
  have HRQ := hide (show R ≠ Q ∧ Q < w6.heap.size from by have h1 := HNw5.out.lt; have h2 := HNw6.out.lt; rw [hQ]; rw [hQ] at h2; omega)
  obtain ⟨k0, k1, k2, k3, k4, k5, k6, k7⟩ := eight1 HH4.out
  have hx6 : w6 = (w4.alloc (.cells #[.int .i64 16, .int .i64 128, .int .i64 120, .int .i64 6, .int .i64 128, .int .i64 16, .int .i64 11, .bool true, .slice none 0 0, .slice none 0 0, .slice none 0 0, .iface 76 (.slice a m cap)] 82)).alloc (.cells #[.pointer (some ⟨w4.heap.size, 0, none⟩)] 73) := by rw [hw6, hw5, hR]
  have hQ2 : Q = w4.heap.size + 1 := by rw [hQ, hw5]; simp
  obtain ⟨l0, l1, l2, l3, l4, l5, l6, l7⟩ := eight1 HH6.out
  rw [hx6] at l0 l1 l2 l3 l4 l5 l6 l7
  have HX6 := hide hx6
  have HQ2 := hide hQ2
  have HTh := hide (through_ok R P Q (.iface 76 (.slice a m cap)) F1 F2 w6 (fun u hu => HO1 R P Q gq cq u ((HD.out.below HB6.out).below hu) (fun x hx e => by have := HAl.out x hx; have := HRl.out; omega) HSl.out.1 HSl.out.2 (HR6.out.below hu) ((HP6.out.below hu).cell 0 _ rfl) ((HNw6.out.below hu).cell 0 _ rfl) (HL6.out.below hu)))
  have HNQ := HNw6
  clear hbw5 hbw6 hb46 hw5 hw6 hx6 hQ2 hR hQ HO1
  go_wp2_with fail
  rw [← HX6.out, ← HQ2.out]
  clear k0 k1 k2 k3 k4 k5 k6 k7 l0 l1 l2 l3 l4 l5 l6 l7
  refine HTh.out.mono ?_
  rintro e9 w7 ⟨rfl, hv7, hc7⟩
  have HV7 := hide hv7
  have HB7 := hide (HB6.out.trans (Chg.below w.heap.size hc7 HB6.out.size (fun i hi e => by have h1 := HRl.out; have h2 := HB6.out.size; rcases e with e | e <;> omega)))
  have HQ7 := hide (hc7.cell (HNQ.out.cell 0 _ rfl) (fun e => by have h1 := HRQ.out; rcases e with e | e <;> omega))
  have q7 := HQ7.out
  have HSm7 := HSm R w7 hv7
  clear hv7 hc7 HTh
  go_wp2_with fail
  refine HSm7.out.mono ?_
  rintro e9 w8 ⟨rfl, hb8⟩
  have q8 := (hb8.cell (p := ⟨Q, 0, none⟩) (lt_of_cell HQ7.out)).trans HQ7.out
  have HV8 := hide (HV7.out.below hb8)
  have HB8 := hide (HB7.out.trans (hb8.mono HB7.out.size))
  clear q7 hb8 HSm7
  go_wp2_with fail
  go_ret2
  exact ⟨⟨R, rfl, HV8.out⟩, HB8.out⟩
end Go.Proofs.YtjmajjfknmjifaaDoor.Oct
