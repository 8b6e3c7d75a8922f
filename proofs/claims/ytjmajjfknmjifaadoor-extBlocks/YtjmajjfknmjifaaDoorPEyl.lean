/- A group's row is written: Row.Put. -/
import Derived.Test.YtjmajjfknmjifaaDoorPEyj
import Derived.Test.YtjmajjfknmjifaaDoorPAppChg
import Derived.Test.YtjmajjfknmjifaaDoorPRdWr
namespace Go.Proofs.YtjmajjfknmjifaaDoor.Oct
open Go.RowKit

/-- Bytes with a row's first so many numbers. -/
def rwP (r : Rw) (l : List Int) (q : Nat) : Nat → List Int
  | 0 => l
  | 1 => putN (rwP r l q 0) (q + 0) r.blo 4
  | 2 => putN (rwP r l q 1) (q + 4) r.ino 4
  | 3 => putN (rwP r l q 2) (q + 8) r.tab 4
  | 4 => putN (rwP r l q 3) (q + 12) r.fb 2
  | 5 => putN (rwP r l q 4) (q + 14) r.fi 2
  | 6 => putN (rwP r l q 5) (q + 16) r.fo 2
  | _ + 7 => []

def rwB (r : Rw) (l : List Int) (q : Nat) : List Int := rwP r l q 6

theorem rwP_len (r : Rw) (l : List Int) (q : Nat) : ∀ k, k ≤ 6 → (rwP r l q k).length = l.length
  | 0, _ => by rw [rwP]
  | 1, _ => by rw [rwP, putN_length]; exact rwP_len r l q 0 (by omega)
  | 2, _ => by rw [rwP, putN_length]; exact rwP_len r l q 1 (by omega)
  | 3, _ => by rw [rwP, putN_length]; exact rwP_len r l q 2 (by omega)
  | 4, _ => by rw [rwP, putN_length]; exact rwP_len r l q 3 (by omega)
  | 5, _ => by rw [rwP, putN_length]; exact rwP_len r l q 4 (by omega)
  | 6, _ => by rw [rwP, putN_length]; exact rwP_len r l q 5 (by omega)
  | n + 7, h => by omega

theorem rwB_len (r : Rw) (l : List Int) (q : Nat) : (rwB r l q).length = l.length := rwP_len r l q 6 (by omega)

/-- Numbers that a row can hold. -/
def Rw.fits (r : Rw) : Prop := (0 ≤ r.blo ∧ r.blo ≤ 65535) ∧ (0 ≤ r.ino ∧ r.ino ≤ 65535) ∧ (0 ≤ r.tab ∧ r.tab ≤ 65535) ∧ (0 ≤ r.fb ∧ r.fb ≤ 65535) ∧ (0 ≤ r.fi ∧ r.fi ≤ 65535) ∧ (0 ≤ r.fo ∧ r.fo ≤ 65535)

set_option maxHeartbeats 4000000 in
theorem rwput_no (r : Rw) (a : Option Addr) (n cap : Nat) (p : Int) (w : World) (hlen : n ≤ maxLen) (hp : p ≤ 9223372036854775807) (hp2 : -9223372036854775808 ≤ p) (h : ¬ (0 ≤ p ∧ 32 ≤ (n : Int) - p)) :
    Calls Tryd.prog 18 #[.agg r.cs, .slice a n cap, .int .i64 p] w fun e w' => e = .returned (.int .i64 4) ∧ Below w.heap.size w w' := by
  have HSl := fun u => hide (Slice_no a n cap p 32 u hlen hp hp2 (fun c => h ⟨c.1, c.2.2⟩))
  have hb1 : Below w.heap.size w (w.alloc (.cells r.cs 41)) := (Below.refl w.heap.size w).alloc (Nat.le_refl _) _
  have HB1 := hide hb1
  clear hlen hp hp2 h hb1
  go_enter Tryd.func18, Tryd.ntmps18
  go_wp2_with fail
  refine (HSl _).out.mono ?_
  rintro e9 w2 ⟨rfl, h2⟩
  rw [h2]
  clear h2
  go_wp2_with fail
  go_ret
  exact ⟨rfl, HB1.out⟩

set_option maxHeartbeats 8000000 in
set_option maxRecDepth 100000 in
theorem rwput_yes (r : Rw) (B g cap : Nat) (l : List Int) (q : Nat) (w : World) (hlen : l.length ≤ 1000000) (hf : r.fits) (hq : q + 32 ≤ l.length) (hB : B ≤ w.heap.size) (hown : Own w B (.slice (some ⟨g, 0, none⟩) l.length cap) l) :
    Calls Tryd.prog 18 #[.agg r.cs, .slice (some ⟨g, 0, none⟩) l.length cap, .int .i64 q] w fun e w' => e = .returned (.int .i64 0) ∧ Own w' B (.slice (some ⟨g, 0, none⟩) l.length cap) (rwB r l q) ∧ Chg (fun k => some k = some g) w w' := by
  have hgw := (World.ownsRow.lt hown g rfl).2
  obtain ⟨w1, hw1⟩ : ∃ w1, w1 = w.alloc (.cells r.cs 41) := ⟨_, rfl⟩
  have hb1 : Below w.heap.size w w1 := by rw [hw1]; exact (Below.refl w.heap.size w).alloc (Nat.le_refl _) _
  have HI := hide (show Blk w1 w.heap.size r.cs 41 by rw [hw1]; exact Blk.new w r.cs 41)
  have HW1 := hide hw1
  have HB1 := hide hb1
  have ho1 := hown.below hb1
  obtain ⟨a', c', e', hsl, _⟩ := ho1.sl
  obtain ⟨rfl, rfl⟩ : some ⟨g, 0, none⟩ = a' ∧ cap = c' := by injection e' with e1 e2 e3; exact ⟨e1, e3⟩
  have HSl := hide (Slice_yes (some ⟨g, 0, none⟩) cap l q 32 w1 hlen hsl (by omega))
  have HO1 := hide ho1
  have HH := hide (And.intro hlen (And.intro hq (And.intro hB hgw)))
  have v0 : IntKind.u32.wrap r.blo = r.blo := by rw [IntKind.wrap_u32]; unfold Rw.fits at hf; omega
  have v1 : IntKind.u32.wrap r.ino = r.ino := by rw [IntKind.wrap_u32]; unfold Rw.fits at hf; omega
  have v2 : IntKind.u32.wrap r.tab = r.tab := by rw [IntKind.wrap_u32]; unfold Rw.fits at hf; omega
  have v3 : IntKind.u16.wrap r.fb = r.fb := by rw [IntKind.wrap_u16]; unfold Rw.fits at hf; omega
  have v4 : IntKind.u16.wrap r.fi = r.fi := by rw [IntKind.wrap_u16]; unfold Rw.fits at hf; omega
  have v5 : IntKind.u16.wrap r.fo = r.fo := by rw [IntKind.wrap_u16]; unfold Rw.fits at hf; omega
  obtain ⟨N, hN⟩ : ∃ N, N = l.length := ⟨_, rfl⟩
  have HN := hide hN
  have hPut32 := fun (k : Nat) (hk : k ≤ 6) (d : Nat) (hd : d + 4 ≤ 32) (v : Int) (u : World) (ho : Own u B (.slice (some ⟨g, 0, none⟩) N cap) (rwP r l q k)) => hide (Put32_yes B g cap (rwP r l q k) (q + d) v u (by rw [rwP_len _ _ _ _ hk]; unfold maxLen; omega) (by rw [rwP_len _ _ _ _ hk]; omega) (by rw [rwP_len _ _ _ _ hk, ← hN]; exact ho))
  have hPut16 := fun (k : Nat) (hk : k ≤ 6) (d : Nat) (hd : d + 2 ≤ 32) (v : Int) (u : World) (ho : Own u B (.slice (some ⟨g, 0, none⟩) N cap) (rwP r l q k)) => hide (Put16_yes B g cap (rwP r l q k) (q + d) v u (by rw [rwP_len _ _ _ _ hk]; unfold maxLen; omega) (by rw [rwP_len _ _ _ _ hk]; omega) (by rw [rwP_len _ _ _ _ hk, ← hN]; exact ho))
  have HP32 := hide hPut32
  have HP16 := hide hPut16
  rw [← hN] at HSl HO1 ⊢
  have hq2 : (q : Int) ≤ 1000000 := by omega
  clear hPut32 hPut16 hN hown hb1 hw1 hlen hq hB hgw hf ho1 hsl e'
  push_cast at HSl
  obtain ⟨c0, c1, c2, c3, c4, c5⟩ : w1.cell? ⟨w.heap.size, 0, none⟩ = some (.int .i64 r.blo) ∧ w1.cell? ⟨w.heap.size, 1, none⟩ = some (.int .i64 r.ino) ∧ w1.cell? ⟨w.heap.size, 2, none⟩ = some (.int .i64 r.tab) ∧ w1.cell? ⟨w.heap.size, 3, none⟩ = some (.int .i64 r.fb) ∧ w1.cell? ⟨w.heap.size, 4, none⟩ = some (.int .i64 r.fi) ∧ w1.cell? ⟨w.heap.size, 5, none⟩ = some (.int .i64 r.fo) := ⟨HI.out.cell 0 _ rfl, HI.out.cell 1 _ rfl, HI.out.cell 2 _ rfl, HI.out.cell 3 _ rfl, HI.out.cell 4 _ rfl, HI.out.cell 5 _ rfl⟩
  go_enter Tryd.func18, Tryd.ntmps18
  go_wp2_with fail
  rw [← HW1.out]
  refine HSl.out.mono ?_
  rintro e9 y0 ⟨v2, rfl, ho2, h2⟩
  have HI0 := hide (HI.out.below h2)
  have HO0 := hide (show Own y0 B (.slice (some ⟨g, 0, none⟩) N cap) (rwP r l q 0) by rw [rwP]; exact HO1.out.below h2)
  have HC0 := hide (Chg.of_below (X := (fun k => some k = some g)) (HB1.out.trans (h2.mono HB1.out.size)))
  clear h2 ho2 HO1 HI c0 c1 c2 c3 c4 c5
  have d0 : y0.cell? ⟨w.heap.size, 0, none⟩ = some (.int .i64 r.blo) := HI0.out.cell 0 _ rfl
  have HPu := HP32.out 0 (by omega) 0 (by omega) r.blo y0 HO0.out
  rw [show (((q + 0 : Nat)) : Int) = (q : Int) + 0 by omega, rwP_len _ _ _ _ (by omega), ← HN.out] at HPu
  try rw [Int.add_zero] at HPu
  go_wp2_with fail
  refine HPu.out.mono ?_
  rintro e9 y1 ⟨rfl, ho5, hg5⟩
  have HO1 := hide (show Own y1 B (.slice (some ⟨g, 0, none⟩) N cap) (rwP r l q 1) by rw [rwP]; exact ho5)
  have HC1 := hide (HC0.out.trans (Chg.of_grown hg5))
  have HI1 := hide (HI0.out.chg (Chg.of_grown hg5) (fun e => by have := Option.some.inj e; have := HH.out.2.2.2; omega))
  clear ho5 hg5 HPu HO0 HC0 HI0 d0
  have d1 : y1.cell? ⟨w.heap.size, 1, none⟩ = some (.int .i64 r.ino) := HI1.out.cell 1 _ rfl
  have HPu := HP32.out 1 (by omega) 4 (by omega) r.ino y1 HO1.out
  rw [show (((q + 4 : Nat)) : Int) = (q : Int) + 4 by omega, rwP_len _ _ _ _ (by omega), ← HN.out] at HPu
  try rw [Int.add_zero] at HPu
  go_wp2_with fail
  refine HPu.out.mono ?_
  rintro e9 y2 ⟨rfl, ho5, hg5⟩
  have HO2 := hide (show Own y2 B (.slice (some ⟨g, 0, none⟩) N cap) (rwP r l q 2) by rw [rwP]; exact ho5)
  have HC2 := hide (HC1.out.trans (Chg.of_grown hg5))
  have HI2 := hide (HI1.out.chg (Chg.of_grown hg5) (fun e => by have := Option.some.inj e; have := HH.out.2.2.2; omega))
  clear ho5 hg5 HPu HO1 HC1 HI1 d1
  have d2 : y2.cell? ⟨w.heap.size, 2, none⟩ = some (.int .i64 r.tab) := HI2.out.cell 2 _ rfl
  have HPu := HP32.out 2 (by omega) 8 (by omega) r.tab y2 HO2.out
  rw [show (((q + 8 : Nat)) : Int) = (q : Int) + 8 by omega, rwP_len _ _ _ _ (by omega), ← HN.out] at HPu
  try rw [Int.add_zero] at HPu
  go_wp2_with fail
  refine HPu.out.mono ?_
  rintro e9 y3 ⟨rfl, ho5, hg5⟩
  have HO3 := hide (show Own y3 B (.slice (some ⟨g, 0, none⟩) N cap) (rwP r l q 3) by rw [rwP]; exact ho5)
  have HC3 := hide (HC2.out.trans (Chg.of_grown hg5))
  have HI3 := hide (HI2.out.chg (Chg.of_grown hg5) (fun e => by have := Option.some.inj e; have := HH.out.2.2.2; omega))
  clear ho5 hg5 HPu HO2 HC2 HI2 d2
  have d3 : y3.cell? ⟨w.heap.size, 3, none⟩ = some (.int .i64 r.fb) := HI3.out.cell 3 _ rfl
  have HPu := HP16.out 3 (by omega) 12 (by omega) r.fb y3 HO3.out
  rw [show (((q + 12 : Nat)) : Int) = (q : Int) + 12 by omega, rwP_len _ _ _ _ (by omega), ← HN.out] at HPu
  try rw [Int.add_zero] at HPu
  go_wp2_with fail
  refine HPu.out.mono ?_
  rintro e9 y4 ⟨rfl, ho5, hg5⟩
  have HO4 := hide (show Own y4 B (.slice (some ⟨g, 0, none⟩) N cap) (rwP r l q 4) by rw [rwP]; exact ho5)
  have HC4 := hide (HC3.out.trans (Chg.of_grown hg5))
  have HI4 := hide (HI3.out.chg (Chg.of_grown hg5) (fun e => by have := Option.some.inj e; have := HH.out.2.2.2; omega))
  clear ho5 hg5 HPu HO3 HC3 HI3 d3
  have d4 : y4.cell? ⟨w.heap.size, 4, none⟩ = some (.int .i64 r.fi) := HI4.out.cell 4 _ rfl
  have HPu := HP16.out 4 (by omega) 14 (by omega) r.fi y4 HO4.out
  rw [show (((q + 14 : Nat)) : Int) = (q : Int) + 14 by omega, rwP_len _ _ _ _ (by omega), ← HN.out] at HPu
  try rw [Int.add_zero] at HPu
  go_wp2_with fail
  refine HPu.out.mono ?_
  rintro e9 y5 ⟨rfl, ho5, hg5⟩
  have HO5 := hide (show Own y5 B (.slice (some ⟨g, 0, none⟩) N cap) (rwP r l q 5) by rw [rwP]; exact ho5)
  have HC5 := hide (HC4.out.trans (Chg.of_grown hg5))
  have HI5 := hide (HI4.out.chg (Chg.of_grown hg5) (fun e => by have := Option.some.inj e; have := HH.out.2.2.2; omega))
  clear ho5 hg5 HPu HO4 HC4 HI4 d4
  have d5 : y5.cell? ⟨w.heap.size, 5, none⟩ = some (.int .i64 r.fo) := HI5.out.cell 5 _ rfl
  have HPu := HP16.out 5 (by omega) 16 (by omega) r.fo y5 HO5.out
  rw [show (((q + 16 : Nat)) : Int) = (q : Int) + 16 by omega, rwP_len _ _ _ _ (by omega), ← HN.out] at HPu
  try rw [Int.add_zero] at HPu
  go_wp2_with fail
  refine HPu.out.mono ?_
  rintro e9 y6 ⟨rfl, ho5, hg5⟩
  have HO6 := hide (show Own y6 B (.slice (some ⟨g, 0, none⟩) N cap) (rwP r l q 6) by rw [rwP]; exact ho5)
  have HC6 := hide (HC5.out.trans (Chg.of_grown hg5))
  have HI6 := hide (HI5.out.chg (Chg.of_grown hg5) (fun e => by have := Option.some.inj e; have := HH.out.2.2.2; omega))
  clear ho5 hg5 HPu HO5 HC5 HI5 d5
  go_wp2_with fail
  go_ret
  exact ⟨rfl, HO6.out, HC6.out⟩
end Go.Proofs.YtjmajjfknmjifaaDoor.Oct
