/- The document's way to write a row: PutRow. -/
import Derived.Test.YtjmajjfknmjifaaDoorPEym
namespace Go.Proofs.YtjmajjfknmjifaaDoor.Oct
open Go.RowKit

theorem rput2_any (a : Option Addr) (cap : Nat) (l : List Int) (a' : Option Addr) (cap' : Nat) (p : Nat) (v : Int) (w : World) (hlen : l.length ≤ 1000000) (hp : p + 2 ≤ l.length) (hs : Sl w a cap l) (hs' : Sl w a' cap' (bytesOf v 2)) :
    Calls Tryd.prog 43 #[.slice a l.length cap, .int .i64 p, .slice a' 2 cap'] w fun e w' => ∃ r, e = .returned r ∧ Own w' w.heap.size r (putN l p v 2) ∧ Below w.heap.size w w' := by
  have h := With_any a cap l a' cap' (bytesOf v 2) p w hlen (by rw [bytesOf_length]; omega) (by rw [bytesOf_length]; exact hp) hs hs'
  rw [over_putE _ _ _ _ hp, bytesOf_length] at h
  exact h
theorem rput4_any (a : Option Addr) (cap : Nat) (l : List Int) (a' : Option Addr) (cap' : Nat) (p : Nat) (v : Int) (w : World) (hlen : l.length ≤ 1000000) (hp : p + 4 ≤ l.length) (hs : Sl w a cap l) (hs' : Sl w a' cap' (bytesOf v 4)) :
    Calls Tryd.prog 43 #[.slice a l.length cap, .int .i64 p, .slice a' 4 cap'] w fun e w' => ∃ r, e = .returned r ∧ Own w' w.heap.size r (putN l p v 4) ∧ Below w.heap.size w w' := by
  have h := With_any a cap l a' cap' (bytesOf v 4) p w hlen (by rw [bytesOf_length]; omega) (by rw [bytesOf_length]; exact hp) hs hs'
  rw [over_putE _ _ _ _ hp, bytesOf_length] at h
  exact h

set_option maxHeartbeats 1000000 in
theorem word_any (a : Option Addr) (cap : Nat) (l : List Int) (p : Nat) (v : Int) (w : World) (hlen : l.length ≤ 1000000) (hp : p + 4 ≤ l.length) (hs : Sl w a cap l) (hv0 : 0 ≤ v) (hv : v < 4294967296) :
    Calls Tryd.prog 42 #[.slice a l.length cap, .int .i64 p, .int .i64 v] w fun e w' => ∃ r, e = .returned r ∧ Own w' w.heap.size r (putN l p v 4) ∧ Below w.heap.size w w' := by
  have hB := hide (Bytes_any v 4 w (by omega) hv0 (by omega))
  have hW := fun (a' : Option Addr) (cap' : Nat) (u : World) (h1 : Sl u a cap l) (h2 : Sl u a' cap' (bytesOf v 4)) => hide (rput4_any a cap l a' cap' p v u hlen hp h1 h2)
  have HW := hide hW
  have HS := hide hs
  obtain ⟨n, hn⟩ : ∃ n, n = l.length := ⟨_, rfl⟩
  rw [← hn] at HW ⊢
  have hp2 : (p : Int) ≤ 1000000 := by omega
  push_cast at hB
  clear hlen hp hs hW hn
  go_enter Tryd.func42, Tryd.ntmps42
  go_wp2_with fail
  refine hB.out.mono ?_
  rintro e9 w2 ⟨r2, rfl, ho2, h2⟩
  obtain ⟨a2, c2, rfl, hs2, _⟩ := ho2.sl
  rw [bytesOf_length]
  have HC := HW.out a2 c2 w2 (HS.out.below h2) hs2
  have H2 := hide h2
  clear ho2 hs2 h2
  go_wp2_with fail
  refine HC.out.mono ?_
  rintro e9 w3 ⟨r3, rfl, ho3, h3⟩
  have HO := hide (Own.mono ho3 H2.out.size)
  have HB := hide (H2.out.trans (h3.mono H2.out.size))
  clear ho3 h3
  go_wp2_with fail
  go_ret
  exact ⟨_, rfl, HO.out, HB.out⟩

set_option maxHeartbeats 8000000 in
set_option maxRecDepth 100000 in
theorem rputrow_any (r : Rw) (a : Option Addr) (cap : Nat) (l : List Int) (q : Nat) (w : World) (hlen : l.length ≤ 1000000) (hf : r.fits) (hq : q + 32 ≤ l.length) (hs : Sl w a cap l) :
    Calls Tryd.prog 21 #[.slice a l.length cap, .int .i64 q, .agg r.cs] w fun e w' => ∃ v, e = .returned v ∧ Own w' w.heap.size v (rwB r l q) ∧ Below w.heap.size w w' := by
  obtain ⟨w1, hw1⟩ : ∃ w1, w1 = w.alloc (.cells r.cs 52) := ⟨_, rfl⟩
  have hb1 : Below w.heap.size w w1 := by rw [hw1]; exact (Below.refl w.heap.size w).alloc (Nat.le_refl _) _
  have hk1 : Blk w1 w.heap.size r.cs 52 := by rw [hw1]; exact Blk.new w r.cs 52
  have HK0 := hide hk1
  have HW1 := hide hw1
  have HB0 := hide hb1
  have HS0 := hide (show Sl w1 a cap (rwP r l q 0) by rw [rwP]; exact hs.below hb1)
  obtain ⟨N, hN⟩ : ∃ N, N = l.length := ⟨_, rfl⟩
  have HN := hide hN
  have hf2 := hf
  obtain ⟨h1, h2, h3, h4, h5, h6⟩ := hf2
  have hWd := fun (k : Nat) (hk : k ≤ 6) (d : Nat) (hd : d + 4 ≤ 32) (v : Int) (hv : 0 ≤ v ∧ v ≤ 65535) (a : Option Addr) (cap : Nat) (u : World) (h : Sl u a cap (rwP r l q k)) => hide (word_any a cap (rwP r l q k) (q + d) v u (by rw [rwP_len _ _ _ _ hk]; exact hlen) (by rw [rwP_len _ _ _ _ hk]; omega) h hv.1 (by omega))
  have hP2 := fun (k : Nat) (hk : k ≤ 6) (d : Nat) (hd : d + 2 ≤ 32) (v : Int) (a : Option Addr) (cap : Nat) (a' : Option Addr) (cap' : Nat) (u : World) (h : Sl u a cap (rwP r l q k)) (h' : Sl u a' cap' (bytesOf v 2)) => hide (rput2_any a cap (rwP r l q k) a' cap' (q + d) v u (by rw [rwP_len _ _ _ _ hk]; exact hlen) (by rw [rwP_len _ _ _ _ hk]; omega) h h')
  have hB2 := fun (v : Int) (hv : 0 ≤ v ∧ v ≤ 65535) (u : World) => hide (Bytes_any v 2 u (by omega) hv.1 (by omega))
  have HWd := hide hWd
  have HP2 := hide hP2
  have HB2 := hide hB2
  have HF := hide hf
  have hq2 : (q : Int) ≤ 1000000 := by omega
  rw [← hN]
  clear hWd hP2 hB2 hN hs hb1 hk1 hw1 hlen hf hq
  obtain ⟨c0, c1, c2, c3, c4, c5⟩ : w1.cell? ⟨w.heap.size, 0, none⟩ = some (.int .i64 r.blo) ∧ w1.cell? ⟨w.heap.size, 1, none⟩ = some (.int .i64 r.ino) ∧ w1.cell? ⟨w.heap.size, 2, none⟩ = some (.int .i64 r.tab) ∧ w1.cell? ⟨w.heap.size, 3, none⟩ = some (.int .i64 r.fb) ∧ w1.cell? ⟨w.heap.size, 4, none⟩ = some (.int .i64 r.fi) ∧ w1.cell? ⟨w.heap.size, 5, none⟩ = some (.int .i64 r.fo) := ⟨HK0.out.cell 0 _ rfl, HK0.out.cell 1 _ rfl, HK0.out.cell 2 _ rfl, HK0.out.cell 3 _ rfl, HK0.out.cell 4 _ rfl, HK0.out.cell 5 _ rfl⟩
  rw [HW1.out] at c0
  go_enter Tryd.func21, Tryd.ntmps21
  go_wp2_with fail
  rw [← HW1.out]
  clear c1 c2 c3 c4 c5
  have HC0 := HWd.out 0 (by omega) 0 (by omega) r.blo HF.out.1 a cap w1 HS0.out
  rw [show (((q + 0 : Nat)) : Int) = (q : Int) + 0 by omega, rwP_len _ _ _ _ (by omega), ← HN.out] at HC0
  try rw [Int.add_zero] at HC0
  refine HC0.out.mono ?_
  rintro e9 y1 ⟨r1, rfl, ho, h⟩
  obtain ⟨a1, k1, rfl, hs, _⟩ := ho.sl
  rw [putN_length, rwP_len _ _ _ _ (by omega), ← HN.out]
  have HS1 := hide (show Sl y1 a1 k1 (rwP r l q 1) by rw [rwP]; exact hs)
  have HK1 := hide (HK0.out.below h)
  have HB1x := hide (HB0.out.trans (h.mono HB0.out.size))
  clear ho hs h HC0 HS0 HK0 c0
  have c1 : y1.cell? ⟨w.heap.size, 1, none⟩ = some (.int .i64 r.ino) := HK1.out.cell 1 _ rfl
  go_wp2_with fail
  have HC1 := HWd.out 1 (by omega) 4 (by omega) r.ino HF.out.2.1 a1 k1 y1 HS1.out
  rw [show (((q + 4 : Nat)) : Int) = (q : Int) + 4 by omega, rwP_len _ _ _ _ (by omega), ← HN.out] at HC1
  try rw [Int.add_zero] at HC1
  refine HC1.out.mono ?_
  rintro e9 y2 ⟨r2, rfl, ho, h⟩
  obtain ⟨a2, k2, rfl, hs, _⟩ := ho.sl
  rw [putN_length, rwP_len _ _ _ _ (by omega), ← HN.out]
  have HS2 := hide (show Sl y2 a2 k2 (rwP r l q 2) by rw [rwP]; exact hs)
  have HK2 := hide (HK1.out.below h)
  have HB2x := hide (HB1x.out.trans (h.mono HB1x.out.size))
  clear ho hs h HC1 HS1 HK1 c1
  have c2 : y2.cell? ⟨w.heap.size, 2, none⟩ = some (.int .i64 r.tab) := HK2.out.cell 2 _ rfl
  go_wp2_with fail
  have HC2 := HWd.out 2 (by omega) 8 (by omega) r.tab HF.out.2.2.1 a2 k2 y2 HS2.out
  rw [show (((q + 8 : Nat)) : Int) = (q : Int) + 8 by omega, rwP_len _ _ _ _ (by omega), ← HN.out] at HC2
  try rw [Int.add_zero] at HC2
  refine HC2.out.mono ?_
  rintro e9 y3 ⟨r3, rfl, ho, h⟩
  obtain ⟨a3, k3, rfl, hs, _⟩ := ho.sl
  rw [putN_length, rwP_len _ _ _ _ (by omega), ← HN.out]
  have HS3 := hide (show Sl y3 a3 k3 (rwP r l q 3) by rw [rwP]; exact hs)
  have HK3 := hide (HK2.out.below h)
  have HB3x := hide (HB2x.out.trans (h.mono HB2x.out.size))
  clear ho hs h HC2 HS2 HK2 c2
  have c3 : y3.cell? ⟨w.heap.size, 3, none⟩ = some (.int .i64 r.fb) := HK3.out.cell 3 _ rfl
  go_wp2_with fail
  refine (HB2.out r.fb HF.out.2.2.2.1 y3).out.mono ?_
  rintro e9 z3 ⟨b3, rfl, ho, h⟩
  obtain ⟨ab3, kb3, rfl, hsb, _⟩ := ho.sl
  rw [bytesOf_length]
  have HC3 := HP2.out 3 (by omega) 12 (by omega) r.fb a3 k3 ab3 kb3 z3 (HS3.out.below h) hsb
  rw [show (((q + 12 : Nat)) : Int) = (q : Int) + 12 by omega, rwP_len _ _ _ _ (by omega), ← HN.out] at HC3
  have HKz := hide (HK3.out.below h)
  have HBz := hide (HB3x.out.trans (h.mono HB3x.out.size))
  clear ho hsb h HS3 HK3 c3
  go_wp2_with fail
  refine HC3.out.mono ?_
  rintro e9 y4 ⟨r4, rfl, ho, h⟩
  obtain ⟨a4, k4, rfl, hs, _⟩ := ho.sl
  rw [putN_length, rwP_len _ _ _ _ (by omega), ← HN.out]
  have HS4 := hide (show Sl y4 a4 k4 (rwP r l q 4) by rw [rwP]; exact hs)
  have HK4 := hide (HKz.out.below h)
  have HB4x := hide (HBz.out.trans (h.mono HBz.out.size))
  clear ho hs h HC3 HKz HBz
  have c4 : y4.cell? ⟨w.heap.size, 4, none⟩ = some (.int .i64 r.fi) := HK4.out.cell 4 _ rfl
  go_wp2_with fail
  refine (HB2.out r.fi HF.out.2.2.2.2.1 y4).out.mono ?_
  rintro e9 z4 ⟨b4, rfl, ho, h⟩
  obtain ⟨ab4, kb4, rfl, hsb, _⟩ := ho.sl
  rw [bytesOf_length]
  have HC4 := HP2.out 4 (by omega) 14 (by omega) r.fi a4 k4 ab4 kb4 z4 (HS4.out.below h) hsb
  rw [show (((q + 14 : Nat)) : Int) = (q : Int) + 14 by omega, rwP_len _ _ _ _ (by omega), ← HN.out] at HC4
  have HKz := hide (HK4.out.below h)
  have HBz := hide (HB4x.out.trans (h.mono HB4x.out.size))
  clear ho hsb h HS4 HK4 c4
  go_wp2_with fail
  refine HC4.out.mono ?_
  rintro e9 y5 ⟨r5, rfl, ho, h⟩
  obtain ⟨a5, k5, rfl, hs, _⟩ := ho.sl
  rw [putN_length, rwP_len _ _ _ _ (by omega), ← HN.out]
  have HS5 := hide (show Sl y5 a5 k5 (rwP r l q 5) by rw [rwP]; exact hs)
  have HK5 := hide (HKz.out.below h)
  have HB5x := hide (HBz.out.trans (h.mono HBz.out.size))
  clear ho hs h HC4 HKz HBz
  have c5 : y5.cell? ⟨w.heap.size, 5, none⟩ = some (.int .i64 r.fo) := HK5.out.cell 5 _ rfl
  go_wp2_with fail
  refine (HB2.out r.fo HF.out.2.2.2.2.2 y5).out.mono ?_
  rintro e9 z5 ⟨b5, rfl, ho, h⟩
  obtain ⟨ab5, kb5, rfl, hsb, _⟩ := ho.sl
  rw [bytesOf_length]
  have HC5 := HP2.out 5 (by omega) 16 (by omega) r.fo a5 k5 ab5 kb5 z5 (HS5.out.below h) hsb
  rw [show (((q + 16 : Nat)) : Int) = (q : Int) + 16 by omega, rwP_len _ _ _ _ (by omega), ← HN.out] at HC5
  have HKz := hide (HK5.out.below h)
  have HBz := hide (HB5x.out.trans (h.mono HB5x.out.size))
  clear ho hsb h HS5 HK5 c5
  go_wp2_with fail
  refine HC5.out.mono ?_
  rintro e9 y6 ⟨r6, rfl, ho, h⟩
  have HO := hide (show Own y6 w.heap.size r6 (rwB r l q) by unfold rwB; rw [rwP]; exact Own.mono ho HBz.out.size)
  have HBf := hide (HBz.out.trans (h.mono HBz.out.size))
  clear ho h HC5
  go_wp2_with fail
  go_ret
  exact ⟨_, rfl, HO.out, HBf.out⟩
end Go.Proofs.YtjmajjfknmjifaaDoor.Oct
