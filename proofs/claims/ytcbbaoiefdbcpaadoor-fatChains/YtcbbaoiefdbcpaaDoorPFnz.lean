/- The document's Made, where all goes well. -/
import Derived.Test.YtcbbaoiefdbcpaaDoorPFny
import Derived.Test.YtcbbaoiefdbcpaaDoorPFrq
import Derived.Test.YtcbbaoiefdbcpaaDoorPFrg
import Derived.Test.YtcbbaoiefdbcpaaDoorPTak
import Derived.Test.YtcbbaoiefdbcpaaDoorPAppChg
namespace Go.Proofs.YtcbbaoiefdbcpaaDoor.Oct
open Go.RowKit

set_option maxHeartbeats 8000000 in
set_option maxRecDepth 100000 in
theorem make_no (s e : Nat) (h1 : 16 ≤ s) (h2 : s ≤ 2000) (e1 : 1 ≤ e) (e2 : e ≤ 8) (S E Q L ck : Int) (hS : S = (s : Int)) (hE : E = (e : Int)) (hQ : Q = ((s / e : Nat) : Int)) (hL : L = (lgM s e : Int)) (hck : ck = (Bt.mk E 4 2 S L 2 1 2).chk) (hk : ck ≠ 0) (w : World) :
    Calls Tryd.prog 18 #[.int .i64 S, .int .i64 E] w fun e' w' => e' = .returned (.tuple #[.slice none 0 0, .int .i64 ck]) ∧ Below w.heap.size w w' := by
  have HWi := fun x y n u => hide (within_any x y n u)
  obtain ⟨q1, q2, q3, q4, q5⟩ := lg_steps (s := s) (e := e) h2
  rw [← hS, ← hE, ← hQ] at q1
  rw [← hQ] at q2 q3 q4 q5
  rw [← hL] at q5
  have hw0 : witN 16 32768 S = true := by simp [witN]; omega
  have hw1 : witN 1 8 E = true := by simp [witN]; omega
  have hE0 : ¬ E = 0 := by omega
  have hEb : (E == 0) = false := by simpa using hE0
  have hkn : (ck != 0) = true := by simpa using hk
  have HPn := fun a c u => hide (put_no (Bt.mk E 4 2 S L 2 1 2) a c u (by rw [← hck]; exact hk))
  rw [← hck] at HPn
  obtain ⟨w1, hw1'⟩ : ∃ w1, w1 = (w.alloc (.cells #[.int .i64 E, .int .i64 4, .int .i64 2, .int .i64 S, .int .i64 L, .int .i64 2, .int .i64 1, .int .i64 2] 63)) := ⟨_, rfl⟩
  have hb1 : Below w.heap.size w w1 := by rw [hw1']; exact (Below.refl _ _).alloc (Nat.le_refl _) _
  have HI1 := hide (show Blk w1 w.heap.size #[.int .i64 E, .int .i64 4, .int .i64 2, .int .i64 S, .int .i64 L, .int .i64 2, .int .i64 1, .int .i64 2] 63 by rw [hw1']; exact Blk.new _ _ _)
  have hmk := run_make_bytes w1 512 (by omega)
  obtain ⟨w2, hw2⟩ : ∃ w2, w2 = w1.alloc (.cells (madeCells #[.int .u8 0] 512) 5) := ⟨_, rfl⟩
  rw [← hw2] at hmk
  have hb2 : Below w1.heap.size w1 w2 := by rw [hw2]; exact (Below.refl _ _).alloc (Nat.le_refl _) _
  have hmk2 : (Instr.makeSlice 26 (.int .i64 512) (.int .i64 512)).run Tryd.prog w1 = .ok (.slice (some ⟨w1.heap.size, 0, none⟩) 512 512) w2 := hmk
  have hmkw : (Instr.makeSlice 26 (.int .i64 512) (.int .i64 512)).run Tryd.prog (w.alloc (.cells #[.int .i64 E, .int .i64 4, .int .i64 2, .int .i64 S, .int .i64 L, .int .i64 2, .int .i64 1, .int .i64 2] 63)) = .ok (.slice (some ⟨w1.heap.size, 0, none⟩) 512 512) w2 := by rw [← hw1']; exact hmk2
  have HI2 := hide (HI1.out.below hb2)
  have HB2 := hide (hb1.trans (hb2.mono hb1.size))
  clear hmk hb2 hw2 hw1' hb1 hmk2 hk hck hS hE hQ hL h1 h2 e1 e2
  go_enter Tryd.func18, Tryd.ntmps18
  go_wp2_with fail
  refine (HWi _ _ _ _).out.mono ?_
  rintro e9 w3 ⟨rfl, h3⟩
  rw [h3, hw0]
  clear h3
  go_wp2_with fail
  refine (HWi _ _ _ _).out.mono ?_
  rintro e9 w3 ⟨rfl, h3⟩
  rw [h3, hw1]
  clear h3 hw0 hw1
  have d0 := HI2.out.cell 0 _ rfl
  have d1 := HI2.out.cell 1 _ rfl
  have d2 := HI2.out.cell 2 _ rfl
  have d3 := HI2.out.cell 3 _ rfl
  have d4 := HI2.out.cell 4 _ rfl
  have d5 := HI2.out.cell 5 _ rfl
  have d6 := HI2.out.cell 6 _ rfl
  have d7 := HI2.out.cell 7 _ rfl
  go_wp2_with fail
  clear d0 d1 d2 d3 d4 d5 d6 d7 hmkw
  refine (HPn _ _ _).out.mono ?_
  rintro e9 w4 ⟨rfl, hb4⟩
  have HB4 := hide (HB2.out.trans (hb4.mono HB2.out.size))
  clear hb4
  go_wp2_with fail
  go_ret2
  exact ⟨rfl, HB4.out⟩

/-- A size that is none: the document's Made. -/
theorem rmade_off (S E : Int) (w : World) (h : witN 16 32768 S = false ∨ witN 1 8 E = false) :
    Calls Tryd.prog 14 #[.int .i64 S, .int .i64 E] w fun e w' => e = .returned (.tuple #[.slice none 0 0, .int .i64 4]) ∧ w' = w := by
  have hc : decide (S < 16) = true ∨ (decide (S < 16) = false ∧ decide (32768 < S) = true) ∨ (decide (S < 16) = false ∧ decide (32768 < S) = false ∧ decide (E < 1) = true) ∨ (decide (S < 16) = false ∧ decide (32768 < S) = false ∧ decide (E < 1) = false ∧ decide (8 < E) = true) := by
    simp [witN] at h ⊢
    omega
  clear h
  rcases hc with c1 | ⟨c1, c2⟩ | ⟨c1, c2, c3⟩ | ⟨c1, c2, c3, c4⟩
  all_goals
    go_enter Tryd.func14, Tryd.ntmps14
    go_wp2_with fail
    go_ret2
    exact ⟨rfl, rfl⟩

theorem With_bigS (a : Option Addr) (cap : Nat) (l : List Int) (a' : Option Addr) (cap' : Nat) (m : List Int) (p : Nat) (w : World) (hlen : l.length ≤ 2000000) (hlen' : m.length ≤ 2000000) (hpos : 0 < l.length) (hfit : p + m.length ≤ l.length) (hs : Sl w a cap l) (hl' : Lies w a' m) :
    Calls Tryd.prog 16 #[.slice a l.length cap, .int .i64 p, .slice a' m.length cap'] w fun e w' => ∃ v, e = .returned v ∧ Own w' w.heap.size v (over l p m) ∧ Below w.heap.size w w' := by
  rcases hs.lies with h | ⟨b, off, rfl, _, hc⟩
  · rw [h] at hpos; simp at hpos
  · exact With_big b off cap l a' cap' m p w hlen hlen' hpos hfit hs.le hs.lies hl'

/-- The document's arithmetic of a table's length. -/
theorem lg_ref {s e : Nat} (h2 : s ≤ 2000) (Q : Int) (hQ : Q = ((s / e : Nat) : Int)) : IntKind.i64.wrap ((Q + 2).tdiv 128) = (Q + 2) / 128 ∧ IntKind.i64.wrap ((Q + 2).tmod 128) = (Q + 2) % 128 ∧ IntKind.i64.wrap ((Q + 2) / 128 + 1) = (Q + 2) / 128 + 1 ∧ (lgM s e : Int) = (if 0 < (Q + 2) % 128 then (Q + 2) / 128 + 1 else (Q + 2) / 128) := by
  have hq : s / e ≤ s := Nat.div_le_self _ _
  unfold lgM
  generalize s / e = q at *
  subst hQ
  refine ⟨?_, ?_, ?_, ?_⟩
  · rw [Int.tdiv_eq_ediv_of_nonneg (by omega), IntKind.wrap_i64]; omega
  · rw [Int.tmod_eq_emod_of_nonneg (by omega), IntKind.wrap_i64]; omega
  · rw [IntKind.wrap_i64]; omega
  · split <;> omega
end Go.Proofs.YtcbbaoiefdbcpaaDoor.Oct

namespace Go.Proofs.YtcbbaoiefdbcpaaDoor.Oct
open Go.RowKit

set_option maxHeartbeats 8000000 in
set_option maxRecDepth 100000 in
theorem rmade_no (s e : Nat) (h1 : 16 ≤ s) (h2 : s ≤ 2000) (e1 : 1 ≤ e) (e2 : e ≤ 8) (S E Q L ck : Int) (hS : S = (s : Int)) (hE : E = (e : Int)) (hQ : Q = ((s / e : Nat) : Int)) (hL : L = (lgM s e : Int)) (hck : ck = (Bt.mk E 4 2 S L 2 1 2).chk) (hk : ck ≠ 0) (w : World) :
    Calls Tryd.prog 14 #[.int .i64 S, .int .i64 E] w fun e' w' => e' = .returned (.tuple #[.slice none 0 0, .int .i64 ck]) ∧ Below w.heap.size w w' := by
  have hQ0 : 0 ≤ Q := by rw [hQ]; exact Int.natCast_nonneg _
  obtain ⟨q1, q2, q3, q4, q5⟩ := lg_steps (s := s) (e := e) h2
  obtain ⟨r1, r2, r3, r4⟩ := lg_ref (s := s) (e := e) h2 Q hQ
  rw [← hS, ← hE, ← hQ] at q1
  rw [← hQ] at q2
  rw [← hL] at r4
  have c1 : decide (S < 16) = false := by simp; omega
  have c2 : decide (32768 < S) = false := by simp; omega
  have c3 : decide (E < 1) = false := by simp; omega
  have c4 : decide (8 < E) = false := by simp; omega
  have hE0 : ¬ E = 0 := by omega
  have hEb : (E == 0) = false := by simpa using hE0
  obtain ⟨D, hD⟩ : ∃ D, D = (Q + 2) / 128 := ⟨_, rfl⟩
  obtain ⟨M, hM⟩ : ∃ M, M = (Q + 2) % 128 := ⟨_, rfl⟩
  rw [← hD] at r1 r3
  rw [← hM] at r2
  rw [← hD, ← hM] at r4
  have HCk := fun u => hide (rchk_any (Bt.mk E 4 2 S L 2 1 2) u)
  have HI1 := hide (Blk.new w #[.int .i64 E, .int .i64 4, .int .i64 2, .int .i64 S, .int .i64 L, .int .i64 2, .int .i64 1, .int .i64 2] 36)
  have HB1 := hide ((Below.refl w.heap.size w).alloc (Nat.le_refl _) (.cells #[.int .i64 E, .int .i64 4, .int .i64 2, .int .i64 S, .int .i64 L, .int .i64 2, .int .i64 1, .int .i64 2] 36))
  rw [← hck] at HCk
  have hkn : (ck != 0) = true := by simpa using hk
  by_cases hm : 0 < M
  · have hmd : decide (0 < (Q + 2).tmod 128) = true := by rw [Int.tmod_eq_emod_of_nonneg (by omega), ← hM]; simpa using hm
    rw [if_pos hm] at r4
    subst r4
    clear hQ0 hm hD hM hk hck hS hE hQ hL h1 h2 e1 e2 q3 q4 q5 r2
    go_enter Tryd.func14, Tryd.ntmps14
    go_wp2_with fail
    refine (HCk _).out.mono ?_
    rintro e9 w4 ⟨rfl, hb4⟩
    have HB4 := hide (HB1.out.trans (hb4.mono HB1.out.size))
    clear hb4
    go_wp2_with fail
    go_ret2
    exact ⟨rfl, HB4.out⟩
  · have hmd : decide (0 < (Q + 2).tmod 128) = false := by rw [Int.tmod_eq_emod_of_nonneg (by omega), ← hM]; simpa using hm
    rw [if_neg hm] at r4
    subst r4
    clear hQ0 hm hD hM hk hck hS hE hQ hL h1 h2 e1 e2 q3 q4 q5 r3 r2
    go_enter Tryd.func14, Tryd.ntmps14
    go_wp2_with fail
    refine (HCk _).out.mono ?_
    rintro e9 w4 ⟨rfl, hb4⟩
    have HB4 := hide (HB1.out.trans (hb4.mono HB1.out.size))
    clear hb4
    go_wp2_with fail
    go_ret2
    exact ⟨rfl, HB4.out⟩
end Go.Proofs.YtcbbaoiefdbcpaaDoor.Oct

namespace Go.Proofs.YtcbbaoiefdbcpaaDoor.Oct
open Go.RowKit

set_option maxHeartbeats 16000000 in
set_option maxRecDepth 100000 in
theorem rmade_ok (s e : Nat) (h1 : 16 ≤ s) (h2 : s ≤ 2000) (e1 : 1 ≤ e) (e2 : e ≤ 8) (S E Q L K : Int) (N P : Nat) (hS : S = (s : Int)) (hE : E = (e : Int)) (hQ : Q = ((s / e : Nat) : Int)) (hL : L = (lgM s e : Int)) (hN : N = 512 * s) (hP : P = 2048 + 512 * lgM s e) (hbm : bM s e = (Bt.mk E 4 2 S L 2 1 2)) (hk : (Bt.mk E 4 2 S L 2 1 2).chk = 0) (hK : K = (Bt.mk E 4 2 S L 2 1 2).clus) (w : World) :
    Calls Tryd.prog 14 #[.int .i64 S, .int .i64 E] w fun e' w' => (∃ a c, e' = .returned (.tuple #[.slice a N c, .int .i64 0]) ∧ Sl w' a c (m5 s e)) ∧ Below w.heap.size w w' := by
  have hQ0 : 0 ≤ Q := by rw [hQ]; exact Int.natCast_nonneg _
  obtain ⟨q1, q2, q3, q4, q5⟩ := lg_steps (s := s) (e := e) h2
  obtain ⟨r1, r2, r3, r4⟩ := lg_ref (s := s) (e := e) h2 Q hQ
  rw [← hS, ← hE, ← hQ] at q1
  rw [← hQ] at q2
  rw [← hL] at r4
  have c1 : decide (S < 16) = false := by simp; omega
  have c2 : decide (32768 < S) = false := by simp; omega
  have c3 : decide (E < 1) = false := by simp; omega
  have c4 : decide (8 < E) = false := by simp; omega
  have hE0 : ¬ E = 0 := by omega
  have hEb : (E == 0) = false := by simpa using hE0
  obtain ⟨D, hD⟩ : ∃ D, D = (Q + 2) / 128 := ⟨_, rfl⟩
  obtain ⟨M, hM⟩ : ∃ M, M = (Q + 2) % 128 := ⟨_, rfl⟩
  rw [← hD] at r1 r3
  rw [← hM] at r2
  rw [← hD, ← hM] at r4
  have HCk := fun u => hide (rchk_any (Bt.mk E 4 2 S L 2 1 2) u)
  have HI1 := hide (Blk.new w #[.int .i64 E, .int .i64 4, .int .i64 2, .int .i64 S, .int .i64 L, .int .i64 2, .int .i64 1, .int .i64 2] 36)
  have HB1 := hide ((Below.refl w.heap.size w).alloc (Nat.le_refl _) (.cells #[.int .i64 E, .int .i64 4, .int .i64 2, .int .i64 S, .int .i64 L, .int .i64 2, .int .i64 1, .int .i64 2] 36))
  rw [hk] at HCk
  have hlg := lg_says h1 h2 e1 e2
  have hcs := chk_says hk
  have hcl := (Bt.clus_says hcs.1)
  have hfs := Bt.form_says hcs.1
  have hcl1 := hcs.2.1
  rw [← hK] at hcl hcl1
  have k1 : IntKind.i64.wrap (K - 1) = K - 1 := by rw [IntKind.wrap_i64]; omega
  have n1 : IntKind.i64.wrap (512 * S) = (N : Int) := by rw [IntKind.wrap_i64]; omega
  have n2 : IntKind.i64.wrap (512 * L) = 512 * L := by rw [IntKind.wrap_i64]; omega
  have n3 : IntKind.i64.wrap (2048 + 512 * L) = (P : Int) := by rw [IntKind.wrap_i64]; omega
  have HN2 := hide (show N ≤ 2000000 ∧ 8192 ≤ N by omega)
  have HNum := hide (show N = 512 * s ∧ P = 2048 + 512 * lgM s e ∧ 4 + 2 * lgM s e < s from ⟨hN, hP, hlg.2.1⟩)
  have HNs := hide hN
  have HPq := hide hP
  obtain ⟨Z, hZ⟩ : ∃ Z, Z = List.replicate 512 (0 : Int) := ⟨_, rfl⟩
  have hZl : Z.length = 512 := by rw [hZ]; exact List.length_replicate
  have HZl := hide hZl
  have HZz : ∀ u, Hid (Calls Tryd.prog 36 #[.int .i64 512] u fun e w' => ∃ v, e = .returned v ∧ Own w' u.heap.size v Z ∧ Below u.heap.size u w') := fun u => hide (by rw [hZ]; exact Zeros_any 512 u (by omega))
  have HPut := fun a c u h => hide (rput_any (Bt.mk E 4 2 S L 2 1 2) a c Z u hZl h hcs.1 (by show (0 : Int) ≤ 2 ∧ (2 : Int) ≤ 1000000; omega))
  have HFm : Hid (fM s e = ps14 (Bt.mk E 4 2 S L 2 1 2) Z) := hide (by unfold fM; rw [hbm, hZ, ps_put _ _ List.length_replicate ⟨hfs.1, hfs.2.1, by show (1 : Int) ≤ 2; omega, by show (2 : Int) ≤ 2; omega⟩])
  have HCm : Hid (cM s e = cntP (K - 1) 3) := hide (by unfold cM; rw [hbm, hK])
  have HCl : ∀ u, Hid (Calls Tryd.prog 29 #[.agg (Bt.mk E 4 2 S L 2 1 2).cs] u fun e w' => e = .returned (.int .i64 K) ∧ Below u.heap.size u w') := fun u => hide (by rw [hK]; exact rclus_any (Bt.mk E 4 2 S L 2 1 2) u (Bt.form_near hcs.1).1)
  have HCs := fun u => hide (csec_any (K - 1) 3 u (by omega))
  have HL0 := hide (show (m0 s e).length = N by rw [m0_len]; omega)
  have HL1 := hide (show (m1 s e).length = N by rw [m1_len h1]; omega)
  have HL2 := hide (show (m2 s e).length = N by rw [m2_len h1]; omega)
  have HL3 := hide (show (m3 s e).length = N by rw [m3_len h1]; omega)
  have HL4 := hide (show (m4 s e).length = N by rw [m4_len h1]; omega)
  have HLn1 := hide (show (over (m0 s e) 0 (fM s e)).length = N from HL1.out)
  have HLn2 := hide (show (over (m1 s e) 512 (cM s e)).length = N from HL2.out)
  have HLn3 := hide (show (over (m2 s e) 1024 (fM s e)).length = N from HL3.out)
  have HLn4 := hide (show (over (m3 s e) 2048 t12).length = N from HL4.out)
  have HLn5 := hide (show (over (m4 s e) P t12).length = N by have h := m5_len h1 h2 e1 e2; unfold m5 at h; rw [← hP] at h; rw [h]; omega)
  obtain ⟨T1, hT1⟩ : ∃ T1, T1 = bytesOf 268435448 4 := ⟨_, rfl⟩
  obtain ⟨T2, hT2⟩ : ∃ T2, T2 = bytesOf 268435455 4 := ⟨_, rfl⟩
  have HT1 := hide (show T1.length = 4 by rw [hT1, bytesOf_length])
  have HT2 := hide (show T2.length = 4 by rw [hT2, bytesOf_length])
  have HT12 := hide (show t12 = T1 ++ T2 ++ T2 by unfold t12; rw [hT1, hT2])
  have HBy1 : ∀ u, Hid (Calls Tryd.prog 17 #[.int .u64 268435448, .int .i64 4] u fun e w' => ∃ r, e = .returned r ∧ Own w' u.heap.size r T1 ∧ Below u.heap.size u w') := fun u => hide (by rw [hT1]; exact Bytes_any 268435448 4 u (by omega) (by omega) (by omega))
  have HBy2 : ∀ u, Hid (Calls Tryd.prog 17 #[.int .u64 268435455, .int .i64 4] u fun e w' => ∃ r, e = .returned r ∧ Own w' u.heap.size r T2 ∧ Below u.heap.size u w') := fun u => hide (by rw [hT2]; exact Bytes_any 268435455 4 u (by omega) (by omega) (by omega))
  clear hT1 hT2
  clear hcs hcl hcl1 hfs hlg hZ hZl hbm hk hK hN hP
  by_cases hm : 0 < M
  · have hmd : decide (0 < (Q + 2).tmod 128) = true := by rw [Int.tmod_eq_emod_of_nonneg (by omega), ← hM]; simpa using hm
    rw [if_pos hm] at r4
    subst r4
    clear hQ0 hm hD hM hS hE hQ hL h1 h2 e1 e2 q3 q4 q5 r2
    go_enter Tryd.func14, Tryd.ntmps14
    go_wp2_with fail
    refine (HCk _).out.mono ?_
    rintro e9 x ⟨rfl, hb⟩
    have HI := hide (HI1.out.below hb)
    have HB := hide (HB1.out.trans (hb.mono HB1.out.size))
    clear hb
    have HZ := hide (Zeros_big N x HN2.out.1)
    go_wp2_with fail
    refine HZ.out.mono ?_
    rintro e9 x0 ⟨v0, rfl, ho0, hb⟩
    have HI := hide (HI.out.below hb)
    have HB := hide (HB.out.trans (hb.mono HB.out.size))
    obtain ⟨a0, c0, hv0, hs0, _⟩ := ho0.sl
    rw [List.length_replicate] at hv0
    subst hv0
    have HS0 := hide (show Sl x0 a0 c0 (m0 s e) by unfold m0; rw [← HNs.out]; exact hs0)
    clear hb ho0 hs0 HZ
    go_wp2_with fail
    have HI := hide HI.out.drew
    have HB := hide HB.out.drew
    have HS0 := hide (show Sl x0.drew a0 c0 (m0 s e) from ⟨HS0.out.le, HS0.out.max, HS0.out.none, HS0.out.lies.drew⟩)
    refine wp_region_held_drew (S := (fun u => u.cell? ⟨w.heap.size, 0, none⟩ = some (.int .i64 E) ∧ u.cell? ⟨w.heap.size, 1, none⟩ = some (.int .i64 4) ∧ u.cell? ⟨w.heap.size, 2, none⟩ = some (.int .i64 2) ∧ u.cell? ⟨w.heap.size, 3, none⟩ = some (.int .i64 S) ∧ u.cell? ⟨w.heap.size, 4, none⟩ = some (.int .i64 (D + 1)) ∧ u.cell? ⟨w.heap.size, 5, none⟩ = some (.int .i64 2) ∧ u.cell? ⟨w.heap.size, 6, none⟩ = some (.int .i64 1) ∧ u.cell? ⟨w.heap.size, 7, none⟩ = some (.int .i64 2))) (by kernel_rfl) (cells_of (b := Bt.mk E 4 2 S (D + 1) 2 1 2) HI.out) (fun _ => ?_)
    refine any_take 0 (some 50) (.agg #[.int .i64 E, .int .i64 4, .int .i64 2, .int .i64 S, .int .i64 (D + 1), .int .i64 2, .int .i64 1, .int .i64 2]) rfl rfl (by kernel_rfl) (by kernel_rfl) (by kernel_rfl) (fun _ _ _ h => h) (by rfl) (cells_of (b := Bt.mk E 4 2 S (D + 1) 2 1 2) HI.out) ?_ ?_
    · intro w hSw
      obtain ⟨s0, s1, s2, s3, s4, s5, s6, s7⟩ := hSw
      go_simp
    simp only [Act.put, List.setIfInBounds_toArray, List.set_cons_zero, List.set_cons_succ]
    refine wpAnyH_ready (rs := [1]) (by kernel_rfl) (by simp) ?_
    refine AllReadyH.cons (i := 1) rfl (fun K hK => ?_) AllReadyH.nil
    go_simp
    refine (HZz x0.drew).out.mono ?_
    rintro e9 x1 ⟨v1, rfl, ho1, hb⟩
    obtain ⟨az, cz, hv1, hs1, _⟩ := ho1.sl
    rw [HZl.out] at hv1
    subst hv1
    have HI := hide (HI.out.below hb)
    have HB := hide (HB.out.trans (hb.mono HB.out.size))
    have HS0 := hide (HS0.out.below hb)
    have HSz := hide hs1
    clear hb ho1 hs1
    go_simp
    refine hK.out _ _ (cells_of (b := Bt.mk E 4 2 S (D + 1) 2 1 2) HI.out) (fun _ => ?_)
    clear hK K
    try simp only [Act.put, List.setIfInBounds_toArray, List.set_cons_zero, List.set_cons_succ]
    refine wpAnyH_ready (rs := [2]) (by kernel_rfl) (by simp) ?_
    refine AllReadyH.cons (i := 2) rfl (fun K hK => ?_) AllReadyH.nil
    go_simp
    refine (HPut _ _ _ HSz.out).out.mono ?_
    rintro e9 x2 ⟨⟨ap, cp, rfl, hl2⟩, hb⟩
    have HI := hide (HI.out.below hb)
    have HB := hide (HB.out.trans (hb.mono HB.out.size))
    have HS0 := hide (HS0.out.below hb)
    have HFs := hide (show Lies x2 ap (fM s e) by rw [HFm.out]; exact hl2)
    clear hb hl2
    go_simp
    refine hK.out _ _ (cells_of (b := Bt.mk E 4 2 S (D + 1) 2 1 2) HI.out) (fun _ => ?_)
    clear hK K
    try simp only [Act.put, List.setIfInBounds_toArray, List.set_cons_zero, List.set_cons_succ]
    refine any_take 3 (some 11) (.slice ap 512 cp) rfl rfl (by kernel_rfl) (by kernel_rfl) (by kernel_rfl) (fun _ _ _ h => h) (by rfl) (cells_of (b := Bt.mk E 4 2 S (D + 1) 2 1 2) HI.out) ?_ ?_
    · intro w hSw
      obtain ⟨s0, s1, s2, s3, s4, s5, s6, s7⟩ := hSw
      go_simp
    simp only [Act.put, List.setIfInBounds_toArray, List.set_cons_zero, List.set_cons_succ]
    refine wpAnyH_done (by kernel_rfl) ?_ _
    go_wp2_with fail
    have HWt := hide (With_bigS a0 c0 (m0 s e) ap cp (fM s e) 0 x2 (by rw [HL0.out]; exact HN2.out.1) (by rw [fM_len s e]; omega) (by rw [HL0.out]; have := HN2.out.2; omega) (by rw [HL0.out, fM_len s e]; have := HN2.out.2; have := HNum.out; omega) HS0.out HFs.out)
    rw [HL0.out, fM_len s e] at HWt
    push_cast at HWt
    refine HWt.out.mono ?_
    rintro e9 y1 ⟨v1, rfl, ho1, hb⟩
    obtain ⟨a1, c1, hv1, hs1, _⟩ := ho1.sl
    rw [show (over (m0 s e) 0 (fM s e)).length = N from HLn1.out] at hv1
    subst hv1
    have HS1 := hide (show Sl y1 a1 c1 (m1 s e) from hs1)
    have HFs := hide (HFs.out.below hb)
    have HI := hide (HI.out.below hb)
    have HB := hide (HB.out.trans (hb.mono HB.out.size))
    clear hb ho1 hs1 HWt
    obtain ⟨k0, k1, k2, k3, k4, k5, k6, k7⟩ := cells_of (b := Bt.mk E 4 2 S (D + 1) 2 1 2) HI.out
    go_wp2_with fail
    clear k0 k1 k2 k3 k4 k5 k6 k7
    refine (HCl _).out.mono ?_
    rintro e9 z1 ⟨rfl, hb⟩
    have HFs := hide (HFs.out.below hb)
    have HS1 := hide (HS1.out.below hb)
    have HI := hide (HI.out.below hb)
    have HB := hide (HB.out.trans (hb.mono HB.out.size))
    clear hb
    go_wp2_with fail
    refine (HCs _).out.mono ?_
    rintro e9 z2 ⟨⟨ac, cc, rfl, hlc⟩, hb⟩
    have HCm9 := hide (show Lies z2 ac (cM s e) by rw [HCm.out]; exact hlc)
    have HFs := hide (HFs.out.below hb)
    have HS1 := hide (HS1.out.below hb)
    have HI := hide (HI.out.below hb)
    have HB := hide (HB.out.trans (hb.mono HB.out.size))
    clear hb hlc
    have HWt := hide (With_bigS a1 c1 (m1 s e) ac cc (cM s e) 512 z2 (by rw [HL1.out]; exact HN2.out.1) (by rw [cM_len s e]; omega) (by rw [HL1.out]; have := HN2.out.2; omega) (by rw [HL1.out, cM_len s e]; have := HN2.out.2; have := HNum.out; omega) HS1.out HCm9.out)
    rw [HL1.out, cM_len s e] at HWt
    push_cast at HWt
    go_wp2_with fail
    refine HWt.out.mono ?_
    rintro e9 y2 ⟨v2, rfl, ho2, hb⟩
    obtain ⟨a2, c2, hv2, hs2, _⟩ := ho2.sl
    rw [show (over (m1 s e) 512 (cM s e)).length = N from HLn2.out] at hv2
    subst hv2
    have HS2 := hide (show Sl y2 a2 c2 (m2 s e) from hs2)
    have HFs := hide (HFs.out.below hb)
    have HI := hide (HI.out.below hb)
    have HB := hide (HB.out.trans (hb.mono HB.out.size))
    clear hb ho2 hs2 HWt
    have HWt := hide (With_bigS a2 c2 (m2 s e) ap cp (fM s e) 1024 y2 (by rw [HL2.out]; exact HN2.out.1) (by rw [fM_len s e]; omega) (by rw [HL2.out]; have := HN2.out.2; omega) (by rw [HL2.out, fM_len s e]; have := HN2.out.2; have := HNum.out; omega) HS2.out HFs.out)
    rw [HL2.out, fM_len s e] at HWt
    push_cast at HWt
    go_wp2_with fail
    refine HWt.out.mono ?_
    rintro e9 y3 ⟨v3, rfl, ho3, hb⟩
    obtain ⟨a3, c3, hv3, hs3, _⟩ := ho3.sl
    rw [show (over (m2 s e) 1024 (fM s e)).length = N from HLn3.out] at hv3
    subst hv3
    have HS3 := hide (show Sl y3 a3 c3 (m3 s e) from hs3)
    have HI := hide (HI.out.below hb)
    have HB := hide (HB.out.trans (hb.mono HB.out.size))
    clear hb ho3 hs3 HWt
    go_wp2_with fail
    refine (HBy1 y3).out.mono ?_
    rintro e9 t0 ⟨r0, rfl, hr0, hb⟩
    have HR0 := hide hr0
    have HBt := hide hb
    clear hr0 hb
    go_wp2_with fail
    refine (HBy2 t0).out.mono ?_
    rintro e9 t1 ⟨r1, rfl, hr1, hb⟩
    obtain ⟨b1, d1, rfl, hs1, _⟩ := hr1.sl
    rw [HT2.out]
    have HR0 := hide (HR0.out.below hb)
    have HBt := hide (HBt.out.trans (hb.mono HBt.out.size))
    have HM1 := hide hs1.lies
    clear hr1 hb hs1
    go_wp2_with (at_builtin; refine wpList_append_bytes rfl _ _ 26 rfl Tryd.underlying26 info5 y3.heap.size _ T1 rfl HR0.out _ _ _ T2 rfl (by rw [HT2.out]) (by exact HM1.out) (by rw [HT1.out, HT2.out]; omega) (by exact HBt.out.size) ?_; intro v2 t2 ho2 hg2; have HBt := hide (Own.behind HR0.out HBt.out hg2 HBt.out.size); have HR2 := hide ho2; clear hg2 ho2)
    refine (HBy2 t2).out.mono ?_
    rintro e9 t3 ⟨r3, rfl, hr3, hb⟩
    obtain ⟨b3, d3, rfl, hs3, _⟩ := hr3.sl
    rw [HT2.out]
    have HR2 := hide (HR2.out.below hb)
    have HBt := hide (HBt.out.trans (hb.mono HBt.out.size))
    have HM3 := hide hs3.lies
    clear hr3 hb hs3
    go_wp2_with (at_builtin; refine wpList_append_bytes rfl _ _ 26 rfl Tryd.underlying26 info5 y3.heap.size _ (T1 ++ T2) rfl HR2.out _ _ _ T2 rfl (by rw [HT2.out]) (by exact HM3.out) (by rw [List.length_append, HT1.out, HT2.out]; omega) (by exact HBt.out.size) ?_; intro v4 t4 ho4 hg4; have HBt := hide (Own.behind HR2.out HBt.out hg4 HBt.out.size); have HR4 := hide ho4; clear hg4 ho4)
    obtain ⟨at4, ct4, hv4, hs4, _⟩ := (show Own t4 y3.heap.size v4 t12 by rw [HT12.out]; exact HR4.out).sl
    rw [t12_len] at hv4
    subst hv4
    have HT := hide hs4.lies
    have HS3 := hide (HS3.out.below HBt.out)
    have HB := hide (HB.out.trans (HBt.out.mono HB.out.size))
    clear hs4 HR4
    have HWt := hide (With_bigS a3 c3 (m3 s e) at4 ct4 t12 2048 t4 (by rw [HL3.out]; exact HN2.out.1) (by rw [t12_len]; omega) (by rw [HL3.out]; have := HN2.out.2; omega) (by rw [HL3.out, t12_len]; have := HN2.out.2; omega) HS3.out HT.out)
    rw [HL3.out, t12_len] at HWt
    push_cast at HWt
    refine HWt.out.mono ?_
    rintro e9 y4 ⟨v5, rfl, ho4, hb⟩
    obtain ⟨a4, c4, hv5, hs4, _⟩ := ho4.sl
    rw [show (over (m3 s e) 2048 t12).length = N from HLn4.out] at hv5
    subst hv5
    have HS4 := hide (show Sl y4 a4 c4 (m4 s e) from hs4)
    have HT := hide (HT.out.below hb)
    have HB := hide (HB.out.trans (hb.mono HB.out.size))
    clear hb ho4 hs4 HWt
    have HWt := hide (With_bigS a4 c4 (m4 s e) at4 ct4 t12 P y4 (by rw [HL4.out]; exact HN2.out.1) (by rw [t12_len]; omega) (by rw [HL4.out]; have := HN2.out.2; omega) (by rw [HL4.out, t12_len]; have := HN2.out.2; have := HNum.out; omega) HS4.out HT.out)
    rw [HL4.out, t12_len] at HWt
    go_wp2_with fail
    refine HWt.out.mono ?_
    rintro e9 y5 ⟨v6, rfl, ho5, hb⟩
    obtain ⟨a5, c5, hv6, hs5, _⟩ := ho5.sl
    rw [show (over (m4 s e) P t12).length = N from HLn5.out] at hv6
    subst hv6
    have HS5 := hide (show Sl y5 a5 c5 (m5 s e) by unfold m5; rw [← HPq.out]; exact hs5)
    have HB := hide (HB.out.trans (hb.mono HB.out.size))
    clear hb ho5 hs5 HWt
    go_wp2_with fail
    go_ret2
    exact ⟨⟨a5, c5, rfl, HS5.out⟩, HB.out⟩
  · have hmd : decide (0 < (Q + 2).tmod 128) = false := by rw [Int.tmod_eq_emod_of_nonneg (by omega), ← hM]; simpa using hm
    rw [if_neg hm] at r4
    subst r4
    clear hQ0 hm hD hM hS hE hQ hL h1 h2 e1 e2 q3 q4 q5 r3 r2
    go_enter Tryd.func14, Tryd.ntmps14
    go_wp2_with fail
    refine (HCk _).out.mono ?_
    rintro e9 x ⟨rfl, hb⟩
    have HI := hide (HI1.out.below hb)
    have HB := hide (HB1.out.trans (hb.mono HB1.out.size))
    clear hb
    have HZ := hide (Zeros_big N x HN2.out.1)
    go_wp2_with fail
    refine HZ.out.mono ?_
    rintro e9 x0 ⟨v0, rfl, ho0, hb⟩
    have HI := hide (HI.out.below hb)
    have HB := hide (HB.out.trans (hb.mono HB.out.size))
    obtain ⟨a0, c0, hv0, hs0, _⟩ := ho0.sl
    rw [List.length_replicate] at hv0
    subst hv0
    have HS0 := hide (show Sl x0 a0 c0 (m0 s e) by unfold m0; rw [← HNs.out]; exact hs0)
    clear hb ho0 hs0 HZ
    go_wp2_with fail
    have HI := hide HI.out.drew
    have HB := hide HB.out.drew
    have HS0 := hide (show Sl x0.drew a0 c0 (m0 s e) from ⟨HS0.out.le, HS0.out.max, HS0.out.none, HS0.out.lies.drew⟩)
    refine wp_region_held_drew (S := (fun u => u.cell? ⟨w.heap.size, 0, none⟩ = some (.int .i64 E) ∧ u.cell? ⟨w.heap.size, 1, none⟩ = some (.int .i64 4) ∧ u.cell? ⟨w.heap.size, 2, none⟩ = some (.int .i64 2) ∧ u.cell? ⟨w.heap.size, 3, none⟩ = some (.int .i64 S) ∧ u.cell? ⟨w.heap.size, 4, none⟩ = some (.int .i64 (L)) ∧ u.cell? ⟨w.heap.size, 5, none⟩ = some (.int .i64 2) ∧ u.cell? ⟨w.heap.size, 6, none⟩ = some (.int .i64 1) ∧ u.cell? ⟨w.heap.size, 7, none⟩ = some (.int .i64 2))) (by kernel_rfl) (cells_of (b := Bt.mk E 4 2 S (L) 2 1 2) HI.out) (fun _ => ?_)
    refine any_take 0 (some 50) (.agg #[.int .i64 E, .int .i64 4, .int .i64 2, .int .i64 S, .int .i64 (L), .int .i64 2, .int .i64 1, .int .i64 2]) rfl rfl (by kernel_rfl) (by kernel_rfl) (by kernel_rfl) (fun _ _ _ h => h) (by rfl) (cells_of (b := Bt.mk E 4 2 S (L) 2 1 2) HI.out) ?_ ?_
    · intro w hSw
      obtain ⟨s0, s1, s2, s3, s4, s5, s6, s7⟩ := hSw
      go_simp
    simp only [Act.put, List.setIfInBounds_toArray, List.set_cons_zero, List.set_cons_succ]
    refine wpAnyH_ready (rs := [1]) (by kernel_rfl) (by simp) ?_
    refine AllReadyH.cons (i := 1) rfl (fun K hK => ?_) AllReadyH.nil
    go_simp
    refine (HZz x0.drew).out.mono ?_
    rintro e9 x1 ⟨v1, rfl, ho1, hb⟩
    obtain ⟨az, cz, hv1, hs1, _⟩ := ho1.sl
    rw [HZl.out] at hv1
    subst hv1
    have HI := hide (HI.out.below hb)
    have HB := hide (HB.out.trans (hb.mono HB.out.size))
    have HS0 := hide (HS0.out.below hb)
    have HSz := hide hs1
    clear hb ho1 hs1
    go_simp
    refine hK.out _ _ (cells_of (b := Bt.mk E 4 2 S (L) 2 1 2) HI.out) (fun _ => ?_)
    clear hK K
    try simp only [Act.put, List.setIfInBounds_toArray, List.set_cons_zero, List.set_cons_succ]
    refine wpAnyH_ready (rs := [2]) (by kernel_rfl) (by simp) ?_
    refine AllReadyH.cons (i := 2) rfl (fun K hK => ?_) AllReadyH.nil
    go_simp
    refine (HPut _ _ _ HSz.out).out.mono ?_
    rintro e9 x2 ⟨⟨ap, cp, rfl, hl2⟩, hb⟩
    have HI := hide (HI.out.below hb)
    have HB := hide (HB.out.trans (hb.mono HB.out.size))
    have HS0 := hide (HS0.out.below hb)
    have HFs := hide (show Lies x2 ap (fM s e) by rw [HFm.out]; exact hl2)
    clear hb hl2
    go_simp
    refine hK.out _ _ (cells_of (b := Bt.mk E 4 2 S (L) 2 1 2) HI.out) (fun _ => ?_)
    clear hK K
    try simp only [Act.put, List.setIfInBounds_toArray, List.set_cons_zero, List.set_cons_succ]
    refine any_take 3 (some 11) (.slice ap 512 cp) rfl rfl (by kernel_rfl) (by kernel_rfl) (by kernel_rfl) (fun _ _ _ h => h) (by rfl) (cells_of (b := Bt.mk E 4 2 S (L) 2 1 2) HI.out) ?_ ?_
    · intro w hSw
      obtain ⟨s0, s1, s2, s3, s4, s5, s6, s7⟩ := hSw
      go_simp
    simp only [Act.put, List.setIfInBounds_toArray, List.set_cons_zero, List.set_cons_succ]
    refine wpAnyH_done (by kernel_rfl) ?_ _
    go_wp2_with fail
    have HWt := hide (With_bigS a0 c0 (m0 s e) ap cp (fM s e) 0 x2 (by rw [HL0.out]; exact HN2.out.1) (by rw [fM_len s e]; omega) (by rw [HL0.out]; have := HN2.out.2; omega) (by rw [HL0.out, fM_len s e]; have := HN2.out.2; have := HNum.out; omega) HS0.out HFs.out)
    rw [HL0.out, fM_len s e] at HWt
    push_cast at HWt
    refine HWt.out.mono ?_
    rintro e9 y1 ⟨v1, rfl, ho1, hb⟩
    obtain ⟨a1, c1, hv1, hs1, _⟩ := ho1.sl
    rw [show (over (m0 s e) 0 (fM s e)).length = N from HLn1.out] at hv1
    subst hv1
    have HS1 := hide (show Sl y1 a1 c1 (m1 s e) from hs1)
    have HFs := hide (HFs.out.below hb)
    have HI := hide (HI.out.below hb)
    have HB := hide (HB.out.trans (hb.mono HB.out.size))
    clear hb ho1 hs1 HWt
    obtain ⟨k0, k1, k2, k3, k4, k5, k6, k7⟩ := cells_of (b := Bt.mk E 4 2 S (L) 2 1 2) HI.out
    go_wp2_with fail
    clear k0 k1 k2 k3 k4 k5 k6 k7
    refine (HCl _).out.mono ?_
    rintro e9 z1 ⟨rfl, hb⟩
    have HFs := hide (HFs.out.below hb)
    have HS1 := hide (HS1.out.below hb)
    have HI := hide (HI.out.below hb)
    have HB := hide (HB.out.trans (hb.mono HB.out.size))
    clear hb
    go_wp2_with fail
    refine (HCs _).out.mono ?_
    rintro e9 z2 ⟨⟨ac, cc, rfl, hlc⟩, hb⟩
    have HCm9 := hide (show Lies z2 ac (cM s e) by rw [HCm.out]; exact hlc)
    have HFs := hide (HFs.out.below hb)
    have HS1 := hide (HS1.out.below hb)
    have HI := hide (HI.out.below hb)
    have HB := hide (HB.out.trans (hb.mono HB.out.size))
    clear hb hlc
    have HWt := hide (With_bigS a1 c1 (m1 s e) ac cc (cM s e) 512 z2 (by rw [HL1.out]; exact HN2.out.1) (by rw [cM_len s e]; omega) (by rw [HL1.out]; have := HN2.out.2; omega) (by rw [HL1.out, cM_len s e]; have := HN2.out.2; have := HNum.out; omega) HS1.out HCm9.out)
    rw [HL1.out, cM_len s e] at HWt
    push_cast at HWt
    go_wp2_with fail
    refine HWt.out.mono ?_
    rintro e9 y2 ⟨v2, rfl, ho2, hb⟩
    obtain ⟨a2, c2, hv2, hs2, _⟩ := ho2.sl
    rw [show (over (m1 s e) 512 (cM s e)).length = N from HLn2.out] at hv2
    subst hv2
    have HS2 := hide (show Sl y2 a2 c2 (m2 s e) from hs2)
    have HFs := hide (HFs.out.below hb)
    have HI := hide (HI.out.below hb)
    have HB := hide (HB.out.trans (hb.mono HB.out.size))
    clear hb ho2 hs2 HWt
    have HWt := hide (With_bigS a2 c2 (m2 s e) ap cp (fM s e) 1024 y2 (by rw [HL2.out]; exact HN2.out.1) (by rw [fM_len s e]; omega) (by rw [HL2.out]; have := HN2.out.2; omega) (by rw [HL2.out, fM_len s e]; have := HN2.out.2; have := HNum.out; omega) HS2.out HFs.out)
    rw [HL2.out, fM_len s e] at HWt
    push_cast at HWt
    go_wp2_with fail
    refine HWt.out.mono ?_
    rintro e9 y3 ⟨v3, rfl, ho3, hb⟩
    obtain ⟨a3, c3, hv3, hs3, _⟩ := ho3.sl
    rw [show (over (m2 s e) 1024 (fM s e)).length = N from HLn3.out] at hv3
    subst hv3
    have HS3 := hide (show Sl y3 a3 c3 (m3 s e) from hs3)
    have HI := hide (HI.out.below hb)
    have HB := hide (HB.out.trans (hb.mono HB.out.size))
    clear hb ho3 hs3 HWt
    go_wp2_with fail
    refine (HBy1 y3).out.mono ?_
    rintro e9 t0 ⟨r0, rfl, hr0, hb⟩
    have HR0 := hide hr0
    have HBt := hide hb
    clear hr0 hb
    go_wp2_with fail
    refine (HBy2 t0).out.mono ?_
    rintro e9 t1 ⟨r1, rfl, hr1, hb⟩
    obtain ⟨b1, d1, rfl, hs1, _⟩ := hr1.sl
    rw [HT2.out]
    have HR0 := hide (HR0.out.below hb)
    have HBt := hide (HBt.out.trans (hb.mono HBt.out.size))
    have HM1 := hide hs1.lies
    clear hr1 hb hs1
    go_wp2_with (at_builtin; refine wpList_append_bytes rfl _ _ 26 rfl Tryd.underlying26 info5 y3.heap.size _ T1 rfl HR0.out _ _ _ T2 rfl (by rw [HT2.out]) (by exact HM1.out) (by rw [HT1.out, HT2.out]; omega) (by exact HBt.out.size) ?_; intro v2 t2 ho2 hg2; have HBt := hide (Own.behind HR0.out HBt.out hg2 HBt.out.size); have HR2 := hide ho2; clear hg2 ho2)
    refine (HBy2 t2).out.mono ?_
    rintro e9 t3 ⟨r3, rfl, hr3, hb⟩
    obtain ⟨b3, d3, rfl, hs3, _⟩ := hr3.sl
    rw [HT2.out]
    have HR2 := hide (HR2.out.below hb)
    have HBt := hide (HBt.out.trans (hb.mono HBt.out.size))
    have HM3 := hide hs3.lies
    clear hr3 hb hs3
    go_wp2_with (at_builtin; refine wpList_append_bytes rfl _ _ 26 rfl Tryd.underlying26 info5 y3.heap.size _ (T1 ++ T2) rfl HR2.out _ _ _ T2 rfl (by rw [HT2.out]) (by exact HM3.out) (by rw [List.length_append, HT1.out, HT2.out]; omega) (by exact HBt.out.size) ?_; intro v4 t4 ho4 hg4; have HBt := hide (Own.behind HR2.out HBt.out hg4 HBt.out.size); have HR4 := hide ho4; clear hg4 ho4)
    obtain ⟨at4, ct4, hv4, hs4, _⟩ := (show Own t4 y3.heap.size v4 t12 by rw [HT12.out]; exact HR4.out).sl
    rw [t12_len] at hv4
    subst hv4
    have HT := hide hs4.lies
    have HS3 := hide (HS3.out.below HBt.out)
    have HB := hide (HB.out.trans (HBt.out.mono HB.out.size))
    clear hs4 HR4
    have HWt := hide (With_bigS a3 c3 (m3 s e) at4 ct4 t12 2048 t4 (by rw [HL3.out]; exact HN2.out.1) (by rw [t12_len]; omega) (by rw [HL3.out]; have := HN2.out.2; omega) (by rw [HL3.out, t12_len]; have := HN2.out.2; omega) HS3.out HT.out)
    rw [HL3.out, t12_len] at HWt
    push_cast at HWt
    refine HWt.out.mono ?_
    rintro e9 y4 ⟨v5, rfl, ho4, hb⟩
    obtain ⟨a4, c4, hv5, hs4, _⟩ := ho4.sl
    rw [show (over (m3 s e) 2048 t12).length = N from HLn4.out] at hv5
    subst hv5
    have HS4 := hide (show Sl y4 a4 c4 (m4 s e) from hs4)
    have HT := hide (HT.out.below hb)
    have HB := hide (HB.out.trans (hb.mono HB.out.size))
    clear hb ho4 hs4 HWt
    have HWt := hide (With_bigS a4 c4 (m4 s e) at4 ct4 t12 P y4 (by rw [HL4.out]; exact HN2.out.1) (by rw [t12_len]; omega) (by rw [HL4.out]; have := HN2.out.2; omega) (by rw [HL4.out, t12_len]; have := HN2.out.2; have := HNum.out; omega) HS4.out HT.out)
    rw [HL4.out, t12_len] at HWt
    go_wp2_with fail
    refine HWt.out.mono ?_
    rintro e9 y5 ⟨v6, rfl, ho5, hb⟩
    obtain ⟨a5, c5, hv6, hs5, _⟩ := ho5.sl
    rw [show (over (m4 s e) P t12).length = N from HLn5.out] at hv6
    subst hv6
    have HS5 := hide (show Sl y5 a5 c5 (m5 s e) by unfold m5; rw [← HPq.out]; exact hs5)
    have HB := hide (HB.out.trans (hb.mono HB.out.size))
    clear hb ho5 hs5 HWt
    go_wp2_with fail
    go_ret2
    exact ⟨⟨a5, c5, rfl, HS5.out⟩, HB.out⟩
end Go.Proofs.YtcbbaoiefdbcpaaDoor.Oct
