/- FatLoops, for all numbers: a chain that comes back to one of its clusters is told, wherever it does, and however long it is; one that ends is all its clusters (no condition). -/
import Derived.Test.YthhodmiobpocbaaDoorPFlk
import Derived.Test.YthhodmiobpocbaaDoorPFrp
import Derived.Test.YthhodmiobpocbaaDoorPFmd
import Derived.Test.YthhodmiobpocbaaDoorRows
import Derived.Test.YthhodmiobpocbaaDoorCards
import Derived.Test.YthhodmiobpocbaaDoorTie
import Derived.LaidMore
import Derived.Stop.Joined
import Derived.SevenTiedAt
namespace Go.Proofs.YthhodmiobpocbaaDoor.Oct
open Go.RowKit Go.ChangeShapes Go.WideShapes Go.ChangeAt

/-- The disk behind so many of its tables. -/
def dqL (n kb : Nat) (en : Bool) : Nat → List Int
  | 0 => m5 150 1
  | 1 => d1L n kb en
  | _ => d2L n kb en
theorem dqL_len {n kb : Nat} {en : Bool} (hn : n ≤ 100) : ∀ q, (dqL n kb en q).length = 76800
  | 0 => m150_len
  | 1 => d1L_len hn
  | _ + 2 => d2L_len hn
theorem dqL_step {n kb : Nat} {en : Bool} (q : Nat) (hq : q < 2) : over (dqL n kb en q) (2060 + 1024 * q) (tbL n kb en n) = dqL n kb en (q + 1) := by
  have h : q = 0 ∨ q = 1 := by omega
  rcases h with rfl | rfl <;> rfl

theorem byts_over {l m : List Int} {p : Nat} (hl : Byts l) (hm : Byts m) (hp : p + m.length ≤ l.length) : Byts (over l p m) := by
  intro k
  rw [over_getF _ _ _ hp]
  split
  · exact hm _
  · exact hl _
theorem byts_tb (n kb : Nat) (en : Bool) : ∀ j, Byts (tbL n kb en j)
  | 0 => by intro k; simp [tbL]
  | j + 1 => by
    intro k
    rw [tbL, getD_app]
    split
    · exact byts_tb n kb en j k
    · exact Byts.bytesOf _ _ _
theorem byts_d3 {n kb : Nat} {en : Bool} (hn : n ≤ 100) : Byts (d3L n kb en) := by
  have h0 := bytsM 150 1 (by omega)
  have h1 : Byts (d1L n kb en) := byts_over h0 (byts_tb n kb en n) (by rw [tbL_len, m150_len]; omega)
  have h2 : Byts (d2L n kb en) := byts_over h1 (byts_tb n kb en n) (by rw [tbL_len, d1L_len hn]; omega)
  exact byts_over h2 (Byts.bytesOf _ _) (by rw [bytesOf_length, d2L_len hn]; omega)
theorem num_bd (n kb : Nat) (en : Bool) (i : Nat) : 0 ≤ (numsF (tTL n kb en) 142).getD i 0 ∧ (numsF (tTL n kb en) 142).getD i 0 < 4294967296 := by
  by_cases h : i < 142
  · rw [numsF_get _ _ _ h]
    unfold nxt
    omega
  · rw [get_far _ _ (by rw [numsF_len]; omega)]
    omega
theorem byts_f150 : Byts (fM 150 1) := by
  rw [← sM_0 (s := 150) (e := 1) (by omega) (by omega) (by omega) (by omega)]
  exact ((bytsM 150 1 (by omega)).drop _).take _
theorem par_f150 : parB (fM 150 1) = (Bt.mk 1 4 2 150 2 2 1 2, 0) := by
  unfold fM; rw [b150]; exact par_put _ _ List.length_replicate b150_chk

theorem OwnC.at_ {w : World} {B n c : Nat} {a : Option Addr} {L : List Int} (h : OwnC w B (.slice a n c) L) (hL : 0 < L.length) : ∃ g, a = some ⟨g, 0, none⟩ ∧ ∀ (i : Nat) (x : Int), L[i]? = some x → w.cell? ⟨g, i, none⟩ = some (.int .i64 x) := by
  rcases h.2 with ⟨_, hn⟩ | ⟨g, cap, cur, e, _⟩
  · omega
  · cases e
    refine ⟨g, rfl, fun i x hx => ?_⟩
    have := World.ownsRow.cells (g := g) h rfl i (.int .i64 x) (by simp [hx])
    rw [Go.WideShapes.add_plain, Nat.zero_add] at this
    exact this

set_option maxHeartbeats 16000000 in
set_option maxRecDepth 100000 in
theorem floops_walk (long back : Int) (ends : Bool) (w : World) (hV : Vars w) :
    Calls Tryd.prog 4 #[.int .i64 long, .int .i64 back, .bool ends] w fun e w' => e = .returned (.bool true) ∧ Below w.heap.size w w' := by
  have HV := hide hV
  have HM := hide (made_any w hV)
  obtain ⟨U, hU⟩ : ∃ U, U = long % 18446744073709551616 := ⟨_, rfl⟩
  have hU0 : 0 ≤ U ∧ U < 18446744073709551616 := by rw [hU]; omega
  have hwU : IntKind.u64.wrap long = U := by rw [IntKind.wrap_u64, hU]
  obtain ⟨n', hn'⟩ : ∃ n' : Nat, n' = (U % 100).toNat := ⟨_, rfl⟩
  have hre : U % 100 = (n' : Int) := by omega
  have hrt : U.tmod 100 = (n' : Int) := by rw [Int.tmod_eq_emod_of_nonneg hU0.1]; exact hre
  have hwn' : IntKind.i64.wrap (n' : Int) = (n' : Int) := by rw [IntKind.wrap_i64]; omega
  obtain ⟨n, hn⟩ : ∃ n : Nat, n = n' + 1 := ⟨_, rfl⟩
  have hnb : 0 < n ∧ n ≤ 100 := by omega
  have hadd : (1 : Int) + (n' : Int) = (n : Int) := by omega
  have hwn : IntKind.i64.wrap (n : Int) = (n : Int) := by rw [IntKind.wrap_i64]; omega
  have hwnu : IntKind.u64.wrap (n : Int) = (n : Int) := by rw [IntKind.wrap_u64]; omega
  obtain ⟨V, hVe⟩ : ∃ V, V = back % 18446744073709551616 := ⟨_, rfl⟩
  have hV0 : 0 ≤ V ∧ V < 18446744073709551616 := by rw [hVe]; omega
  have hwV : IntKind.u64.wrap back = V := by rw [IntKind.wrap_u64, hVe]
  obtain ⟨k, hk⟩ : ∃ k : Nat, k = (V % n).toNat := ⟨_, rfl⟩
  have hkb : k < n := by
    have h1 := Int.emod_nonneg V (b := (n : Int)) (by omega)
    have h2 := Int.emod_lt_of_pos V (b := (n : Int)) (by omega)
    omega
  have hke : V % (n : Int) = (k : Int) := by have := Int.emod_nonneg V (b := (n : Int)) (by omega); omega
  have hkt : V.tmod (n : Int) = (k : Int) := by rw [Int.tmod_eq_emod_of_nonneg hV0.1]; exact hke
  have hwk : IntKind.i64.wrap (k : Int) = (k : Int) := by rw [IntKind.wrap_i64]; omega
  have hnz : ¬ (n : Int) = 0 := by omega
  have HRm := fun u => hide (rmade_ok 150 1 (by omega) (by omega) (by omega) (by omega) 150 1 150 2 142 76800 3072 rfl rfl rfl (by rw [lg150]; rfl) rfl (by rw [lg150]) b150 b150_chk b150_clus.symm u)
  obtain ⟨F0, hF0⟩ : ∃ F0, F0 = fM 150 1 := ⟨_, rfl⟩
  have HF0 := hide (show F0.length = 512 ∧ Byts F0 ∧ parB F0 = (Bt.mk 1 4 2 150 2 2 1 2, 0) by rw [hF0]; exact ⟨fM_len 150 1, byts_f150, par_f150⟩)
  have HT0 := hide (show (m5 150 1).take 512 = F0 by rw [hF0, ← sM_0 (s := 150) (e := 1) (by omega) (by omega) (by omega) (by omega)]; rfl)
  have HNb := hide hnb
  have HKb := hide hkb
  clear hU hn' hn hVe hk hV hF0 hnb hkb
  go_enter Tryd.func4, Tryd.ntmps4
  go_wp2_with fail
  refine HM.out.mono ?_
  rintro e9 w1 ⟨rfl, hb1⟩
  have HB := hide hb1
  clear hb1 HM
  go_wp2_with fail
  refine (HRm _).out.mono ?_
  rintro e9 w2 ⟨⟨a2, c2, rfl, hs2⟩, hb2⟩
  obtain ⟨gb, off, rfl⟩ : ∃ gb off, a2 = some ⟨gb, off, none⟩ := by
    rcases hs2.lies with h | ⟨b, o, h, _⟩
    · have h2 := m150_len
      rw [h] at h2
      simp at h2
    · exact ⟨b, o, h⟩
  have hc2 : 76800 ≤ c2 := by have := hs2.le; rw [m150_len] at this; exact this
  have hl2 : Lies w2 (some ⟨gb, off, none⟩) F0 := by
    have := hs2.lies.of_part 0 512
    rw [List.drop_zero, HT0.out] at this
    exact this
  have HP : Hid (Calls Tryd.prog 16 #[.slice (some ⟨gb, off, none⟩) 512 c2] w2 fun e w' => e = .returned (.tuple #[.agg #[.int .i64 1, .int .i64 4, .int .i64 2, .int .i64 150, .int .i64 2, .int .i64 2, .int .i64 1, .int .i64 2], .int .i64 0]) ∧ Below w2.heap.size w2 w') := hide (by
    have h := rparse_any (some ⟨gb, off, none⟩) c2 F0 w2 (by rw [HF0.out.1]; omega) (by rw [HF0.out.1]; omega) HF0.out.2.1 hl2
    rw [HF0.out.1, HF0.out.2.2] at h
    exact h)
  have HS := hide (show Sl w2 (some ⟨gb, off, none⟩) c2 (dqL n k ends 0) from hs2)
  have HB := hide (HB.out.trans (hb2.mono HB.out.size))
  have k1 : ¬ c2 = 512 := by omega
  have k2 : 512 ≤ c2 := by omega
  clear hb2 hs2 hl2 HRm hc2
  go_wp2_with fail
  refine HP.out.mono ?_
  rintro e9 w3 ⟨rfl, hb3⟩
  have HS := hide (HS.out.below hb3)
  have HB := hide (HB.out.trans (hb3.mono HB.out.size))
  obtain ⟨w4, hw4⟩ : ∃ w4, w4 = w3.alloc (.cells #[.int .i64 1, .int .i64 4, .int .i64 2, .int .i64 150, .int .i64 2, .int .i64 2, .int .i64 1, .int .i64 2] 36) := ⟨_, rfl⟩
  have hb4 : Below w3.heap.size w3 w4 := by rw [hw4]; exact (Below.refl _ _).alloc (Nat.le_refl _) _
  have HI := hide (show Blk w4 w3.heap.size #[.int .i64 1, .int .i64 4, .int .i64 2, .int .i64 150, .int .i64 2, .int .i64 2, .int .i64 1, .int .i64 2] 36 by rw [hw4]; exact Blk.new _ _ _)
  have HS := hide (HS.out.below hb4)
  have HB := hide (HB.out.trans (hb4.mono HB.out.size))
  have HW4 := hide hw4
  clear hb3 hb4 hw4 HP
  go_wp2_with fail
  rw [← HW4.out]
  obtain ⟨R0, hR0⟩ : ∃ R0, R0 = w3.heap.size := ⟨_, rfl⟩
  rw [← hR0] at HI ⊢
  clear hR0 HW4
  go_loopw [13, 14] (fun v i wr => ∃ j : Nat, j ≤ n ∧ i = .int .i64 j ∧ Own wr w4.heap.size v (tbL n k ends j) ∧ Below w4.heap.size w4 wr) (fun _ i _ => n - (intOf i).toNat)
  case atStart => exact ⟨0, by omega, rfl, Own.nil _ _, Below.refl _ _⟩
  case round =>
    obtain ⟨j, hj, rfl, how, hbw⟩ := hrel
    have HO := hide how
    have HBw := hide hbw
    clear how hbw
    by_cases hlt : j < n
    · have hltI : (j : Int) < (n : Int) := by omega
      have q1 : IntKind.i64.wrap ((j : Int) + 1) = (j : Int) + 1 := by rw [IntKind.wrap_i64]; omega
      have q2 : IntKind.i64.wrap (3 + (j : Int)) = 3 + (j : Int) := by rw [IntKind.wrap_i64]; omega
      have q3 : IntKind.i64.wrap ((n : Int) - 1) = (n : Int) - 1 := by rw [IntKind.wrap_i64]; omega
      have q4 : IntKind.i64.wrap (3 + (k : Int)) = 3 + (k : Int) := by rw [IntKind.wrap_i64]; have := HKb.out; have := HNb.out; omega
      have q5 : IntKind.i64.wrap (3 + (j : Int) + 1) = 3 + (j : Int) + 1 := by rw [IntKind.wrap_i64]; omega
      have q6 : IntKind.u64.wrap (3 + (j : Int) + 1) = 3 + (j : Int) + 1 := by rw [IntKind.wrap_u64]; have := HNb.out; omega
      have q7 : IntKind.u64.wrap (3 + (k : Int)) = 3 + (k : Int) := by rw [IntKind.wrap_u64]; have := HKb.out; have := HNb.out; omega
      by_cases hl : j + 1 = n
      · have hq : ((j : Int) == (n : Int) - 1) = true := by simp; omega
        cases ends
        · have HX := hide (show nxL n k false j = 3 + (k : Int) by unfold nxL; rw [if_pos hl]; rfl)
          obtain ⟨T, hT⟩ : ∃ T, T = bytesOf (nxL n k false j) 4 := ⟨_, rfl⟩
          have HTe := hide hT
          have HT := hide (show T.length = 4 by rw [hT, bytesOf_length])
          have HBy : ∀ u, Hid (Calls Tryd.prog 17 #[.int .u64 (3 + (k : Int)), .int .i64 4] u fun e w' => ∃ r, e = .returned r ∧ Own w' u.heap.size r T ∧ Below u.heap.size u w') := fun u => hide (by have h := Bytes_any (nxL n k false j) 4 u (by omega) (by have := nxL_in n k false j HNb.out.2 HKb.out hlt; omega) (by have := nxL_in n k false j HNb.out.2 HKb.out hlt; omega); rw [← hT, HX.out] at h; exact h)
          clear hT
          go_wp2_with fail
          refine (HBy _).out.mono ?_
          rintro e9 x1 ⟨v1, rfl, ho1, hb⟩
          obtain ⟨at1, ct1, hv1, hs1, _⟩ := ho1.sl
          rw [HT.out] at hv1
          subst hv1
          have HO1 := hide (Own.below HO.out hb)
          have HB1 := hide (HBw.out.trans (hb.mono HBw.out.size))
          have HM1 := hide hs1.lies
          clear hb ho1 hs1
          go_wp2_with (at_builtin; refine wpList_append_bytes rfl (.tmp 68) (.tmp 70) 26 rfl Tryd.underlying26 info5 w4.heap.size _ (tbL n k false j) rfl HO1.out _ _ _ T rfl (by rw [HT.out]) (by exact HM1.out) (by rw [tbL_len, HT.out]; omega) (by exact HB1.out.size) ?_; intro v2 w6 ho2 hg2; have HO2 := hide (show Own w6 w4.heap.size v2 (tbL n k false (j + 1)) by rw [tbL, ← HTe.out]; exact ho2); have HB2 := hide (Own.behind HO1.out HB1.out hg2 HB1.out.size); clear ho2 hg2)
          exact ⟨⟨j + 1, by omega, by go_num, HO2.out, HB2.out⟩, by simp [intOf]; omega⟩
        · have HX := hide (show nxL n k true j = 268435455 by unfold nxL; rw [if_pos hl]; rfl)
          obtain ⟨T, hT⟩ : ∃ T, T = bytesOf (nxL n k true j) 4 := ⟨_, rfl⟩
          have HTe := hide hT
          have HT := hide (show T.length = 4 by rw [hT, bytesOf_length])
          have HBy : ∀ u, Hid (Calls Tryd.prog 17 #[.int .u64 (268435455), .int .i64 4] u fun e w' => ∃ r, e = .returned r ∧ Own w' u.heap.size r T ∧ Below u.heap.size u w') := fun u => hide (by have h := Bytes_any (nxL n k true j) 4 u (by omega) (by have := nxL_in n k true j HNb.out.2 HKb.out hlt; omega) (by have := nxL_in n k true j HNb.out.2 HKb.out hlt; omega); rw [← hT, HX.out] at h; exact h)
          clear hT
          go_wp2_with fail
          refine (HBy _).out.mono ?_
          rintro e9 x1 ⟨v1, rfl, ho1, hb⟩
          obtain ⟨at1, ct1, hv1, hs1, _⟩ := ho1.sl
          rw [HT.out] at hv1
          subst hv1
          have HO1 := hide (Own.below HO.out hb)
          have HB1 := hide (HBw.out.trans (hb.mono HBw.out.size))
          have HM1 := hide hs1.lies
          clear hb ho1 hs1
          go_wp2_with (at_builtin; refine wpList_append_bytes rfl (.tmp 68) (.tmp 70) 26 rfl Tryd.underlying26 info5 w4.heap.size _ (tbL n k true j) rfl HO1.out _ _ _ T rfl (by rw [HT.out]) (by exact HM1.out) (by rw [tbL_len, HT.out]; omega) (by exact HB1.out.size) ?_; intro v2 w6 ho2 hg2; have HO2 := hide (show Own w6 w4.heap.size v2 (tbL n k true (j + 1)) by rw [tbL, ← HTe.out]; exact ho2); have HB2 := hide (Own.behind HO1.out HB1.out hg2 HB1.out.size); clear ho2 hg2)
          exact ⟨⟨j + 1, by omega, by go_num, HO2.out, HB2.out⟩, by simp [intOf]; omega⟩
      · have hq : ((j : Int) == (n : Int) - 1) = false := by simp; omega
        have HX := hide (show nxL n k ends j = 3 + (j : Int) + 1 by unfold nxL; rw [if_neg hl]; omega)
        obtain ⟨T, hT⟩ : ∃ T, T = bytesOf (nxL n k ends j) 4 := ⟨_, rfl⟩
        have HTe := hide hT
        have HT := hide (show T.length = 4 by rw [hT, bytesOf_length])
        have HBy : ∀ u, Hid (Calls Tryd.prog 17 #[.int .u64 (3 + (j : Int) + 1), .int .i64 4] u fun e w' => ∃ r, e = .returned r ∧ Own w' u.heap.size r T ∧ Below u.heap.size u w') := fun u => hide (by have h := Bytes_any (nxL n k ends j) 4 u (by omega) (by have := nxL_in n k ends j HNb.out.2 HKb.out hlt; omega) (by have := nxL_in n k ends j HNb.out.2 HKb.out hlt; omega); rw [← hT, HX.out] at h; exact h)
        clear hT
        go_wp2_with fail
        refine (HBy _).out.mono ?_
        rintro e9 x1 ⟨v1, rfl, ho1, hb⟩
        obtain ⟨at1, ct1, hv1, hs1, _⟩ := ho1.sl
        rw [HT.out] at hv1
        subst hv1
        have HO1 := hide (Own.below HO.out hb)
        have HB1 := hide (HBw.out.trans (hb.mono HBw.out.size))
        have HM1 := hide hs1.lies
        clear hb ho1 hs1
        go_wp2_with (at_builtin; refine wpList_append_bytes rfl (.tmp 68) (.tmp 70) 26 rfl Tryd.underlying26 info5 w4.heap.size _ (tbL n k ends j) rfl HO1.out _ _ _ T rfl (by rw [HT.out]) (by exact HM1.out) (by rw [tbL_len, HT.out]; omega) (by exact HB1.out.size) ?_; intro v2 w6 ho2 hg2; have HO2 := hide (show Own w6 w4.heap.size v2 (tbL n k ends (j + 1)) by rw [tbL, ← HTe.out]; exact ho2); have HB2 := hide (Own.behind HO1.out HB1.out hg2 HB1.out.size); clear ho2 hg2)
        exact ⟨⟨j + 1, by omega, by go_num, HO2.out, HB2.out⟩, by simp [intOf]; omega⟩
    · obtain rfl : j = n := by omega
      have hjj : ¬ (j : Int) < (j : Int) := by omega
      obtain ⟨at5, ct5, hv5, hs5, _⟩ := HO.out.sl
      rw [tbL_len] at hv5
      obtain ⟨m4, hm4⟩ : ∃ m4, m4 = 4 * j := ⟨_, rfl⟩
      rw [← hm4] at hv5
      have HM4 := hide hm4
      have HT5 := hide hs5.lies
      have HS := hide (HS.out.below HBw.out)
      have HI := hide (HI.out.below HBw.out)
      have HB := hide (HB.out.trans (HBw.out.mono HB.out.size))
      clear hs5 HO HBw hm4
      go_wp2_with fail
      obtain ⟨w5, hw5⟩ : ∃ w5, w5 = wr := ⟨_, rfl⟩
      subst hw5
      go_loopw [9, 16] (fun v i wr => ∃ (q : Nat) (a : Option Addr) (c : Nat), q ≤ 2 ∧ i = .int .i64 q ∧ v = .slice a 76800 c ∧ Sl wr a c (dqL j k ends q) ∧ Below w5.heap.size w5 wr) (fun _ i _ => 2 - (intOf i).toNat)
      case atStart => exact ⟨0, _, _, by omega, rfl, rfl, HS.out, Below.refl _ _⟩
      case round =>
        obtain ⟨q, a6, c6, hq, rfl, rfl, hs6, hbw⟩ := hrel
        have HS := hide hs6
        have HI := hide (HI.out.below hbw)
        have HT5 := hide (HT5.out.below hbw)
        have HBw := hide hbw
        have c0 := HI.out.cell 1 _ rfl
        have c1 := HI.out.cell 2 _ rfl
        have c2 := HI.out.cell 4 _ rfl
        clear hs6 hbw
        by_cases hlt : q < 2
        · have hltI : (q : Int) < 2 := by omega
          have q1 : IntKind.i64.wrap ((q : Int) + 1) = (q : Int) + 1 := by rw [IntKind.wrap_i64]; omega
          have q2 : IntKind.i64.wrap ((q : Int) * 2) = (q : Int) * 2 := by rw [IntKind.wrap_i64]; omega
          have q3 : IntKind.i64.wrap (4 + (q : Int) * 2) = 4 + (q : Int) * 2 := by rw [IntKind.wrap_i64]; omega
          have q4 : IntKind.i64.wrap (512 * (4 + (q : Int) * 2)) = 512 * (4 + (q : Int) * 2) := by rw [IntKind.wrap_i64]; omega
          have q5 : IntKind.i64.wrap (512 * (4 + (q : Int) * 2) + 12) = 512 * (4 + (q : Int) * 2) + 12 := by rw [IntKind.wrap_i64]; omega
          have HWt : Hid (Calls Tryd.prog 18 #[.slice a6 76800 c6, .int .i64 (512 * (4 + (q : Int) * 2) + 12), .slice at5 m4 ct5] wr fun e w' => (∃ a c, e = .returned (.slice a 76800 c) ∧ Sl w' a c (dqL j k ends (q + 1))) ∧ Below wr.heap.size wr w') := hide (by
            have h := With_bigS a6 c6 (dqL j k ends q) at5 ct5 (tbL j k ends j) (2060 + 1024 * q) wr (by rw [dqL_len HNb.out.2]; omega) (by rw [tbL_len]; have := HNb.out; omega) (by rw [dqL_len HNb.out.2]; omega) (by rw [dqL_len HNb.out.2, tbL_len]; have := HNb.out; omega) HS.out HT5.out
            rw [dqL_len HNb.out.2, tbL_len, ← HM4.out, show (((2060 + 1024 * q : Nat)) : Int) = 512 * (4 + (q : Int) * 2) + 12 by omega, dqL_step q hlt] at h
            refine h.mono fun e w' ⟨v, g1, g2, g3⟩ => ⟨?_, g3⟩
            obtain ⟨a, c, g4, g5, _⟩ := g2.sl
            rw [dqL_len HNb.out.2] at g4
            exact ⟨a, c, by rw [g1, g4], g5⟩)
          clear hq
          go_wp2_with fail
          refine HWt.out.mono ?_
          rintro e9 x1 ⟨⟨a7, c7, rfl, hs7⟩, hb⟩
          have HS7 := hide hs7
          have HB7 := hide (HBw.out.trans (hb.mono HBw.out.size))
          clear hs7 hb HWt
          go_wp2_with fail
          exact ⟨⟨q + 1, a7, c7, by omega, by go_num, rfl, HS7.out, HB7.out⟩, by simp [intOf]; omega⟩
        · obtain rfl : q = 2 := by omega
          have HS := hide (show Sl wr a6 c6 (d2L j k ends) from HS.out)
          have HB := hide (HB.out.trans (HBw.out.mono HB.out.size))
          have HV := hide (HV.out.below HB.out)
          obtain ⟨T, hT⟩ : ∃ T, T = bytesOf 4294967295 4 := ⟨_, rfl⟩
          have HTe := hide hT
          have HT := hide (show T.length = 4 by rw [hT, bytesOf_length])
          have HBy : ∀ u, Hid (Calls Tryd.prog 17 #[.int .u64 4294967295, .int .i64 4] u fun e w' => ∃ r, e = .returned r ∧ Own w' u.heap.size r T ∧ Below u.heap.size u w') := fun u => hide (by rw [hT]; exact Bytes_any 4294967295 4 u (by omega) (by omega) (by omega))
          clear hT HBw HT5 HI hlt hq
          go_wp2_with fail
          refine (HBy _).out.mono ?_
          rintro e9 x1 ⟨v1, rfl, ho1, hb⟩
          obtain ⟨at1, ct1, hv1, hs1, _⟩ := ho1.sl
          rw [HT.out] at hv1
          subst hv1
          have HS := hide (HS.out.below hb)
          have HB := hide (HB.out.trans (hb.mono HB.out.size))
          have HV := hide (HV.out.below hb)
          have HWt : Hid (Calls Tryd.prog 18 #[.slice a6 76800 c6, .int .i64 1000, .slice at1 4 ct1] x1 fun e w' => (∃ a c, e = .returned (.slice a 76800 c) ∧ Sl w' a c (d3L j k ends)) ∧ Below x1.heap.size x1 w') := hide (by
            have h := With_bigS a6 c6 (d2L j k ends) at1 ct1 T 1000 x1 (by rw [d2L_len HNb.out.2]; omega) (by rw [HT.out]; omega) (by rw [d2L_len HNb.out.2]; omega) (by rw [d2L_len HNb.out.2, HT.out]; omega) HS.out hs1.lies
            rw [d2L_len HNb.out.2, HT.out] at h
            refine h.mono fun e w' ⟨v, g1, g2, g3⟩ => ⟨?_, g3⟩
            have g4 : Own w' x1.heap.size v (d3L j k ends) := by unfold d3L; rw [← HTe.out]; exact g2
            obtain ⟨a, c, g5, g6, _⟩ := g4.sl
            rw [d3L_len HNb.out.2] at g5
            exact ⟨a, c, by rw [g1, g5], g6⟩)
          clear hb ho1 hs1 HBy
          go_wp2_with fail
          refine HWt.out.mono ?_
          rintro e9 x2 ⟨⟨a7, c7, rfl, hs7⟩, hb⟩
          have HB := hide (HB.out.trans (hb.mono HB.out.size))
          have HOp : Hid (Calls Tryd.prog 7 #[.iface 34 (.slice a7 76800 c7)] x2 fun e w' => (∃ R g, e = .returned (.tuple #[.pointer (some ⟨R, 0, none⟩), .int .i64 0]) ∧ Blk w' R (volC (Bt.mk 1 4 2 150 2 2 1 2) g 142 4294967295 3) 69 ∧ (∀ i, i < 142 → w'.cell? ⟨g, i, none⟩ = some (.int .u32 ((numsF (tTL j k ends) 142).getD i 0)))) ∧ Below x2.heap.size x2 w') := hide (by
            have h := open_ok a7 c7 (d3L j k ends) (Bt.mk 1 4 2 150 2 2 1 2) 142 4294967295 3 x2 (by rw [d3L_len HNb.out.2]; omega) (hs7.le) hs7.none hs7.lies (byts_d3 HNb.out.2) (HV.out.below hb) (volL HNb.out.2)
            rw [d3L_len HNb.out.2, show secs (d3L j k ends) (Bt.mk 1 4 2 150 2 2 1 2).ahead (Bt.mk 1 4 2 150 2 2 1 2).long = tTL j k ends from sL_4 HNb.out.2] at h
            exact h.mono fun e w' ⟨⟨R, g, g1, g2, g3, _⟩, g4⟩ => ⟨⟨R, g, g1, g2, g3⟩, g4⟩)
          clear hs7 hb HWt HS
          go_wp2_with fail
          refine HOp.out.mono ?_
          rintro e9 x3 ⟨⟨R, g, rfl, hR, hL⟩, hb⟩
          have HB := hide (HB.out.trans (hb.mono HB.out.size))
          have HCh := hide (chain_free (Bt.mk 1 4 2 150 2 2 1 2) R g 142 4294967295 3 (numsF (tTL j k ends) 142) 3 x3 (by omega) (by omega) hR hL (fun i => num_bd j k ends i))
          rw [fol_law HNb.out HKb.out] at HCh
          clear hR hL hb HOp
          go_wp2_with fail
          refine HCh.out.mono ?_
          cases ends
          · rintro e9 x4 ⟨⟨h0, _⟩ | ⟨h0, rfl⟩, hb⟩
            · exact absurd h0 (by simp)
            · have HB := hide (HB.out.trans (hb.mono HB.out.size))
              clear h0 hb HCh
              go_wp2_with fail
              go_ret
              exact ⟨rfl, HB.out⟩
          · rintro e9 x4 ⟨⟨h0, v8, rfl, ho8⟩ | ⟨h0, _⟩, hb⟩
            · have HB := hide (HB.out.trans (hb.mono HB.out.size))
              have HO8 := hide (show OwnC x4 x3.heap.size v8 (rgL j) from ho8)
              clear ho8
              obtain ⟨a8, c8, hv8⟩ := HO8.out.len
              rw [rgL_len] at hv8
              subst hv8
              clear h0 hb HCh
              go_wp2_with fail
              go_loopw [21] (fun i wr => ∃ q : Nat, q ≤ j ∧ i = .int .i64 q ∧ Below x4.heap.size x4 wr) (fun i _ => j - (intOf i).toNat)
              case atStart => exact ⟨0, by omega, rfl, Below.refl _ _⟩
              case round =>
                obtain ⟨q, hq, rfl, hbw⟩ := hrel
                have HO8 := hide (HO8.out.below hbw)
                have HB := hide (HB.out.trans (hbw.mono HB.out.size))
                have HBw := hide hbw
                clear hbw
                by_cases hlt : q < j
                · have hltI : (q : Int) < (j : Int) := by omega
                  have q1 : IntKind.i64.wrap ((q : Int) + 1) = (q : Int) + 1 := by rw [IntKind.wrap_i64]; have := HNb.out; omega
                  have q2 : IntKind.i64.wrap (3 + (q : Int)) = 3 + (q : Int) := by rw [IntKind.wrap_i64]; have := HNb.out; omega
                  obtain ⟨g8, rfl, hc⟩ := HO8.out.at_ (by rw [rgL_len]; omega)
                  have k0 := hc q (3 + (q : Int)) (rgL_get j q hlt)
                  clear hc
                  go_wp2_with fail
                  exact ⟨⟨q + 1, by omega, by go_num, HBw.out⟩, by simp [intOf]; omega⟩
                · obtain rfl : q = j := by omega
                  have hjj : ¬ (q : Int) < (q : Int) := by omega
                  go_wp2_with fail
                  go_ret
                  exact ⟨rfl, HB.out⟩
            · exact absurd rfl h0

set_option maxRecDepth 100000 in
theorem fatLoops_door (os : Os) (args : Array Value) : laidMetH Tryd.prog Rows.fatLoopsRow.laid ((World.doorLaid Tryd.prog 400 os).forCall (fun _ _ => 0) ⟨#[], args, []⟩).memory :=
  laidMetH_of_parts3 (fuel := 8) (laidMet_of_run' 8 (by kernel_rfl) (by kernel_rfl)) (by kernel_rfl) (by kernel_rfl)

set_option maxRecDepth 100000 in
theorem fatLoops_lifted (os : Os) (started : os.Started) (H : Type) (enc : TypeId × Value → H) :
    ReturnsInHanded {} Tryd.checked os 4 .any (fun w args => (Rows.fatLoopsSpec.pre enc Tryd.prog Tryd.f4 [] false w args ∧ laidMetH Tryd.prog Rows.fatLoopsRow.laid w) ∧ sizedMet enc Tryd.prog Tryd.f4 (OpenSpec.ofChange Rows.fatLoopsSpec) false w args) (Rows.fatLoopsSpec.post enc Tryd.prog Tryd.f4 false true false false) := by
  refine returnsInHanded_of_change_and (C := Tryd.checked) (X := (fun w _ => laidMetH Tryd.prog Rows.fatLoopsRow.laid w)) (fun _ _ _ hh h => h.of_heap hh) own started (by kernel_rfl) Tryd.func4
    (ChangeSpec.witness_shaped (enc := enc) (C := Tryd.checked) (os := os) (X := (fun w _ => laidMetH Tryd.prog Rows.fatLoopsRow.laid w)) false (World.doorLaid Tryd.prog 400 os) #[.int .i64 0, .int .i64 0, .bool false] 8 rfl (World.shaped_of_RefB (by kernel_rfl) (by kernel_rfl)) (by kernel_rfl) (by kernel_rfl) (by kernel_rfl) (fatLoops_door os _)) ?_
  intro W base args ds gs before hval0 hW _ hsz0 hL _
  have hval : ∀ (j : Nat) t v, Tryd.f4.params[j]? = some t → args[j]? = some v → Value.okWide Tryd.prog W .any base t v := hval0
  have hW' := hW
  obtain ⟨p, q, hA0, hV, rfl, hfz, hnd⟩ := hW
  have hA : DataW.TrodAll enc Tryd.prog W 0 (fun _ => true) true Tryd.f4.params.toList args.toList ds p := hA0
  rw [Tryd.params4] at hA hval
  obtain ⟨v0, vs0, d0, ds0, p0, q0, hargs0, rfl, rfl, h0, r0⟩ := trodAll_cons hA
  obtain ⟨v1, vs1, d1, ds1, p1, q1, hargs1, rfl, rfl, h1, r1⟩ := trodAll_cons r0
  obtain ⟨v2, vs2, d2, ds2, p2, q2, hargs2, rfl, rfl, h2, r2⟩ := trodAll_cons r1
  obtain ⟨rfl, rfl, rfl⟩ := trodAll_nil r2
  subst hargs2
  subst hargs1
  obtain rfl : args = #[v0, v1, v2] := by cases args; simp_all
  obtain ⟨rfl, rfl⟩ := trodVars_none hV
  simp only [List.append_nil] at hW'
  obtain ⟨x0, rfl, rfl, rfl, w0⟩ := open_int Tryd.underlying3 (hval 0 3 v0 rfl rfl) h0
  obtain ⟨x1, rfl, rfl, rfl, w1⟩ := open_int Tryd.underlying3 (hval 1 3 v1 rfl rfl) h1
  obtain ⟨x2, rfl, rfl, rfl⟩ := open_bool Tryd.underlying4 (hval 2 4 v2 rfl rfl) h2
  clear hA0
  refine (floops_walk x0 x1 x2 W (of_laid hL)).mono fun e W' ⟨he, hb⟩ => ?_
  subst he
  refine ⟨_, rfl, _, _, _, [], ([] ++ ([] ++ ([] ++ []))), [], hW', ?_, ?_, rfl, hb.frame _, fun h => by cases h⟩
  · exact trodAll_cons_mk (shut_bool Tryd.underlying4 _) trodAll_mk0
  · exact trodAll_cons_mk (shut_int Tryd.underlying3 w0) (trodAll_cons_mk (shut_int Tryd.underlying3 w1) (trodAll_cons_mk (shut_bool Tryd.underlying4 _) (trodAll_mk0)))

theorem fatLoops_row : Rows.FatLoopsSaid :=
  OpenClaim.holds_of_wide 4 Tryd.f4 rfl rfl rfl rfl rfl rfl rfl ⟨rfl, rfl, rfl, rfl, rfl⟩ rfl rfl rfl rfl rfl (by kernel_rfl) Tryd.func4 (by kernel_rfl)
    (of_decide_eq_true (by kernel_rfl)) (by unfold Func.isWrapper; first | (rw [if_pos (by decide +kernel)]; kernel_rfl) | (rw [if_neg (by decide +kernel)]; exact ⟨rfl, rfl⟩))
    (fun os started H enc _ => fatLoops_lifted os started H enc)

theorem fatLoops_holds : Rows.FatLoopsCardSaid :=
  Claim7.holds_tied_plain_at .later [] [.data, .data] true (true, "5a8e68b94aa45cd3da70c09dcd652d1070f06dc8d5c90b5cc3b4f9a891745c97") false
    fatLoops_row (fun _ h => by cases h) (by kernel_rfl) (fun _ h => by cases h) fatLoops_row_tie rfl ⟨rfl, rfl⟩ (by kernel_rfl) rfl
    (fun f fn hf hfn => by
      obtain rfl : f = 4 := Option.some.inj ((show Tryd.prog.funcNamed "fettle/fettlelaw16.FatLoops" = some 4 by kernel_rfl).symm.trans hf) |>.symm
      obtain rfl : fn = Tryd.f4 := (Option.some.inj (Tryd.func4.symm.trans hfn)).symm
      exact ⟨by kernel_rfl, fun j t ht => by
        rw [Tryd.params4] at ht
        have hm : t ∈ [3, 3, 4] := by simpa using Array.mem_of_getElem? ht
        have hall : ([3, 3, 4].all fun u => !Tryd.prog.wantsStandIn u) = true := by kernel_rfl
        exact (show Tryd.prog.wantsStandIn t = false by simpa using List.all_eq_true.1 hall t hm)⟩)
    (by kernel_rfl)
end Go.Proofs.YthhodmiobpocbaaDoor.Oct
