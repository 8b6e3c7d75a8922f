/- ExtRows: a group's row, and an inode, are read, and a row is written. -/
import Derived.Test.YtjmajjfknmjifaaDoorEyq
import Derived.Test.YtjmajjfknmjifaaDoorEyo
namespace Go.Proofs.YtjmajjfknmjifaaDoor.Oct
open Go.RowKit

theorem sameE (a a' : Option Addr) (c c' : Nat) (l : List Int) (w : World) (h : Lies w a l) (h' : Lies w a' l) (hb : Byts l) :
    Calls Tryd.prog 13 #[.slice a l.length c, .slice a' l.length c'] w fun e w' => e = .returned (.bool true) ∧ w' = w := by
  have := Same_any a a' c c' l l w h h' hb hb
  rw [decide_eq_true rfl] at this
  exact this

theorem inE_any (a : Option Addr) (len cap : Nat) (p n : Int) (w : World) (b : Bool) (hlen : len ≤ maxLen) (hp : p ≤ 9223372036854775807) (hp2 : -9223372036854775808 ≤ p) (hb : thereB len p n = b) :
    Calls Tryd.prog 19 #[.slice a len cap, .int .i64 p, .int .i64 n] w fun e w' => e = .returned (.bool b) ∧ w' = w := by
  have := In_any a len cap p n w hlen hp hp2
  rwa [hb] at this

theorem exec_load_row {P : Program} {o : Oper} {a : Act} {w : World} (ty : TypeId) (x : Operand) (ho : o.op = .load ty x) (g : Nat) (hx : a.eval x = .pointer (some ⟨g, 0, none⟩)) (t : TypeId) (cs : Array Value) (fr : Nat × Nat) (d : TypeDesc) (hg : w.heap[g]? = some (.cells cs t fr))
    (hu : P.underlying ty = some d) (hd : (match d with | .struct _ | .array _ _ => true | _ => false) = true) (hi : (P.info? ty).map (·.size) = some cs.size) : (execOp a.eval o).run P w = .ok (.value (.agg cs)) w := by
  unfold execOp
  simp only [ho, hx, Instr.loadAt, Instr.sureAddr, Sem.run_bind, Sem.run_pure, Result.andThen_ok, run_loadVar_row w g t ty cs fr d hg hu hd hi]

theorem OwnZ.row {w : World} {B : Nat} {v : Value} {L : List Int} (h : OwnZ w B v L) (hL : L ≠ []) : ∃ g cap, v = .slice (some ⟨g, 0, none⟩) L.length cap ∧ B ≤ g ∧ ∀ (j : Nat) z, L[j]? = some z → w.cell? ⟨g, j, none⟩ = some (.int .i64 z) := by
  have h0 := h
  rcases h.2 with ⟨rfl, hn⟩ | ⟨g, cap, cur, rfl, hg, _⟩
  · exact absurd (List.length_eq_zero_iff.1 hn) hL
  · refine ⟨g, cap, rfl, hg, fun j z hz => ?_⟩
    have := World.ownsRow.cells (g := g) h0 rfl j (.int .i64 z) (by simp [hz])
    rw [Go.WideShapes.add_plain, Nat.zero_add] at this
    exact this

theorem Byts.rwB {l : List Int} (h : Byts l) (r : Rw) (q : Nat) : Byts (Oct.rwB r l q) := by
  unfold Oct.rwB
  rw [rwP, rwP, rwP, rwP, rwP, rwP, rwP]
  exact (((((h.putN _ _ _).putN _ _ _).putN _ _ _).putN _ _ _).putN _ _ _).putN _ _ _

theorem inE_size (l : List Int) (p : Int) : ((inE l p).1.cs).size = 18 ∧ ((inE l p).1.cs).all (·.oneCell') = true := by
  unfold inE
  split
  · exact ⟨Ind.size_cs _ _ _ _ (atsL_len _ _), Ind.one_cs _ _ _ _⟩
  · exact ⟨rfl, Ind.one_cs _ _ _ _⟩

set_option maxHeartbeats 16000000 in
set_option maxRecDepth 100000 in
theorem erows_walk (HMd : ∀ u, VarX u → Calls Tryd.prog 7 #[] u fun e w' => e = .returned (.bool true) ∧ Below u.heap.size u w') (r : Rw) (a : Option Addr) (cap : Nat) (l : List Int) (p : Int) (w : World) (hb : Byts l) (hs : Sl w a cap l) (hp : p ≤ 9223372036854775807) (hp2 : -9223372036854775808 ≤ p) (hV : VarX w) :
    Calls Tryd.prog 4 #[.slice a l.length cap, .int .i64 p, .agg r.cs] w fun e w' => e = .returned (.bool true) ∧ Below w.heap.size w w' := by
  obtain ⟨x0, x1, x2, x3, x4, x5⟩ := r
  unfold Rw.cs
  obtain ⟨w1, hw1⟩ : ∃ w1, w1 = (w.alloc (.cells #[.int .i64 x0, .int .i64 x1, .int .i64 x2, .int .i64 x3, .int .i64 x4, .int .i64 x5] 41)) := ⟨_, rfl⟩
  have hb1 : Below w.heap.size w w1 := by rw [hw1]; exact (Below.refl _ _).alloc (Nat.le_refl _) _
  have HI := hide (show Blk w1 w.heap.size #[.int .i64 x0, .int .i64 x1, .int .i64 x2, .int .i64 x3, .int .i64 x4, .int .i64 x5] 41 by rw [hw1]; exact Blk.new _ _ _)
  have HW1 := hide hw1
  have HB := hide hb1
  have HV := hide (hV.below hb1)
  have HS := hide (hs.below hb1)
  have HBy := hide hb
  have HP := hide (And.intro hp hp2)
  clear hV hb1 hs hb hp hp2
  by_cases h6 : 500 < l.length
  · have HM := hide (HMd w1 HV.out)
    have hd : decide ((500 : Int) < (l.length : Int)) = true := by simp; omega
    obtain ⟨n, hn⟩ : ∃ n, n = l.length := ⟨_, rfl⟩
    rw [← hn] at hd ⊢
    clear hn h6 hw1 HMd
    go_enter Tryd.func4, Tryd.ntmps4
    go_wp2_with fail
    rw [← HW1.out]
    refine HM.out.mono ?_
    rintro e9 w2 ⟨rfl, hb2⟩
    have HB := hide (HB.out.trans (hb2.mono HB.out.size))
    clear hb2
    go_wp2_with fail
    go_ret
    exact ⟨rfl, HB.out⟩
  have hd : decide ((500 : Int) < (l.length : Int)) = false := by simp; omega
  have HMd := hide HMd
  have HL6 := hide (show l.length ≤ 500 by omega)
  obtain ⟨n, hn⟩ : ∃ n, n = l.length := ⟨_, rfl⟩
  have HN := hide hn
  rw [← hn] at hd ⊢
  obtain ⟨w2, hw2⟩ : ∃ w2, w2 = (w1.alloc (.cells #[.int .i64 x0, .int .i64 x1, .int .i64 x2, .int .i64 x3, .int .i64 x4, .int .i64 x5] 2)) := ⟨_, rfl⟩
  obtain ⟨G, hG⟩ : ∃ G, G = w.heap.size + 1 := ⟨_, rfl⟩
  have hG2 : G = w1.heap.size := by rw [hG, hw1]; simp
  have hb2 : Below w1.heap.size w1 w2 := by rw [hw2]; exact (Below.refl _ _).alloc (Nat.le_refl _) _
  have HJ := hide (show Blk w2 G #[.int .i64 x0, .int .i64 x1, .int .i64 x2, .int .i64 x3, .int .i64 x4, .int .i64 x5] 2 by rw [hw2, hG2]; exact Blk.new _ _ _)
  have HI2 := hide (HI.out.below hb2)
  have HB2 := hide (HB.out.trans (hb2.mono HB.out.size))
  have HW2 := hide hw2
  have HG := hide hG
  have c0 := HI.out.cell 0 _ rfl
  have c1 := HI.out.cell 1 _ rfl
  have c2 := HI.out.cell 2 _ rfl
  have c3 := HI.out.cell 3 _ rfl
  have c4 := HI.out.cell 4 _ rfl
  have c5 := HI.out.cell 5 _ rfl
  rw [hw1] at c0 c1 c2 c3 c4 c5
  clear hn h6 hw2 hG hG2 hb2 hw1
  go_enter Tryd.func4, Tryd.ntmps4
  go_wp2_with fail
  rw [← HW1.out, ← HW2.out, ← HG.out]
  clear c0 c1 c2 c3 c4 c5
  go_loopw [38] (fun i wr => ∃ j : Nat, j ≤ 6 ∧ i = .int .i64 (j : Int) ∧ Blk wr w.heap.size #[.int .i64 x0, .int .i64 x1, .int .i64 x2, .int .i64 x3, .int .i64 x4, .int .i64 x5] 41 ∧ Blk wr G #[.int .i64 x0, .int .i64 x1, .int .i64 x2, .int .i64 x3, .int .i64 x4, .int .i64 x5] 2 ∧ Below w.heap.size w wr ∧ Below w1.heap.size w1 wr ∧ ∀ i : Nat, i < j → 0 ≤ [x0, x1, x2, x3, x4, x5].getD i 0 ∧ [x0, x1, x2, x3, x4, x5].getD i 0 ≤ 65535) (fun i _ => 6 - (intOf i).toNat)
  case atStart => exact ⟨0, by omega, rfl, HI2.out, HJ.out, HB2.out, by rw [HW2.out]; exact (Below.refl _ _).alloc (Nat.le_refl _) _, fun i hi => by omega⟩
  case round =>
    obtain ⟨j, hj, rfl, hi, hg, hbr, hb1r, hfit⟩ := hrel
    have HI := hide hi
    have HJ := hide hg
    have HB := hide hbr
    have HV := hide (HV.out.below hb1r)
    have HS := hide (HS.out.below hb1r)
    have HF := hide hfit
    have HB1 := hide hb1r
    have c0 := hg.cell 0 _ rfl
    have c1 := hg.cell 1 _ rfl
    have c2 := hg.cell 2 _ rfl
    have c3 := hg.cell 3 _ rfl
    have c4 := hg.cell 4 _ rfl
    have c5 := hg.cell 5 _ rfl
    clear hi hg hbr hb1r hfit HI2 HB2
    have hj6 : j = 0 ∨ j = 1 ∨ j = 2 ∨ j = 3 ∨ j = 4 ∨ j = 5 ∨ j = 6 := by omega
    rcases hj6 with rfl | rfl | rfl | rfl | rfl | rfl | rfl
    · cases h1 : decide (x0 < 0)
      · cases h2 : decide (65535 < x0)
        · go_wp2_with fail
          go_roundw
          case rel =>
            refine ⟨1, by omega, by go_num, HI.out, HJ.out, HB.out, HB1.out, fun i hi => ?_⟩
            by_cases e : i < 0
            · exact HF.out i e
            · obtain rfl : i = 0 := by omega
              have k1 := of_decide_eq_false h1
              have k2 := of_decide_eq_false h2
              show 0 ≤ x0 ∧ x0 ≤ 65535
              omega
          case measure => simp [intOf]
        · skip
          go_wp2_with fail
          refine (HMd.out _ HV.out).mono ?_
          rintro e9 w3 ⟨rfl, hb3⟩
          have HB := hide (HB.out.trans (hb3.mono HB.out.size))
          clear hb3
          go_wp2_with fail
          go_ret
          exact ⟨rfl, HB.out⟩
      · skip
        go_wp2_with fail
        refine (HMd.out _ HV.out).mono ?_
        rintro e9 w3 ⟨rfl, hb3⟩
        have HB := hide (HB.out.trans (hb3.mono HB.out.size))
        clear hb3
        go_wp2_with fail
        go_ret
        exact ⟨rfl, HB.out⟩
    · cases h1 : decide (x1 < 0)
      · cases h2 : decide (65535 < x1)
        · go_wp2_with fail
          go_roundw
          case rel =>
            refine ⟨2, by omega, by go_num, HI.out, HJ.out, HB.out, HB1.out, fun i hi => ?_⟩
            by_cases e : i < 1
            · exact HF.out i e
            · obtain rfl : i = 1 := by omega
              have k1 := of_decide_eq_false h1
              have k2 := of_decide_eq_false h2
              show 0 ≤ x1 ∧ x1 ≤ 65535
              omega
          case measure => simp [intOf]
        · skip
          go_wp2_with fail
          refine (HMd.out _ HV.out).mono ?_
          rintro e9 w3 ⟨rfl, hb3⟩
          have HB := hide (HB.out.trans (hb3.mono HB.out.size))
          clear hb3
          go_wp2_with fail
          go_ret
          exact ⟨rfl, HB.out⟩
      · skip
        go_wp2_with fail
        refine (HMd.out _ HV.out).mono ?_
        rintro e9 w3 ⟨rfl, hb3⟩
        have HB := hide (HB.out.trans (hb3.mono HB.out.size))
        clear hb3
        go_wp2_with fail
        go_ret
        exact ⟨rfl, HB.out⟩
    · cases h1 : decide (x2 < 0)
      · cases h2 : decide (65535 < x2)
        · go_wp2_with fail
          go_roundw
          case rel =>
            refine ⟨3, by omega, by go_num, HI.out, HJ.out, HB.out, HB1.out, fun i hi => ?_⟩
            by_cases e : i < 2
            · exact HF.out i e
            · obtain rfl : i = 2 := by omega
              have k1 := of_decide_eq_false h1
              have k2 := of_decide_eq_false h2
              show 0 ≤ x2 ∧ x2 ≤ 65535
              omega
          case measure => simp [intOf]
        · skip
          go_wp2_with fail
          refine (HMd.out _ HV.out).mono ?_
          rintro e9 w3 ⟨rfl, hb3⟩
          have HB := hide (HB.out.trans (hb3.mono HB.out.size))
          clear hb3
          go_wp2_with fail
          go_ret
          exact ⟨rfl, HB.out⟩
      · skip
        go_wp2_with fail
        refine (HMd.out _ HV.out).mono ?_
        rintro e9 w3 ⟨rfl, hb3⟩
        have HB := hide (HB.out.trans (hb3.mono HB.out.size))
        clear hb3
        go_wp2_with fail
        go_ret
        exact ⟨rfl, HB.out⟩
    · cases h1 : decide (x3 < 0)
      · cases h2 : decide (65535 < x3)
        · go_wp2_with fail
          go_roundw
          case rel =>
            refine ⟨4, by omega, by go_num, HI.out, HJ.out, HB.out, HB1.out, fun i hi => ?_⟩
            by_cases e : i < 3
            · exact HF.out i e
            · obtain rfl : i = 3 := by omega
              have k1 := of_decide_eq_false h1
              have k2 := of_decide_eq_false h2
              show 0 ≤ x3 ∧ x3 ≤ 65535
              omega
          case measure => simp [intOf]
        · skip
          go_wp2_with fail
          refine (HMd.out _ HV.out).mono ?_
          rintro e9 w3 ⟨rfl, hb3⟩
          have HB := hide (HB.out.trans (hb3.mono HB.out.size))
          clear hb3
          go_wp2_with fail
          go_ret
          exact ⟨rfl, HB.out⟩
      · skip
        go_wp2_with fail
        refine (HMd.out _ HV.out).mono ?_
        rintro e9 w3 ⟨rfl, hb3⟩
        have HB := hide (HB.out.trans (hb3.mono HB.out.size))
        clear hb3
        go_wp2_with fail
        go_ret
        exact ⟨rfl, HB.out⟩
    · cases h1 : decide (x4 < 0)
      · cases h2 : decide (65535 < x4)
        · go_wp2_with fail
          go_roundw
          case rel =>
            refine ⟨5, by omega, by go_num, HI.out, HJ.out, HB.out, HB1.out, fun i hi => ?_⟩
            by_cases e : i < 4
            · exact HF.out i e
            · obtain rfl : i = 4 := by omega
              have k1 := of_decide_eq_false h1
              have k2 := of_decide_eq_false h2
              show 0 ≤ x4 ∧ x4 ≤ 65535
              omega
          case measure => simp [intOf]
        · skip
          go_wp2_with fail
          refine (HMd.out _ HV.out).mono ?_
          rintro e9 w3 ⟨rfl, hb3⟩
          have HB := hide (HB.out.trans (hb3.mono HB.out.size))
          clear hb3
          go_wp2_with fail
          go_ret
          exact ⟨rfl, HB.out⟩
      · skip
        go_wp2_with fail
        refine (HMd.out _ HV.out).mono ?_
        rintro e9 w3 ⟨rfl, hb3⟩
        have HB := hide (HB.out.trans (hb3.mono HB.out.size))
        clear hb3
        go_wp2_with fail
        go_ret
        exact ⟨rfl, HB.out⟩
    · cases h1 : decide (x5 < 0)
      · cases h2 : decide (65535 < x5)
        · go_wp2_with fail
          go_roundw
          case rel =>
            refine ⟨6, by omega, by go_num, HI.out, HJ.out, HB.out, HB1.out, fun i hi => ?_⟩
            by_cases e : i < 5
            · exact HF.out i e
            · obtain rfl : i = 5 := by omega
              have k1 := of_decide_eq_false h1
              have k2 := of_decide_eq_false h2
              show 0 ≤ x5 ∧ x5 ≤ 65535
              omega
          case measure => simp [intOf]
        · skip
          go_wp2_with fail
          refine (HMd.out _ HV.out).mono ?_
          rintro e9 w3 ⟨rfl, hb3⟩
          have HB := hide (HB.out.trans (hb3.mono HB.out.size))
          clear hb3
          go_wp2_with fail
          go_ret
          exact ⟨rfl, HB.out⟩
      · skip
        go_wp2_with fail
        refine (HMd.out _ HV.out).mono ?_
        rintro e9 w3 ⟨rfl, hb3⟩
        have HB := hide (HB.out.trans (hb3.mono HB.out.size))
        clear hb3
        go_wp2_with fail
        go_ret
        exact ⟨rfl, HB.out⟩
    · have HFt := hide (show (Rw.mk x0 x1 x2 x3 x4 x5).fits from ⟨HF.out 0 (by omega), HF.out 1 (by omega), HF.out 2 (by omega), HF.out 3 (by omega), HF.out 4 (by omega), HF.out 5 (by omega)⟩)
      clear c0 c1 c2 c3 c4 c5 HF HJ HB1 hj
      have HLn := hide (show n ≤ 500 by rw [HN.out]; exact HL6.out)
      obtain ⟨iv, hiv⟩ : ∃ iv, iv = inE l p := ⟨_, rfl⟩
      obtain ⟨rv, hrv⟩ : ∃ rv, rv = rwE l p := ⟨_, rfl⟩
      have HNd : ∀ u, Sl u a cap l → Hid (Calls Tryd.prog 17 #[.slice a n cap, .int .i64 p] u fun e w' => e = .returned (.tuple #[.agg iv.1.cs, .int .i64 iv.2]) ∧ Below u.heap.size u w') := fun u hu => hide (by rw [hiv, HN.out]; exact einode_any a cap l p u (by have := HL6.out; omega) HBy.out hu HP.out.1 HP.out.2)
      have HPr : Hid (Calls Tryd.prog 16 #[.slice a n cap, .int .i64 p] wr fun e w' => e = .returned (.tuple #[.agg rv.1.cs, .int .i64 rv.2]) ∧ Below wr.heap.size wr w') := hide (by rw [hrv, HN.out]; exact eprow_any a cap l p wr (by have := HL6.out; omega) HBy.out HS.out HP.out.1 HP.out.2)
      have H18 := hide (show iv.1.cs.size = 18 ∧ iv.1.cs.all (·.oneCell') = true by rw [hiv]; exact inE_size l p)
      obtain ⟨cs, hcs⟩ : ∃ cs, cs = iv.1.cs := ⟨_, rfl⟩
      obtain ⟨e2, he2⟩ : ∃ e2, e2 = iv.2 := ⟨_, rfl⟩
      rw [← hcs] at H18
      simp only [← hcs, ← he2] at HNd
      have HIv := hide (show cs = (inE l p).1.cs ∧ e2 = (inE l p).2 by rw [← hiv]; exact ⟨hcs, he2⟩)
      obtain ⟨⟨y0, y1, y2, y3, y4, y5⟩, e1⟩ := rv
      unfold Rw.cs at HPr
      dsimp only at HPr
      have HRv := hide hrv
      clear hiv hrv hcs he2
      have HNd := hide HNd
      go_wp2_with fail
      refine HPr.out.mono ?_
      rintro e9 w3 ⟨rfl, hb3⟩
      clear HPr
      have HI := hide (HI.out.below hb3)
      have HV := hide (HV.out.below hb3)
      have HS := hide (HS.out.below hb3)
      have HB := hide (HB.out.trans (hb3.mono HB.out.size))
      clear hb3
      obtain ⟨w4, hw4⟩ : ∃ w4, w4 = w3.alloc (.cells #[.int .i64 y0, .int .i64 y1, .int .i64 y2, .int .i64 y3, .int .i64 y4, .int .i64 y5] 41) := ⟨_, rfl⟩
      have hb4 : Below w3.heap.size w3 w4 := by rw [hw4]; exact (Below.refl _ _).alloc (Nat.le_refl _) _
      have HY := hide (show Blk w4 w3.heap.size #[.int .i64 y0, .int .i64 y1, .int .i64 y2, .int .i64 y3, .int .i64 y4, .int .i64 y5] 41 by rw [hw4]; exact Blk.new _ _ _)
      have HI := hide (HI.out.below hb4)
      have HV := hide (HV.out.below hb4)
      have HS := hide (HS.out.below hb4)
      have HB := hide (HB.out.trans (hb4.mono HB.out.size))
      have HW4 := hide hw4
      clear hb4 hw4
      go_wp2_with fail
      rw [← HW4.out]
      refine (HNd.out _ HS.out).out.mono ?_
      rintro e9 w5 ⟨rfl, hb5⟩
      have HI := hide (HI.out.below hb5)
      have HY := hide (HY.out.below hb5)
      have HV := hide (HV.out.below hb5)
      have HS := hide (HS.out.below hb5)
      have HB := hide (HB.out.trans (hb5.mono HB.out.size))
      clear hb5 HW4 HNd
      obtain ⟨w6, hw6⟩ : ∃ w6, w6 = (w5.alloc (.cells #[.int .i64 0, .int .i64 0, .int .i64 0, .int .i64 0, .int .i64 0, .int .i64 0, .int .i64 0, .int .i64 0, .int .i64 0, .int .i64 0, .int .i64 0, .int .i64 0, .int .i64 0, .int .i64 0, .int .i64 0, .int .i64 0, .int .i64 0, .int .i64 0] 47)).setRow w5.heap.size cs := ⟨_, rfl⟩
      have hb6 : Below w5.heap.size w5 w6 := by rw [hw6]; exact setrow_below ((Below.refl _ _).alloc (Nat.le_refl _) _) (Nat.le_refl _)
      have HZ6 := hide (Blk.new w5 #[.int .i64 0, .int .i64 0, .int .i64 0, .int .i64 0, .int .i64 0, .int .i64 0, .int .i64 0, .int .i64 0, .int .i64 0, .int .i64 0, .int .i64 0, .int .i64 0, .int .i64 0, .int .i64 0, .int .i64 0, .int .i64 0, .int .i64 0, .int .i64 0] 47)
      have HX := hide (show Blk w6 w5.heap.size cs 47 by rw [hw6]; exact setrow_blk (Blk.new w5 #[.int .i64 0, .int .i64 0, .int .i64 0, .int .i64 0, .int .i64 0, .int .i64 0, .int .i64 0, .int .i64 0, .int .i64 0, .int .i64 0, .int .i64 0, .int .i64 0, .int .i64 0, .int .i64 0, .int .i64 0, .int .i64 0, .int .i64 0, .int .i64 0] 47))
      have HI := hide (HI.out.below hb6)
      have HY := hide (HY.out.below hb6)
      have HV := hide (HV.out.below hb6)
      have HS := hide (HS.out.below hb6)
      have HB := hide (HB.out.trans (hb6.mono HB.out.size))
      have HW6 := hide hw6
      have H1i : Hid ((Tryd.prog.info? 47).map (·.size) = some cs.size) := hide (by rw [H18.out.1]; kernel_rfl)
      have HZs : Hid ((#[.int .i64 0, .int .i64 0, .int .i64 0, .int .i64 0, .int .i64 0, .int .i64 0, .int .i64 0, .int .i64 0, .int .i64 0, .int .i64 0, .int .i64 0, .int .i64 0, .int .i64 0, .int .i64 0, .int .i64 0, .int .i64 0, .int .i64 0, .int .i64 0] : Array Value).size = cs.size) := hide (by rw [H18.out.1]; rfl)
      clear hb6 hw6
      have HPt := hide (Part_any a cap l w6 (by have := HL6.out; omega) HS.out)
      rw [← HN.out] at HPt
      go_wp2_with (refine wpList_at (.store 47 (.tmp 11) (.tmp 60)) rfl ?_; refine wpList_store_row rfl 47 (.tmp 11) (.tmp 60) rfl w5.heap.size cs rfl rfl 47 #[.int .i64 0, .int .i64 0, .int .i64 0, .int .i64 0, .int .i64 0, .int .i64 0, .int .i64 0, .int .i64 0, .int .i64 0, .int .i64 0, .int .i64 0, .int .i64 0, .int .i64 0, .int .i64 0, .int .i64 0, .int .i64 0, .int .i64 0, .int .i64 0] HZ6.out H1i.out HZs.out H18.out.2 ?_)
      rw [← HW6.out]
      refine HPt.out.mono ?_
      rintro e9 w7 ⟨v7, rfl, ho7, hb7⟩
      obtain ⟨a7, c7, hv7, hs7, hne7⟩ := ho7.sl
      rw [← HN.out] at hv7
      subst hv7
      have HO7 := hide ho7
      have HS7 := hide hs7
      have HNe := hide hne7
      have HI6 := HI
      have HY6 := HY
      have HX6 := HX
      have HV6 := HV
      have HS6 := HS
      have HB6 := HB
      have H67 := hide hb7
      have HI := hide (HI.out.below hb7)
      have HY := hide (HY.out.below hb7)
      have HX := hide (HX.out.below hb7)
      have HV := hide (HV.out.below hb7)
      have HS := hide (HS.out.below hb7)
      have HB := hide (HB.out.trans (hb7.mono HB.out.size))
      clear hb7 ho7 hs7 hne7 HPt HW6 HZ6 H1i HZs
      have c0 := HI.out.cell 0 _ rfl
      have c1 := HI.out.cell 1 _ rfl
      have c2 := HI.out.cell 2 _ rfl
      have c3 := HI.out.cell 3 _ rfl
      have c4 := HI.out.cell 4 _ rfl
      have c5 := HI.out.cell 5 _ rfl
      by_cases hin : 0 ≤ p ∧ 32 ≤ (l.length : Int) - p
      rotate_left
      · -- the row isn't there
        have hRv := HRv.out
        rw [rwE, if_neg hin] at hRv
        simp [Rw.z] at hRv
        obtain ⟨⟨rfl, rfl, rfl, rfl, rfl, rfl⟩, rfl⟩ := hRv
        have hIv := HIv.out.2
        rw [inE, if_neg (by omega)] at hIv
        obtain rfl : e2 = 4 := hIv
        have HNo := hide (rwput_no (Rw.mk x0 x1 x2 x3 x4 x5) a7 n c7 p w7 (by have := HLn.out; unfold maxLen; omega) HP.out.1 HP.out.2 (by rw [HN.out]; exact hin))
        have HIn := fun u => hide (inE_any a n cap p 32 u false (by have := HLn.out; unfold maxLen; omega) HP.out.1 HP.out.2 (thereB_no (by rw [HN.out]; intro c; exact hin ⟨c.1, c.2.2⟩)))
        have HSm := fun (u : World) (h1 : Lies u a7 l) (h2 : Lies u a l) => hide (sameE a7 a c7 cap l u h1 h2 HBy.out)
        rw [← HN.out] at HSm
        have HC := hide HS7.out.lies
        have HL := hide HS.out.lies
        have HIn := hide HIn
        have HSm := hide HSm
        have hq := fun u => eql_Rw u Rw.z
        have hgd := fun (u : World) (p q : Operand) => guard_Rw u .eql p q Rw.z.cs Rw.z.cs
        dsimp only [Rw.cs, Rw.z] at hq hgd
        clear hin
        go_wp2_with fail
        refine HNo.out.mono ?_
        rintro e9 w8 ⟨rfl, hb8⟩
        have HY := hide (HY.out.below hb8)
        have HV := hide (HV.out.below hb8)
        have HL := hide (HL.out.below hb8)
        have HC := hide (HC.out.below hb8)
        have HB := hide (HB.out.trans (hb8.mono HB.out.size))
        clear hb8 c0 c1 c2 c3 c4 c5 HNo
        go_wp2_with fail
        refine (HIn.out _).out.mono ?_
        rintro e9 w9 ⟨rfl, h9⟩
        rw [h9]
        clear h9
        go_wp2_with fail
        refine (HMd.out _ HV.out).mono ?_
        rintro e9 w9 ⟨rfl, hb9⟩
        have HY := hide (HY.out.below hb9)
        have HL := hide (HL.out.below hb9)
        have HC := hide (HC.out.below hb9)
        have HB := hide (HB.out.trans (hb9.mono HB.out.size))
        clear hb9
        go_wp2_with fail
        refine (HSm.out _ HC.out HL.out).out.mono ?_
        rintro e9 w10 ⟨rfl, h10⟩
        rw [h10]
        clear h10
        have d0 := HY.out.cell 0 _ rfl
        have d1 := HY.out.cell 1 _ rfl
        have d2 := HY.out.cell 2 _ rfl
        have d3 := HY.out.cell 3 _ rfl
        have d4 := HY.out.cell 4 _ rfl
        have d5 := HY.out.cell 5 _ rfl
        go_wp2_with fail
        go_ret
        exact ⟨rfl, HB.out⟩
      · obtain ⟨q, rfl⟩ : ∃ q : Nat, p = q := ⟨p.toNat, by omega⟩
        have hqn : q + 32 ≤ l.length := by omega
        have hqn2 : (q : Int) ≤ 500 := by have := HL6.out; omega
        have hRv := HRv.out
        rw [rwE, if_pos hin, Int.toNat_natCast] at hRv
        obtain ⟨hRw, rfl⟩ : (Rw.mk y0 y1 y2 y3 y4 y5) = rwOf ((l.drop q).take 32) ∧ e1 = 0 := by injection hRv with k1 k2; exact ⟨k1, k2⟩
        obtain ⟨g, rfl, hg1, hg2⟩ := HNe.out (by intro e; rw [e] at hqn; simp at hqn)
        have HPu := hide (rwput_yes (Rw.mk x0 x1 x2 x3 x4 x5) w6.heap.size g c7 l q w7 (by have := HL6.out; omega) HFt.out hqn (by have := H67.out.size; omega) (by have := HO7.out; rw [HN.out] at this; exact this))
        have HRr : ∀ u, Lies u a l → Hid (Calls Tryd.prog 20 #[.slice a n cap, .int .i64 (q : Int)] u fun e w' => e = .returned (.agg #[.int .i64 y0, .int .i64 y1, .int .i64 y2, .int .i64 y3, .int .i64 y4, .int .i64 y5]) ∧ Below u.heap.size u w') := fun u hu => hide (by
          have h := rrow_any a cap l q u (by have := HL6.out; omega) HBy.out hu hqn
          rw [← hRw, ← HN.out] at h
          exact h)
        have HIn := fun u => hide (inE_any a n cap (q : Int) 32 u true (by have := HLn.out; unfold maxLen; omega) HP.out.1 HP.out.2 (thereB_yes (by omega) (by omega) (by rw [HN.out]; omega)))
        have HPB : ∀ u c, Sl u (some ⟨g, 0, none⟩) c (rwB (Rw.mk x0 x1 x2 x3 x4 x5) l q) → Hid (Calls Tryd.prog 16 #[.slice (some ⟨g, 0, none⟩) n c, .int .i64 (q : Int)] u fun e w' => e = .returned (.tuple #[.agg #[.int .i64 x0, .int .i64 x1, .int .i64 x2, .int .i64 x3, .int .i64 x4, .int .i64 x5], .int .i64 0]) ∧ Below u.heap.size u w') := fun u c hu => hide (by
          have h := eprow_any (some ⟨g, 0, none⟩) c (rwB (Rw.mk x0 x1 x2 x3 x4 x5) l q) (q : Int) u (by rw [rwB_len]; have := HL6.out; omega) (HBy.out.rwB _ _) hu HP.out.1 HP.out.2
          rw [rwE, if_pos (by rw [rwB_len]; exact hin), Int.toNat_natCast, rw_back _ _ _ HFt.out hqn, rwB_len, ← HN.out] at h
          exact h)
        have HPW : ∀ u, Sl u a cap l → Hid (Calls Tryd.prog 21 #[.slice a n cap, .int .i64 (q : Int), .agg #[.int .i64 x0, .int .i64 x1, .int .i64 x2, .int .i64 x3, .int .i64 x4, .int .i64 x5]] u fun e w' => ∃ v, e = .returned v ∧ Own w' u.heap.size v (rwB (Rw.mk x0 x1 x2 x3 x4 x5) l q) ∧ Below u.heap.size u w') := fun u hu => hide (by
          have h := rputrow_any (Rw.mk x0 x1 x2 x3 x4 x5) a cap l q u (by have := HL6.out; omega) HFt.out hqn hu
          rw [← HN.out] at h
          exact h)
        have HSm := fun (a' : Option Addr) (c c' : Nat) (u : World) (h1 : Lies u (some ⟨g, 0, none⟩) (rwB (Rw.mk x0 x1 x2 x3 x4 x5) l q)) (h2 : Lies u a' (rwB (Rw.mk x0 x1 x2 x3 x4 x5) l q)) => hide (sameE (some ⟨g, 0, none⟩) a' c c' (rwB (Rw.mk x0 x1 x2 x3 x4 x5) l q) u h1 h2 (HBy.out.rwB _ _))
        rw [rwB_len, ← HN.out] at HSm
        have HLB := hide (show (rwB (Rw.mk x0 x1 x2 x3 x4 x5) l q).length = n by rw [rwB_len]; exact HN.out.symm)
        have HRr := hide HRr
        have HIn := hide HIn
        have HPB := hide HPB
        have HPW := hide HPW
        have HSm := hide HSm
        have HQn := hide (And.intro hqn hqn2)
        have HGg := hide (And.intro hg1 hg2)
        rw [← HN.out] at HPu
        clear hin hRv hRw hqn hqn2 hg1 hg2 HRv
        go_wp2_with fail
        refine HPu.out.mono ?_
        rintro e9 w8 ⟨rfl, ho8, hc8⟩
        have h68 : Below w6.heap.size w6 w8 := H67.out.trans (Chg.below w6.heap.size hc8 H67.out.size (fun i hi e => by have := HGg.out.1; have := Option.some.inj e; omega))
        obtain ⟨a8, c8, e8, hs8, _⟩ := ho8.sl
        rw [HLB.out] at e8
        obtain ⟨rfl, rfl⟩ : some ⟨g, 0, none⟩ = a8 ∧ c7 = c8 := by injection e8 with k1 k2 k3; exact ⟨k1, k3⟩
        have HC := hide hs8
        have HI := hide (HI6.out.below h68)
        have HY := hide (HY6.out.below h68)
        have HX := hide (HX6.out.below h68)
        have HV := hide (HV6.out.below h68)
        have HS := hide (HS6.out.below h68)
        have HB := hide (HB6.out.trans (h68.mono HB6.out.size))
        clear h68 hc8 ho8 hs8 e8 c0 c1 c2 c3 c4 c5 HPu HI6 HY6 HX6 HV6 HS6 HB6 H67 HO7 HS7 HNe
        go_wp2_with fail
        refine (HIn.out _).out.mono ?_
        rintro e9 w9 ⟨rfl, h9⟩
        rw [h9]
        clear h9
        go_wp2_with fail
        refine (HRr.out _ HS.out.lies).out.mono ?_
        rintro e9 w9 ⟨rfl, hb9⟩
        have HI := hide (HI.out.below hb9)
        have HY := hide (HY.out.below hb9)
        have HX := hide (HX.out.below hb9)
        have HV := hide (HV.out.below hb9)
        have HS := hide (HS.out.below hb9)
        have HC := hide (HC.out.below hb9)
        have HB := hide (HB.out.trans (hb9.mono HB.out.size))
        clear hb9
        obtain ⟨w10, hw10⟩ : ∃ w10, w10 = w9.alloc (.cells #[.int .i64 y0, .int .i64 y1, .int .i64 y2, .int .i64 y3, .int .i64 y4, .int .i64 y5] 52) := ⟨_, rfl⟩
        have hb10 : Below w9.heap.size w9 w10 := by rw [hw10]; exact (Below.refl _ _).alloc (Nat.le_refl _) _
        have HT := hide (show Blk w10 w9.heap.size #[.int .i64 y0, .int .i64 y1, .int .i64 y2, .int .i64 y3, .int .i64 y4, .int .i64 y5] 52 by rw [hw10]; exact Blk.new _ _ _)
        have HW10 := hide hw10
        have HI := hide (HI.out.below hb10)
        have HY := hide (HY.out.below hb10)
        have HX := hide (HX.out.below hb10)
        have HV := hide (HV.out.below hb10)
        have HS := hide (HS.out.below hb10)
        have HC := hide (HC.out.below hb10)
        have HB := hide (HB.out.trans (hb10.mono HB.out.size))
        clear hb10 hw10
        go_wp2_with fail
        rw [← HW10.out]
        refine (HMd.out _ HV.out).mono ?_
        rintro e9 w11 ⟨rfl, hb11⟩
        have HI := hide (HI.out.below hb11)
        have HY := hide (HY.out.below hb11)
        have HX := hide (HX.out.below hb11)
        have HV := hide (HV.out.below hb11)
        have HS := hide (HS.out.below hb11)
        have HC := hide (HC.out.below hb11)
        have HT := hide (HT.out.below hb11)
        have HB := hide (HB.out.trans (hb11.mono HB.out.size))
        clear hb11
        have d0 := HY.out.cell 0 _ rfl
        have t0 := HT.out.cell 0 _ rfl
        have d1 := HY.out.cell 1 _ rfl
        have t1 := HT.out.cell 1 _ rfl
        have d2 := HY.out.cell 2 _ rfl
        have t2 := HT.out.cell 2 _ rfl
        have d3 := HY.out.cell 3 _ rfl
        have t3 := HT.out.cell 3 _ rfl
        have d4 := HY.out.cell 4 _ rfl
        have t4 := HT.out.cell 4 _ rfl
        have d5 := HY.out.cell 5 _ rfl
        have t5 := HT.out.cell 5 _ rfl
        have hq := fun u => neq_Rw u (Rw.mk y0 y1 y2 y3 y4 y5)
        have hgd := fun (u : World) (p q : Operand) => guard_Rw u .neq p q #[.int .i64 y0, .int .i64 y1, .int .i64 y2, .int .i64 y3, .int .i64 y4, .int .i64 y5] #[.int .i64 y0, .int .i64 y1, .int .i64 y2, .int .i64 y3, .int .i64 y4, .int .i64 y5]
        dsimp only [Rw.cs] at hq
        go_wp2_with fail
        clear hq hgd d0 d1 d2 d3 d4 d5 t0 t1 t2 t3 t4 t5
        refine (HPB.out _ _ HC.out).out.mono ?_
        rintro e9 w12 ⟨rfl, hb12⟩
        have HI := hide (HI.out.below hb12)
        have HX := hide (HX.out.below hb12)
        have HV := hide (HV.out.below hb12)
        have HS := hide (HS.out.below hb12)
        have HC := hide (HC.out.below hb12)
        have HB := hide (HB.out.trans (hb12.mono HB.out.size))
        clear hb12
        obtain ⟨w13, hw13⟩ : ∃ w13, w13 = w12.alloc (.cells #[.int .i64 x0, .int .i64 x1, .int .i64 x2, .int .i64 x3, .int .i64 x4, .int .i64 x5] 41) := ⟨_, rfl⟩
        have hb13 : Below w12.heap.size w12 w13 := by rw [hw13]; exact (Below.refl _ _).alloc (Nat.le_refl _) _
        have HZ := hide (show Blk w13 w12.heap.size #[.int .i64 x0, .int .i64 x1, .int .i64 x2, .int .i64 x3, .int .i64 x4, .int .i64 x5] 41 by rw [hw13]; exact Blk.new _ _ _)
        have HW13 := hide hw13
        have HI := hide (HI.out.below hb13)
        have HX := hide (HX.out.below hb13)
        have HV := hide (HV.out.below hb13)
        have HS := hide (HS.out.below hb13)
        have HC := hide (HC.out.below hb13)
        have HB := hide (HB.out.trans (hb13.mono HB.out.size))
        have d0 := HZ.out.cell 0 _ rfl
        have t0 := HI.out.cell 0 _ rfl
        have d1 := HZ.out.cell 1 _ rfl
        have t1 := HI.out.cell 1 _ rfl
        have d2 := HZ.out.cell 2 _ rfl
        have t2 := HI.out.cell 2 _ rfl
        have d3 := HZ.out.cell 3 _ rfl
        have t3 := HI.out.cell 3 _ rfl
        have d4 := HZ.out.cell 4 _ rfl
        have t4 := HI.out.cell 4 _ rfl
        have d5 := HZ.out.cell 5 _ rfl
        have t5 := HI.out.cell 5 _ rfl
        rw [hw13] at d0 d1 d2 d3 d4 d5 t0 t1 t2 t3 t4 t5
        have hq := fun u => neq_Rw u (Rw.mk x0 x1 x2 x3 x4 x5)
        have hgd := fun (u : World) (p q : Operand) => guard_Rw u .neq p q #[.int .i64 x0, .int .i64 x1, .int .i64 x2, .int .i64 x3, .int .i64 x4, .int .i64 x5] #[.int .i64 x0, .int .i64 x1, .int .i64 x2, .int .i64 x3, .int .i64 x4, .int .i64 x5]
        dsimp only [Rw.cs] at hq
        clear hb13 hw13
        go_wp2_with fail
        rw [← HW13.out]
        clear hq hgd d0 d1 d2 d3 d4 d5 t0 t1 t2 t3 t4 t5
        refine (HPW.out _ HS.out).out.mono ?_
        rintro e9 w14 ⟨v14, rfl, ho14, hb14⟩
        obtain ⟨a14, c14, rfl, hs14, _⟩ := ho14.sl
        rw [HLB.out]
        have HD := hide hs14.lies
        have HX := hide (HX.out.below hb14)
        have HS := hide (HS.out.below hb14)
        have HC := hide (HC.out.below hb14)
        have HB := hide (HB.out.trans (hb14.mono HB.out.size))
        clear hb14 ho14 hs14
        go_wp2_with fail
        refine (HSm.out a14 c7 c14 _ HC.out.lies HD.out).out.mono ?_
        rintro e9 w15 ⟨rfl, h15⟩
        rw [h15]
        clear h15
        by_cases hi2 : (q : Int) + 128 ≤ l.length
        rotate_left
        · have HI2 := hide (inE_any a n cap (q : Int) 128 w14 false (by have := HLn.out; unfold maxLen; omega) HP.out.1 HP.out.2 (thereB_no (by rw [HN.out]; intro c; have := c.2.2; omega)))
          have hIv := HIv.out.2
          rw [inE, if_neg (by omega)] at hIv
          obtain rfl : e2 = 4 := hIv
          clear hi2
          go_wp2_with fail
          refine HI2.out.mono ?_
          rintro e9 w9 ⟨rfl, h9⟩
          rw [h9]
          clear h9
          go_wp2_with fail
          go_ret
          exact ⟨rfl, HB.out⟩
        · obtain ⟨m, hm⟩ : ∃ m, m = (l.drop q).take 128 := ⟨_, rfl⟩
          have hby : Byts m := by rw [hm]; exact (HBy.out.drop _).take _
          have hIv := HIv.out
          rw [inE, if_pos (by omega), Int.toNat_natCast, ← hm] at hIv
          have hN := rinode_any a cap l q
          rw [← hm, ← HN.out] at hN
          have hmo := num_lt m 0 hby 2
          obtain ⟨J, hJ⟩ : ∃ J, J = inOf m := ⟨_, rfl⟩
          rw [← hJ] at hIv hN
          have hla : J.ats.length = 15 := by rw [hJ]; exact atsL_len _ _
          have hmo : 0 ≤ J.mode ∧ J.mode < 65536 := by rw [hJ]; unfold inOf; simpa using hmo
          obtain ⟨mo, si, cn, ats⟩ := J
          obtain ⟨hcs, rfl⟩ := hIv
          dsimp only at hN hla hmo hcs
          have HI2 := hide (inE_any a n cap (q : Int) 128 w14 true (by have := HLn.out; unfold maxLen; omega) HP.out.1 HP.out.2 (thereB_yes (by omega) (by omega) (by rw [HN.out]; omega)))
          have HNd := hide (hN w14 (by have := HLn.out; omega) HBy.out HS.out.lies (by have := HN.out; omega))
          have hc0 : cs[0]? = some (.int .i64 mo) := by rw [hcs]; simp [Ind.cs]
          have hc1 : cs[1]? = some (.int .i64 si) := by rw [hcs]; simp [Ind.cs]
          have hc2 : cs[2]? = some (.int .i64 cn) := by rw [hcs]; simp [Ind.cs]
          have HCj := hide (show ∀ j, j < 15 → cs[3 + j]? = some (.int .i64 (ats.getD j 0)) from fun j hj => by rw [hcs]; exact Ind.cell_cs _ _ _ _ j (by rw [hla]; exact hj))
          have HC0 := hide (And.intro hc0 (And.intro hc1 hc2))
          have HLa := hide hla
          have HMo := hide hmo
          clear hi2 hm hby hN hJ hla hmo hcs hc0 hc1 hc2
          go_wp2_with fail
          refine HI2.out.mono ?_
          rintro e9 w9 ⟨rfl, h9⟩
          rw [h9]
          clear h9 HI2
          go_wp2_with fail
          refine HNd.out.mono ?_
          rintro e9 w16 ⟨v16, li, rfl, ho16, hb16⟩
          obtain ⟨b, c16, hv16, hbB, hcell⟩ := ho16.row (by intro e; have := HLa.out; rw [e] at this; simp at this)
          rw [HLa.out] at hv16
          subst hv16
          have HX := hide (HX.out.below hb16)
          have HB := hide (HB.out.trans (hb16.mono HB.out.size))
          have HXl := hide HX.out.lt
          obtain ⟨w17, hw17⟩ : ∃ w17, w17 = w16.alloc (.cells #[.int .i64 mo, .int .i64 si, .int .i64 cn, .int .i64 li, .slice (some ⟨b, 0, none⟩) 15 c16] 56) := ⟨_, rfl⟩
          have hb17 : Below w16.heap.size w16 w17 := by rw [hw17]; exact (Below.refl _ _).alloc (Nat.le_refl _) _
          have HT := hide (show Blk w17 w16.heap.size #[.int .i64 mo, .int .i64 si, .int .i64 cn, .int .i64 li, .slice (some ⟨b, 0, none⟩) 15 c16] 56 by rw [hw17]; exact Blk.new _ _ _)
          have HW17 := hide hw17
          have HX := hide (HX.out.below hb17)
          have HB := hide (HB.out.trans (hb17.mono HB.out.size))
          have HCe := hide (show ∀ j, j < 15 → w17.cell? ⟨b, j, none⟩ = some (.int .i64 (ats.getD j 0)) from fun j hj => by
            have h := hcell j (ats.getD j 0) (by rw [List.getD_eq_getElem?_getD, List.getElem?_eq_getElem (by rw [HLa.out]; exact hj)]; rfl)
            exact (hb17.cell (p := ⟨b, j, none⟩) (lt_of_cell h)).trans h)
          clear hb16 ho16 hbB hcell hb17 hw17 HNd
          have hd0 := HT.out.cell 4 _ rfl
          clear hd0
          go_wp2_with fail
          rw [← HW17.out]
          go_loopw [19] (fun i wr => ∃ j : Nat, j ≤ 15 ∧ i = .int .i64 (j : Int) ∧ Below w17.heap.size w17 wr) (fun i _ => 15 - (intOf i).toNat)
          case atStart => exact ⟨0, by omega, rfl, Below.refl _ _⟩
          case round =>
            obtain ⟨j, hj, rfl, hbj⟩ := hrel
            have HXj := hide (HX.out.below hbj)
            have HTj := hide (HT.out.below hbj)
            have HBj := hide hbj
            have HB := hide (HB.out.trans (hbj.mono HB.out.size))
            by_cases hlt : j < 15
            · have hx := HXj.out.cell (3 + j) _ (HCj.out j hlt)
              have ht := HTj.out.cell 4 _ rfl
              have he := (hbj.cell (p := ⟨b, j, none⟩) (lt_of_cell (HCe.out j hlt))).trans (HCe.out j hlt)
              generalize ats.getD j 0 = z at *
              have HJl := hide hlt
              have hltI : (j : Int) < 15 := by omega
              have q3 : IntKind.i64.wrap ((j : Int) + 1) = (j : Int) + 1 := by rw [IntKind.wrap_i64]; omega
              have HH := hide (And.intro hx (And.intro ht he))
              clear hx ht he hbj
              go_wp2_with fail
              refine wp_region_held_drew (S := (fun u => u.cell? ⟨w5.heap.size, 3 + j, none⟩ = some (.int .i64 z) ∧ u.cell? ⟨w16.heap.size, 4, none⟩ = some (.slice (some ⟨b, 0, none⟩) 15 c16) ∧ u.cell? ⟨b, j, none⟩ = some (.int .i64 z))) (by kernel_rfl) HH.out (fun _ => ?_)
              refine any_take 0 (some 174) (.int .i64 (j : Int)) rfl rfl (by kernel_rfl) (by kernel_rfl) (by kernel_rfl) (fun _ _ _ h => h) (by rfl) HH.out ?_ ?_
              · intro w hSw
                obtain ⟨s0, s1, s2⟩ := hSw
                go_simp
              simp only [Act.put, List.setIfInBounds_toArray, List.set_cons_zero, List.set_cons_succ]
              refine any_take 1 (some 175) (.pointer (some ⟨w5.heap.size, 3, none⟩)) rfl rfl (by kernel_rfl) (by kernel_rfl) (by kernel_rfl) (fun _ _ _ h => h) (by rfl) HH.out ?_ ?_
              · intro w hSw
                obtain ⟨s0, s1, s2⟩ := hSw
                go_simp
              simp only [Act.put, List.setIfInBounds_toArray, List.set_cons_zero, List.set_cons_succ]
              refine any_take 2 (some 176) (.pointer (some ⟨w5.heap.size, 3 + j, none⟩)) rfl rfl (by kernel_rfl) (by kernel_rfl) (by kernel_rfl) (fun _ _ _ h => h) (by rfl) HH.out ?_ ?_
              · intro w hSw
                obtain ⟨s0, s1, s2⟩ := hSw
                go_simp
              simp only [Act.put, List.setIfInBounds_toArray, List.set_cons_zero, List.set_cons_succ]
              refine any_take 3 (some 177) (.int .i64 z) rfl rfl (by kernel_rfl) (by kernel_rfl) (by kernel_rfl) (fun _ _ _ h => h) (by rfl) HH.out ?_ ?_
              · intro w hSw
                obtain ⟨s0, s1, s2⟩ := hSw
                go_simp
              simp only [Act.put, List.setIfInBounds_toArray, List.set_cons_zero, List.set_cons_succ]
              refine any_take 4 (some 178) (.pointer (some ⟨w16.heap.size, 4, none⟩)) rfl rfl (by kernel_rfl) (by kernel_rfl) (by kernel_rfl) (fun _ _ _ h => h) (by rfl) HH.out ?_ ?_
              · intro w hSw
                obtain ⟨s0, s1, s2⟩ := hSw
                go_simp
              simp only [Act.put, List.setIfInBounds_toArray, List.set_cons_zero, List.set_cons_succ]
              refine any_take 5 (some 179) (.slice (some ⟨b, 0, none⟩) 15 c16) rfl rfl (by kernel_rfl) (by kernel_rfl) (by kernel_rfl) (fun _ _ _ h => h) (by rfl) HH.out ?_ ?_
              · intro w hSw
                obtain ⟨s0, s1, s2⟩ := hSw
                go_simp
              simp only [Act.put, List.setIfInBounds_toArray, List.set_cons_zero, List.set_cons_succ]
              refine any_take 6 (some 180) (.int .i64 (j : Int)) rfl rfl (by kernel_rfl) (by kernel_rfl) (by kernel_rfl) (fun _ _ _ h => h) (by rfl) HH.out ?_ ?_
              · intro w hSw
                obtain ⟨s0, s1, s2⟩ := hSw
                go_simp
              simp only [Act.put, List.setIfInBounds_toArray, List.set_cons_zero, List.set_cons_succ]
              refine any_take 7 (some 181) (.pointer (some ⟨b, j, none⟩)) rfl rfl (by kernel_rfl) (by kernel_rfl) (by kernel_rfl) (fun _ _ _ h => h) (by rfl) HH.out ?_ ?_
              · intro w hSw
                obtain ⟨s0, s1, s2⟩ := hSw
                go_simp
              simp only [Act.put, List.setIfInBounds_toArray, List.set_cons_zero, List.set_cons_succ]
              refine any_take 8 (some 182) (.int .i64 z) rfl rfl (by kernel_rfl) (by kernel_rfl) (by kernel_rfl) (fun _ _ _ h => h) (by rfl) HH.out ?_ ?_
              · intro w hSw
                obtain ⟨s0, s1, s2⟩ := hSw
                go_simp
              simp only [Act.put, List.setIfInBounds_toArray, List.set_cons_zero, List.set_cons_succ]
              refine any_take 9 (some 183) (.bool false) rfl rfl (by kernel_rfl) (by kernel_rfl) (by kernel_rfl) (fun _ _ _ h => h) (by rfl) HH.out ?_ ?_
              · intro w hSw
                obtain ⟨s0, s1, s2⟩ := hSw
                go_simp
              simp only [Act.put, List.setIfInBounds_toArray, List.set_cons_zero, List.set_cons_succ]
              refine wpAnyH_done (by kernel_rfl) ?_ _
              go_wp2_with fail
              go_roundw
              case rel => exact ⟨j + 1, by have := HJl.out; omega, by go_num, HBj.out.drew⟩
              case measure => have := HJl.out; simp [intOf]; omega
            · obtain rfl : j = 15 := by omega
              have HKd := fun u => hide (kind_any u cs mo HC0.out.1 HMo.out)
              have q1 : IntKind.i64.wrap (mo.tdiv 4096) = mo.tdiv 4096 := by
                have := HMo.out
                rw [Int.tdiv_eq_ediv_of_nonneg this.1, IntKind.wrap_i64]
                omega
              have q2 : IntKind.i64.wrap (mo.tdiv 4096 * 4096) = mo / 4096 * 4096 := by
                have := HMo.out
                rw [Int.tdiv_eq_ediv_of_nonneg this.1, IntKind.wrap_i64]
                omega
              clear hlt hj hbj
              go_wp2_with fail
              refine wp_region_held_drew (S := (fun u => Blk u w5.heap.size cs 47 ∧ Blk u w16.heap.size #[.int .i64 mo, .int .i64 si, .int .i64 cn, .int .i64 li, .slice (some ⟨b, 0, none⟩) 15 c16] 56)) (by kernel_rfl) ⟨HXj.out.drew, HTj.out.drew⟩ (fun _ => ?_)
              refine any_take 0 (some 184) (.int .i64 0) rfl rfl (by kernel_rfl) (by kernel_rfl) (by kernel_rfl) (fun _ _ _ h => h) (by rfl) ⟨HXj.out.drew, HTj.out.drew⟩ ?_ ?_
              · intro u hSw
                obtain ⟨hX, hT⟩ := hSw
                have r0 := hX.cell 0 _ HC0.out.1
                have t0 := hT.cell 0 _ rfl
                have r1 := hX.cell 1 _ HC0.out.2.1
                have t1 := hT.cell 1 _ rfl
                have r2 := hX.cell 2 _ HC0.out.2.2
                have t2 := hT.cell 2 _ rfl
                go_simp
              simp only [Act.put, List.setIfInBounds_toArray, List.set_cons_zero, List.set_cons_succ]
              refine any_take 1 (some 185) (.bool true) rfl rfl (by kernel_rfl) (by kernel_rfl) (by kernel_rfl) (fun _ _ _ h => h) (by rfl) ⟨HXj.out.drew, HTj.out.drew⟩ ?_ ?_
              · intro u hSw
                obtain ⟨hX, hT⟩ := hSw
                have r0 := hX.cell 0 _ HC0.out.1
                have t0 := hT.cell 0 _ rfl
                have r1 := hX.cell 1 _ HC0.out.2.1
                have t1 := hT.cell 1 _ rfl
                have r2 := hX.cell 2 _ HC0.out.2.2
                have t2 := hT.cell 2 _ rfl
                go_simp
              simp only [Act.put, List.setIfInBounds_toArray, List.set_cons_zero, List.set_cons_succ]
              refine any_take 2 (some 186) (.bool true) rfl rfl (by kernel_rfl) (by kernel_rfl) (by kernel_rfl) (fun _ _ _ h => h) (by rfl) ⟨HXj.out.drew, HTj.out.drew⟩ ?_ ?_
              · intro u hSw
                obtain ⟨hX, hT⟩ := hSw
                have r0 := hX.cell 0 _ HC0.out.1
                have t0 := hT.cell 0 _ rfl
                have r1 := hX.cell 1 _ HC0.out.2.1
                have t1 := hT.cell 1 _ rfl
                have r2 := hX.cell 2 _ HC0.out.2.2
                have t2 := hT.cell 2 _ rfl
                go_simp
              simp only [Act.put, List.setIfInBounds_toArray, List.set_cons_zero, List.set_cons_succ]
              refine any_take 3 (some 187) (.pointer (some ⟨w5.heap.size, 0, none⟩)) rfl rfl (by kernel_rfl) (by kernel_rfl) (by kernel_rfl) (fun _ _ _ h => h) (by rfl) ⟨HXj.out.drew, HTj.out.drew⟩ ?_ ?_
              · intro u hSw
                obtain ⟨hX, hT⟩ := hSw
                have r0 := hX.cell 0 _ HC0.out.1
                have t0 := hT.cell 0 _ rfl
                have r1 := hX.cell 1 _ HC0.out.2.1
                have t1 := hT.cell 1 _ rfl
                have r2 := hX.cell 2 _ HC0.out.2.2
                have t2 := hT.cell 2 _ rfl
                go_simp
              simp only [Act.put, List.setIfInBounds_toArray, List.set_cons_zero, List.set_cons_succ]
              refine any_take 4 (some 188) (.int .i64 mo) rfl rfl (by kernel_rfl) (by kernel_rfl) (by kernel_rfl) (fun _ _ _ h => h) (by rfl) ⟨HXj.out.drew, HTj.out.drew⟩ ?_ ?_
              · intro u hSw
                obtain ⟨hX, hT⟩ := hSw
                have r0 := hX.cell 0 _ HC0.out.1
                have t0 := hT.cell 0 _ rfl
                have r1 := hX.cell 1 _ HC0.out.2.1
                have t1 := hT.cell 1 _ rfl
                have r2 := hX.cell 2 _ HC0.out.2.2
                have t2 := hT.cell 2 _ rfl
                go_simp
              simp only [Act.put, List.setIfInBounds_toArray, List.set_cons_zero, List.set_cons_succ]
              refine any_take 5 (some 189) (.pointer (some ⟨w16.heap.size, 0, none⟩)) rfl rfl (by kernel_rfl) (by kernel_rfl) (by kernel_rfl) (fun _ _ _ h => h) (by rfl) ⟨HXj.out.drew, HTj.out.drew⟩ ?_ ?_
              · intro u hSw
                obtain ⟨hX, hT⟩ := hSw
                have r0 := hX.cell 0 _ HC0.out.1
                have t0 := hT.cell 0 _ rfl
                have r1 := hX.cell 1 _ HC0.out.2.1
                have t1 := hT.cell 1 _ rfl
                have r2 := hX.cell 2 _ HC0.out.2.2
                have t2 := hT.cell 2 _ rfl
                go_simp
              simp only [Act.put, List.setIfInBounds_toArray, List.set_cons_zero, List.set_cons_succ]
              refine any_take 6 (some 190) (.int .i64 mo) rfl rfl (by kernel_rfl) (by kernel_rfl) (by kernel_rfl) (fun _ _ _ h => h) (by rfl) ⟨HXj.out.drew, HTj.out.drew⟩ ?_ ?_
              · intro u hSw
                obtain ⟨hX, hT⟩ := hSw
                have r0 := hX.cell 0 _ HC0.out.1
                have t0 := hT.cell 0 _ rfl
                have r1 := hX.cell 1 _ HC0.out.2.1
                have t1 := hT.cell 1 _ rfl
                have r2 := hX.cell 2 _ HC0.out.2.2
                have t2 := hT.cell 2 _ rfl
                go_simp
              simp only [Act.put, List.setIfInBounds_toArray, List.set_cons_zero, List.set_cons_succ]
              refine any_take 7 (some 191) (.bool true) rfl rfl (by kernel_rfl) (by kernel_rfl) (by kernel_rfl) (fun _ _ _ h => h) (by rfl) ⟨HXj.out.drew, HTj.out.drew⟩ ?_ ?_
              · intro u hSw
                obtain ⟨hX, hT⟩ := hSw
                have r0 := hX.cell 0 _ HC0.out.1
                have t0 := hT.cell 0 _ rfl
                have r1 := hX.cell 1 _ HC0.out.2.1
                have t1 := hT.cell 1 _ rfl
                have r2 := hX.cell 2 _ HC0.out.2.2
                have t2 := hT.cell 2 _ rfl
                go_simp
              simp only [Act.put, List.setIfInBounds_toArray, List.set_cons_zero, List.set_cons_succ]
              refine any_take 8 (some 192) (.bool true) rfl rfl (by kernel_rfl) (by kernel_rfl) (by kernel_rfl) (fun _ _ _ h => h) (by rfl) ⟨HXj.out.drew, HTj.out.drew⟩ ?_ ?_
              · intro u hSw
                obtain ⟨hX, hT⟩ := hSw
                have r0 := hX.cell 0 _ HC0.out.1
                have t0 := hT.cell 0 _ rfl
                have r1 := hX.cell 1 _ HC0.out.2.1
                have t1 := hT.cell 1 _ rfl
                have r2 := hX.cell 2 _ HC0.out.2.2
                have t2 := hT.cell 2 _ rfl
                go_simp
              simp only [Act.put, List.setIfInBounds_toArray, List.set_cons_zero, List.set_cons_succ]
              refine any_take 9 (some 193) (.bool true) rfl rfl (by kernel_rfl) (by kernel_rfl) (by kernel_rfl) (fun _ _ _ h => h) (by rfl) ⟨HXj.out.drew, HTj.out.drew⟩ ?_ ?_
              · intro u hSw
                obtain ⟨hX, hT⟩ := hSw
                have r0 := hX.cell 0 _ HC0.out.1
                have t0 := hT.cell 0 _ rfl
                have r1 := hX.cell 1 _ HC0.out.2.1
                have t1 := hT.cell 1 _ rfl
                have r2 := hX.cell 2 _ HC0.out.2.2
                have t2 := hT.cell 2 _ rfl
                go_simp
              simp only [Act.put, List.setIfInBounds_toArray, List.set_cons_zero, List.set_cons_succ]
              refine any_take 10 (some 194) (.pointer (some ⟨w5.heap.size, 1, none⟩)) rfl rfl (by kernel_rfl) (by kernel_rfl) (by kernel_rfl) (fun _ _ _ h => h) (by rfl) ⟨HXj.out.drew, HTj.out.drew⟩ ?_ ?_
              · intro u hSw
                obtain ⟨hX, hT⟩ := hSw
                have r0 := hX.cell 0 _ HC0.out.1
                have t0 := hT.cell 0 _ rfl
                have r1 := hX.cell 1 _ HC0.out.2.1
                have t1 := hT.cell 1 _ rfl
                have r2 := hX.cell 2 _ HC0.out.2.2
                have t2 := hT.cell 2 _ rfl
                go_simp
              simp only [Act.put, List.setIfInBounds_toArray, List.set_cons_zero, List.set_cons_succ]
              refine any_take 11 (some 195) (.int .i64 si) rfl rfl (by kernel_rfl) (by kernel_rfl) (by kernel_rfl) (fun _ _ _ h => h) (by rfl) ⟨HXj.out.drew, HTj.out.drew⟩ ?_ ?_
              · intro u hSw
                obtain ⟨hX, hT⟩ := hSw
                have r0 := hX.cell 0 _ HC0.out.1
                have t0 := hT.cell 0 _ rfl
                have r1 := hX.cell 1 _ HC0.out.2.1
                have t1 := hT.cell 1 _ rfl
                have r2 := hX.cell 2 _ HC0.out.2.2
                have t2 := hT.cell 2 _ rfl
                go_simp
              simp only [Act.put, List.setIfInBounds_toArray, List.set_cons_zero, List.set_cons_succ]
              refine any_take 12 (some 196) (.pointer (some ⟨w16.heap.size, 1, none⟩)) rfl rfl (by kernel_rfl) (by kernel_rfl) (by kernel_rfl) (fun _ _ _ h => h) (by rfl) ⟨HXj.out.drew, HTj.out.drew⟩ ?_ ?_
              · intro u hSw
                obtain ⟨hX, hT⟩ := hSw
                have r0 := hX.cell 0 _ HC0.out.1
                have t0 := hT.cell 0 _ rfl
                have r1 := hX.cell 1 _ HC0.out.2.1
                have t1 := hT.cell 1 _ rfl
                have r2 := hX.cell 2 _ HC0.out.2.2
                have t2 := hT.cell 2 _ rfl
                go_simp
              simp only [Act.put, List.setIfInBounds_toArray, List.set_cons_zero, List.set_cons_succ]
              refine any_take 13 (some 197) (.int .i64 si) rfl rfl (by kernel_rfl) (by kernel_rfl) (by kernel_rfl) (fun _ _ _ h => h) (by rfl) ⟨HXj.out.drew, HTj.out.drew⟩ ?_ ?_
              · intro u hSw
                obtain ⟨hX, hT⟩ := hSw
                have r0 := hX.cell 0 _ HC0.out.1
                have t0 := hT.cell 0 _ rfl
                have r1 := hX.cell 1 _ HC0.out.2.1
                have t1 := hT.cell 1 _ rfl
                have r2 := hX.cell 2 _ HC0.out.2.2
                have t2 := hT.cell 2 _ rfl
                go_simp
              simp only [Act.put, List.setIfInBounds_toArray, List.set_cons_zero, List.set_cons_succ]
              refine any_take 14 (some 198) (.bool true) rfl rfl (by kernel_rfl) (by kernel_rfl) (by kernel_rfl) (fun _ _ _ h => h) (by rfl) ⟨HXj.out.drew, HTj.out.drew⟩ ?_ ?_
              · intro u hSw
                obtain ⟨hX, hT⟩ := hSw
                have r0 := hX.cell 0 _ HC0.out.1
                have t0 := hT.cell 0 _ rfl
                have r1 := hX.cell 1 _ HC0.out.2.1
                have t1 := hT.cell 1 _ rfl
                have r2 := hX.cell 2 _ HC0.out.2.2
                have t2 := hT.cell 2 _ rfl
                go_simp
              simp only [Act.put, List.setIfInBounds_toArray, List.set_cons_zero, List.set_cons_succ]
              refine any_take 15 (some 199) (.bool true) rfl rfl (by kernel_rfl) (by kernel_rfl) (by kernel_rfl) (fun _ _ _ h => h) (by rfl) ⟨HXj.out.drew, HTj.out.drew⟩ ?_ ?_
              · intro u hSw
                obtain ⟨hX, hT⟩ := hSw
                have r0 := hX.cell 0 _ HC0.out.1
                have t0 := hT.cell 0 _ rfl
                have r1 := hX.cell 1 _ HC0.out.2.1
                have t1 := hT.cell 1 _ rfl
                have r2 := hX.cell 2 _ HC0.out.2.2
                have t2 := hT.cell 2 _ rfl
                go_simp
              simp only [Act.put, List.setIfInBounds_toArray, List.set_cons_zero, List.set_cons_succ]
              refine any_take 16 (some 200) (.bool true) rfl rfl (by kernel_rfl) (by kernel_rfl) (by kernel_rfl) (fun _ _ _ h => h) (by rfl) ⟨HXj.out.drew, HTj.out.drew⟩ ?_ ?_
              · intro u hSw
                obtain ⟨hX, hT⟩ := hSw
                have r0 := hX.cell 0 _ HC0.out.1
                have t0 := hT.cell 0 _ rfl
                have r1 := hX.cell 1 _ HC0.out.2.1
                have t1 := hT.cell 1 _ rfl
                have r2 := hX.cell 2 _ HC0.out.2.2
                have t2 := hT.cell 2 _ rfl
                go_simp
              simp only [Act.put, List.setIfInBounds_toArray, List.set_cons_zero, List.set_cons_succ]
              refine any_take 17 (some 201) (.pointer (some ⟨w5.heap.size, 2, none⟩)) rfl rfl (by kernel_rfl) (by kernel_rfl) (by kernel_rfl) (fun _ _ _ h => h) (by rfl) ⟨HXj.out.drew, HTj.out.drew⟩ ?_ ?_
              · intro u hSw
                obtain ⟨hX, hT⟩ := hSw
                have r0 := hX.cell 0 _ HC0.out.1
                have t0 := hT.cell 0 _ rfl
                have r1 := hX.cell 1 _ HC0.out.2.1
                have t1 := hT.cell 1 _ rfl
                have r2 := hX.cell 2 _ HC0.out.2.2
                have t2 := hT.cell 2 _ rfl
                go_simp
              simp only [Act.put, List.setIfInBounds_toArray, List.set_cons_zero, List.set_cons_succ]
              refine any_take 18 (some 202) (.int .i64 cn) rfl rfl (by kernel_rfl) (by kernel_rfl) (by kernel_rfl) (fun _ _ _ h => h) (by rfl) ⟨HXj.out.drew, HTj.out.drew⟩ ?_ ?_
              · intro u hSw
                obtain ⟨hX, hT⟩ := hSw
                have r0 := hX.cell 0 _ HC0.out.1
                have t0 := hT.cell 0 _ rfl
                have r1 := hX.cell 1 _ HC0.out.2.1
                have t1 := hT.cell 1 _ rfl
                have r2 := hX.cell 2 _ HC0.out.2.2
                have t2 := hT.cell 2 _ rfl
                go_simp
              simp only [Act.put, List.setIfInBounds_toArray, List.set_cons_zero, List.set_cons_succ]
              refine any_take 19 (some 203) (.pointer (some ⟨w16.heap.size, 2, none⟩)) rfl rfl (by kernel_rfl) (by kernel_rfl) (by kernel_rfl) (fun _ _ _ h => h) (by rfl) ⟨HXj.out.drew, HTj.out.drew⟩ ?_ ?_
              · intro u hSw
                obtain ⟨hX, hT⟩ := hSw
                have r0 := hX.cell 0 _ HC0.out.1
                have t0 := hT.cell 0 _ rfl
                have r1 := hX.cell 1 _ HC0.out.2.1
                have t1 := hT.cell 1 _ rfl
                have r2 := hX.cell 2 _ HC0.out.2.2
                have t2 := hT.cell 2 _ rfl
                go_simp
              simp only [Act.put, List.setIfInBounds_toArray, List.set_cons_zero, List.set_cons_succ]
              refine any_take 20 (some 204) (.int .i64 cn) rfl rfl (by kernel_rfl) (by kernel_rfl) (by kernel_rfl) (fun _ _ _ h => h) (by rfl) ⟨HXj.out.drew, HTj.out.drew⟩ ?_ ?_
              · intro u hSw
                obtain ⟨hX, hT⟩ := hSw
                have r0 := hX.cell 0 _ HC0.out.1
                have t0 := hT.cell 0 _ rfl
                have r1 := hX.cell 1 _ HC0.out.2.1
                have t1 := hT.cell 1 _ rfl
                have r2 := hX.cell 2 _ HC0.out.2.2
                have t2 := hT.cell 2 _ rfl
                go_simp
              simp only [Act.put, List.setIfInBounds_toArray, List.set_cons_zero, List.set_cons_succ]
              refine any_take 21 (some 205) (.bool true) rfl rfl (by kernel_rfl) (by kernel_rfl) (by kernel_rfl) (fun _ _ _ h => h) (by rfl) ⟨HXj.out.drew, HTj.out.drew⟩ ?_ ?_
              · intro u hSw
                obtain ⟨hX, hT⟩ := hSw
                have r0 := hX.cell 0 _ HC0.out.1
                have t0 := hT.cell 0 _ rfl
                have r1 := hX.cell 1 _ HC0.out.2.1
                have t1 := hT.cell 1 _ rfl
                have r2 := hX.cell 2 _ HC0.out.2.2
                have t2 := hT.cell 2 _ rfl
                go_simp
              simp only [Act.put, List.setIfInBounds_toArray, List.set_cons_zero, List.set_cons_succ]
              refine any_take 22 (some 206) (.bool true) rfl rfl (by kernel_rfl) (by kernel_rfl) (by kernel_rfl) (fun _ _ _ h => h) (by rfl) ⟨HXj.out.drew, HTj.out.drew⟩ ?_ ?_
              · intro u hSw
                obtain ⟨hX, hT⟩ := hSw
                have r0 := hX.cell 0 _ HC0.out.1
                have t0 := hT.cell 0 _ rfl
                have r1 := hX.cell 1 _ HC0.out.2.1
                have t1 := hT.cell 1 _ rfl
                have r2 := hX.cell 2 _ HC0.out.2.2
                have t2 := hT.cell 2 _ rfl
                go_simp
              simp only [Act.put, List.setIfInBounds_toArray, List.set_cons_zero, List.set_cons_succ]
              refine any_take 23 (some 207) (.bool true) rfl rfl (by kernel_rfl) (by kernel_rfl) (by kernel_rfl) (fun _ _ _ h => h) (by rfl) ⟨HXj.out.drew, HTj.out.drew⟩ ?_ ?_
              · intro u hSw
                obtain ⟨hX, hT⟩ := hSw
                have r0 := hX.cell 0 _ HC0.out.1
                have t0 := hT.cell 0 _ rfl
                have r1 := hX.cell 1 _ HC0.out.2.1
                have t1 := hT.cell 1 _ rfl
                have r2 := hX.cell 2 _ HC0.out.2.2
                have t2 := hT.cell 2 _ rfl
                go_simp
              simp only [Act.put, List.setIfInBounds_toArray, List.set_cons_zero, List.set_cons_succ]
              refine any_take 24 (some 208) (.agg cs) rfl rfl (by kernel_rfl) (by kernel_rfl) (by kernel_rfl) (fun _ _ _ h => h) (by rfl) ⟨HXj.out.drew, HTj.out.drew⟩ ?_ ?_
              · intro u hSw
                obtain ⟨hX, hT⟩ := hSw
                exact exec_load_row 47 (.tmp 11) rfl w5.heap.size rfl 47 cs (0, 0) _ hX Tryd.underlying47 rfl (by rw [H18.out.1]; kernel_rfl)
              simp only [Act.put, List.setIfInBounds_toArray, List.set_cons_zero, List.set_cons_succ]
              refine any_take 26 (some 210) (.pointer (some ⟨w16.heap.size, 0, none⟩)) rfl rfl (by kernel_rfl) (by kernel_rfl) (by kernel_rfl) (fun _ _ _ h => h) (by rfl) ⟨HXj.out.drew, HTj.out.drew⟩ ?_ ?_
              · intro u hSw
                obtain ⟨hX, hT⟩ := hSw
                have r0 := hX.cell 0 _ HC0.out.1
                have t0 := hT.cell 0 _ rfl
                have r1 := hX.cell 1 _ HC0.out.2.1
                have t1 := hT.cell 1 _ rfl
                have r2 := hX.cell 2 _ HC0.out.2.2
                have t2 := hT.cell 2 _ rfl
                go_simp
              simp only [Act.put, List.setIfInBounds_toArray, List.set_cons_zero, List.set_cons_succ]
              refine wpAnyH_ready (rs := [25, 27]) (by kernel_rfl) (by simp) ?_
              refine AllReadyH.cons (i := 25) rfl (fun K hK => ?_) (AllReadyH.cons (i := 27) rfl (fun K hK => ?_) AllReadyH.nil)
              · go_simp
                refine (HKd _).out.mono ?_
                rintro e9 w20 ⟨rfl, hb20⟩
                have HX2 := hide (HXj.out.drew.below hb20)
                have HT2 := hide (HTj.out.drew.below hb20)
                have HB2 := hide (HB.out.drew.trans (hb20.mono HB.out.drew.size))
                clear hb20
                go_simp
                refine hK.out _ _ ⟨HX2.out, HT2.out⟩ (fun _ => ?_)
                clear hK K
                try simp only [Act.put, List.setIfInBounds_toArray, List.set_cons_zero, List.set_cons_succ]
                refine any_take 27 (some 211) (.int .i64 mo) rfl rfl (by kernel_rfl) (by kernel_rfl) (by kernel_rfl) (fun _ _ _ h => h) (by rfl) ⟨HX2.out, HT2.out⟩ ?_ ?_
                · intro u hSw
                  obtain ⟨hX, hT⟩ := hSw
                  have r0 := hX.cell 0 _ HC0.out.1
                  have t0 := hT.cell 0 _ rfl
                  have r1 := hX.cell 1 _ HC0.out.2.1
                  have t1 := hT.cell 1 _ rfl
                  have r2 := hX.cell 2 _ HC0.out.2.2
                  have t2 := hT.cell 2 _ rfl
                  go_simp
                simp only [Act.put, List.setIfInBounds_toArray, List.set_cons_zero, List.set_cons_succ]
                refine any_take 28 (some 212) (.int .i64 (mo.tdiv 4096)) rfl rfl (by kernel_rfl) (by kernel_rfl) (by kernel_rfl) (fun _ _ _ h => h) (by rfl) ⟨HX2.out, HT2.out⟩ ?_ ?_
                · intro u hSw
                  obtain ⟨hX, hT⟩ := hSw
                  have r0 := hX.cell 0 _ HC0.out.1
                  have t0 := hT.cell 0 _ rfl
                  have r1 := hX.cell 1 _ HC0.out.2.1
                  have t1 := hT.cell 1 _ rfl
                  have r2 := hX.cell 2 _ HC0.out.2.2
                  have t2 := hT.cell 2 _ rfl
                  go_simp
                simp only [Act.put, List.setIfInBounds_toArray, List.set_cons_zero, List.set_cons_succ]
                refine any_take 29 (some 213) (.int .i64 (mo / 4096 * 4096)) rfl rfl (by kernel_rfl) (by kernel_rfl) (by kernel_rfl) (fun _ _ _ h => h) (by rfl) ⟨HX2.out, HT2.out⟩ ?_ ?_
                · intro u hSw
                  obtain ⟨hX, hT⟩ := hSw
                  have r0 := hX.cell 0 _ HC0.out.1
                  have t0 := hT.cell 0 _ rfl
                  have r1 := hX.cell 1 _ HC0.out.2.1
                  have t1 := hT.cell 1 _ rfl
                  have r2 := hX.cell 2 _ HC0.out.2.2
                  have t2 := hT.cell 2 _ rfl
                  go_simp
                simp only [Act.put, List.setIfInBounds_toArray, List.set_cons_zero, List.set_cons_succ]
                refine any_take 30 (some 214) (.bool true) rfl rfl (by kernel_rfl) (by kernel_rfl) (by kernel_rfl) (fun _ _ _ h => h) (by rfl) ⟨HX2.out, HT2.out⟩ ?_ ?_
                · intro u hSw
                  obtain ⟨hX, hT⟩ := hSw
                  have r0 := hX.cell 0 _ HC0.out.1
                  have t0 := hT.cell 0 _ rfl
                  have r1 := hX.cell 1 _ HC0.out.2.1
                  have t1 := hT.cell 1 _ rfl
                  have r2 := hX.cell 2 _ HC0.out.2.2
                  have t2 := hT.cell 2 _ rfl
                  go_simp
                simp only [Act.put, List.setIfInBounds_toArray, List.set_cons_zero, List.set_cons_succ]
                refine any_take 31 (some 215) (.bool true) rfl rfl (by kernel_rfl) (by kernel_rfl) (by kernel_rfl) (fun _ _ _ h => h) (by rfl) ⟨HX2.out, HT2.out⟩ ?_ ?_
                · intro u hSw
                  obtain ⟨hX, hT⟩ := hSw
                  have r0 := hX.cell 0 _ HC0.out.1
                  have t0 := hT.cell 0 _ rfl
                  have r1 := hX.cell 1 _ HC0.out.2.1
                  have t1 := hT.cell 1 _ rfl
                  have r2 := hX.cell 2 _ HC0.out.2.2
                  have t2 := hT.cell 2 _ rfl
                  go_simp
                simp only [Act.put, List.setIfInBounds_toArray, List.set_cons_zero, List.set_cons_succ]
                refine any_take 32 (some 6) (.bool true) rfl rfl (by kernel_rfl) (by kernel_rfl) (by kernel_rfl) (fun _ _ _ h => h) (by rfl) ⟨HX2.out, HT2.out⟩ ?_ ?_
                · intro u hSw
                  obtain ⟨hX, hT⟩ := hSw
                  have r0 := hX.cell 0 _ HC0.out.1
                  have t0 := hT.cell 0 _ rfl
                  have r1 := hX.cell 1 _ HC0.out.2.1
                  have t1 := hT.cell 1 _ rfl
                  have r2 := hX.cell 2 _ HC0.out.2.2
                  have t2 := hT.cell 2 _ rfl
                  go_simp
                simp only [Act.put, List.setIfInBounds_toArray, List.set_cons_zero, List.set_cons_succ]
                refine wpAnyH_done (by kernel_rfl) ?_ _
                go_wp2_with fail
                go_ret
                exact ⟨rfl, HB2.out⟩
              · have t0 := HTj.out.drew.cell 0 _ rfl
                go_simp
                refine hK.out _ _ ⟨HXj.out.drew, HTj.out.drew⟩ (fun _ => ?_)
                clear hK K
                try simp only [Act.put, List.setIfInBounds_toArray, List.set_cons_zero, List.set_cons_succ]
                refine any_take 28 (some 212) (.int .i64 (mo.tdiv 4096)) rfl rfl (by kernel_rfl) (by kernel_rfl) (by kernel_rfl) (fun _ _ _ h => h) (by rfl) ⟨HXj.out.drew, HTj.out.drew⟩ ?_ ?_
                · intro u hSw
                  obtain ⟨hX, hT⟩ := hSw
                  have r0 := hX.cell 0 _ HC0.out.1
                  have t0 := hT.cell 0 _ rfl
                  have r1 := hX.cell 1 _ HC0.out.2.1
                  have t1 := hT.cell 1 _ rfl
                  have r2 := hX.cell 2 _ HC0.out.2.2
                  have t2 := hT.cell 2 _ rfl
                  go_simp
                simp only [Act.put, List.setIfInBounds_toArray, List.set_cons_zero, List.set_cons_succ]
                refine any_take 29 (some 213) (.int .i64 (mo / 4096 * 4096)) rfl rfl (by kernel_rfl) (by kernel_rfl) (by kernel_rfl) (fun _ _ _ h => h) (by rfl) ⟨HXj.out.drew, HTj.out.drew⟩ ?_ ?_
                · intro u hSw
                  obtain ⟨hX, hT⟩ := hSw
                  have r0 := hX.cell 0 _ HC0.out.1
                  have t0 := hT.cell 0 _ rfl
                  have r1 := hX.cell 1 _ HC0.out.2.1
                  have t1 := hT.cell 1 _ rfl
                  have r2 := hX.cell 2 _ HC0.out.2.2
                  have t2 := hT.cell 2 _ rfl
                  go_simp
                simp only [Act.put, List.setIfInBounds_toArray, List.set_cons_zero, List.set_cons_succ]
                refine wpAnyH_ready (rs := [25]) (by kernel_rfl) (by simp) ?_
                refine AllReadyH.cons (i := 25) rfl (fun K hK => ?_) AllReadyH.nil
                go_simp
                refine (HKd _).out.mono ?_
                rintro e9 w20 ⟨rfl, hb20⟩
                have HX2 := hide (HXj.out.drew.below hb20)
                have HT2 := hide (HTj.out.drew.below hb20)
                have HB2 := hide (HB.out.drew.trans (hb20.mono HB.out.drew.size))
                clear hb20
                go_simp
                refine hK.out _ _ ⟨HX2.out, HT2.out⟩ (fun _ => ?_)
                clear hK K
                try simp only [Act.put, List.setIfInBounds_toArray, List.set_cons_zero, List.set_cons_succ]
                refine any_take 30 (some 214) (.bool true) rfl rfl (by kernel_rfl) (by kernel_rfl) (by kernel_rfl) (fun _ _ _ h => h) (by rfl) ⟨HX2.out, HT2.out⟩ ?_ ?_
                · intro u hSw
                  obtain ⟨hX, hT⟩ := hSw
                  have r0 := hX.cell 0 _ HC0.out.1
                  have t0 := hT.cell 0 _ rfl
                  have r1 := hX.cell 1 _ HC0.out.2.1
                  have t1 := hT.cell 1 _ rfl
                  have r2 := hX.cell 2 _ HC0.out.2.2
                  have t2 := hT.cell 2 _ rfl
                  go_simp
                simp only [Act.put, List.setIfInBounds_toArray, List.set_cons_zero, List.set_cons_succ]
                refine any_take 31 (some 215) (.bool true) rfl rfl (by kernel_rfl) (by kernel_rfl) (by kernel_rfl) (fun _ _ _ h => h) (by rfl) ⟨HX2.out, HT2.out⟩ ?_ ?_
                · intro u hSw
                  obtain ⟨hX, hT⟩ := hSw
                  have r0 := hX.cell 0 _ HC0.out.1
                  have t0 := hT.cell 0 _ rfl
                  have r1 := hX.cell 1 _ HC0.out.2.1
                  have t1 := hT.cell 1 _ rfl
                  have r2 := hX.cell 2 _ HC0.out.2.2
                  have t2 := hT.cell 2 _ rfl
                  go_simp
                simp only [Act.put, List.setIfInBounds_toArray, List.set_cons_zero, List.set_cons_succ]
                refine any_take 32 (some 6) (.bool true) rfl rfl (by kernel_rfl) (by kernel_rfl) (by kernel_rfl) (fun _ _ _ h => h) (by rfl) ⟨HX2.out, HT2.out⟩ ?_ ?_
                · intro u hSw
                  obtain ⟨hX, hT⟩ := hSw
                  have r0 := hX.cell 0 _ HC0.out.1
                  have t0 := hT.cell 0 _ rfl
                  have r1 := hX.cell 1 _ HC0.out.2.1
                  have t1 := hT.cell 1 _ rfl
                  have r2 := hX.cell 2 _ HC0.out.2.2
                  have t2 := hT.cell 2 _ rfl
                  go_simp
                simp only [Act.put, List.setIfInBounds_toArray, List.set_cons_zero, List.set_cons_succ]
                refine wpAnyH_done (by kernel_rfl) ?_ _
                go_wp2_with fail
                go_ret
                exact ⟨rfl, HB2.out⟩
end Go.Proofs.YtjmajjfknmjifaaDoor.Oct
