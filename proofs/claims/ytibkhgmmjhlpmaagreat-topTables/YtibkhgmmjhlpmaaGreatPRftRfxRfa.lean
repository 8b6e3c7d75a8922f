/- Counts within changes: a count is so many more. -/
import Derived.Test.YtibkhgmmjhlpmaaGreatPRfg
import Derived.Test.YtibkhgmmjhlpmaaGreatPRdLowWrLst
import Derived.Test.YtibkhgmmjhlpmaaGreatPRfb
namespace Go.Proofs.YtibkhgmmjhlpmaaGreat.Oct
open Go.RowKit Go.Deep

/-- What a count that is set makes of the bytes. -/
def SetR (B M B' M' : Int → List Int) (n : Nat) (v : Int) : Prop := ∀ x y, valT B' M' x y = if 15360 + 2 * n ≤ x ∧ x < 15360 + 2 * n + 2 then v / 2 ^ (8 * (x - (15360 + 2 * n))) % 256 else valT B M x y

set_option maxRecDepth 100000 in
set_option maxHeartbeats 4000000 in
theorem rfs_set (w : World) (A T J F : Nat) (X : Nat → Prop) (f : Fs) (S : List Int) (vb vm : Value) (B M : Int → List Int) (p q : Int) (h : Tst w T J F X f S vb vm B M p q) (hXl : ∀ k, X k → k < w.heap.size)
    (H : Nat) (hA : Rfs w A T H) (hAT : A ≠ T) (hH : H ≤ 130) (n : Nat) (hn : n < H) (v : Int) (hv : 0 ≤ v ∧ v ≤ 65535) :
    Calls Tryz.prog 34 #[.pointer (some ⟨A, 0, none⟩), .int .i64 n, .int .i64 v] w fun e w' => e = .returned (.int .i64 0) ∧ (∃ vb' vm' B' M', Tst w' T J F X f S vb' vm' B' M' p q ∧ SetR B M B' M' n v ∧ ∀ r, vb' = .map (some r) ∨ vm' = .map (some r) → (vb = .map (some r) ∨ vm = .map (some r)) ∨ w.heap.size ≤ r) ∧ Chg (fun k => k = T ∨ vb = .map (some k) ∨ vm = .map (some k)) w w' := by
  have HHs := hide (rfs_has w A T H hA n)
  have e0 : hasR H (n : Int) = 0 := if_pos (by omega)
  rw [e0] at HHs
  have HTb := hide hA
  have HTs := hide h
  have HXl := hide hXl
  clear h hA hXl e0
  obtain ⟨hv0, hv1⟩ := hv
  have hd0 : decide (v < 0) = false := by simp; omega
  have hd1 : decide (65535 < v) = false := by simp; omega
  go_enter Tryz.func34, Tryz.ntmps34
  go_wp2_with fail
  refine HHs.out.mono ?_
  rintro e9 w2 ⟨rfl, hb2⟩
  have HB2 := hide hb2
  have hmk : (Instr.makeSlice 29 (.int .i64 2) (.int .i64 2)).run Tryz.prog w2 = .ok (.slice (some ⟨w2.heap.size, 0, none⟩) 2 2) (w2.alloc (.cells (madeCells #[.int .u8 0] 2) 5)) := run_make_bytes w2 2 (by omega)
  have HO0 := hide (Own.made w2 2 (by unfold maxLen; decide))
  have HB3 := hide (hb2.trans (((Below.refl w2.heap.size w2).alloc (Nat.le_refl _) (.cells (madeCells #[.int .u8 0] 2) 5)).mono hb2.size))
  clear hb2
  go_wp2_with fail
  generalize w2.alloc (.cells (madeCells #[.int .u8 0] 2) 5) = w3 at *
  have hr2 : (List.replicate 2 (0 : Int)).length = 2 := rfl
  have hP := Put16_yes w2.heap.size w2.heap.size 2 (List.replicate 2 0) 0 v w3 (by unfold maxLen; decide) (by decide) (by rw [hr2]; exact HO0.out)
  rw [hr2] at hP
  refine hP.mono ?_
  rintro e9 w4 ⟨rfl, ho4, hg4⟩
  have HB4 : Hid (Below w.heap.size w w4) := hide (HB3.out.grown hg4 HB3.out.size (by intro k hk; simp at hk; have := HB2.out.size; omega))
  obtain ⟨m, hm⟩ : ∃ m, putN (List.replicate 2 0) 0 v 2 = m := ⟨_, rfl⟩
  have hml : m.length = 2 := by rw [← hm, putN_length]; rfl
  have HMd : Hid (∀ b, b < 2 → m.getD b 0 = v / 2 ^ (8 * b) % 256) := hide (fun b hb => by
    rw [← hm, getD_putN _ 0 v b 2 (by decide), if_pos (by omega)]
    rfl)
  rw [hm] at ho4
  obtain ⟨a4, k4, he4, hl4, _⟩ := ho4.form
  simp at he4
  obtain ⟨rfl, -, rfl⟩ := he4
  have HL4 := hide hl4
  have hTl := HTs.out.tx.lt
  have HAt := fun u (hu : Rfs u A T H) => hide (rfs_at u A T H hu (n : Int) (by omega))
  have HPt : ∀ u, Below w.heap.size w u → Lies u (some ⟨w2.heap.size, 0, none⟩) m → Hid (Calls Tryz.prog 36 #[.pointer (some ⟨T, 0, none⟩), .int .i64 (15360 + 2 * (n : Int)), .slice (some ⟨w2.heap.size, 0, none⟩) 2 2] u fun e w' => e = .returned (.int .i64 0) ∧ (∃ vb' vm' B' M', Tst w' T J F X f S vb' vm' B' M' p q ∧ SetR B M B' M' n v ∧ ∀ r, vb' = .map (some r) ∨ vm' = .map (some r) → (vb = .map (some r) ∨ vm = .map (some r)) ∨ w.heap.size ≤ r) ∧ Chg (fun k => k = T ∨ vb = .map (some k) ∨ vm = .map (some k)) w w' ∧ Rfs w' A T H) := fun u h3 hl => hide (by
    have e4 : ((15360 + 2 * n : Nat) : Int) = 15360 + 2 * (n : Int) := by omega
    have hs2 := HB2.out.size
    have hg := put_tx u T J F X f S vb vm B M p q (HTs.out.below h3) (fun k hk => Nat.lt_of_lt_of_le (HXl.out k hk) h3.size) (some ⟨w2.heap.size, 0, none⟩) 2 2 m hml.symm hl (by omega) (fun x hx => (by
      cases hx
      refine ⟨?_, fun r hr => ?_⟩
      · show w2.heap.size ≠ T
        omega
      · show w2.heap.size ≠ r
        have : r < w.heap.size := hr.elim (fun e => (HTs.out.ov.b.lt r e).1) (fun e => (HTs.out.ov.m.lt r e).1)
        omega)) (15360 + 2 * n) (by omega)
    rw [e4] at hg
    refine hg.mono ?_
    rintro e9 w3 ⟨rfl, ⟨vb', vm', B', M', ht, hv, hrr⟩, hc3⟩
    have hAn : ¬ (A = T ∨ vb = .map (some A) ∨ vm = .map (some A)) := fun e => by
      have hj : w.heap[A]? = _ := HTb.out
      rcases e with e | e | e
      · exact hAT e
      · obtain ⟨_, es, c9, he⟩ := HTs.out.ov.b.lt A e
        rw [he] at hj; cases hj
      · obtain ⟨_, es, c9, he⟩ := HTs.out.ov.m.lt A e
        rw [he] at hj; cases hj
    refine ⟨rfl, ⟨vb', vm', B', M', ht, fun x y => ?_, fun r hr => (hrr r hr).elim Or.inl (fun h => Or.inr (Nat.le_trans h3.size h))⟩, (Chg.of_below h3).trans hc3, (hc3.block A (Nat.lt_of_lt_of_le HTb.out.lt h3.size) hAn).trans (HTb.out.below h3)⟩
    rw [hv x y]
    by_cases hx : 15360 + 2 * n ≤ x ∧ x < 15360 + 2 * n + 2
    · rw [if_pos hx, if_pos hx, HMd.out _ (by omega)]
    · rw [if_neg hx, if_neg hx])
  clear ho4 hg4 hl4 hm hP hr2 hmk hml
  go_wp2_with fail
  have HA := hide (HTb.out.below HB4.out).drew
  have HB := hide HB4.out.drew
  have HLm := hide (HL4.out.below (Below.refl _ _).drew)
  obtain ⟨x0, x1, x2, x3, x4, x5⟩ := HA.out.cell
  go_region_held3 (fun u => u.cell? ⟨A, 0, none⟩ = some (.int .i64 9) ∧ u.cell? ⟨A, 1, none⟩ = some (.int .i64 32768) ∧ u.cell? ⟨A, 2, none⟩ = some (.int .i64 (H : Int)) ∧ u.cell? ⟨A, 3, none⟩ = some (.int .i64 29) ∧ u.cell? ⟨A, 4, none⟩ = some (.bool false) ∧ u.cell? ⟨A, 5, none⟩ = some (.pointer (some ⟨T, 0, none⟩))) (first | go_keep | exact HA.out.cell) (first
    | (go_at_call 48; refine ((HAt _ HA.out).out).mono ?_; rintro e9 w5 ⟨rfl, hb5⟩; have HA := hide (HA.out.below hb5); have HB := hide (HB.out.trans (hb5.mono HB.out.size)); have HLm := hide (HLm.out.below hb5); clear hb5)
    | (go_at_call 36; refine ((HPt _ HB.out HLm.out).out).mono ?_; rintro e9 w6 ⟨rfl, hex, hc6, hA6⟩; have HA := hide hA6; have HG := hide (And.intro hex hc6); clear hex hc6 hA6))
  all_goals
    go_wp2_with fail
    go_ret
    exact ⟨rfl, HG.out.1, HG.out.2⟩
end Go.Proofs.YtibkhgmmjhlpmaaGreat.Oct

namespace Go.Proofs.YtibkhgmmjhlpmaaGreat.Oct
open Go.RowKit

theorem rfs_set_no (w : World) (A T H : Nat) (hA : Rfs w A T H) (n v : Int) (hn : ¬ (0 ≤ n ∧ n < H)) :
    Calls Tryz.prog 34 #[.pointer (some ⟨A, 0, none⟩), .int .i64 n, .int .i64 v] w fun e w' => e = .returned (.int .i64 4) ∧ Below w.heap.size w w' := by
  have HHs := hide (rfs_has w A T H hA n)
  have e0 : hasR H n = 4 := if_neg hn
  rw [e0] at HHs
  clear hA e0 hn
  go_enter Tryz.func34, Tryz.ntmps34
  go_wp2_with fail
  refine HHs.out.mono ?_
  rintro e9 w2 ⟨rfl, hb2⟩
  have HB2 := hide hb2
  clear hb2
  go_wp2_with fail
  go_ret
  exact ⟨rfl, HB2.out⟩

theorem rfs_set_big (w : World) (A T H : Nat) (hA : Rfs w A T H) (n v : Int) (hn : 0 ≤ n ∧ n < H) (hv : ¬ (0 ≤ v ∧ v ≤ 65535)) :
    Calls Tryz.prog 34 #[.pointer (some ⟨A, 0, none⟩), .int .i64 n, .int .i64 v] w fun e w' => e = .returned (.int .i64 20) ∧ Below w.heap.size w w' := by
  have HHs := hide (rfs_has w A T H hA n)
  have e0 : hasR H n = 0 := if_pos hn
  rw [e0] at HHs
  clear hA e0 hn
  by_cases h0 : v < 0
  · have hd0 : decide (v < 0) = true := by simp; omega
    clear hv
    go_enter Tryz.func34, Tryz.ntmps34
    go_wp2_with fail
    refine HHs.out.mono ?_
    rintro e9 w2 ⟨rfl, hb2⟩
    have HB2 := hide hb2
    clear hb2
    go_wp2_with fail
    go_ret
    exact ⟨rfl, HB2.out⟩
  · have hd0 : decide (v < 0) = false := by simp; omega
    have hd1 : decide (65535 < v) = true := by simp; omega
    have h1 : 65535 < v := by omega
    clear hv
    go_enter Tryz.func34, Tryz.ntmps34
    go_wp2_with fail
    refine HHs.out.mono ?_
    rintro e9 w2 ⟨rfl, hb2⟩
    have HB2 := hide hb2
    clear hb2
    go_wp2_with fail
    go_ret
    exact ⟨rfl, HB2.out⟩
end Go.Proofs.YtibkhgmmjhlpmaaGreat.Oct

namespace Go.Proofs.YtibkhgmmjhlpmaaGreat.Oct
open Go.RowKit Go.Deep

theorem cntR_bd {S : List Int} {B M : Int → List Int} (hby : ∀ x, 0 ≤ seeT S B M x ∧ seeT S B M x < 256) (n : Nat) : 0 ≤ cntR S B M n ∧ cntR S B M n < 65536 := by
  unfold cntR
  have := hby (15360 + 2 * n)
  have := hby (15360 + 2 * n + 1)
  omega
end Go.Proofs.YtibkhgmmjhlpmaaGreat.Oct
