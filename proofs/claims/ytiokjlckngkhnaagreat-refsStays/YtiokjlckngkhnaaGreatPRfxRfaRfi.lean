/- Rows of ints of the call's own; all counts. -/
import Derived.Test.YtiokjlckngkhnaaGreatPRfb
import Derived.Test.YtiokjlckngkhnaaGreatPRft
namespace Go.Proofs.YtiokjlckngkhnaaGreat.Oct
open Go.RowKit

theorem rfs_get_no (w : World) (A T H : Nat) (hA : Rfs w A T H) (n : Int) (hn : ¬ (0 ≤ n ∧ n < H)) :
    Calls Tryz.prog 19 #[.pointer (some ⟨A, 0, none⟩), .int .i64 n] w fun e w' => e = .returned (.tuple #[.int .i64 0, .int .i64 4]) ∧ Below w.heap.size w w' := by
  have HHs := hide (rfs_has w A T H hA n)
  have e0 : hasR H n = 4 := if_neg hn
  rw [e0] at HHs
  clear hA e0 hn
  go_enter Tryz.func19, Tryz.ntmps19
  go_wp2_with fail
  refine HHs.out.mono ?_
  rintro e9 w2 ⟨rfl, hb2⟩
  have HB2 := hide hb2
  clear hb2
  go_wp2_with fail
  go_ret2
  exact ⟨rfl, HB2.out⟩

theorem rfs_set_no (w : World) (A T H : Nat) (hA : Rfs w A T H) (n v : Int) (hn : ¬ (0 ≤ n ∧ n < H)) :
    Calls Tryz.prog 27 #[.pointer (some ⟨A, 0, none⟩), .int .i64 n, .int .i64 v] w fun e w' => e = .returned (.int .i64 4) ∧ Below w.heap.size w w' := by
  have HHs := hide (rfs_has w A T H hA n)
  have e0 : hasR H n = 4 := if_neg hn
  rw [e0] at HHs
  clear hA e0 hn
  go_enter Tryz.func27, Tryz.ntmps27
  go_wp2_with fail
  refine HHs.out.mono ?_
  rintro e9 w2 ⟨rfl, hb2⟩
  have HB2 := hide hb2
  clear hb2
  go_wp2_with fail
  go_ret
  exact ⟨rfl, HB2.out⟩

theorem rfs_set_big (w : World) (A T H : Nat) (hA : Rfs w A T H) (n v : Int) (hn : 0 ≤ n ∧ n < H) (hv : ¬ (0 ≤ v ∧ v ≤ 65535)) :
    Calls Tryz.prog 27 #[.pointer (some ⟨A, 0, none⟩), .int .i64 n, .int .i64 v] w fun e w' => e = .returned (.int .i64 20) ∧ Below w.heap.size w w' := by
  have HHs := hide (rfs_has w A T H hA n)
  have e0 : hasR H n = 0 := if_pos hn
  rw [e0] at HHs
  clear hA e0 hn
  by_cases h0 : v < 0
  · have hd0 : decide (v < 0) = true := by simp; omega
    clear hv
    go_enter Tryz.func27, Tryz.ntmps27
    go_wp2_with fail
    refine HHs.out.mono ?_
    rintro e9 w2 ⟨rfl, hb2⟩
    have HB2 := hide hb2
    clear hb2
    go_wp2_with fail
    go_ret
    exact ⟨rfl, HB2.out⟩
  · have hd0 : decide (v < 0) = false := by simp; omega
    have hd1 : decide (65535 < v) = true := by simp; omega
    have h1 : 65535 < v := by omega
    clear hv
    go_enter Tryz.func27, Tryz.ntmps27
    go_wp2_with fail
    refine HHs.out.mono ?_
    rintro e9 w2 ⟨rfl, hb2⟩
    have HB2 := hide hb2
    clear hb2
    go_wp2_with fail
    go_ret
    exact ⟨rfl, HB2.out⟩
end Go.Proofs.YtiokjlckngkhnaaGreat.Oct

namespace Go.Proofs.YtiokjlckngkhnaaGreat.Oct
open Go.RowKit Go.Deep

theorem cntR_bd {S : List Int} {B M : Int → List Int} (hby : ∀ x, 0 ≤ seeT S B M x ∧ seeT S B M x < 256) (n : Nat) : 0 ≤ cntR S B M n ∧ cntR S B M n < 65536 := by
  unfold cntR
  have := hby (15360 + 2 * n)
  have := hby (15360 + 2 * n + 1)
  omega

set_option maxRecDepth 100000 in
set_option maxHeartbeats 4000000 in
/-- Add of a count that there is: three answers. -/
theorem rfs_add (w : World) (A T J F : Nat) (X : Nat → Prop) (f : Fs) (S : List Int) (vb vm : Value) (B M : Int → List Int) (p q : Int) (h : Tst w T J F X f S vb vm B M p q) (hS : S.length ≤ 4194304) (hops : f.ops < 1000000) (hXl : ∀ k, X k → k < w.heap.size) (hby : ∀ x, 0 ≤ seeT S B M x ∧ seeT S B M x < 256)
    (H : Nat) (hA : Rfs w A T H) (hAX : ¬ X A) (hAT : A ≠ T) (hH : H ≤ 100) (n : Nat) (hn : n < H) (b : Int) :
    Calls Tryz.prog 28 #[.pointer (some ⟨A, 0, none⟩), .int .i64 n, .int .i64 b] w fun e w' =>
      (b < - cntR S B M n ∧ e = .returned (.tuple #[.int .i64 0, .int .i64 23]) ∧ ∃ f', Tst w' T J F X f' S vb vm B M p q ∧ f'.ops ≤ f.ops + 1 ∧ Chg (fun k => k = F) w w') ∨
      (65535 - cntR S B M n < b ∧ e = .returned (.tuple #[.int .i64 0, .int .i64 20]) ∧ ∃ f', Tst w' T J F X f' S vb vm B M p q ∧ f'.ops ≤ f.ops + 1 ∧ Chg (fun k => k = F) w w') ∨
      (0 ≤ cntR S B M n + b ∧ cntR S B M n + b ≤ 65535 ∧ e = .returned (.tuple #[.int .i64 (cntR S B M n + b), .int .i64 0]) ∧ ∃ f' vb' vm' B' M', Tst w' T J F X f' S vb' vm' B' M' p q ∧ f'.ops ≤ f.ops + 1 ∧ SetR B M B' M' n (cntR S B M n + b) ∧ (∀ r, vb' = .map (some r) ∨ vm' = .map (some r) → (vb = .map (some r) ∨ vm = .map (some r)) ∨ w.heap.size ≤ r) ∧ Chg (fun k => k = F ∨ k = T ∨ vb = .map (some k) ∨ vm = .map (some k)) w w') := by
  have HG := hide (rfs_get w A T J F X f S vb vm B M p q h hS hops hXl hby H hA hAX hH n hn)
  have hcb := cntR_bd hby n
  have hAF : A ≠ F := fun e => hAX (e ▸ h.fil.xF)
  obtain ⟨c, hc⟩ : ∃ c, cntR S B M n = c := ⟨_, rfl⟩
  rw [hc] at HG hcb ⊢
  obtain ⟨hc0, hc1⟩ := hcb
  have HA := hide hA
  have HXl := hide hXl
  clear h hA hby hXl hc
  have hwn : IntKind.i64.wrap (-c) = -c := by rw [IntKind.wrap_i64]; omega
  have hws : IntKind.i64.wrap (65535 - c) = 65535 - c := by rw [IntKind.wrap_i64]; omega
  go_enter Tryz.func28, Tryz.ntmps28
  go_wp2_with fail
  refine HG.out.mono ?_
  rintro e9 w2 ⟨f', rfl, ht, hf, hcg⟩
  have HT := hide ht
  have HF := hide hf
  have HCg := hide hcg
  have HA2 : Hid (Rfs w2 A T H) := hide ((hcg.block A HA.out.lt hAF).trans HA.out)
  clear ht hf hcg
  by_cases h1 : b < -c
  · have hd1 : decide (b < -c) = true := by simp; omega
    go_wp2_with fail
    go_ret2
    exact Or.inl ⟨h1, rfl, f', HT.out, HF.out, HCg.out⟩
  have hd1 : decide (b < -c) = false := by simp; omega
  by_cases h2 : 65535 - c < b
  · have hd2 : decide (65535 - c < b) = true := by simp; omega
    go_wp2_with fail
    go_ret2
    exact Or.inr (Or.inl ⟨h2, rfl, f', HT.out, HF.out, HCg.out⟩)
  have hd2 : decide (65535 - c < b) = false := by simp; omega
  have hwa : IntKind.i64.wrap (c + b) = c + b := by rw [IntKind.wrap_i64]; omega
  have HSt := hide (rfs_set w2 A T J F X f' S vb vm B M p q HT.out (fun k hk => Nat.lt_of_lt_of_le (HXl.out k hk) HCg.out.size) H HA2.out hAT hH n hn (c + b) (by omega))
  go_wp2_with fail
  refine HSt.out.mono ?_
  rintro e9 w3 ⟨rfl, ⟨vb', vm', B', M', ht3, hs3, hr3⟩, hc3⟩
  have HT3 := hide (And.intro ht3 (And.intro hs3 (And.intro hr3 hc3)))
  clear ht3 hs3 hr3 hc3
  go_wp2_with fail
  go_ret2
  refine Or.inr (Or.inr ⟨by omega, by omega, rfl, f', vb', vm', B', M', HT3.out.1, HF.out, HT3.out.2.1, fun r hr => (HT3.out.2.2.1 r hr).elim Or.inl (fun h => Or.inr (Nat.le_trans HCg.out.size h)), ?_⟩)
  exact (HCg.out.mono (fun i _ h => Or.inl h)).trans (HT3.out.2.2.2.mono (fun i _ h => Or.inr h))
end Go.Proofs.YtiokjlckngkhnaaGreat.Oct

namespace Go.Proofs.YtiokjlckngkhnaaGreat.Oct
open Go.RowKit Go.Deep

def OwnJ (w : World) (B : Nat) (v : Value) (l : List Int) : Prop := w.ownsRow B 3 1 v l.length (l.map (Value.int .i64))

theorem OwnJ.below {w w' : World} {B : Nat} {v : Value} {l : List Int} (h : OwnJ w B v l) (hb : Below w.heap.size w w') : OwnJ w' B v l :=
  World.ownsRow.kept (row := none) h ⟨hb.os, hb.tape, hb.output, hb.size, fun k hk _ => hb.block k hk⟩ (by cases v.ownBlock <;> simp)

theorem OwnJ.mono {w : World} {B B' : Nat} {v : Value} {l : List Int} (h : OwnJ w B v l) (hb : B' ≤ B) : OwnJ w B' v l := by
  refine ⟨h.1, ?_⟩
  rcases h.2 with h1 | ⟨g, cap, cur, h1, hg, hr⟩
  · exact Or.inl h1
  · exact Or.inr ⟨g, cap, cur, h1, Nat.le_trans hb hg, hr⟩

theorem OwnJ.cell {w : World} {B g n cap : Nat} {l : List Int} (h : OwnJ w B (.slice (some ⟨g, 0, none⟩) n cap) l) (hn : n = l.length) (j : Nat) (hj : j < n) :
    w.cell? ⟨g, j, none⟩ = some (.int .i64 (l.getD j 0)) := by
  subst hn
  have := World.ownsRow.cellAt h j (by omega)
  rw [this]
  simp [hj]

theorem OwnJ.free {w : World} {B g n cap : Nat} {l : List Int} (h : OwnJ w B (.slice (some ⟨g, 0, none⟩) n cap) l) (hn : n = l.length) (j : Nat) : w.frozen? ⟨g, j, none⟩ = false := by
  subst hn
  exact World.ownsRow.frozenAt h j

theorem OwnJ.set {w : World} {B g n cap : Nat} {l : List Int} (h : OwnJ w B (.slice (some ⟨g, 0, none⟩) n cap) l) (hn : n = l.length) (j : Nat) (x : Int) :
    OwnJ (w.setCell ⟨g, j, none⟩ (.int .i64 x)) B (.slice (some ⟨g, 0, none⟩) n cap) (l.set j x) ∧ w.grownBy (w.setCell ⟨g, j, none⟩ (.int .i64 x)) (some g) := by
  subst hn
  have := World.ownsRow.stored h j (.int .i64 x)
  refine ⟨?_, this.2⟩
  unfold OwnJ
  rw [List.length_set, List.map_set]
  exact this.1

theorem infoJ : (Tryz.prog.info? 3).map (fun i => (i.zero, i.size, i.bytes)) = some (some (.int .i64 0), 1, 8) := by kernel_rfl

theorem run_make_ints (w : World) (n : Nat) (hn : n ≤ 1000000) :
    (Instr.makeSlice 37 (.int .i64 (n : Int)) (.int .i64 (n : Int))).run Tryz.prog w = .ok (.slice (some ⟨w.heap.size, 0, none⟩) n n) (w.alloc (.cells (madeCells #[.int .i64 0] n) 3)) := by
  obtain ⟨i0, hi, hz0, hz1, hz2⟩ := info_parts infoJ
  have h := run_make (P := Tryz.prog) w 37 3 i0 (.int .i64 0) Tryz.underlying37 hi hz0 .i64 .i64 (n : Int) (n : Int) (by omega) (Int.le_refl _) (by rw [hz2]; omega) (by omega)
  simpa [hz1, Value.cells] using h

theorem OwnJ.made (w : World) (n : Nat) (hn : n ≤ maxLen) :
    OwnJ (w.alloc (.cells (madeCells #[.int .i64 0] n) 3)) w.heap.size (.slice (some ⟨w.heap.size, 0, none⟩) n n) (List.replicate n 0) := by
  have h := World.ownsRow_lit (base := w.heap.size) (e := 3) (size := 1) w (madeCells #[.int .i64 0] n) n (Nat.le_refl _) hn (by rw [size_madeCells]; omega)
  unfold OwnJ
  rw [toList_madeCells_one] at h
  simpa using h
end Go.Proofs.YtiokjlckngkhnaaGreat.Oct
