/- Counts within changes: a count is so many more. -/
import Derived.Test.YtnfbhgahkajhnaaRft
import Derived.Test.YtnfbhgahkajhnaaRfx
namespace Go.Proofs.Ytnfbhgahkajhnaa.Oct
open Go.RowKit Go.Deep

theorem cntR_bd {S : List Int} {B M : Int → List Int} (hby : ∀ x, 0 ≤ seeT S B M x ∧ seeT S B M x < 256) (n : Nat) : 0 ≤ cntR S B M n ∧ cntR S B M n < 65536 := by
  unfold cntR
  have := hby (15360 + 2 * n)
  have := hby (15360 + 2 * n + 1)
  omega

set_option maxRecDepth 100000 in
set_option maxHeartbeats 4000000 in
/-- Add of a count that there is: three answers. -/
theorem rfs_add (w : World) (A T J F : Nat) (X : Nat → Prop) (f : Fs) (S : List Int) (vb vm : Value) (B M : Int → List Int) (p q : Int) (h : Tst w T J F X f S vb vm B M p q) (hS : S.length ≤ 4194304) (hops : f.ops < 1000000) (hXl : ∀ k, X k → k < w.heap.size) (hby : ∀ x, 0 ≤ seeT S B M x ∧ seeT S B M x < 256)
    (H : Nat) (hA : Rfs w A T H) (hAX : ¬ X A) (hAT : A ≠ T) (hH : H ≤ 100) (n : Nat) (hn : n < H) (b : Int) :
    Calls Try.prog 24 #[.pointer (some ⟨A, 0, none⟩), .int .i64 n, .int .i64 b] w fun e w' =>
      (b < - cntR S B M n ∧ e = .returned (.tuple #[.int .i64 0, .int .i64 23]) ∧ ∃ f', Tst w' T J F X f' S vb vm B M p q ∧ f'.ops ≤ f.ops + 1 ∧ Chg (fun k => k = F) w w') ∨
      (65535 - cntR S B M n < b ∧ e = .returned (.tuple #[.int .i64 0, .int .i64 20]) ∧ ∃ f', Tst w' T J F X f' S vb vm B M p q ∧ f'.ops ≤ f.ops + 1 ∧ Chg (fun k => k = F) w w') ∨
      (0 ≤ cntR S B M n + b ∧ cntR S B M n + b ≤ 65535 ∧ e = .returned (.tuple #[.int .i64 (cntR S B M n + b), .int .i64 0]) ∧ ∃ f' vb' vm' B' M', Tst w' T J F X f' S vb' vm' B' M' p q ∧ f'.ops ≤ f.ops + 1 ∧ SetR B M B' M' n (cntR S B M n + b) ∧ (∀ r, vb' = .map (some r) ∨ vm' = .map (some r) → (vb = .map (some r) ∨ vm = .map (some r)) ∨ w.heap.size ≤ r) ∧ Chg (fun k => k = F ∨ k = T ∨ vb = .map (some k) ∨ vm = .map (some k)) w w') := by
  have HG := hide (rfs_get w A T J F X f S vb vm B M p q h hS hops hXl hby H hA hAX hH n hn)
  have hcb := cntR_bd hby n
  have hAF : A ≠ F := fun e => hAX (e ▸ h.fil.xF)
  obtain ⟨c, hc⟩ : ∃ c, cntR S B M n = c := ⟨_, rfl⟩
  rw [hc] at HG hcb ⊢
  obtain ⟨hc0, hc1⟩ := hcb
  have HA := hide hA
  have HXl := hide hXl
  clear h hA hby hXl hc
  have hwn : IntKind.i64.wrap (-c) = -c := by rw [IntKind.wrap_i64]; omega
  have hws : IntKind.i64.wrap (65535 - c) = 65535 - c := by rw [IntKind.wrap_i64]; omega
  go_enter Try.func24, Try.ntmps24
  go_wp2_with fail
  refine HG.out.mono ?_
  rintro e9 w2 ⟨f', rfl, ht, hf, hcg⟩
  have HT := hide ht
  have HF := hide hf
  have HCg := hide hcg
  have HA2 : Hid (Rfs w2 A T H) := hide ((hcg.block A HA.out.lt hAF).trans HA.out)
  clear ht hf hcg
  by_cases h1 : b < -c
  · have hd1 : decide (b < -c) = true := by simp; omega
    go_wp2_with fail
    go_ret2
    exact Or.inl ⟨h1, rfl, f', HT.out, HF.out, HCg.out⟩
  have hd1 : decide (b < -c) = false := by simp; omega
  by_cases h2 : 65535 - c < b
  · have hd2 : decide (65535 - c < b) = true := by simp; omega
    go_wp2_with fail
    go_ret2
    exact Or.inr (Or.inl ⟨h2, rfl, f', HT.out, HF.out, HCg.out⟩)
  have hd2 : decide (65535 - c < b) = false := by simp; omega
  have hwa : IntKind.i64.wrap (c + b) = c + b := by rw [IntKind.wrap_i64]; omega
  have HSt := hide (rfs_set w2 A T J F X f' S vb vm B M p q HT.out (fun k hk => Nat.lt_of_lt_of_le (HXl.out k hk) HCg.out.size) H HA2.out hAT hH n hn (c + b) (by omega))
  go_wp2_with fail
  refine HSt.out.mono ?_
  rintro e9 w3 ⟨rfl, ⟨vb', vm', B', M', ht3, hs3, hr3⟩, hc3⟩
  have HT3 := hide (And.intro ht3 (And.intro hs3 (And.intro hr3 hc3)))
  clear ht3 hs3 hr3 hc3
  go_wp2_with fail
  go_ret2
  refine Or.inr (Or.inr ⟨by omega, by omega, rfl, f', vb', vm', B', M', HT3.out.1, HF.out, HT3.out.2.1, fun r hr => (HT3.out.2.2.1 r hr).elim Or.inl (fun h => Or.inr (Nat.le_trans HCg.out.size h)), ?_⟩)
  exact (HCg.out.mono (fun i _ h => Or.inl h)).trans (HT3.out.2.2.2.mono (fun i _ h => Or.inr h))
end Go.Proofs.Ytnfbhgahkajhnaa.Oct
