/- Counts within changes: a count is read. -/
import Derived.Test.YtiokjlckngkhnaaGreatPTqg
import Derived.Test.YtiokjlckngkhnaaGreatPRdLowWr
import Derived.Test.YtiokjlckngkhnaaGreatPRfb
namespace Go.Proofs.YtiokjlckngkhnaaGreat.Oct
open Go.RowKit Go.Deep

/-- The count that the changes show. -/
def cntR (S : List Int) (B M : Int → List Int) (n : Nat) : Int := seeT S B M (15360 + 2 * n) + 256 * seeT S B M (15360 + 2 * n + 1)

set_option maxRecDepth 100000 in
set_option maxHeartbeats 4000000 in
theorem rfs_get (w : World) (A T J F : Nat) (X : Nat → Prop) (f : Fs) (S : List Int) (vb vm : Value) (B M : Int → List Int) (p q : Int) (h : Tst w T J F X f S vb vm B M p q) (hS : S.length ≤ 4194304) (hops : f.ops < 1000000) (hXl : ∀ k, X k → k < w.heap.size) (hby : ∀ x, 0 ≤ seeT S B M x ∧ seeT S B M x < 256)
    (H : Nat) (hA : Rfs w A T H) (hAX : ¬ X A) (hH : H ≤ 100) (n : Nat) (hn : n < H) :
    Calls Tryz.prog 19 #[.pointer (some ⟨A, 0, none⟩), .int .i64 n] w fun e w' => ∃ f', e = .returned (.tuple #[.int .i64 (cntR S B M n), .int .i64 0]) ∧ Tst w' T J F X f' S vb vm B M p q ∧ f'.ops ≤ f.ops + 1 ∧ Chg (fun k => k = F) w w' := by
  have HHs := hide (rfs_has w A T H hA n)
  have e0 : hasR H (n : Int) = 0 := if_pos (by omega)
  rw [e0] at HHs
  have HA0 := hide hA
  have HT0 := hide h
  have HBy := hide hby
  have hAF : A ≠ F := fun e => hAX (e ▸ h.fil.xF)
  have HAt := fun u (hu : Rfs u A T H) => hide (rfs_at u A T H hu (n : Int) (by omega))
  have HGt : ∀ u, Rfs u A T H → Tst u T J F X f S vb vm B M p q → Below w.heap.size w u → Hid (Calls Tryz.prog 39 #[.pointer (some ⟨T, 0, none⟩), .int .i64 (15360 + 2 * (n : Int)), .int .i64 2] u fun e w' => ∃ a k l f', e = .returned (.tuple #[.slice a 2 k, .int .i64 0]) ∧ Lies w' a l ∧ l.length = 2 ∧ (∀ j, j < 2 → l.getD j 0 = seeT S B M (15360 + 2 * n + j)) ∧ Tst w' T J F X f' S vb vm B M p q ∧ f'.ops ≤ f.ops + 1 ∧ Chg (fun k => k = F) w w' ∧ Rfs w' A T H) := fun u h1 h2 h3 => hide (by
    have e4 : ((15360 + 2 * n : Nat) : Int) = 15360 + 2 * (n : Int) := by omega
    have hg := get_tx u T J F X f S vb vm B M p q h2 hS hops (fun k hk => Nat.lt_of_lt_of_le (hXl k hk) h3.size) (15360 + 2 * n) 2 (by omega)
    rw [e4] at hg
    refine hg.mono ?_
    rintro e9 w3 ⟨v, l, f', rfl, ho, hl, hv, ht, hf, hc3⟩
    obtain ⟨a3, k3, rfl, hl3, _⟩ := ho.form
    refine ⟨a3, k3, l, f', by rw [hl], hl3, hl, hv, ht, hf, (Chg.of_below h3).trans hc3, (hc3.block A h1.lt hAF).trans h1⟩)
  clear h hA hby hXl e0
  go_enter Tryz.func19, Tryz.ntmps19
  go_wp2_with fail
  refine HHs.out.mono ?_
  rintro e9 w1 ⟨rfl, hb1⟩
  have HA := hide (HA0.out.below hb1).drew
  have HT := hide ((HT0.out.below hb1).below (Below.refl w1.heap.size w1).drew)
  have HB := hide hb1.drew
  obtain ⟨c0, c1, c2, c3, c4, c5⟩ := (HA0.out.below hb1).cell
  clear hb1
  go_wp2_with fail
  go_region_held3 (fun u => u.cell? ⟨A, 0, none⟩ = some (.int .i64 9) ∧ u.cell? ⟨A, 1, none⟩ = some (.int .i64 32768) ∧ u.cell? ⟨A, 2, none⟩ = some (.int .i64 (H : Int)) ∧ u.cell? ⟨A, 3, none⟩ = some (.int .i64 29) ∧ u.cell? ⟨A, 4, none⟩ = some (.bool false) ∧ u.cell? ⟨A, 5, none⟩ = some (.pointer (some ⟨T, 0, none⟩))) (first | go_keep | exact HA.out.cell) (first
    | (go_at_call 40; refine ((HAt _ HA.out).out).mono ?_; rintro e9 w2 ⟨rfl, hb2⟩; have HA := hide (HA.out.below hb2); have HT := hide (HT.out.below hb2); have HB := hide (HB.out.trans (hb2.mono HB.out.size)); clear hb2)
    | (go_at_call 39; refine ((HGt _ HA.out HT.out HB.out).out).mono ?_; rintro e9 w3 ⟨a3, k3, l, f', rfl, hl3, hl, hv, ht, hf, hc3, hA3⟩; have HA := hide hA3; have HG := hide (And.intro hl (And.intro hv (And.intro ht (And.intro hf (And.intro hc3 hl3))))); clear hl hv ht hf hc3 hl3 hA3))
  all_goals
    have hlb : Byts l := fun k => by
      by_cases hk : k < 2
      · rw [HG.out.2.1 k hk]; exact HBy.out _
      · rw [List.getD_eq_getElem?_getD, List.getElem?_eq_none (by rw [HG.out.1]; omega)]; simp
    have hv0 : numAt l ((0 : Nat) : Int) 2 = cntR S B M n := by
      rw [numAt_yes (by rw [HG.out.1]; omega)]
      have e1 := HG.out.2.1 0 (by omega)
      have e2 := HG.out.2.1 1 (by omega)
      simp only [num, Nat.zero_add, e1, e2]
      unfold cntR
      simp
      omega
    have hLs := U16_any a3 k3 l ((0 : Nat) : Int) w3 (by rw [HG.out.1]; unfold maxLen; omega) hlb HG.out.2.2.2.2.2 (by omega) (by omega)
    rw [HG.out.1, hv0] at hLs
    have hz0 : ((0 : Nat) : Int) = 0 := rfl
    rw [hz0] at hLs
    have hcb : 0 ≤ cntR S B M n ∧ cntR S B M n < 65536 := by
      unfold cntR
      have := HBy.out (15360 + 2 * n)
      have := HBy.out (15360 + 2 * n + 1)
      omega
    obtain ⟨v, hv⟩ : ∃ v, cntR S B M n = v := ⟨_, rfl⟩
    rw [hv] at hLs hcb
    have HV := hide hv
    clear hv0 hv
    generalize thereB 2 0 2 = tb at *
    have HLs := hide hLs
    obtain ⟨hcb1, hcb2⟩ := hcb
    clear hlb hLs hz0
    go_wp2_with fail
    refine HLs.out.mono ?_
    rintro e9 w4 ⟨rfl, h4⟩
    subst h4
    go_wp2_with fail
    go_ret2
    refine ⟨f', (by rw [HV.out]; rfl), HG.out.2.2.1, HG.out.2.2.2.1, HG.out.2.2.2.2.1⟩
end Go.Proofs.YtiokjlckngkhnaaGreat.Oct
