/- What 'light' and 'near' answer. -/
import Derived.Test.YtlkfabcjknaogaaJnd
namespace Go.Proofs.Ytlkfabcjknaogaa.Oct
open Go.RowKit

def FarE (p : Int × Int) : Prop := (-1152921504606846976 ≤ p.1 ∧ p.1 ≤ 1152921504606846976) ∧ (-1152921504606846976 ≤ p.2 ∧ p.2 ≤ 1152921504606846976)
def NearE (p : Int × Int) : Prop := (-1125899906842624 ≤ p.1 ∧ p.1 ≤ 1125899906842624) ∧ (-1125899906842624 ≤ p.2 ∧ p.2 ≤ 1125899906842624)

set_option maxHeartbeats 4000000 in
set_option maxRecDepth 100000 in
theorem light_says (w : World) (a : Option Addr) (c : Nat) (L : List (Int × Int)) (h : LiesE w a L) :
    Calls Try.prog 5 #[.slice a L.length c] w fun e w' => (e = .returned (.bool false) ∧ w' = w) ∨ (e = .returned (.bool true) ∧ w' = w ∧ L.length ≤ 30 ∧ ∀ p ∈ L, FarE p) := by
  have HO := hide h
  clear h
  go_enter Try.func5, Try.ntmps5
  by_cases h1 : (30 : Int) < (L.length : Int)
  · go_wp2_with fail
    go_ret
    exact Or.inl ⟨rfl, rfl⟩
  go_wp2_with fail
  go_loopw [3] (fun i wr => ∃ k : Nat, k ≤ L.length ∧ i = .int .i64 k ∧ wr = w ∧ ∀ r, r < k → FarE (L.getD r (0, 0))) (fun i _ => L.length - (intOf i).toNat)
  case atStart => exact ⟨0, by omega, by simp, rfl, fun r hr => by omega⟩
  case round =>
    obtain ⟨k, hk, rfl, rfl, hall⟩ := hrel
    have HAll := hide hall
    clear hall
    by_cases hlt : k < L.length
    · rcases HO.out with hnil | ⟨b, off, hao, hb, hc⟩
      · rw [hnil] at hlt; simp at hlt
      subst hao
      obtain ⟨c0, c1⟩ := hc k hlt
      have hk0 : (0 : Int) ≤ (k : Int) := by omega
      have hk1 : (k : Int) < (L.length : Int) := by omega
      obtain ⟨o, ho⟩ : ∃ o, o = L.getD k (0, 0) := ⟨_, rfl⟩
      rw [← ho] at c0 c1
      have HOk := hide ho
      clear hc ho
      obtain ⟨o1, o2⟩ := o
      dsimp only at c0 c1
      go_wp2_with fail
      all_goals first
        | (go_ret; exact Or.inl ⟨rfl, rfl⟩)
        | (go_roundw
           case rel =>
             refine ⟨k + 1, by omega, by go_num, by trivial, fun r hr => ?_⟩
             rcases Nat.lt_or_ge r k with hr2 | hr2
             · exact HAll.out r hr2
             · obtain rfl : r = k := by omega
               rw [← HOk.out]
               exact ⟨⟨by dsimp only; omega, by dsimp only; omega⟩, by dsimp only; omega, by dsimp only; omega⟩
           case measure => simp [intOf]; omega)
    · obtain rfl : k = L.length := by omega
      go_wp2_with fail
      go_ret
      refine Or.inr ⟨rfl, rfl, by omega, fun p hp => ?_⟩
      obtain ⟨i, hi, rfl⟩ := List.getElem_of_mem hp
      have := HAll.out i hi
      simpa [hi] using this

end Go.Proofs.Ytlkfabcjknaogaa.Oct
