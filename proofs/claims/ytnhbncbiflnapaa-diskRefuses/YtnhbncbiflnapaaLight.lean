/- What 'light' answers. -/
import Derived.Test.YtnhbncbiflnapaaOpr
namespace Go.Proofs.Ytnhbncbiflnapaa.Oct
open Go.RowKit Go.Deep

def LgtOp (o : GOp) : Prop := o.b.length ≤ 1500 ∧ (o.at_ ≤ 6000 ∨ 4194304 < o.at_) ∧ (o.n ≤ 6000 ∨ 4194304 < o.n ∨ o.kind ≠ 3)

/-- Operations that are no more, and no longer, than some. -/
def Lgt (l : List Int) (L : List GOp) : Prop := l.length ≤ 3000 ∧ L.length ≤ 60 ∧ ∀ r, r < L.length → LgtOp (L.getD r GOp.nil)

set_option maxHeartbeats 4000000 in
set_option maxRecDepth 100000 in
theorem light_says (w : World) (a : Option Addr) (cap : Nat) (l : List Int) (ao : Option Addr) (co : Nat) (L : List GOp) (h : Opr w ao L) :
    Calls Try.prog 9 #[.slice a l.length cap, .slice ao L.length co] w fun e w' => (e = .returned (.bool false) ∧ w' = w) ∨ (e = .returned (.bool true) ∧ w' = w ∧ Lgt l L) := by
  have HO := hide h
  clear h
  go_enter Try.func9, Try.ntmps9
  by_cases h1 : (3000 : Int) < (l.length : Int)
  · go_wp2_with fail
    go_ret
    exact Or.inl ⟨rfl, rfl⟩
  by_cases h2 : (60 : Int) < (L.length : Int)
  · go_wp2_with fail
    go_ret
    exact Or.inl ⟨rfl, rfl⟩
  go_wp2_with fail
  go_loopw [5] (fun i wr => ∃ k : Nat, k ≤ L.length ∧ i = .int .i64 k ∧ wr = w ∧ ∀ r, r < k → LgtOp (L.getD r GOp.nil)) (fun i _ => L.length - (intOf i).toNat)
  case atStart => exact ⟨0, by omega, by simp, rfl, fun r hr => by omega⟩
  case round =>
    obtain ⟨k, hk, rfl, rfl, hall⟩ := hrel
    have HAll := hide hall
    clear hall
    by_cases hlt : k < L.length
    · rcases HO.out with hnil | ⟨b, off, hao, hb, hc⟩
      · rw [hnil] at hlt; simp at hlt
      subst hao
      obtain ⟨c0, c1, c2, c3, _⟩ := hc k hlt
      have hk0 : (0 : Int) ≤ (k : Int) := by omega
      have hk1 : (k : Int) < (L.length : Int) := by omega
      obtain ⟨o, ho⟩ : ∃ o, o = L.getD k GOp.nil := ⟨_, rfl⟩
      rw [← ho] at c0 c1 c2 c3
      have HOk := hide ho
      clear hc ho
      by_cases hK : o.kind = 3 <;> go_wp2_with fail
      all_goals first
        | (go_ret; exact Or.inl ⟨rfl, rfl⟩)
        | (go_roundw
           case rel =>
             refine ⟨k + 1, by omega, by go_num, by trivial, fun r hr => ?_⟩
             rcases Nat.lt_or_ge r k with hr2 | hr2
             · exact HAll.out r hr2
             · obtain rfl : r = k := by omega
               rw [← HOk.out]
               exact ⟨by omega, by omega, by omega⟩
           case measure => simp [intOf]; omega)
    · obtain rfl : k = L.length := by omega
      go_wp2_with fail
      go_ret
      exact Or.inr ⟨rfl, rfl, by omega, by omega, HAll.out⟩

end Go.Proofs.Ytnhbncbiflnapaa.Oct
